
/-
  The walks of the document's own find, special and right (bellmanref10). Condition: a text takes no more than a machine holds.
-/
import Derived.Test.YteajjlilpikdeaaGreatDoorScKP
import Derived.Test.YteajjlilpikdeaaGreatDoorRVlName
namespace Go.Proofs.YteajjlilpikdeaaGreatDoor
open Go.RowKit

/-- Where two bytes first stand, from a place on. -/
def Sc.findP (l : List UInt8) (k : Nat) (c : UInt8) : Int := if Lib.index (l.drop k) [c, c] = -1 then -1 else Lib.index (l.drop k) [c, c] + k
theorem Sc.occ_cc (l : List UInt8) (c : UInt8) (j : Nat) : Lib.occAt l [c, c] j = (decide (l[j]? = some c) && decide (l[j + 1]? = some c)) := by
  unfold Lib.occAt
  rw [Bool.eq_iff_iff, Bool.and_eq_true, decide_eq_true_eq, decide_eq_true_eq]
  constructor
  · intro h
    exact ⟨Lib.occAt_head (t := [c]) rfl h, Lib.occAt_second (t := []) rfl h⟩
  · rintro ⟨h1, h2⟩
    obtain ⟨q1, q2⟩ := List.getElem?_eq_some_iff.1 h1
    obtain ⟨q3, q4⟩ := List.getElem?_eq_some_iff.1 h2
    rw [List.drop_eq_getElem_cons q1, List.drop_eq_getElem_cons q3, q2, q4]
    simp [List.isPrefixOf]
theorem Sc.occ_drop (l s : List UInt8) (k j : Nat) : Lib.occAt (l.drop k) s j = Lib.occAt l s (k + j) := by
  unfold Lib.occAt
  rw [List.drop_drop]
theorem Sc.find_hit {l : List UInt8} {k : Nat} {c : UInt8} {j : Nat} (hk : k ≤ j) (hj : j ≤ l.length) (h : Lib.occAt l [c, c] j = true) (hno : ∀ m, k ≤ m → m < j → Lib.occAt l [c, c] m = false) : Sc.findP l k c = j := by
  have e : Lib.index (l.drop k) [c, c] = (j - k : Nat) := Lib.index_first (by rw [List.length_drop]; omega) (by rw [Sc.occ_drop, show k + (j - k) = j by omega]; exact h) (fun m hm => by rw [Sc.occ_drop]; exact hno _ (by omega) (by omega))
  unfold Sc.findP
  rw [e, if_neg (by omega)]
  omega
theorem Sc.find_miss {l : List UInt8} {k : Nat} {c : UInt8} (hno : ∀ m, k ≤ m → m + 1 < l.length → Lib.occAt l [c, c] m = false) : Sc.findP l k c = -1 := by
  have e : Lib.index (l.drop k) [c, c] = -1 := Lib.index_none (fun m _ => by
    rw [Sc.occ_drop]
    by_cases h : k + m + 1 < l.length
    · exact hno _ (by omega) h
    · rw [Sc.occ_cc, show (decide (l[k + m + 1]? = some c)) = false from decide_eq_false (by rw [List.getElem?_eq_none (by omega)]; simp), Bool.and_false])
  unfold Sc.findP
  rw [if_pos e]
theorem Sc.occ_get (s : ByteArray) (c : UInt8) (j : Nat) (h : j + 1 < s.size) : Lib.occAt s.data.toList [c, c] j = (decide (s[j] = c) && decide (s[j + 1] = c)) := by
  have hlen := Wp.size_len s
  rw [Sc.occ_cc, List.getElem?_eq_getElem (by omega), List.getElem?_eq_getElem (by omega), Wp.getElem_data s j (by omega), Wp.getElem_data s (j + 1) h]
  congr 1
  · exact decide_eq_decide.2 ⟨fun e => Option.some.inj e, fun e => by rw [e]⟩
  · exact decide_eq_decide.2 ⟨fun e => Option.some.inj e, fun e => by rw [e]⟩
set_option maxRecDepth 100000 in
set_option maxHeartbeats 1000000 in
theorem refFind10_any (s : ByteArray) (k : Nat) (c : UInt8) (w : World) (hs : s.size ≤ 140737488351232) (hk : k ≤ s.size) :
    Calls Tryz.prog 84 #[.string s, .int .i64 k, .int .u8 c.toNat] w fun e w' => e = .returned (.int .i64 (Sc.findP s.data.toList k c)) ∧ w' = w := by
  have hlen := Wp.size_len s
  have HH := Lib.hid (fun j h1 h2 => @Sc.find_hit s.data.toList k c j h1 h2)
  have HM := Lib.hid (@Sc.find_miss s.data.toList k c)
  have HO := Lib.hid (Sc.occ_get s c)
  obtain ⟨R, hR⟩ : ∃ R, R = Sc.findP s.data.toList k c := ⟨_, rfl⟩
  rw [← hR] at HH HM ⊢
  have Hlen := Lib.hid hlen
  clear hR hlen
  go_enter Tryz.func84, Tryz.ntmps84
  go_wp2_with fail
  go_loop [7] (fun i => ∃ j : Nat, k ≤ j ∧ j ≤ s.size ∧ i = .int .i64 j ∧ Hid (∀ m, k ≤ m → m < j → Lib.occAt s.data.toList [c, c] m = false)) (fun i => s.size - (intOf i).toNat)
  case atStart => exact ⟨k, Nat.le_refl _, hk, rfl, Lib.hid (fun m h1 h2 => by omega)⟩
  case round =>
    obtain ⟨j, hkj, hj, rfl, HN⟩ := hrel
    by_cases hlt : j + 1 < s.size
    · have ho := HO.out j hlt
      have hj0 : (0 : Int) ≤ (j : Int) := by omega
      have hj1 : (j : Int) < (s.size : Int) := by omega
      have hj2 : (j : Int) + 1 < (s.size : Int) := by omega
      by_cases h1 : s[j] = c
      · have q1 : ((s[j].toNat : Int) == (c.toNat : Int)) = true := by rw [h1]; simp
        by_cases h2 : s[j + 1] = c
        · have q2 : ((s[j + 1].toNat : Int) == (c.toNat : Int)) = true := by rw [h2]; simp
          have hr := HH.out j hkj (by rw [← Hlen.out]; omega) (by rw [ho, decide_eq_true h1, decide_eq_true h2]; rfl) HN.out
          subst hr
          clear ho h1 h2 HH HM HO HN
          go_wp2_with fail
          go_ret
          exact ⟨rfl, rfl⟩
        · have q2 : ((s[j + 1].toNat : Int) == (c.toNat : Int)) = false := by rw [beq_eq_false_iff_ne]; intro e; exact h2 (UInt8.toNat_inj.1 (by omega))
          have HN2 := Lib.hid (show ∀ m, k ≤ m → m < j + 1 → Lib.occAt s.data.toList [c, c] m = false from fun m h3 h4 => by
            by_cases e : m < j
            · exact HN.out m h3 e
            · obtain rfl : m = j := by omega
              rw [ho, decide_eq_false h2, Bool.and_false])
          clear ho h1 h2 HH HM HO HN
          go_wp2_with fail
          exact ⟨⟨j + 1, by omega, by omega, by go_num, HN2⟩, by simp [intOf]; omega⟩
      · have q1 : ((s[j].toNat : Int) == (c.toNat : Int)) = false := by rw [beq_eq_false_iff_ne]; intro e; exact h1 (UInt8.toNat_inj.1 (by omega))
        have HN2 := Lib.hid (show ∀ m, k ≤ m → m < j + 1 → Lib.occAt s.data.toList [c, c] m = false from fun m h3 h4 => by
          by_cases e : m < j
          · exact HN.out m h3 e
          · obtain rfl : m = j := by omega
            rw [ho, decide_eq_false h1, Bool.false_and])
        clear ho h1 HH HM HO HN
        go_wp2_with fail
        exact ⟨⟨j + 1, by omega, by omega, by go_num, HN2⟩, by simp [intOf]; omega⟩
    · have hr := HM.out (fun m h1 h2 => by
        by_cases e : m < j
        · exact HN.out m h1 e
        · rw [← Hlen.out] at h2; omega)
      subst hr
      have hj2 : ¬ (j : Int) + 1 < (s.size : Int) := by omega
      clear HH HM HO HN
      go_wp2_with fail
      go_ret
      exact ⟨rfl, rfl⟩
theorem Sc.str_ne {s : ByteArray} {l : List UInt8} (h : s.data.toList ≠ l) : (s.toList == l) = false := by rw [beq_eq_false_iff_ne, Lib.toList_data]; exact h
theorem Sc.str_eq {s : ByteArray} {l : List UInt8} (h : s.data.toList = l) : (s.toList == l) = true := by rw [beq_iff_eq, Lib.toList_data]; exact h
set_option maxRecDepth 100000 in
set_option maxHeartbeats 1000000 in
theorem refSpecial_any (s : ByteArray) (w : World) :
    Calls Tryz.prog 123 #[.string s] w fun e w' => e = .returned (.bool (!decide (Sc.kindW s.data.toList = 2))) ∧ w' = w := by
  by_cases h1 : s.data.toList = [105, 102]
  · have q := Sc.str_eq h1
    have e : (!decide (Sc.kindW s.data.toList = 2)) = true := by rw [h1]; decide
    rw [e]
    clear h1 e
    go_enter Tryz.func123, Tryz.ntmps123
    go_wp2_with fail
    go_ret
    exact ⟨rfl, rfl⟩
  · have q1 := Sc.str_ne h1
    by_cases h2 : s.data.toList = [101, 97, 99, 104]
    · have q := Sc.str_eq h2
      have e : (!decide (Sc.kindW s.data.toList = 2)) = true := by rw [h2]; decide
      rw [e]
      clear h1 h2 e
      go_enter Tryz.func123, Tryz.ntmps123
      go_wp2_with fail
      go_ret
      exact ⟨rfl, rfl⟩
    · have q2 := Sc.str_ne h2
      by_cases h3 : s.data.toList = [101, 108, 115, 101]
      · have q := Sc.str_eq h3
        have e : (!decide (Sc.kindW s.data.toList = 2)) = true := by rw [h3]; decide
        rw [e]
        clear h1 h2 h3 e
        go_enter Tryz.func123, Tryz.ntmps123
        go_wp2_with fail
        go_ret
        exact ⟨rfl, rfl⟩
      · have q3 := Sc.str_ne h3
        by_cases h4 : s.data.toList = [101, 110, 100]
        · have q := Sc.str_eq h4
          have e : (!decide (Sc.kindW s.data.toList = 2)) = true := by rw [h4]; decide
          rw [e]
          clear h1 h2 h3 h4 e
          go_enter Tryz.func123, Tryz.ntmps123
          go_wp2_with fail
          go_ret
          exact ⟨rfl, rfl⟩
        · have q4 := Sc.str_ne h4
          have e : (!decide (Sc.kindW s.data.toList = 2)) = false := by
            unfold Sc.kindW
            rw [if_neg (show ¬ s.data.toList = Sc.wIf from h1), if_neg (show ¬ s.data.toList = Sc.wElse from h3), if_neg (show ¬ s.data.toList = Sc.wEach from h2), if_neg (show ¬ s.data.toList = Sc.wEnd from h4)]
            rfl
          rw [e]
          clear h1 h2 h3 h4 e
          go_enter Tryz.func123, Tryz.ntmps123
          go_wp2_with fail
          go_ret
          exact ⟨rfl, rfl⟩
set_option maxRecDepth 100000 in
set_option maxHeartbeats 1000000 in
theorem refRight10_any (p : Option Addr) (c : Nat) (l : List ByteArray) (w : World) (hm : l.length ≤ 140737488351232) (hs : ∀ s ∈ l, s.size ≤ 140737488351232) (hA : Wp.At Wp.mkT w p l) :
    Calls Tryz.prog 93 #[.slice p l.length c] w fun e w' => e = .returned (.bool (Sc.rightB l)) ∧ w' = w := by
  have HA := Lib.hid hA
  have HS := Lib.hid hs
  have Hlen := Lib.hid (@Sc.rightB_len l)
  have Hbad := Lib.hid (fun k hk h => @Sc.rightB_bad l k hk h)
  have Hok := Lib.hid (@Sc.rightB_ok l)
  obtain ⟨n, hn⟩ : ∃ n, n = l.length := ⟨_, rfl⟩
  have HN := Lib.hid hn
  rw [← hn] at hm ⊢
  obtain ⟨R, hR⟩ : ∃ R, R = Sc.rightB l := ⟨_, rfl⟩
  rw [← hR] at Hlen Hbad Hok ⊢
  clear hA hs hn hR
  go_enter Tryz.func93, Tryz.ntmps93
  go_wp2_with fail
  go_loop [7] (fun t => ∃ k : Nat, k ≤ n ∧ t = .int .i64 k ∧ Hid (∀ j (hj : j < l.length), j < k → Vl.named l[j] = true)) (fun t => n - (intOf t).toNat)
  case atStart => exact ⟨0, Nat.zero_le _, rfl, Lib.hid (fun j _ h => absurd h (by omega))⟩
  case round =>
    obtain ⟨k, hk, rfl, HK⟩ := hrel
    by_cases hlt : k < n
    · have hkl : k < l.length := by rw [← HN.out]; exact hlt
      obtain ⟨b, off, rfl, hcell⟩ := HA.out.get k hkl
      have hsz := HS.out l[k] (List.getElem_mem _)
      have hnm := refNamed_any l[k] w (by omega)
      have Hb2 := Lib.hid (fun h => Hbad.out k hkl h)
      have HK2 := Lib.hid (fun (h : Vl.named l[k] = true) j (hj : j < l.length) (hjk : j < k + 1) => (show Vl.named l[j] = true by
        by_cases e : j < k
        · exact HK.out j hj e
        · obtain rfl : j = k := by omega
          exact h))
      rw [show Wp.mkT l[k] = Value.string l[k] from rfl] at hcell
      have HNm := Lib.hid hnm
      generalize l[k] = x at *
      have hk1 : (k : Int) < (n : Int) := by omega
      clear hnm hkl hsz
      go_wp2_with fail
      refine HNm.out.mono ?_
      rintro e w1 ⟨rfl, rfl⟩
      cases hv : Vl.named x with
      | true =>
        have HK3 := Lib.hid (HK2.out hv)
        clear hv
        go_wp2_with fail
        exact ⟨⟨k + 1, by omega, by go_num, HK3⟩, by simp [intOf]; omega⟩
      | false =>
        obtain rfl := Hb2.out hv
        clear hv
        go_wp2_with fail
        go_ret
        exact ⟨rfl, rfl⟩
    · obtain rfl : k = n := by omega
      by_cases h0 : k = 0
      · obtain rfl := Hlen.out (by rw [← HN.out]; exact Or.inl h0)
        subst h0
        go_wp2_with fail
        go_ret
        exact ⟨rfl, rfl⟩
      · by_cases h4 : 4 < k
        · obtain rfl := Hlen.out (by rw [← HN.out]; exact Or.inr h4)
          have i1 : (1 : Int) ≤ (k : Int) := by omega
          have i2 : ¬ (k : Int) ≤ 4 := by omega
          go_wp2_with fail
          go_ret
          exact ⟨rfl, rfl⟩
        · have hR := Hok.out (by have := HN.out; omega) (by have := HN.out; omega) (fun j hj => HK.out j hj (by have := HN.out; omega))
          have HR := Lib.hid hR
          obtain ⟨b, off, rfl, hcell⟩ := HA.out.get 0 (by have := HN.out; omega)
          have hkd := Lib.hid (refSpecial_any (l[0]'(by have := HN.out; omega)) w)
          rw [show Wp.mkT (l[0]'(by have := HN.out; omega)) = Value.string (l[0]'(by have := HN.out; omega)) from rfl, Nat.add_zero] at hcell
          generalize (l[0]'(by have := HN.out; omega)) = x at *
          rw [← HN.out] at HR
          clear hR
          have i1 : (1 : Int) ≤ (k : Int) := by omega
          have i2 : (k : Int) ≤ 4 := by omega
          by_cases h1 : 1 < k
          · have e : R = true := by rw [HR.out, decide_eq_true h1]; rfl
            subst e
            go_wp2_with fail
            go_ret
            exact ⟨rfl, rfl⟩
          · have e : R = decide (Sc.kindW x.data.toList = 2) := by rw [HR.out, decide_eq_false h1]; rfl
            have h1i : ¬ (1 : Int) < (k : Int) := by omega
            rw [← e] at hkd
            clear e HR
            go_wp2_with fail
            refine hkd.out.mono ?_
            rintro e w1 ⟨rfl, rfl⟩
            go_wp2_with fail
            go_ret
            exact ⟨by simp, rfl⟩
end Go.Proofs.YteajjlilpikdeaaGreatDoor
