/-
  The walk of the document's own names (bellmanref09.Named, Name). Condition: a text is of a size that a machine holds.
  The walks of the document's own find, special and right (bellmanref10). Condition: a text takes no more than a machine holds.
-/
import Derived.Test.YteiccjakaabfnaaGreatDoorZ47
import Derived.Test.YteiccjakaabfnaaGreatDoorZ25
namespace Go.Proofs.YteiccjakaabfnaaGreatDoor
open Go.RowKit

theorem Vl.all_fol (s : ByteArray) (k : Nat) (h : k < s.size) (hf : Vl.fol s[k] = false) : Vl.named s = false := by
  unfold Vl.named Vl.nameL
  have : s.data.toList.all Vl.fol = false := by
    rw [List.all_eq_false]
    refine ⟨s[k], ?_, by rw [hf]; simp⟩
    have hl := Wp.size_len s
    have e : s.data.toList[k]? = some s[k] := by
      rw [Array.getElem?_toList, Array.getElem?_eq_getElem (by exact h)]
      rfl
    exact List.mem_of_getElem? e
  rw [this, Bool.and_false]
set_option maxHeartbeats 1000000 in
set_option maxRecDepth 100000 in
theorem refNamed_any (s : ByteArray) (w : World) (hb : s.size ≤ 9223372036854775807) :
    Calls Tryz.prog 217 #[.string s] w fun e w' => e = .returned (.bool (Vl.named s)) ∧ w' = w := by
  have hlen := Wp.size_len s
  have Hfol := Lib.hid (fun k (h : k < s.size) => Vl.all_fol s k h)
  have Hbad0 := Lib.hid (fun (h : 0 < s.size) (h2 : Vl.low s[0] = false) => (show Vl.named s = false by
    unfold Vl.named Vl.nameL
    rw [Vl.head_get s h, h2, Bool.and_false, Bool.false_and]))
  have Hnil := Lib.hid (fun (h : s.size = 0) => (show Vl.named s = false by
    have : s.data.toList = [] := List.length_eq_zero_iff.1 (by omega)
    unfold Vl.named Vl.nameL
    rw [this]
    rfl))
  have Hlong := Lib.hid (fun (h : 32 < s.size) => (show Vl.named s = false by
    unfold Vl.named Vl.nameL
    rw [decide_eq_false (show ¬ s.data.toList.length ≤ 32 by omega)]
    rfl))
  have Hok := Lib.hid (fun (h : s.size ≤ 32) (h1 : Vl.headLow s.data.toList = true) (h2 : s.data.toList.all Vl.fol = true) => (show Vl.named s = true by
    unfold Vl.named Vl.nameL
    rw [h1, h2, decide_eq_true (by omega)]
    rfl))
  have Hlen := Lib.hid hlen
  generalize Vl.named s = r at *
  clear hlen
  go_enter Tryz.func217, Tryz.ntmps217
  go_wp2_with fail
  go_loop [3] (fun i => ∃ k : Nat, k ≤ s.size ∧ i = .int .i64 k ∧ (s.data.toList.take k).all Vl.fol = true ∧ (0 < k → Vl.headLow s.data.toList = true)) (fun i => s.size - (intOf i).toNat)
  case atStart => exact ⟨0, Nat.zero_le _, rfl, rfl, fun h => absurd h (Nat.lt_irrefl 0)⟩
  case round =>
    obtain ⟨k, hk, rfl, hall, hhd⟩ := hrel
    by_cases hlt : k < s.size
    · have hsn := Vl.all_snoc s k hlt hall
      have Hsn := Lib.hid hsn
      have hbl := s[k].toNat_lt
      have Hhd := Lib.hid (fun (h : Vl.low s[k] = true ∨ 0 < k) => (show Vl.headLow s.data.toList = true by
        by_cases h0 : 0 < k
        · exact hhd h0
        · obtain rfl : k = 0 := by omega
          rw [Vl.head_get s hlt]
          exact h.resolve_right h0))
      have Hf := Lib.hid (show Vl.fol s[k] = ((decide (97 ≤ s[k].toNat) && decide (s[k].toNat ≤ 122)) || (decide (48 ≤ s[k].toNat) && decide (s[k].toNat ≤ 57)) || s[k] == 95) from rfl)
      have Hl := Lib.hid (Vl.low_eq s[k])
      have H0 := Lib.hid (fun (h : k = 0) (h2 : Vl.low s[k] = false) => (show r = false by subst h; exact Hbad0.out hlt h2))
      have HB := Lib.hid (Hfol.out k hlt)
      have Heq : Hid ((s[k] == 95) = decide (s[k].toNat = 95)) := Lib.hid (by
        rw [Bool.eq_iff_iff, beq_iff_eq, decide_eq_true_eq]
        exact ⟨fun h => by rw [h]; rfl, fun h => UInt8.toNat_inj.1 h⟩)
      clear hsn hall hhd Hfol Hbad0 Hnil Hlong Hok Hlen
      generalize Vl.low s[k] = lw at *
      generalize Vl.fol s[k] = fl at *
      generalize (s[k] == 95) = ninefive at *
      generalize hc : s[k].toNat = c at *
      have Hc := Lib.hid hc
      clear hc
      by_cases ha : 97 ≤ c
      · by_cases hz : c ≤ 122
        · have hfl : fl = true := by rw [Hf.out, decide_eq_true ha, decide_eq_true hz]; rfl
          have hlw : lw = true := by rw [Hl.out, decide_eq_true ha, decide_eq_true hz]; rfl
          have Hs2 := Lib.hid (Hsn.out.trans hfl)
          have Hh2 := Lib.hid (Hhd.out (Or.inl hlw))
          clear hfl hlw Hsn Hhd Hf Hl H0 HB Heq
          have hcv := Hc.out
          by_cases hk0 : k = 0
          · subst hk0
            go_wp2_with fail
            refine ⟨⟨0 + 1, by omega, by go_num, Hs2.out, fun _ => Hh2.out⟩, by simp [intOf]; omega⟩
          · have hkn : ((k : Int) == 0) = false := beq_eq_false_iff_ne.2 (by omega)
            go_wp2_with fail
            refine ⟨⟨k + 1, by omega, by go_num, Hs2.out, fun _ => Hh2.out⟩, by simp [intOf]; omega⟩
        · have hfl : fl = false := by rw [Hf.out, decide_eq_false hz, decide_eq_false (show ¬ c ≤ 57 by omega), Heq.out, decide_eq_false (show ¬ c = 95 by omega)]; simp
          obtain rfl := HB.out hfl
          have hne : ((c : Int) != 95) = true := by rw [bne_iff_ne]; omega
          have hdz : decide ((c : Int) ≤ 122) = false := decide_eq_false (by omega)
          clear hfl Hsn Hhd Hf Hl H0 HB Heq
          have hcv := Hc.out
          by_cases hk0 : k = 0
          · subst hk0
            go_wp2_with fail
            go_ret
            exact ⟨rfl, rfl⟩
          · have hkn : ((k : Int) == 0) = false := beq_eq_false_iff_ne.2 (by omega)
            go_wp2_with fail
            go_ret
            exact ⟨rfl, rfl⟩
      · have hlw : lw = false := by rw [Hl.out, decide_eq_false ha]; rfl
        by_cases hk0 : k = 0
        · obtain rfl := H0.out hk0 hlw
          subst hk0
          clear hlw Hsn Hhd Hf Hl H0 HB Heq
          have hcv := Hc.out
          go_wp2_with fail
          go_ret
          exact ⟨rfl, rfl⟩
        · have hkn : ((k : Int) == 0) = false := beq_eq_false_iff_ne.2 (by omega)
          have Hh2 := Lib.hid (Hhd.out (Or.inr (by omega)))
          by_cases h95 : c = 95
          · have hfl : fl = true := by rw [Hf.out, Heq.out, decide_eq_true h95]; simp
            have hne : ((c : Int) != 95) = false := by rw [h95]; rfl
            have Hs2 := Lib.hid (Hsn.out.trans hfl)
            clear hfl hlw Hsn Hhd Hf Hl H0 HB Heq
            have hcv := Hc.out
            go_wp2_with fail
            refine ⟨⟨k + 1, by omega, by go_num, Hs2.out, fun _ => Hh2.out⟩, by simp [intOf]; omega⟩
          · have hne : ((c : Int) != 95) = true := by rw [bne_iff_ne]; omega
            by_cases h48 : 48 ≤ c
            · by_cases h57 : c ≤ 57
              · have hfl : fl = true := by rw [Hf.out, decide_eq_true h48, decide_eq_true h57]; simp
                have Hs2 := Lib.hid (Hsn.out.trans hfl)
                clear hfl hlw Hsn Hhd Hf Hl H0 HB Heq
                have hcv := Hc.out
                go_wp2_with fail
                refine ⟨⟨k + 1, by omega, by go_num, Hs2.out, fun _ => Hh2.out⟩, by simp [intOf]; omega⟩
              · have hfl : fl = false := by rw [Hf.out, decide_eq_false ha, decide_eq_false h57, Heq.out, decide_eq_false h95]; simp
                obtain rfl := HB.out hfl
                clear hfl hlw Hsn Hhd Hf Hl H0 HB Heq Hh2
                have hcv := Hc.out
                go_wp2_with fail
                go_ret
                exact ⟨rfl, rfl⟩
            · have hfl : fl = false := by rw [Hf.out, decide_eq_false ha, decide_eq_false h48, Heq.out, decide_eq_false h95]; simp
              obtain rfl := HB.out hfl
              clear hfl hlw Hsn Hhd Hf Hl H0 HB Heq Hh2
              have hcv := Hc.out
              go_wp2_with fail
              go_ret
              exact ⟨rfl, rfl⟩
    · obtain rfl : k = s.size := by omega
      rw [show s.size = s.data.toList.length from Hlen.out, List.take_length] at hall
      by_cases h0 : s.size = 0
      · obtain rfl := Hnil.out h0
        have he : (s.toList == []) = true := by rw [Vl.empty_eq, decide_eq_true h0]
        have hn : (s.toList != []) = false := by rw [bne, he]; rfl
        clear hall hhd Hfol Hbad0 Hnil Hlong Hok h0
        go_wp2_with fail
        go_ret
        exact ⟨rfl, rfl⟩
      · have he : (s.toList == []) = false := by rw [Vl.empty_eq, decide_eq_false h0]
        have hn : (s.toList != []) = true := by rw [bne, he]; rfl
        by_cases h32 : 32 < s.size
        · obtain rfl := Hlong.out h32
          clear hall hhd Hfol Hbad0 Hnil Hlong Hok
          go_wp2_with fail
          go_ret
          refine ⟨?_, rfl⟩
          simp
          omega
        · obtain rfl := Hok.out (by omega) (hhd (by omega)) hall
          clear hall hhd Hfol Hbad0 Hnil Hlong Hok
          go_wp2_with fail
          go_ret
          refine ⟨?_, rfl⟩
          simp
          omega
end Go.Proofs.YteiccjakaabfnaaGreatDoor
namespace Go.Proofs.YteiccjakaabfnaaGreatDoor
open Go.RowKit

/-- Where two bytes first stand, from a place on. -/
def Sc.findP (l : List UInt8) (k : Nat) (c : UInt8) : Int := if Lib.index (l.drop k) [c, c] = -1 then -1 else Lib.index (l.drop k) [c, c] + k
theorem Sc.occ_cc (l : List UInt8) (c : UInt8) (j : Nat) : Lib.occAt l [c, c] j = (decide (l[j]? = some c) && decide (l[j + 1]? = some c)) := by
  unfold Lib.occAt
  rw [Bool.eq_iff_iff, Bool.and_eq_true, decide_eq_true_eq, decide_eq_true_eq]
  constructor
  · intro h
    exact ⟨Lib.occAt_head (t := [c]) rfl h, Lib.occAt_second (t := []) rfl h⟩
  · rintro ⟨h1, h2⟩
    obtain ⟨q1, q2⟩ := List.getElem?_eq_some_iff.1 h1
    obtain ⟨q3, q4⟩ := List.getElem?_eq_some_iff.1 h2
    rw [List.drop_eq_getElem_cons q1, List.drop_eq_getElem_cons q3, q2, q4]
    simp [List.isPrefixOf]
theorem Sc.occ_drop (l s : List UInt8) (k j : Nat) : Lib.occAt (l.drop k) s j = Lib.occAt l s (k + j) := by
  unfold Lib.occAt
  rw [List.drop_drop]
theorem Sc.find_hit {l : List UInt8} {k : Nat} {c : UInt8} {j : Nat} (hk : k ≤ j) (hj : j ≤ l.length) (h : Lib.occAt l [c, c] j = true) (hno : ∀ m, k ≤ m → m < j → Lib.occAt l [c, c] m = false) : Sc.findP l k c = j := by
  have e : Lib.index (l.drop k) [c, c] = (j - k : Nat) := Lib.index_first (by rw [List.length_drop]; omega) (by rw [Sc.occ_drop, show k + (j - k) = j by omega]; exact h) (fun m hm => by rw [Sc.occ_drop]; exact hno _ (by omega) (by omega))
  unfold Sc.findP
  rw [e, if_neg (by omega)]
  omega
theorem Sc.find_miss {l : List UInt8} {k : Nat} {c : UInt8} (hno : ∀ m, k ≤ m → m + 1 < l.length → Lib.occAt l [c, c] m = false) : Sc.findP l k c = -1 := by
  have e : Lib.index (l.drop k) [c, c] = -1 := Lib.index_none (fun m _ => by
    rw [Sc.occ_drop]
    by_cases h : k + m + 1 < l.length
    · exact hno _ (by omega) h
    · rw [Sc.occ_cc, show (decide (l[k + m + 1]? = some c)) = false from decide_eq_false (by rw [List.getElem?_eq_none (by omega)]; simp), Bool.and_false])
  unfold Sc.findP
  rw [if_pos e]
theorem Sc.occ_get (s : ByteArray) (c : UInt8) (j : Nat) (h : j + 1 < s.size) : Lib.occAt s.data.toList [c, c] j = (decide (s[j] = c) && decide (s[j + 1] = c)) := by
  have hlen := Wp.size_len s
  rw [Sc.occ_cc, List.getElem?_eq_getElem (by omega), List.getElem?_eq_getElem (by omega), Wp.getElem_data s j (by omega), Wp.getElem_data s (j + 1) h]
  congr 1
  · exact decide_eq_decide.2 ⟨fun e => Option.some.inj e, fun e => by rw [e]⟩
  · exact decide_eq_decide.2 ⟨fun e => Option.some.inj e, fun e => by rw [e]⟩
set_option maxRecDepth 100000 in
set_option maxHeartbeats 1000000 in
theorem refFind10_any (s : ByteArray) (k : Nat) (c : UInt8) (w : World) (hs : s.size ≤ 140737488351232) (hk : k ≤ s.size) :
    Calls Tryz.prog 155 #[.string s, .int .i64 k, .int .u8 c.toNat] w fun e w' => e = .returned (.int .i64 (Sc.findP s.data.toList k c)) ∧ w' = w := by
  have hlen := Wp.size_len s
  have HH := Lib.hid (fun j h1 h2 => @Sc.find_hit s.data.toList k c j h1 h2)
  have HM := Lib.hid (@Sc.find_miss s.data.toList k c)
  have HO := Lib.hid (Sc.occ_get s c)
  obtain ⟨R, hR⟩ : ∃ R, R = Sc.findP s.data.toList k c := ⟨_, rfl⟩
  rw [← hR] at HH HM ⊢
  have Hlen := Lib.hid hlen
  clear hR hlen
  go_enter Tryz.func155, Tryz.ntmps155
  go_wp2_with fail
  go_loop [7] (fun i => ∃ j : Nat, k ≤ j ∧ j ≤ s.size ∧ i = .int .i64 j ∧ Hid (∀ m, k ≤ m → m < j → Lib.occAt s.data.toList [c, c] m = false)) (fun i => s.size - (intOf i).toNat)
  case atStart => exact ⟨k, Nat.le_refl _, hk, rfl, Lib.hid (fun m h1 h2 => by omega)⟩
  case round =>
    obtain ⟨j, hkj, hj, rfl, HN⟩ := hrel
    by_cases hlt : j + 1 < s.size
    · have ho := HO.out j hlt
      have hj0 : (0 : Int) ≤ (j : Int) := by omega
      have hj1 : (j : Int) < (s.size : Int) := by omega
      have hj2 : (j : Int) + 1 < (s.size : Int) := by omega
      by_cases h1 : s[j] = c
      · have q1 : ((s[j].toNat : Int) == (c.toNat : Int)) = true := by rw [h1]; simp
        by_cases h2 : s[j + 1] = c
        · have q2 : ((s[j + 1].toNat : Int) == (c.toNat : Int)) = true := by rw [h2]; simp
          have hr := HH.out j hkj (by rw [← Hlen.out]; omega) (by rw [ho, decide_eq_true h1, decide_eq_true h2]; rfl) HN.out
          subst hr
          clear ho h1 h2 HH HM HO HN
          go_wp2_with fail
          go_ret
          exact ⟨rfl, rfl⟩
        · have q2 : ((s[j + 1].toNat : Int) == (c.toNat : Int)) = false := by rw [beq_eq_false_iff_ne]; intro e; exact h2 (UInt8.toNat_inj.1 (by omega))
          have HN2 := Lib.hid (show ∀ m, k ≤ m → m < j + 1 → Lib.occAt s.data.toList [c, c] m = false from fun m h3 h4 => by
            by_cases e : m < j
            · exact HN.out m h3 e
            · obtain rfl : m = j := by omega
              rw [ho, decide_eq_false h2, Bool.and_false])
          clear ho h1 h2 HH HM HO HN
          go_wp2_with fail
          exact ⟨⟨j + 1, by omega, by omega, by go_num, HN2⟩, by simp [intOf]; omega⟩
      · have q1 : ((s[j].toNat : Int) == (c.toNat : Int)) = false := by rw [beq_eq_false_iff_ne]; intro e; exact h1 (UInt8.toNat_inj.1 (by omega))
        have HN2 := Lib.hid (show ∀ m, k ≤ m → m < j + 1 → Lib.occAt s.data.toList [c, c] m = false from fun m h3 h4 => by
          by_cases e : m < j
          · exact HN.out m h3 e
          · obtain rfl : m = j := by omega
            rw [ho, decide_eq_false h1, Bool.false_and])
        clear ho h1 HH HM HO HN
        go_wp2_with fail
        exact ⟨⟨j + 1, by omega, by omega, by go_num, HN2⟩, by simp [intOf]; omega⟩
    · have hr := HM.out (fun m h1 h2 => by
        by_cases e : m < j
        · exact HN.out m h1 e
        · rw [← Hlen.out] at h2; omega)
      subst hr
      have hj2 : ¬ (j : Int) + 1 < (s.size : Int) := by omega
      clear HH HM HO HN
      go_wp2_with fail
      go_ret
      exact ⟨rfl, rfl⟩
theorem Sc.str_ne {s : ByteArray} {l : List UInt8} (h : s.data.toList ≠ l) : (s.toList == l) = false := by rw [beq_eq_false_iff_ne, Lib.toList_data]; exact h
theorem Sc.str_eq {s : ByteArray} {l : List UInt8} (h : s.data.toList = l) : (s.toList == l) = true := by rw [beq_iff_eq, Lib.toList_data]; exact h
set_option maxRecDepth 100000 in
set_option maxHeartbeats 1000000 in
theorem refSpecial_any (s : ByteArray) (w : World) :
    Calls Tryz.prog 218 #[.string s] w fun e w' => e = .returned (.bool (!decide (Sc.kindW s.data.toList = 2))) ∧ w' = w := by
  by_cases h1 : s.data.toList = [105, 102]
  · have q := Sc.str_eq h1
    have e : (!decide (Sc.kindW s.data.toList = 2)) = true := by rw [h1]; decide
    rw [e]
    clear h1 e
    go_enter Tryz.func218, Tryz.ntmps218
    go_wp2_with fail
    go_ret
    exact ⟨rfl, rfl⟩
  · have q1 := Sc.str_ne h1
    by_cases h2 : s.data.toList = [101, 97, 99, 104]
    · have q := Sc.str_eq h2
      have e : (!decide (Sc.kindW s.data.toList = 2)) = true := by rw [h2]; decide
      rw [e]
      clear h1 h2 e
      go_enter Tryz.func218, Tryz.ntmps218
      go_wp2_with fail
      go_ret
      exact ⟨rfl, rfl⟩
    · have q2 := Sc.str_ne h2
      by_cases h3 : s.data.toList = [101, 108, 115, 101]
      · have q := Sc.str_eq h3
        have e : (!decide (Sc.kindW s.data.toList = 2)) = true := by rw [h3]; decide
        rw [e]
        clear h1 h2 h3 e
        go_enter Tryz.func218, Tryz.ntmps218
        go_wp2_with fail
        go_ret
        exact ⟨rfl, rfl⟩
      · have q3 := Sc.str_ne h3
        by_cases h4 : s.data.toList = [101, 110, 100]
        · have q := Sc.str_eq h4
          have e : (!decide (Sc.kindW s.data.toList = 2)) = true := by rw [h4]; decide
          rw [e]
          clear h1 h2 h3 h4 e
          go_enter Tryz.func218, Tryz.ntmps218
          go_wp2_with fail
          go_ret
          exact ⟨rfl, rfl⟩
        · have q4 := Sc.str_ne h4
          have e : (!decide (Sc.kindW s.data.toList = 2)) = false := by
            unfold Sc.kindW
            rw [if_neg (show ¬ s.data.toList = Sc.wIf from h1), if_neg (show ¬ s.data.toList = Sc.wElse from h3), if_neg (show ¬ s.data.toList = Sc.wEach from h2), if_neg (show ¬ s.data.toList = Sc.wEnd from h4)]
            rfl
          rw [e]
          clear h1 h2 h3 h4 e
          go_enter Tryz.func218, Tryz.ntmps218
          go_wp2_with fail
          go_ret
          exact ⟨rfl, rfl⟩
set_option maxRecDepth 100000 in
set_option maxHeartbeats 1000000 in
theorem refRight10_any (p : Option Addr) (c : Nat) (l : List ByteArray) (w : World) (hm : l.length ≤ 140737488351232) (hs : ∀ s ∈ l, s.size ≤ 140737488351232) (hA : Wp.At Wp.mkT w p l) :
    Calls Tryz.prog 156 #[.slice p l.length c] w fun e w' => e = .returned (.bool (Sc.rightB l)) ∧ w' = w := by
  have HA := Lib.hid hA
  have HS := Lib.hid hs
  have Hlen := Lib.hid (@Sc.rightB_len l)
  have Hbad := Lib.hid (fun k hk h => @Sc.rightB_bad l k hk h)
  have Hok := Lib.hid (@Sc.rightB_ok l)
  obtain ⟨n, hn⟩ : ∃ n, n = l.length := ⟨_, rfl⟩
  have HN := Lib.hid hn
  rw [← hn] at hm ⊢
  obtain ⟨R, hR⟩ : ∃ R, R = Sc.rightB l := ⟨_, rfl⟩
  rw [← hR] at Hlen Hbad Hok ⊢
  clear hA hs hn hR
  go_enter Tryz.func156, Tryz.ntmps156
  go_wp2_with fail
  go_loop [7] (fun t => ∃ k : Nat, k ≤ n ∧ t = .int .i64 k ∧ Hid (∀ j (hj : j < l.length), j < k → Vl.named l[j] = true)) (fun t => n - (intOf t).toNat)
  case atStart => exact ⟨0, Nat.zero_le _, rfl, Lib.hid (fun j _ h => absurd h (by omega))⟩
  case round =>
    obtain ⟨k, hk, rfl, HK⟩ := hrel
    by_cases hlt : k < n
    · have hkl : k < l.length := by rw [← HN.out]; exact hlt
      obtain ⟨b, off, rfl, hcell⟩ := HA.out.get k hkl
      have hsz := HS.out l[k] (List.getElem_mem _)
      have hnm := refNamed_any l[k] w (by omega)
      have Hb2 := Lib.hid (fun h => Hbad.out k hkl h)
      have HK2 := Lib.hid (fun (h : Vl.named l[k] = true) j (hj : j < l.length) (hjk : j < k + 1) => (show Vl.named l[j] = true by
        by_cases e : j < k
        · exact HK.out j hj e
        · obtain rfl : j = k := by omega
          exact h))
      rw [show Wp.mkT l[k] = Value.string l[k] from rfl] at hcell
      have HNm := Lib.hid hnm
      generalize l[k] = x at *
      have hk1 : (k : Int) < (n : Int) := by omega
      clear hnm hkl hsz
      go_wp2_with fail
      refine HNm.out.mono ?_
      rintro e w1 ⟨rfl, rfl⟩
      cases hv : Vl.named x with
      | true =>
        have HK3 := Lib.hid (HK2.out hv)
        clear hv
        go_wp2_with fail
        exact ⟨⟨k + 1, by omega, by go_num, HK3⟩, by simp [intOf]; omega⟩
      | false =>
        obtain rfl := Hb2.out hv
        clear hv
        go_wp2_with fail
        go_ret
        exact ⟨rfl, rfl⟩
    · obtain rfl : k = n := by omega
      by_cases h0 : k = 0
      · obtain rfl := Hlen.out (by rw [← HN.out]; exact Or.inl h0)
        subst h0
        go_wp2_with fail
        go_ret
        exact ⟨rfl, rfl⟩
      · by_cases h4 : 4 < k
        · obtain rfl := Hlen.out (by rw [← HN.out]; exact Or.inr h4)
          have i1 : (1 : Int) ≤ (k : Int) := by omega
          have i2 : ¬ (k : Int) ≤ 4 := by omega
          go_wp2_with fail
          go_ret
          exact ⟨rfl, rfl⟩
        · have hR := Hok.out (by have := HN.out; omega) (by have := HN.out; omega) (fun j hj => HK.out j hj (by have := HN.out; omega))
          have HR := Lib.hid hR
          obtain ⟨b, off, rfl, hcell⟩ := HA.out.get 0 (by have := HN.out; omega)
          have hkd := Lib.hid (refSpecial_any (l[0]'(by have := HN.out; omega)) w)
          rw [show Wp.mkT (l[0]'(by have := HN.out; omega)) = Value.string (l[0]'(by have := HN.out; omega)) from rfl, Nat.add_zero] at hcell
          generalize (l[0]'(by have := HN.out; omega)) = x at *
          rw [← HN.out] at HR
          clear hR
          have i1 : (1 : Int) ≤ (k : Int) := by omega
          have i2 : (k : Int) ≤ 4 := by omega
          by_cases h1 : 1 < k
          · have e : R = true := by rw [HR.out, decide_eq_true h1]; rfl
            subst e
            go_wp2_with fail
            go_ret
            exact ⟨rfl, rfl⟩
          · have e : R = decide (Sc.kindW x.data.toList = 2) := by rw [HR.out, decide_eq_false h1]; rfl
            have h1i : ¬ (1 : Int) < (k : Int) := by omega
            rw [← e] at hkd
            clear e HR
            go_wp2_with fail
            refine hkd.out.mono ?_
            rintro e w1 ⟨rfl, rfl⟩
            go_wp2_with fail
            go_ret
            exact ⟨by simp, rfl⟩
end Go.Proofs.YteiccjakaabfnaaGreatDoor
