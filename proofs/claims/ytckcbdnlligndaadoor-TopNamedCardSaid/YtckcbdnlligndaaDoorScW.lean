/-
  The walks of the document's own find, special and right (bellmanref10). Condition: a text takes no more than a machine holds.
  The walk of the document's own split and Path (bellmanref10.split, Path). Condition: a text takes at most 3000000 bytes.
-/
import Derived.Test.YtckcbdnlligndaaDoorScY
import Derived.Test.YtckcbdnlligndaaDoorRVlName
import Derived.Test.YtckcbdnlligndaaDoorOwnOne
import Derived.Test.YtckcbdnlligndaaDoorVlCopy
import Derived.StillTailTactics
namespace Go.Proofs.YtckcbdnlligndaaDoor
open Go.RowKit

/-- Where two bytes first stand, from a place on. -/
def Sc.findP (l : List UInt8) (k : Nat) (c : UInt8) : Int := if Lib.index (l.drop k) [c, c] = -1 then -1 else Lib.index (l.drop k) [c, c] + k
theorem Sc.occ_cc (l : List UInt8) (c : UInt8) (j : Nat) : Lib.occAt l [c, c] j = (decide (l[j]? = some c) && decide (l[j + 1]? = some c)) := by
  unfold Lib.occAt
  rw [Bool.eq_iff_iff, Bool.and_eq_true, decide_eq_true_eq, decide_eq_true_eq]
  constructor
  · intro h
    exact ⟨Lib.occAt_head (t := [c]) rfl h, Lib.occAt_second (t := []) rfl h⟩
  · rintro ⟨h1, h2⟩
    obtain ⟨q1, q2⟩ := List.getElem?_eq_some_iff.1 h1
    obtain ⟨q3, q4⟩ := List.getElem?_eq_some_iff.1 h2
    rw [List.drop_eq_getElem_cons q1, List.drop_eq_getElem_cons q3, q2, q4]
    simp [List.isPrefixOf]
theorem Sc.occ_drop (l s : List UInt8) (k j : Nat) : Lib.occAt (l.drop k) s j = Lib.occAt l s (k + j) := by
  unfold Lib.occAt
  rw [List.drop_drop]
theorem Sc.find_hit {l : List UInt8} {k : Nat} {c : UInt8} {j : Nat} (hk : k ≤ j) (hj : j ≤ l.length) (h : Lib.occAt l [c, c] j = true) (hno : ∀ m, k ≤ m → m < j → Lib.occAt l [c, c] m = false) : Sc.findP l k c = j := by
  have e : Lib.index (l.drop k) [c, c] = (j - k : Nat) := Lib.index_first (by rw [List.length_drop]; omega) (by rw [Sc.occ_drop, show k + (j - k) = j by omega]; exact h) (fun m hm => by rw [Sc.occ_drop]; exact hno _ (by omega) (by omega))
  unfold Sc.findP
  rw [e, if_neg (by omega)]
  omega
theorem Sc.find_miss {l : List UInt8} {k : Nat} {c : UInt8} (hno : ∀ m, k ≤ m → m + 1 < l.length → Lib.occAt l [c, c] m = false) : Sc.findP l k c = -1 := by
  have e : Lib.index (l.drop k) [c, c] = -1 := Lib.index_none (fun m _ => by
    rw [Sc.occ_drop]
    by_cases h : k + m + 1 < l.length
    · exact hno _ (by omega) h
    · rw [Sc.occ_cc, show (decide (l[k + m + 1]? = some c)) = false from decide_eq_false (by rw [List.getElem?_eq_none (by omega)]; simp), Bool.and_false])
  unfold Sc.findP
  rw [if_pos e]
theorem Sc.occ_get (s : ByteArray) (c : UInt8) (j : Nat) (h : j + 1 < s.size) : Lib.occAt s.data.toList [c, c] j = (decide (s[j] = c) && decide (s[j + 1] = c)) := by
  have hlen := Wp.size_len s
  rw [Sc.occ_cc, List.getElem?_eq_getElem (by omega), List.getElem?_eq_getElem (by omega), Wp.getElem_data s j (by omega), Wp.getElem_data s (j + 1) h]
  congr 1
  · exact decide_eq_decide.2 ⟨fun e => Option.some.inj e, fun e => by rw [e]⟩
  · exact decide_eq_decide.2 ⟨fun e => Option.some.inj e, fun e => by rw [e]⟩
set_option maxRecDepth 100000 in
set_option maxHeartbeats 1000000 in
theorem refFind10_any (s : ByteArray) (k : Nat) (c : UInt8) (w : World) (hs : s.size ≤ 140737488351232) (hk : k ≤ s.size) :
    Calls Tryd.prog 49 #[.string s, .int .i64 k, .int .u8 c.toNat] w fun e w' => e = .returned (.int .i64 (Sc.findP s.data.toList k c)) ∧ w' = w := by
  have hlen := Wp.size_len s
  have HH := Lib.hid (fun j h1 h2 => @Sc.find_hit s.data.toList k c j h1 h2)
  have HM := Lib.hid (@Sc.find_miss s.data.toList k c)
  have HO := Lib.hid (Sc.occ_get s c)
  obtain ⟨R, hR⟩ : ∃ R, R = Sc.findP s.data.toList k c := ⟨_, rfl⟩
  rw [← hR] at HH HM ⊢
  have Hlen := Lib.hid hlen
  clear hR hlen
  go_enter Tryd.func49, Tryd.ntmps49
  go_wp2_with fail
  go_loop [7] (fun i => ∃ j : Nat, k ≤ j ∧ j ≤ s.size ∧ i = .int .i64 j ∧ Hid (∀ m, k ≤ m → m < j → Lib.occAt s.data.toList [c, c] m = false)) (fun i => s.size - (intOf i).toNat)
  case atStart => exact ⟨k, Nat.le_refl _, hk, rfl, Lib.hid (fun m h1 h2 => by omega)⟩
  case round =>
    obtain ⟨j, hkj, hj, rfl, HN⟩ := hrel
    by_cases hlt : j + 1 < s.size
    · have ho := HO.out j hlt
      have hj0 : (0 : Int) ≤ (j : Int) := by omega
      have hj1 : (j : Int) < (s.size : Int) := by omega
      have hj2 : (j : Int) + 1 < (s.size : Int) := by omega
      by_cases h1 : s[j] = c
      · have q1 : ((s[j].toNat : Int) == (c.toNat : Int)) = true := by rw [h1]; simp
        by_cases h2 : s[j + 1] = c
        · have q2 : ((s[j + 1].toNat : Int) == (c.toNat : Int)) = true := by rw [h2]; simp
          have hr := HH.out j hkj (by rw [← Hlen.out]; omega) (by rw [ho, decide_eq_true h1, decide_eq_true h2]; rfl) HN.out
          subst hr
          clear ho h1 h2 HH HM HO HN
          go_wp2_with fail
          go_ret
          exact ⟨rfl, rfl⟩
        · have q2 : ((s[j + 1].toNat : Int) == (c.toNat : Int)) = false := by rw [beq_eq_false_iff_ne]; intro e; exact h2 (UInt8.toNat_inj.1 (by omega))
          have HN2 := Lib.hid (show ∀ m, k ≤ m → m < j + 1 → Lib.occAt s.data.toList [c, c] m = false from fun m h3 h4 => by
            by_cases e : m < j
            · exact HN.out m h3 e
            · obtain rfl : m = j := by omega
              rw [ho, decide_eq_false h2, Bool.and_false])
          clear ho h1 h2 HH HM HO HN
          go_wp2_with fail
          exact ⟨⟨j + 1, by omega, by omega, by go_num, HN2⟩, by simp [intOf]; omega⟩
      · have q1 : ((s[j].toNat : Int) == (c.toNat : Int)) = false := by rw [beq_eq_false_iff_ne]; intro e; exact h1 (UInt8.toNat_inj.1 (by omega))
        have HN2 := Lib.hid (show ∀ m, k ≤ m → m < j + 1 → Lib.occAt s.data.toList [c, c] m = false from fun m h3 h4 => by
          by_cases e : m < j
          · exact HN.out m h3 e
          · obtain rfl : m = j := by omega
            rw [ho, decide_eq_false h1, Bool.false_and])
        clear ho h1 HH HM HO HN
        go_wp2_with fail
        exact ⟨⟨j + 1, by omega, by omega, by go_num, HN2⟩, by simp [intOf]; omega⟩
    · have hr := HM.out (fun m h1 h2 => by
        by_cases e : m < j
        · exact HN.out m h1 e
        · rw [← Hlen.out] at h2; omega)
      subst hr
      have hj2 : ¬ (j : Int) + 1 < (s.size : Int) := by omega
      clear HH HM HO HN
      go_wp2_with fail
      go_ret
      exact ⟨rfl, rfl⟩
theorem Sc.str_ne {s : ByteArray} {l : List UInt8} (h : s.data.toList ≠ l) : (s.toList == l) = false := by rw [beq_eq_false_iff_ne, Lib.toList_data]; exact h
theorem Sc.str_eq {s : ByteArray} {l : List UInt8} (h : s.data.toList = l) : (s.toList == l) = true := by rw [beq_iff_eq, Lib.toList_data]; exact h
set_option maxRecDepth 100000 in
set_option maxHeartbeats 1000000 in
theorem refSpecial_any (s : ByteArray) (w : World) :
    Calls Tryd.prog 92 #[.string s] w fun e w' => e = .returned (.bool (!decide (Sc.kindW s.data.toList = 2))) ∧ w' = w := by
  by_cases h1 : s.data.toList = [105, 102]
  · have q := Sc.str_eq h1
    have e : (!decide (Sc.kindW s.data.toList = 2)) = true := by rw [h1]; decide
    rw [e]
    clear h1 e
    go_enter Tryd.func92, Tryd.ntmps92
    go_wp2_with fail
    go_ret
    exact ⟨rfl, rfl⟩
  · have q1 := Sc.str_ne h1
    by_cases h2 : s.data.toList = [101, 97, 99, 104]
    · have q := Sc.str_eq h2
      have e : (!decide (Sc.kindW s.data.toList = 2)) = true := by rw [h2]; decide
      rw [e]
      clear h1 h2 e
      go_enter Tryd.func92, Tryd.ntmps92
      go_wp2_with fail
      go_ret
      exact ⟨rfl, rfl⟩
    · have q2 := Sc.str_ne h2
      by_cases h3 : s.data.toList = [101, 108, 115, 101]
      · have q := Sc.str_eq h3
        have e : (!decide (Sc.kindW s.data.toList = 2)) = true := by rw [h3]; decide
        rw [e]
        clear h1 h2 h3 e
        go_enter Tryd.func92, Tryd.ntmps92
        go_wp2_with fail
        go_ret
        exact ⟨rfl, rfl⟩
      · have q3 := Sc.str_ne h3
        by_cases h4 : s.data.toList = [101, 110, 100]
        · have q := Sc.str_eq h4
          have e : (!decide (Sc.kindW s.data.toList = 2)) = true := by rw [h4]; decide
          rw [e]
          clear h1 h2 h3 h4 e
          go_enter Tryd.func92, Tryd.ntmps92
          go_wp2_with fail
          go_ret
          exact ⟨rfl, rfl⟩
        · have q4 := Sc.str_ne h4
          have e : (!decide (Sc.kindW s.data.toList = 2)) = false := by
            unfold Sc.kindW
            rw [if_neg (show ¬ s.data.toList = Sc.wIf from h1), if_neg (show ¬ s.data.toList = Sc.wElse from h3), if_neg (show ¬ s.data.toList = Sc.wEach from h2), if_neg (show ¬ s.data.toList = Sc.wEnd from h4)]
            rfl
          rw [e]
          clear h1 h2 h3 h4 e
          go_enter Tryd.func92, Tryd.ntmps92
          go_wp2_with fail
          go_ret
          exact ⟨rfl, rfl⟩
set_option maxRecDepth 100000 in
set_option maxHeartbeats 1000000 in
theorem refRight10_any (p : Option Addr) (c : Nat) (l : List ByteArray) (w : World) (hm : l.length ≤ 140737488351232) (hs : ∀ s ∈ l, s.size ≤ 140737488351232) (hA : Wp.At Wp.mkT w p l) :
    Calls Tryd.prog 54 #[.slice p l.length c] w fun e w' => e = .returned (.bool (Sc.rightB l)) ∧ w' = w := by
  have HA := Lib.hid hA
  have HS := Lib.hid hs
  have Hlen := Lib.hid (@Sc.rightB_len l)
  have Hbad := Lib.hid (fun k hk h => @Sc.rightB_bad l k hk h)
  have Hok := Lib.hid (@Sc.rightB_ok l)
  obtain ⟨n, hn⟩ : ∃ n, n = l.length := ⟨_, rfl⟩
  have HN := Lib.hid hn
  rw [← hn] at hm ⊢
  obtain ⟨R, hR⟩ : ∃ R, R = Sc.rightB l := ⟨_, rfl⟩
  rw [← hR] at Hlen Hbad Hok ⊢
  clear hA hs hn hR
  go_enter Tryd.func54, Tryd.ntmps54
  go_wp2_with fail
  go_loop [7] (fun t => ∃ k : Nat, k ≤ n ∧ t = .int .i64 k ∧ Hid (∀ j (hj : j < l.length), j < k → Vl.named l[j] = true)) (fun t => n - (intOf t).toNat)
  case atStart => exact ⟨0, Nat.zero_le _, rfl, Lib.hid (fun j _ h => absurd h (by omega))⟩
  case round =>
    obtain ⟨k, hk, rfl, HK⟩ := hrel
    by_cases hlt : k < n
    · have hkl : k < l.length := by rw [← HN.out]; exact hlt
      obtain ⟨b, off, rfl, hcell⟩ := HA.out.get k hkl
      have hsz := HS.out l[k] (List.getElem_mem _)
      have hnm := refNamed_any l[k] w (by omega)
      have Hb2 := Lib.hid (fun h => Hbad.out k hkl h)
      have HK2 := Lib.hid (fun (h : Vl.named l[k] = true) j (hj : j < l.length) (hjk : j < k + 1) => (show Vl.named l[j] = true by
        by_cases e : j < k
        · exact HK.out j hj e
        · obtain rfl : j = k := by omega
          exact h))
      rw [show Wp.mkT l[k] = Value.string l[k] from rfl] at hcell
      have HNm := Lib.hid hnm
      generalize l[k] = x at *
      have hk1 : (k : Int) < (n : Int) := by omega
      clear hnm hkl hsz
      go_wp2_with fail
      refine HNm.out.mono ?_
      rintro e w1 ⟨rfl, rfl⟩
      cases hv : Vl.named x with
      | true =>
        have HK3 := Lib.hid (HK2.out hv)
        clear hv
        go_wp2_with fail
        exact ⟨⟨k + 1, by omega, by go_num, HK3⟩, by simp [intOf]; omega⟩
      | false =>
        obtain rfl := Hb2.out hv
        clear hv
        go_wp2_with fail
        go_ret
        exact ⟨rfl, rfl⟩
    · obtain rfl : k = n := by omega
      by_cases h0 : k = 0
      · obtain rfl := Hlen.out (by rw [← HN.out]; exact Or.inl h0)
        subst h0
        go_wp2_with fail
        go_ret
        exact ⟨rfl, rfl⟩
      · by_cases h4 : 4 < k
        · obtain rfl := Hlen.out (by rw [← HN.out]; exact Or.inr h4)
          have i1 : (1 : Int) ≤ (k : Int) := by omega
          have i2 : ¬ (k : Int) ≤ 4 := by omega
          go_wp2_with fail
          go_ret
          exact ⟨rfl, rfl⟩
        · have hR := Hok.out (by have := HN.out; omega) (by have := HN.out; omega) (fun j hj => HK.out j hj (by have := HN.out; omega))
          have HR := Lib.hid hR
          obtain ⟨b, off, rfl, hcell⟩ := HA.out.get 0 (by have := HN.out; omega)
          have hkd := Lib.hid (refSpecial_any (l[0]'(by have := HN.out; omega)) w)
          rw [show Wp.mkT (l[0]'(by have := HN.out; omega)) = Value.string (l[0]'(by have := HN.out; omega)) from rfl, Nat.add_zero] at hcell
          generalize (l[0]'(by have := HN.out; omega)) = x at *
          rw [← HN.out] at HR
          clear hR
          have i1 : (1 : Int) ≤ (k : Int) := by omega
          have i2 : (k : Int) ≤ 4 := by omega
          by_cases h1 : 1 < k
          · have e : R = true := by rw [HR.out, decide_eq_true h1]; rfl
            subst e
            go_wp2_with fail
            go_ret
            exact ⟨rfl, rfl⟩
          · have e : R = decide (Sc.kindW x.data.toList = 2) := by rw [HR.out, decide_eq_false h1]; rfl
            have h1i : ¬ (1 : Int) < (k : Int) := by omega
            rw [← e] at hkd
            clear e HR
            go_wp2_with fail
            refine hkd.out.mono ?_
            rintro e w1 ⟨rfl, rfl⟩
            go_wp2_with fail
            go_ret
            exact ⟨by simp, rfl⟩
end Go.Proofs.YtckcbdnlligndaaDoor
namespace Go.Proofs.YtckcbdnlligndaaDoor
open Go.RowKit

theorem Sc.split_len (c : UInt8) : ∀ (l : List UInt8), ∀ x ∈ Sc.splitP c l, x.length ≤ l.length
  | [], x, hx => by simp [Sc.splitP] at hx; simp [hx]
  | a :: t, x, hx => by
    have ih := Sc.split_len c t
    rw [Sc.splitP] at hx
    split at hx
    · rcases List.mem_cons.1 hx with rfl | hx
      · simp
      · have := ih x hx; simp; omega
    · split at hx
      · simp at hx; simp [hx]
      · rename_i h r he
        rw [he] at ih
        rcases List.mem_cons.1 hx with rfl | hx
        · have := ih h (by simp); simp; omega
        · have := ih x (by simp [hx]); simp; omega
/-- A part of a row of one's own is stored. -/
theorem Sc.own_set {w : World} {base : Nat} {e : TypeId} {v : Value} {n : Nat} {l : List ByteArray} (h : w.ownsRow base e 1 v n (l.map Wp.mkT)) (a : Nat) (ha : a < l.length) (x : ByteArray) :
    ∃ g c, v = .slice (some ⟨g, 0, none⟩) n c ∧ base ≤ g ∧ g < w.heap.size ∧ w.cell? ⟨g, a, none⟩ = some (.string l[a]) ∧ w.frozen? ⟨g, a, none⟩ = false ∧ (w.setCell ⟨g, a, none⟩ (.string x)).ownsRow base e 1 v n ((l.set a x).map Wp.mkT) := by
  have hl : l.length = n := by have := h.1; simpa using this
  rcases h.2 with ⟨hv, h0⟩ | ⟨g, cap, cur, hv, hg, hc, hn, hm, hs, ht⟩
  · omega
  · have hcs : a < cur.size := by omega
    refine ⟨g, cap, hv, hg, (Array.getElem?_eq_some_iff.1 hc).1, ?_, by simp [World.frozen?, hc], by simp [hl], Or.inr ⟨g, cap, cur.setIfInBounds a (.string x), hv, hg, Lib.heap_setCell_same hc _, hn, hm, by rw [Array.size_setIfInBounds]; exact hs, ?_⟩⟩
    · rw [Lib.cell_of_heap hc]
      have h2 : (cur.toList.take (n * 1))[a]? = (l.map Wp.mkT)[a]? := by rw [ht]
      rw [List.getElem?_take_of_lt (by omega), List.getElem?_map, List.getElem?_eq_getElem ha, Array.getElem?_toList] at h2
      exact h2
    · rw [Array.toList_setIfInBounds, List.take_set, ht, List.map_set]
      rfl
theorem Sc.addP_ne {c a : UInt8} {out : List (List UInt8)} (h : a ≠ c) (hne : out ≠ []) : Sc.addP c out a = out.set (out.length - 1) (out.getLastD [] ++ [a]) := by
  unfold Sc.addP
  rw [if_neg h]
  obtain ⟨q, x, rfl⟩ := List.eq_nil_or_concat out |>.resolve_left hne
  simp [List.getLastD]
/-- What split hands back. -/
def Sc.SplPost (L : List (List UInt8)) (w : World) (e : Ending) (w' : World) : Prop := ∃ v, e = .returned v ∧ w'.ownsRow w.heap.size 9 1 v L.length ((L.map Wp.B).map Wp.mkT) ∧ Below w.heap.size w w'
set_option maxRecDepth 100000 in
set_option maxHeartbeats 2000000 in
theorem refSplit_any (s : ByteArray) (c : UInt8) (w : World) (hs : s.size ≤ 3000000) :
    Calls Tryd.prog 53 #[.string s, .int .u8 c.toNat] w (Sc.SplPost (Sc.splitP c s.data.toList) w) := by
  obtain ⟨i0, hi, hz0, hz1, hz2⟩ := Vl.infoText
  have HF : Hid (∀ k, k ≤ s.size → s.data.toList.take k = s.data.toList.take k) := Lib.hid (fun _ _ => rfl)
  have hlen := Lib.hid (Wp.size_len s)
  have H0 : Hid ((w.alloc (.cells #[.string ⟨#[]⟩] 9)).ownsRow w.heap.size 9 1 (.slice (some ⟨w.heap.size, 0, none⟩) 1 1) 1 ([Wp.B []].map Wp.mkT)) :=
    Lib.hid ⟨rfl, Or.inr ⟨w.heap.size, 1, #[.string ⟨#[]⟩], rfl, Nat.le_refl _, Vl.new _ _, Nat.le_refl _, by unfold maxLen; omega, rfl, rfl⟩⟩
  have HB0 := Lib.hid ((Below.refl w.heap.size w).alloc (Nat.le_refl _) (.cells #[.string ⟨#[]⟩] 9))
  clear HF
  go_enter Tryd.func53, Tryd.ntmps53
  go_wp2_with fail
  go_loopw [5, 6] (fun v i wr => ∃ (k : Nat) (n : Nat), k ≤ s.size ∧ i = .int .i64 k ∧ 1 ≤ n ∧ n ≤ k + 1 ∧ Hid (n = (Sc.splitP c (s.data.toList.take k)).length) ∧ Hid (wr.ownsRow w.heap.size 9 1 v n (((Sc.splitP c (s.data.toList.take k)).map Wp.B).map Wp.mkT)) ∧ Hid (Below w.heap.size w wr)) (fun _ i _ => s.size - (intOf i).toNat)
  case atStart => exact ⟨0, 1, Nat.zero_le _, rfl, by omega, by omega, Lib.hid rfl, H0, HB0⟩
  case round =>
    obtain ⟨k, n, hk, rfl, hn1, hnk, HN, HO, HB⟩ := hrel
    by_cases hlt : k < s.size
    · have hst := Sc.splitP_snoc c s[k] (s.data.toList.take k)
      rw [← Wp.take_snoc s k hlt] at hst
      have hne := Sc.splitP_ne c (s.data.toList.take k)
      have hk0 : (0 : Int) ≤ (k : Int) := by omega
      have hk1 : (k : Int) < (s.size : Int) := by omega
      by_cases hc : s[k] = c
      · have q : ((s[k].toNat : Int) == (c.toNat : Int)) = true := by rw [hc]; simp
        have HS := Lib.hid (show Sc.splitP c (s.data.toList.take (k + 1)) = Sc.splitP c (s.data.toList.take k) ++ [[]] by rw [hst]; unfold Sc.addP; rw [if_pos hc])
        have HO1 := Lib.hid (HO.out.alloc (.cells #[.string ⟨#[]⟩] 9))
        have HB1 := Lib.hid (HB.out.alloc HB.out.size (.cells #[.string ⟨#[]⟩] 9))
        have HC1 := Lib.hid (cell_one_new wr (.string ⟨#[]⟩) 9)
        clear hst hne hc
        go_wp2_with (at_builtin; refine Vl.listApp _ rfl _ _ 24 rfl w.heap.size 9 i0 _ 1 16 Tryd.underlying24 hi hz0 hz1 hz2 rfl (by decide) _ n _ rfl HO1.out ⟨wr.heap.size, 0, none⟩ 1 1 [.string ⟨#[]⟩] rfl rfl ?c1 ?c2 ?c3 ?c4 ?c5 ?_)
        case c1 => exact HC1.out
        case c2 => simp [Value.oneCell']
        case c3 => unfold maxLen; omega
        case c4 => omega
        case c5 => exact HB1.out.size
        intro v' w2 hown hgrow _
        have HB2 := Lib.hid (below_grown HB1.out HO1.out (Nat.le_refl _) hgrow)
        have HO2 := Lib.hid (show w2.ownsRow w.heap.size 9 1 v' (n + 1) (((Sc.splitP c (s.data.toList.take (k + 1))).map Wp.B).map Wp.mkT) by
          rw [HS.out, List.map_append, List.map_append, List.map_map]; exact hown)
        have HN2 := Lib.hid (show n + 1 = (Sc.splitP c (s.data.toList.take (k + 1))).length by rw [HS.out, List.length_append, ← HN.out]; rfl)
        clear hown hgrow HO1 HB1
        go_wp2_with fail
        refine ⟨⟨k + 1, n + 1, by omega, by go_num, by omega, by omega, HN2, HO2, HB2⟩, by simp [intOf]; omega⟩
      · have q : ((s[k].toNat : Int) == (c.toNat : Int)) = false := by rw [beq_eq_false_iff_ne]; intro e; exact hc (UInt8.toNat_inj.1 (by omega))
        have hset := Sc.addP_ne hc hne
        rw [← hst, ← HN.out] at hset
        have hOD := ownsRow_below HO.out ((Below.refl wr.heap.size wr).drew)
        have hll : n - 1 < ((Sc.splitP c (s.data.toList.take k)).map Wp.B).length := by rw [List.length_map, ← HN.out]; omega
        have hel : ((Sc.splitP c (s.data.toList.take k)).map Wp.B)[n - 1] = Wp.B ((Sc.splitP c (s.data.toList.take k)).getLastD []) := by
          rw [List.getElem_map]
          congr 1
          have hx : n - 1 = (Sc.splitP c (s.data.toList.take k)).length - 1 := by rw [← HN.out]
          simp only [hx]
          rw [← List.getLast_eq_getElem hne, List.getLastD_eq_getLast?, List.getLast?_eq_some_getLast hne]
          rfl
        obtain ⟨g, cp, hv, hg0, hg1, hcell, hfz, hown⟩ := Sc.own_set hOD (n - 1) hll (Wp.B ((Sc.splitP c (s.data.toList.take k)).getLastD [] ++ [s[k]]))
        subst hv
        rw [hel] at hcell
        have hsz : ((Sc.splitP c (s.data.toList.take k)).getLastD []).length ≤ 3000000 := by
          have hm : (Sc.splitP c (s.data.toList.take k)).getLastD [] ∈ Sc.splitP c (s.data.toList.take k) := by
            rw [List.getLastD_eq_getLast?, List.getLast?_eq_some_getLast hne]
            exact List.getLast_mem hne
          have := Sc.split_len c _ _ hm
          rw [List.length_take] at this
          omega
        have hadd := Lib.hid (show Wp.B ((Sc.splitP c (s.data.toList.take k)).getLastD []) ++ s.extract k (k + 1) = Wp.B ((Sc.splitP c (s.data.toList.take k)).getLastD [] ++ [s[k]]) by
          rw [Wp.B_append, Wp.data_extract, Nat.add_sub_cancel_left, List.drop_eq_getElem_cons (by rw [← Wp.size_len]; exact hlt), Wp.getElem_data s k hlt]
          rfl)
        have HO2 := Lib.hid (show (wr.drew.setCell ⟨g, n - 1, none⟩ (.string (Wp.B ((Sc.splitP c (s.data.toList.take k)).getLastD [] ++ [s[k]])))).ownsRow w.heap.size 9 1 (.slice (some ⟨g, 0, none⟩) n cp) n (((Sc.splitP c (s.data.toList.take (k + 1))).map Wp.B).map Wp.mkT) by
          rw [hset, List.map_set]; exact hown)
        have HN2 := Lib.hid (show n = (Sc.splitP c (s.data.toList.take (k + 1))).length by rw [hset, List.length_set, ← HN.out])
        have HB2 := Lib.hid ((HB.out.drew).setCell (p := ⟨g, n - 1, none⟩) hg0 (.string (Wp.B ((Sc.splitP c (s.data.toList.take k)).getLastD [] ++ [s[k]]))))
        have hszB : (Wp.B ((Sc.splitP c (s.data.toList.take k)).getLastD [])).size ≤ 3000000 := by rw [Wp.B_size]; exact hsz
        clear hset hown hel hll hsz hst hne hc hOD HO HB HN
        generalize Wp.B ((Sc.splitP c (s.data.toList.take k)).getLastD [] ++ [s[k]]) = nx at *
        generalize Wp.B ((Sc.splitP c (s.data.toList.take k)).getLastD []) = lx at *
        have hn0 : (0 : Int) ≤ ((n - 1 : Nat) : Int) := by omega
        have hnn : (n : Int) - 1 = ((n - 1 : Nat) : Int) := by omega
        have hnl : ((n - 1 : Nat) : Int) < (n : Int) := by omega
        obtain ⟨m, hm⟩ : ∃ m, m = n - 1 := ⟨_, rfl⟩
        rw [← hm] at hcell hfz hn0 hnn hnl HO2 HB2
        have hkk : (k : Int) + 1 ≤ (s.size : Int) := by omega
        have hkl : (k : Int) ≤ (k : Int) + 1 := by omega
        have hsl : ∀ W, (Instr.sliceAt 9 (.string s) (some (.int .i64 (k : Int))) (some (.int .i64 ((k : Int) + 1))) none).run Tryd.prog W = .ok (.string (s.extract k (k + 1))) W := by
          intro W
          rw [run_sliceAt_string (h := Tryd.underlying9), run_slice_string (h := Tryd.underlying9) (h0 := by omega) (h1 := by omega) (h2 := by omega)]
          rfl
        have hcw : wr.cell? ⟨g, m, none⟩ = some (.string lx) := hcell
        have hex : (s.extract k (k + 1)).size ≤ 1 := by rw [ByteArray.size_extract]; omega
        generalize s.extract k (k + 1) = ex at *
        have hwm : IntKind.i64.wrap ((m : Nat) : Int) = ((m : Nat) : Int) := IntWalk.i64_in _ (by omega)
        have hab : ∀ W, (Op.stringOp .add lx ex).run Tryd.prog W = .ok (.string (lx ++ ex)) W := fun W => run_string_add_sum W _ _ (by omega)
        have hwk : IntKind.i64.wrap ((k : Int) + 1) = (k : Int) + 1 := IntWalk.i64_in _ (by omega)
        clear hm hcell
        go_wp2_with fail
        go_still_tail 13, (by kernel_rfl)
        change wpList _ _ _ _ _ wr.drew
        go_wp2_with fail
        exact ⟨⟨k + 1, n, by omega, by go_num, by omega, by omega, HN2, by rw [hadd.out]; exact HO2.out, by rw [hadd.out]; exact HB2.out⟩, by simp [intOf]; omega⟩
    · obtain rfl : k = s.size := by omega
      have e : s.data.toList.take s.size = s.data.toList := List.take_of_length_le (by rw [← hlen.out]; exact Nat.le_refl _)
      rw [e] at HN HO
      have hn := HN.out
      subst hn
      go_wp2_with fail
      go_ret
      exact ⟨_, rfl, HO.out, HB.out⟩
end Go.Proofs.YtckcbdnlligndaaDoor
