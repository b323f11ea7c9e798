/-
  The walks of the document's Next, Drain, Count, Move, Of and Clear for timers. Condition: the list is of a size that a machine holds.
-/
import Derived.Test.YtaaodbljdpchhaaDueLeftLaw
namespace Go.Proofs.Ytaaodbljdpchhaa
open Go.RowKit Go.Lib Go.Sort Go.Shelf

/-- A timer more, of those that are taken. -/
theorem Du.take_filter {l : List (Int × Int × Int × Int)} (P : (Int × Int × Int × Int) → Bool) {j : Nat} (hj : j < l.length) : (l.take (j + 1)).filter P = (l.take j).filter P ++ (if P l[j] = true then [l[j]] else []) := by
  rw [List.take_succ_eq_append_getElem hj, List.filter_append]
  cases h : P l[j] <;> simp [h]
theorem Du.own_grown {A B : World} {base : Nat} {v u : Value} {l : List (Int × Int × Int × Int)} (h : Hp.Own A base v l) (hg : A.grownBy B u.ownBlock) (hne : ∀ g, v.ownBlock = some g → u.ownBlock ≠ some g) : Hp.Own B base v l := by
  rcases h.blk with ⟨rfl, rfl⟩ | ⟨g, cap, rest, rfl, hb, hB, hc, hm⟩
  · exact Hp.Own.nil _ _
  · exact (hB.grown hg (fun e => hne g rfl e.symm)).own hb hc hm
set_option maxHeartbeats 4000000 in
set_option maxRecDepth 100000 in
theorem ref_Of16 (l : List (Int × Int × Int × Int)) (k r : Int) (p : Option Addr) (c : Nat) (w : World) (hA : Hp.At w p l) (hn : l.length ≤ 140737488351232) :
    Calls Try.prog 37 #[.slice p l.length c, .int .u8 k, .int .i64 r] w (Hp.Got ((Hp.soL l).filter (Du.is k r)) (Hp.chk l) w) := by
  have CS := Lib.hid (ref_Sorted15 l p c w hA hn)
  have HL := Lib.hid (@Du.soL_le l)
  generalize Hp.soL l = S at *
  generalize Hp.chk l = z at *
  clear hA hn
  generalize l.length = n at *
  obtain ⟨m, hm⟩ : ∃ m, m = S.length := ⟨_, rfl⟩
  have Hm := Lib.hid hm
  unfold Hp.Got at CS
  rw [← hm] at CS HL
  have hm4 := HL.out
  have hm5 : (m : Int) ≤ 4096 := by omega
  clear hm
  go_enter Try.func37, Try.ntmps37
  go_wp2_with fail
  refine CS.out.mono ?_
  rintro e w1 ⟨p1, c1, rfl, hA, hb⟩
  have A1 := Lib.hid hA
  have B1 := Lib.hid hb
  clear hA hb
  go_wp2_with fail
  go_loopw [10, 20] (fun v i wr => ∃ j : Nat, j ≤ m ∧ i = .int .i64 j ∧ Hid (Hp.Own wr w1.heap.size v ((S.take j).filter (Du.is k r)) ∧ Below w1.heap.size w1 wr) ∧ (∃ q a b, v = .slice q a b)) (fun _ i _ => m - (RowKit.intOf i).toNat)
  case atStart => exact ⟨0, Nat.zero_le _, rfl, Lib.hid ⟨by simpa using Hp.Own.nil _ _, Below.refl _ _⟩, none, 0, 0, rfl⟩
  case round =>
    obtain ⟨j, hj, rfl, HO, q, a, b, rfl⟩ := hrel
    by_cases hlt : j < m
    · have hjl : j < S.length := by rw [← Hm.out]; exact hlt
      have hjz : (j : Int) < (m : Int) := by omega
      have hj0 : (0 : Int) ≤ (j : Int) := by omega
      obtain ⟨b1, o1, rfl, hx⟩ := (A1.out.below HO.out.2).get j hjl
      have hF := Du.take_filter (Du.is k r) hjl
      generalize S[j] = x at *
      obtain ⟨x1, x2, x3, x4⟩ := x
      obtain ⟨e1, e2, e3, e4⟩ := hx
      simp only [] at e1 e2 e3 e4
      have hI : Du.is k r (x1, x2, x3, x4) = (decide (x3 = k) && decide (x4 = r)) := rfl
      have hbx := hp_box wr (.cells #[.int .i64 x1, .int .i64 x2, .int .u8 x3, .int .i64 x4] 31)
      have hO2 := HO.out.1.below hbx
      have hB2 := HO.out.2.trans (hbx.mono HO.out.2.size)
      clear hjl
      by_cases h3 : x3 = k
      · by_cases h4 : x4 = r
        · rw [if_pos (by rw [hI]; simp [h3, h4])] at hF
          have hbx2 := hp_box (wr.alloc (.cells #[.int .i64 x1, .int .i64 x2, .int .u8 x3, .int .i64 x4] 31)) (.cells #[.int .i64 x1, .int .i64 x2, .int .u8 x3, .int .i64 x4] 31)
          have O3 := Lib.hid (hO2.below hbx2)
          have B3 := Lib.hid (hB2.trans (hbx2.mono hB2.size))
          have hal := Hp.at_lit (wr.alloc (.cells #[.int .i64 x1, .int .i64 x2, .int .u8 x3, .int .i64 x4] 31)) [(x1, x2, x3, x4)] #[.int .i64 x1, .int .i64 x2, .int .u8 x3, .int .i64 x4] rfl
          rw [World.size_alloc] at hal
          have HA3 := Lib.hid hal
          have HF := Lib.hid hF
          have hle : ((S.take j).filter (Du.is k r)).length ≤ 1000000 := by
            have := List.length_filter_le (Du.is k r) (S.take j)
            rw [List.length_take] at this
            omega
          have HLe := Lib.hid hle
          subst h3 h4
          clear hF hbx hbx2 hO2 hB2 hle hI hal
          go_wp2_with (at_builtin; refine Hp.listW rfl _ _ rfl _ [(x1, x2, x3, x4)] _ _ 1 _ w1.heap.size rfl rfl O3.out HA3.out rfl HLe.out (show 1 ≤ 1000000 by decide) B3.out.size ?_)
          intro v' w' hO4 hg4
          have hb4 := hp_grown_own B3.out O3.out hg4 B3.out.size
          rw [← HF.out] at hO4
          obtain ⟨pv, cv, hv, _⟩ := hO4.at
          cases hv
          have HO4 := Lib.hid (And.intro hO4 hb4)
          clear hO4 hg4 hb4 e1 e2 e3 e4
          go_wp2_with fail
          exact ⟨⟨j + 1, by omega, by go_num, HO4, _, _, _, rfl⟩, by simp [RowKit.intOf]; omega⟩
        · rw [if_neg (by rw [hI]; simp [h4]), List.append_nil] at hF
          rw [← hF] at hO2
          have q2 : (x4 == r) = false := by simpa using h4
          have HO4 := Lib.hid (And.intro hO2 hB2)
          subst h3
          clear hF hbx hO2 hB2 hI h4
          go_wp2_with fail
          exact ⟨⟨j + 1, by omega, by go_num, HO4, _, _, _, rfl⟩, by simp [RowKit.intOf]; omega⟩
      · rw [if_neg (by rw [hI]; simp [h3]), List.append_nil] at hF
        rw [← hF] at hO2
        have q2 : (x3 == k) = false := by simpa using h3
        have HO4 := Lib.hid (And.intro hO2 hB2)
        clear hF hbx hO2 hB2 hI h3
        go_wp2_with fail
        exact ⟨⟨j + 1, by omega, by go_num, HO4, _, _, _, rfl⟩, by simp [RowKit.intOf]; omega⟩
    · obtain rfl : j = m := by omega
      obtain ⟨hO, hB⟩ := HO.out
      rw [Hm.out, List.take_length] at hO
      obtain ⟨pv, cv, hv, hA2⟩ := hO.at
      cases hv
      have A2 := Lib.hid hA2
      have B2 := Lib.hid (B1.out.trans (hB.mono B1.out.size))
      clear hO hB hA2
      go_wp2_with fail
      go_ret2
      exact ⟨_, _, rfl, A2.out, B2.out⟩
set_option maxHeartbeats 4000000 in
set_option maxRecDepth 100000 in
theorem ref_Clear16 (l : List (Int × Int × Int × Int)) (k r : Int) (p : Option Addr) (c : Nat) (w : World) (hA : Hp.At w p l) (hn : l.length ≤ 140737488351232) :
    Calls Try.prog 39 #[.slice p l.length c, .int .u8 k, .int .i64 r] w fun e w' => ∃ q d, e = .returned (.tuple #[.slice q ((Hp.soL l).filter (fun x => !Du.is k r x)).length d, .int .i64 ((Hp.soL l).length - ((Hp.soL l).filter (fun x => !Du.is k r x)).length : Int), .int .i64 (Hp.chk l)]) ∧ Hp.At w' q ((Hp.soL l).filter (fun x => !Du.is k r x)) ∧ Below w.heap.size w w' := by
  have CS := Lib.hid (ref_Sorted15 l p c w hA hn)
  have HL := Lib.hid (@Du.soL_le l)
  generalize Hp.soL l = S at *
  generalize Hp.chk l = z at *
  clear hA hn
  generalize l.length = n at *
  obtain ⟨m, hm⟩ : ∃ m, m = S.length := ⟨_, rfl⟩
  have Hm := Lib.hid hm
  unfold Hp.Got at CS
  rw [← hm] at CS HL
  have hm4 := HL.out
  have hm5 : (m : Int) ≤ 4096 := by omega
  clear hm
  go_enter Try.func39, Try.ntmps39
  go_wp2_with fail
  refine CS.out.mono ?_
  rintro e w1 ⟨p1, c1, rfl, hA, hb⟩
  have A1 := Lib.hid hA
  have B1 := Lib.hid hb
  clear hA hb
  go_wp2_with fail
  go_loopw [11, 21] (fun v i wr => ∃ j : Nat, j ≤ m ∧ i = .int .i64 j ∧ Hid (Hp.Own wr w1.heap.size v ((S.take j).filter (fun x => !Du.is k r x)) ∧ Below w1.heap.size w1 wr) ∧ (∃ q a b, v = .slice q a b)) (fun _ i _ => m - (RowKit.intOf i).toNat)
  case atStart => exact ⟨0, Nat.zero_le _, rfl, Lib.hid ⟨by simpa using Hp.Own.nil _ _, Below.refl _ _⟩, none, 0, 0, rfl⟩
  case round =>
    obtain ⟨j, hj, rfl, HO, q, a, b, rfl⟩ := hrel
    by_cases hlt : j < m
    · have hjl : j < S.length := by rw [← Hm.out]; exact hlt
      have hjz : (j : Int) < (m : Int) := by omega
      have hj0 : (0 : Int) ≤ (j : Int) := by omega
      obtain ⟨b1, o1, rfl, hx⟩ := (A1.out.below HO.out.2).get j hjl
      have hF := Du.take_filter (fun x => !Du.is k r x) hjl
      generalize S[j] = x at *
      obtain ⟨x1, x2, x3, x4⟩ := x
      obtain ⟨e1, e2, e3, e4⟩ := hx
      simp only [] at e1 e2 e3 e4
      have hI : Du.is k r (x1, x2, x3, x4) = (decide (x3 = k) && decide (x4 = r)) := rfl
      have hbx := hp_box wr (.cells #[.int .i64 x1, .int .i64 x2, .int .u8 x3, .int .i64 x4] 31)
      have hO2 := HO.out.1.below hbx
      have hB2 := HO.out.2.trans (hbx.mono HO.out.2.size)
      clear hjl
      by_cases h3 : x3 = k
      · by_cases h4 : x4 = r
        · rw [if_neg (by rw [hI]; simp [h3, h4]), List.append_nil] at hF
          rw [← hF] at hO2
          have HO4 := Lib.hid (And.intro hO2 hB2)
          subst h3 h4
          clear hF hbx hO2 hB2 hI
          go_wp2_with fail
          exact ⟨⟨j + 1, by omega, by go_num, HO4, _, _, _, rfl⟩, by simp [RowKit.intOf]; omega⟩
        · rw [if_pos (by rw [hI]; simp [h4])] at hF
          have hbx2 := hp_box (wr.alloc (.cells #[.int .i64 x1, .int .i64 x2, .int .u8 x3, .int .i64 x4] 31)) (.cells #[.int .i64 x1, .int .i64 x2, .int .u8 x3, .int .i64 x4] 31)
          have O3 := Lib.hid (hO2.below hbx2)
          have B3 := Lib.hid (hB2.trans (hbx2.mono hB2.size))
          have hal := Hp.at_lit (wr.alloc (.cells #[.int .i64 x1, .int .i64 x2, .int .u8 x3, .int .i64 x4] 31)) [(x1, x2, x3, x4)] #[.int .i64 x1, .int .i64 x2, .int .u8 x3, .int .i64 x4] rfl
          rw [World.size_alloc] at hal
          have HA3 := Lib.hid hal
          have HF := Lib.hid hF
          have hle : ((S.take j).filter (fun x => !Du.is k r x)).length ≤ 1000000 := by
            have := List.length_filter_le (fun x => !Du.is k r x) (S.take j)
            rw [List.length_take] at this
            omega
          have HLe := Lib.hid hle
          have q2 : (x4 == r) = false := by simpa using h4
          have q3 : (x4 != r) = true := by simpa using h4
          subst h3
          clear hF hbx hbx2 hO2 hB2 hle hI hal h4
          go_wp2_with (at_builtin; refine Hp.listW rfl _ _ rfl _ [(x1, x2, x3, x4)] _ _ 1 _ w1.heap.size rfl rfl O3.out HA3.out rfl HLe.out (show 1 ≤ 1000000 by decide) B3.out.size ?_)
          intro v' w' hO4 hg4
          have hb4 := hp_grown_own B3.out O3.out hg4 B3.out.size
          rw [← HF.out] at hO4
          obtain ⟨pv, cv, hv, _⟩ := hO4.at
          cases hv
          have HO4 := Lib.hid (And.intro hO4 hb4)
          clear hO4 hg4 hb4 e1 e2 e3 e4
          go_wp2_with fail
          exact ⟨⟨j + 1, by omega, by go_num, HO4, _, _, _, rfl⟩, by simp [RowKit.intOf]; omega⟩
      · rw [if_pos (by rw [hI]; simp [h3])] at hF
        have hbx2 := hp_box (wr.alloc (.cells #[.int .i64 x1, .int .i64 x2, .int .u8 x3, .int .i64 x4] 31)) (.cells #[.int .i64 x1, .int .i64 x2, .int .u8 x3, .int .i64 x4] 31)
        have O3 := Lib.hid (hO2.below hbx2)
        have B3 := Lib.hid (hB2.trans (hbx2.mono hB2.size))
        have hal := Hp.at_lit (wr.alloc (.cells #[.int .i64 x1, .int .i64 x2, .int .u8 x3, .int .i64 x4] 31)) [(x1, x2, x3, x4)] #[.int .i64 x1, .int .i64 x2, .int .u8 x3, .int .i64 x4] rfl
        rw [World.size_alloc] at hal
        have HA3 := Lib.hid hal
        have HF := Lib.hid hF
        have hle : ((S.take j).filter (fun x => !Du.is k r x)).length ≤ 1000000 := by
          have := List.length_filter_le (fun x => !Du.is k r x) (S.take j)
          rw [List.length_take] at this
          omega
        have HLe := Lib.hid hle
        have q2 : (x3 == k) = false := by simpa using h3
        have q3 : (x3 != k) = true := by simpa using h3
        clear hF hbx hbx2 hO2 hB2 hle hI hal h3
        go_wp2_with (at_builtin; refine Hp.listW rfl _ _ rfl _ [(x1, x2, x3, x4)] _ _ 1 _ w1.heap.size rfl rfl O3.out HA3.out rfl HLe.out (show 1 ≤ 1000000 by decide) B3.out.size ?_)
        intro v' w' hO4 hg4
        have hb4 := hp_grown_own B3.out O3.out hg4 B3.out.size
        rw [← HF.out] at hO4
        obtain ⟨pv, cv, hv, _⟩ := hO4.at
        cases hv
        have HO4 := Lib.hid (And.intro hO4 hb4)
        clear hO4 hg4 hb4 e1 e2 e3 e4
        go_wp2_with fail
        exact ⟨⟨j + 1, by omega, by go_num, HO4, _, _, _, rfl⟩, by simp [RowKit.intOf]; omega⟩
    · obtain rfl : j = m := by omega
      obtain ⟨hO, hB⟩ := HO.out
      rw [Hm.out, List.take_length] at hO
      obtain ⟨pv, cv, hv, hA2⟩ := hO.at
      cases hv
      have A2 := Lib.hid hA2
      have B2 := Lib.hid (B1.out.trans (hB.mono B1.out.size))
      clear hO hB hA2
      have z1 := List.length_filter_le (fun x => !Du.is k r x) S
      rw [← Hm.out] at z1
      obtain ⟨F, hF⟩ : ∃ F, List.filter (fun x => !Du.is k r x) S = F := ⟨_, rfl⟩
      rw [hF] at A2 z1 ⊢
      have HF := Lib.hid hF
      have z2 : (F.length : Int) ≤ (j : Int) := by omega
      clear hF
      go_wp2_with fail
      go_ret3
      rw [HF.out, ← Hm.out]
      exact ⟨_, _, rfl, A2.out, B2.out⟩
end Go.Proofs.Ytaaodbljdpchhaa
