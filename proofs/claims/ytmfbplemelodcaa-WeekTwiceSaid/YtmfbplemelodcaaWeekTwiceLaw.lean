/-
  The walk of WeekTwice: whatever a week is, the law answers true. Condition: a list is of a size that a machine holds.
-/
import Derived.Test.YtmfbplemelodcaaWkLives
namespace Go.Proofs.Ytmfbplemelodcaa
open Go.RowKit Go.Lib Go.Shelf

theorem Wk.fitL_ok {l : List (Int × Int)} (h : l.length ≤ 64) : Wk.fitL l = l ∧ Wk.fitC l = 0 := ⟨if_pos h, if_pos h⟩
theorem Wk.twice_gaps {l : List (Int × Int)} (h : Wk.Ch (-1) l) : Wk.gaps 0 (Wk.gaps 0 l) = l := by
  have hg : Wk.Ch (-1) (Wk.gaps 0 l) := Wk.gaps_ch (f := 0) h
  have hgg : Wk.Ch (-1) (Wk.gaps 0 (Wk.gaps 0 l)) := Wk.gaps_ch (f := 0) hg
  refine hgg.ext h fun m => ?_
  rw [Wk.gaps_has (f := 0) hg, Wk.gaps_has (f := 0) h]
  by_cases c : m < 0
  · rw [decide_eq_false (show ¬ 0 ≤ m by omega), h.below (show m ≤ -1 by omega)]; rfl
  · by_cases d : m < 10080
    · rw [decide_eq_true (show 0 ≤ m by omega), decide_eq_true d]; simp
    · rw [decide_eq_false d, h.above (show 10080 ≤ m by omega)]; simp
theorem Wk.both_gaps {l : List (Int × Int)} (h : Wk.Ch (-1) l) : Wk.both l (Wk.gaps 0 l) = [] := by
  have hg : Wk.Ch (-1) (Wk.gaps 0 l) := Wk.gaps_ch (f := 0) h
  refine (Wk.both_ch h hg).ext (b := -1) trivial fun m => ?_
  rw [Wk.both_has, Wk.gaps_has (f := 0) h, Wk.has_nil]
  cases Wk.has l m <;> simp
theorem Wk.or_gaps {l : List (Int × Int)} (h : Wk.Ch (-1) l) : Wk.jnd (l ++ Wk.gaps 0 l) = [(0, 10080)] := by
  have hg : Wk.Ch (-1) (Wk.gaps 0 l) := Wk.gaps_ch (f := 0) h
  obtain ⟨j1, j2, _⟩ := Wk.jnd_joined ((Wk.Ch.fit h).append (Wk.Ch.fit hg))
  refine j1.ext (b := -1) ⟨by simp, by simp, by simp, trivial⟩ fun m => ?_
  rw [j2, Wk.has_append, Wk.gaps_has (f := 0) h, Wk.has_cons, Wk.has_nil, Bool.or_false]
  have e : Wk.inR (0, 10080) m = (decide (0 ≤ m) && decide (m < 10080)) := rfl
  rw [e]
  by_cases c : m < 0
  · rw [decide_eq_false (show ¬ 0 ≤ m by omega), h.below (show m ≤ -1 by omega)]; rfl
  · by_cases d : m < 10080
    · rw [decide_eq_true (show 0 ≤ m by omega), decide_eq_true d]; cases Wk.has l m <;> rfl
    · rw [decide_eq_false d, h.above (show 10080 ≤ m by omega)]; simp
theorem Wk.jnd_self {l : List (Int × Int)} (h : Wk.Ch (-1) l) : Wk.jnd l = l := (Wk.jnd_joined (Wk.Ch.fit h)).one (Wk.joined_self h)
set_option maxHeartbeats 2000000 in
theorem weekTwice_law (l : List (Int × Int)) (p : Option Addr) (c : Nat) (w : World) (hA : Wk.At w p l) (hn : l.length ≤ 140737488351232) :
    Calls Try.prog 6 #[.slice p l.length c] w fun e w' => e = .returned (.bool true) ∧ Below w.heap.size w w' := by
  have CL := Lib.hid (fun w => wk_lives w)
  have CN := Lib.hid (fun w hA => wk_Not l p c w hA hn)
  have AW := Lib.hid hA
  clear hA
  by_cases hc : Wk.Ok l ∧ (Wk.gaps 0 l).length ≤ 64
  · obtain ⟨ho, hg64⟩ := hc
    have hg : Wk.Ch (-1) (Wk.gaps 0 l) := Wk.gaps_ch (f := 0) ho.2
    have hog : Wk.Ok (Wk.gaps 0 l) := ⟨hg64, hg⟩
    have h64 := ho.1
    have e1 : Wk.notL l = Wk.gaps 0 l := by unfold Wk.notL; rw [if_pos ho, (Wk.fitL_ok hg64).1]
    have e2 : Wk.notC l = 0 := by unfold Wk.notC; rw [if_pos ho, (Wk.fitL_ok hg64).2]
    have e3 : Wk.notL (Wk.gaps 0 l) = l := by unfold Wk.notL; rw [if_pos hog, Wk.twice_gaps ho.2, (Wk.fitL_ok h64).1]
    have e4 : Wk.notC (Wk.gaps 0 l) = 0 := by unfold Wk.notC; rw [if_pos hog, Wk.twice_gaps ho.2, (Wk.fitL_ok h64).2]
    have e5 : Wk.andL l (Wk.gaps 0 l) = [] := by unfold Wk.andL; rw [if_pos ⟨ho, hog⟩, Wk.both_gaps ho.2]; rfl
    have e6 : Wk.andC l (Wk.gaps 0 l) = 0 := by unfold Wk.andC; rw [if_pos ⟨ho, hog⟩, Wk.both_gaps ho.2]; rfl
    have e7 : Wk.orL l (Wk.gaps 0 l) = [(0, 10080)] := by unfold Wk.orL; rw [if_pos ⟨ho, hog⟩, Wk.or_gaps ho.2]; rfl
    have e8 : Wk.orC l (Wk.gaps 0 l) = 0 := by unfold Wk.orC; rw [if_pos ⟨ho, hog⟩, Wk.or_gaps ho.2]; rfl
    have e9 : Wk.makeL l = l := by unfold Wk.makeL; rw [if_pos (Wk.Ch.edges ho.2), if_pos h64, Wk.wraps_ok ho.2, Wk.jnd_self ho.2, (Wk.fitL_ok h64).1]
    have e10 : Wk.makeC l = 0 := by unfold Wk.makeC; rw [if_pos (Wk.Ch.edges ho.2), if_pos h64, Wk.wraps_ok ho.2, Wk.jnd_self ho.2, (Wk.fitL_ok h64).2]
    have e11 : Wk.sumR l + Wk.sumR (Wk.gaps 0 l) = 10080 := by
      rw [show Wk.sumR l = Wk.sum l from if_pos ho, show Wk.sumR (Wk.gaps 0 l) = Wk.sum (Wk.gaps 0 l) from if_pos hog]
      have := Wk.gaps_sum (f := 0) ho.2 (by omega)
      omega
    have b1 := Wk.sum_bd ho.2 (by omega) (by omega)
    rw [← show Wk.sumR l = Wk.sum l from if_pos ho] at b1
    have b2 := Wk.sum_bd hg (by omega) (by omega)
    rw [← show Wk.sumR (Wk.gaps 0 l) = Wk.sum (Wk.gaps 0 l) from if_pos hog] at b2
    have hgl : (Wk.gaps 0 l).length ≤ 140737488351232 := by omega
    rw [e1, e2] at CN
    have CN2 := Lib.hid (fun p c w hA => wk_Not (Wk.gaps 0 l) p c w hA hgl)
    rw [e3, e4] at CN2
    have CA := Lib.hid (fun q d w hA hB => wk_And l (Wk.gaps 0 l) p q c d w hA hB hn hgl)
    rw [e5, e6] at CA
    have CO := Lib.hid (fun q d w hA hB => wk_Or l (Wk.gaps 0 l) p q c d w hA hB hn hgl)
    rw [e7, e8] at CO
    have CS := Lib.hid (fun w hA => wk_Sum l p c w hA hn)
    rw [show Wk.chk l = 0 from if_pos ho] at CS
    have CT := Lib.hid (fun p c w hA => wk_Sum (Wk.gaps 0 l) p c w hA hgl)
    rw [show Wk.chk (Wk.gaps 0 l) = 0 from if_pos hog] at CT
    have CM := Lib.hid (fun w hA => wk_Make l p c w hA hn)
    rw [e9, e10] at CM
    have CE := Lib.hid (fun p q c d w hA hB => wk_Same_self l p q c d w hA hB hn)
    have CF := Lib.hid (fun p q c d w hA hB => wk_Same_self [(0, 10080)] p q c d w hA hB (by decide))
    have E11 := Lib.hid e11
    obtain ⟨b3, b4⟩ := b1
    obtain ⟨b5, b6⟩ := b2
    clear e1 e2 e3 e4 e5 e6 e7 e8 e9 e10 e11 ho hog hg hg64 h64 hgl hn
    generalize Wk.sumR l = s1 at *
    generalize Wk.sumR (Wk.gaps 0 l) = s2 at *
    generalize Wk.gaps 0 l = G at *
    obtain ⟨n, hnn⟩ : ∃ n, n = l.length := ⟨_, rfl⟩
    obtain ⟨k, hkk⟩ : ∃ k, k = G.length := ⟨_, rfl⟩
    have Hn := Lib.hid hnn
    have Hk := Lib.hid hkk
    rw [← hnn] at CN CA CO CS CM CE
    rw [← hkk] at CN2 CA CO CT
    rw [← hnn]
    clear hnn hkk
    go_enter Try.func6, Try.ntmps6
    go_wp2_with fail
    refine (CL.out _).mono ?_
    rintro e w1 ⟨rfl, hB⟩
    have AW1 := Lib.hid (AW.out.below hB)
    have B1 := Lib.hid hB
    clear hB
    go_wp2_with fail
    refine (CN.out _ AW1.out).mono ?_
    rintro e w2 ⟨p2, c2, rfl, hA, hB⟩
    rw [← Hk.out]
    have AN2 := Lib.hid hA
    have AW2 := Lib.hid (AW1.out.below hB)
    have B2 := Lib.hid (wk_then B1.out hB B1.out.size)
    clear hA hB AW1 B1
    go_wp2_with fail
    refine (CN2.out _ _ _ AN2.out).mono ?_
    rintro e w3 ⟨p3, c3, rfl, hA, hB⟩
    rw [← Hn.out]
    have AM3 := Lib.hid hA
    have AN3 := Lib.hid (AN2.out.below hB)
    have AW3 := Lib.hid (AW2.out.below hB)
    have B3 := Lib.hid (wk_then B2.out hB B2.out.size)
    clear hA hB AN2 AW2 B2
    go_wp2_with fail
    refine (CA.out _ _ _ AW3.out AN3.out).mono ?_
    rintro e w4 ⟨p4, c4, rfl, hA, hB⟩
    have AX4 := Lib.hid hA
    have AN4 := Lib.hid (AN3.out.below hB)
    have AW4 := Lib.hid (AW3.out.below hB)
    have AM4 := Lib.hid (AM3.out.below hB)
    have B4 := Lib.hid (wk_then B3.out hB B3.out.size)
    clear hA hB AN3 AW3 AM3 B3
    go_wp2_with fail
    refine (CO.out _ _ _ AW4.out AN4.out).mono ?_
    rintro e w5 ⟨p5, c5, rfl, hA, hB⟩
    have AL5 := Lib.hid hA
    have AN5 := Lib.hid (AN4.out.below hB)
    have AW5 := Lib.hid (AW4.out.below hB)
    have AM5 := Lib.hid (AM4.out.below hB)
    have B5 := Lib.hid (wk_then B4.out hB B4.out.size)
    clear hA hB AN4 AW4 AM4 B4
    go_wp2_with fail
    refine (CS.out _ AW5.out).mono ?_
    rintro e w6 ⟨rfl, hB⟩
    have AN6 := Lib.hid (AN5.out.below hB)
    have AW6 := Lib.hid (AW5.out.below hB)
    have AM6 := Lib.hid (AM5.out.below hB)
    have AL6 := Lib.hid (AL5.out.below hB)
    have B6 := Lib.hid (wk_then B5.out hB B5.out.size)
    clear hB AN5 AW5 AM5 AL5 B5
    go_wp2_with fail
    refine (CT.out _ _ _ AN6.out).mono ?_
    rintro e w7 ⟨rfl, hB⟩
    have AW7 := Lib.hid (AW6.out.below hB)
    have AM7 := Lib.hid (AM6.out.below hB)
    have AL7 := Lib.hid (AL6.out.below hB)
    have B7 := Lib.hid (wk_then B6.out hB B6.out.size)
    clear hB AW6 AM6 AL6 B6
    go_wp2_with fail
    refine (CM.out _ AW7.out).mono ?_
    rintro e w8 ⟨p8, c8, rfl, hA, hB⟩
    rw [← Hn.out]
    have AG8 := Lib.hid hA
    have AW8 := Lib.hid (AW7.out.below hB)
    have AM8 := Lib.hid (AM7.out.below hB)
    have AL8 := Lib.hid (AL7.out.below hB)
    have B8 := Lib.hid (wk_then B7.out hB B7.out.size)
    clear hA hB AW7 AM7 AL7 B7
    go_wp2_with fail
    refine (CE.out _ _ _ _ _ AM8.out AW8.out).mono ?_
    rintro e w9 ⟨rfl, hB⟩
    have AW9 := Lib.hid (AW8.out.below hB)
    have AL9 := Lib.hid (AL8.out.below hB)
    have AG9 := Lib.hid (AG8.out.below hB)
    have B9 := Lib.hid (wk_then B8.out hB B8.out.size)
    clear hB AW8 AL8 AG8 B8
    have bx := wk_box w9 (.cells #[.int .i64 0, .int .i64 10080] 38)
    have AK := Lib.hid (Wk.at_lit w9 [(0, 10080)] #[.int .i64 0, .int .i64 10080] 38 rfl)
    have AW10 := Lib.hid (AW9.out.below bx)
    have AL10 := Lib.hid (AL9.out.below bx)
    have AG10 := Lib.hid (AG9.out.below bx)
    have B10 := Lib.hid (wk_then B9.out bx B9.out.size)
    clear bx B9 AW9 AL9 AG9
    have e11 := E11.out
    go_wp2_with fail
    refine (CF.out _ _ _ _ _ AL10.out AK.out).mono ?_
    rintro e w11 ⟨rfl, hB⟩
    have AW11 := Lib.hid (AW10.out.below hB)
    have AG11 := Lib.hid (AG10.out.below hB)
    have B11 := Lib.hid (wk_then B10.out hB B10.out.size)
    clear hB AW10 AG10 B10
    go_wp2_with fail
    refine (CE.out _ _ _ _ _ AG11.out AW11.out).mono ?_
    rintro e w12 ⟨rfl, hB⟩
    have B12 := Lib.hid (wk_then B11.out hB B11.out.size)
    clear hB  B11
    go_wp2_with fail
    go_ret
    exact ⟨rfl, B12.out⟩
  · have h0 : Wk.notL l = [] ∧ (Wk.notC l != 0) = true := by
      unfold Wk.notL Wk.notC
      by_cases ho : Wk.Ok l
      · have h2 : ¬ (Wk.gaps 0 l).length ≤ 64 := fun h => hc ⟨ho, h⟩
        rw [if_pos ho, if_pos ho]
        unfold Wk.fitL Wk.fitC
        rw [if_neg h2, if_neg h2]
        exact ⟨rfl, rfl⟩
      · rw [if_neg ho, if_neg ho]; exact ⟨rfl, rfl⟩
    obtain ⟨h1, h2⟩ := h0
    rw [h1] at CN
    clear hc h1
    generalize Wk.notC l = r at *
    generalize l.length = n at *
    go_enter Try.func6, Try.ntmps6
    go_wp2_with fail
    refine (CL.out _).mono ?_
    rintro e w1 ⟨rfl, hB⟩
    have AW1 := Lib.hid (AW.out.below hB)
    have B1 := Lib.hid hB
    clear hB
    go_wp2_with fail
    refine (CN.out _ AW1.out).mono ?_
    rintro e w2 ⟨p2, c2, rfl, hA, hB⟩
    have B2 := Lib.hid (wk_then B1.out hB B1.out.size)
    clear hB
    rw [List.length_nil]
    go_wp2_with fail
    go_ret
    exact ⟨rfl, B2.out⟩
end Go.Proofs.Ytmfbplemelodcaa
