/-
  The walk of WeekNext: whatever a week is, a minute and some minutes more, the law answers true. Condition: a list is of a size that a machine holds; numbers fit 64 bits.
-/
import Derived.Test.YtmfbplemelodcaaWkLives
namespace Go.Proofs.Ytmfbplemelodcaa
open Go.RowKit Go.Lib Go.Shelf

theorem Wk.chk2_vals (l : List (Int × Int)) (m : Int) : Wk.chk2 l m = 0 ∨ Wk.chk2 l m = 1 ∨ Wk.chk2 l m = 2 := by
  unfold Wk.chk2; repeat' split
  all_goals simp
theorem Wk.hasB_ok {l : List (Int × Int)} {m : Int} (ho : Wk.Ok l) (hm : Wk.Min m) : Wk.hasB l m = Wk.has l m := if_pos (Wk.chk2_mk ho hm)
theorem Wk.nextV_has {l : List (Int × Int)} (ho : Wk.Ok l) (b : Bool) {m : Int} (hm : Wk.Min m) : Wk.has (Wk.nextV l b) m = (Wk.has l m == b) := by
  unfold Wk.nextV
  cases b with
  | true => simp
  | false =>
    rw [if_neg (by simp), Wk.gaps_has (f := 0) ho.2, decide_eq_true hm.1, decide_eq_true hm.2]
    cases Wk.has l m <;> rfl
theorem Wk.nextV_nil {l : List (Int × Int)} (ho : Wk.Ok l) (b : Bool) (h : Wk.nextV l b = []) : Wk.sumR l = if b = true then 0 else 10080 := by
  have e : Wk.sumR l = Wk.sum l := if_pos ho
  rw [e]
  unfold Wk.nextV at h
  cases b with
  | true => rw [if_pos rfl] at h; subst h; rfl
  | false =>
    rw [if_neg (by simp)] at h
    have := Wk.gaps_sum (f := 0) ho.2 (by omega)
    rw [h] at this
    simp [Wk.sum] at this ⊢
    exact this
set_option maxHeartbeats 2000000 in
theorem weekNext_law (l : List (Int × Int)) (p : Option Addr) (c : Nat) (m s : Int) (b : Bool) (w : World) (hA : Wk.At w p l) (hn : l.length ≤ 140737488351232) :
    Calls Try.prog 7 #[.slice p l.length c, .int .i64 m, .int .i64 s, .bool b] w fun e w' => e = .returned (.bool true) ∧ Below w.heap.size w w' := by
  have CL := Lib.hid (fun w => wk_lives w)
  have CN := Lib.hid (fun w hA => wk_Next l p c m b w hA hn)
  have CS := Lib.hid (fun w hA => wk_Sum l p c w hA hn)
  have CH := Lib.hid (fun x w hA => wk_Has l p c x w hA hn)
  have AW := Lib.hid hA
  clear hA
  by_cases hc : Wk.chk2 l m = 0
  · obtain ⟨ho, hm⟩ := Wk.chk2_ok hc
    by_cases hv : Wk.nextV l b = []
    · rw [show Wk.nextN l m b = 0 by unfold Wk.nextN; rw [if_pos hc, if_pos hv], show Wk.nextC l m b = 3 by unfold Wk.nextC; rw [if_pos hc, if_pos hv]] at CN
      rw [show Wk.chk l = 0 from if_pos ho, Wk.nextV_nil ho b hv] at CS
      clear hc ho hm hv hn CH
      generalize l.length = n at *
      cases b with
      | true =>
        rw [if_pos rfl] at CS
        go_enter Try.func7, Try.ntmps7
        go_wp2_with fail
        refine (CL.out _).mono ?_
        rintro e w1 ⟨rfl, hB⟩
        have AW1 := Lib.hid (AW.out.below hB)
        have B1 := Lib.hid hB
        clear hB
        go_wp2_with fail
        refine (CN.out _ AW1.out).mono ?_
        rintro e w2 ⟨rfl, hB⟩
        have AW2 := Lib.hid (AW1.out.below hB)
        have B2 := Lib.hid (wk_then B1.out hB B1.out.size)
        clear hB
        go_wp2_with fail
        refine (CS.out _ AW2.out).mono ?_
        rintro e w3 ⟨rfl, hB⟩
        have B3 := Lib.hid (wk_then B2.out hB B2.out.size)
        clear hB
        go_wp2_with fail
        go_ret
        exact ⟨rfl, B3.out⟩
      | false =>
        rw [if_neg (by simp)] at CS
        go_enter Try.func7, Try.ntmps7
        go_wp2_with fail
        refine (CL.out _).mono ?_
        rintro e w1 ⟨rfl, hB⟩
        have AW1 := Lib.hid (AW.out.below hB)
        have B1 := Lib.hid hB
        clear hB
        go_wp2_with fail
        refine (CN.out _ AW1.out).mono ?_
        rintro e w2 ⟨rfl, hB⟩
        have AW2 := Lib.hid (AW1.out.below hB)
        have B2 := Lib.hid (wk_then B1.out hB B1.out.size)
        clear hB
        go_wp2_with fail
        refine (CS.out _ AW2.out).mono ?_
        rintro e w3 ⟨rfl, hB⟩
        have B3 := Lib.hid (wk_then B2.out hB B2.out.size)
        clear hB
        go_wp2_with fail
        go_ret
        exact ⟨rfl, B3.out⟩
    · rw [show Wk.nextN l m b = Wk.nx (Wk.nextV l b) m by unfold Wk.nextN; rw [if_pos hc, if_neg hv], show Wk.nextC l m b = 0 by unfold Wk.nextC; rw [if_pos hc, if_neg hv]] at CN
      obtain ⟨s1, s2, s3, s4⟩ := Wk.nx_spec (Wk.nextV_ch ho.2 b) hv hm.1 hm.2
      obtain ⟨m1, m2⟩ := hm
      generalize Wk.nx (Wk.nextV l b) m = x at *
      have hmod : ∀ j, 0 ≤ j → Wk.Min ((m + j) % 10080) := fun j hj => ⟨by omega, by omega⟩
      have CX := Lib.hid (show Wk.hasB l ((m + x) % 10080) = b ∧ Wk.chk2 l ((m + x) % 10080) = 0 by
        refine ⟨?_, Wk.chk2_mk ho (hmod x s1)⟩
        rw [Wk.hasB_ok ho (hmod x s1)]
        rw [Wk.nextV_has ho b (hmod x s1)] at s3
        simpa using s3)
      have CJ := Lib.hid (show ∀ j, 0 ≤ j → j < x → Wk.hasB l ((m + j) % 10080) = !b ∧ Wk.chk2 l ((m + j) % 10080) = 0 from fun j h1 h2 => by
        refine ⟨?_, Wk.chk2_mk ho (hmod j h1)⟩
        have h3 := s4 j h1 h2
        rw [Wk.hasB_ok ho (hmod j h1)]
        rw [Wk.nextV_has ho b (hmod j h1)] at h3
        cases b <;> cases h : Wk.has l ((m + j) % 10080) <;> simp_all)
      have CHx := Lib.hid (fun w hA => CH.out ((m + x) % 10080) w hA)
      rw [CX.out.1, CX.out.2] at CHx
      clear s3 s4 hmod CX hc ho hv
      by_cases hs : 0 ≤ s ∧ s < x
      · obtain ⟨hs1, hs2⟩ := hs
        have CHs := Lib.hid (fun w hA => CH.out ((m + s) % 10080) w hA)
        rw [(CJ.out s hs1 hs2).1, (CJ.out s hs1 hs2).2] at CHs
        clear CJ CH CS
        generalize l.length = n at *
        cases b with
        | true =>
          rw [Bool.not_true] at CHs
          go_enter Try.func7, Try.ntmps7
          go_wp2_with fail
          refine (CL.out _).mono ?_
          rintro e w1 ⟨rfl, hB⟩
          have AW1 := Lib.hid (AW.out.below hB)
          have B1 := Lib.hid hB
          clear hB
          go_wp2_with fail
          refine (CN.out _ AW1.out).mono ?_
          rintro e w2 ⟨rfl, hB⟩
          have AW2 := Lib.hid (AW1.out.below hB)
          have B2 := Lib.hid (wk_then B1.out hB B1.out.size)
          clear hB
          go_wp2_with fail
          refine (CHx.out _ AW2.out).mono ?_
          rintro e w3 ⟨rfl, hB⟩
          have AW3 := Lib.hid (AW2.out.below hB)
          have B3 := Lib.hid (wk_then B2.out hB B2.out.size)
          clear hB
          go_wp2_with fail
          refine (CHs.out _ AW3.out).mono ?_
          rintro e w4 ⟨rfl, hB⟩
          have B4 := Lib.hid (wk_then B3.out hB B3.out.size)
          clear hB
          go_wp2_with fail
          go_ret
          exact ⟨rfl, B4.out⟩
        | false =>
          rw [Bool.not_false] at CHs
          go_enter Try.func7, Try.ntmps7
          go_wp2_with fail
          refine (CL.out _).mono ?_
          rintro e w1 ⟨rfl, hB⟩
          have AW1 := Lib.hid (AW.out.below hB)
          have B1 := Lib.hid hB
          clear hB
          go_wp2_with fail
          refine (CN.out _ AW1.out).mono ?_
          rintro e w2 ⟨rfl, hB⟩
          have AW2 := Lib.hid (AW1.out.below hB)
          have B2 := Lib.hid (wk_then B1.out hB B1.out.size)
          clear hB
          go_wp2_with fail
          refine (CHx.out _ AW2.out).mono ?_
          rintro e w3 ⟨rfl, hB⟩
          have AW3 := Lib.hid (AW2.out.below hB)
          have B3 := Lib.hid (wk_then B2.out hB B2.out.size)
          clear hB
          go_wp2_with fail
          refine (CHs.out _ AW3.out).mono ?_
          rintro e w4 ⟨rfl, hB⟩
          have B4 := Lib.hid (wk_then B3.out hB B3.out.size)
          clear hB
          go_wp2_with fail
          go_ret
          exact ⟨rfl, B4.out⟩
      · have hs' : s < 0 ∨ (0 ≤ s ∧ x ≤ s) := by omega
        clear CJ CH CS hs
        generalize l.length = n at *
        rcases hs' with hs | ⟨hs1, hs2⟩
        · cases b <;>
          (go_enter Try.func7, Try.ntmps7
           go_wp2_with fail
           refine (CL.out _).mono ?_
           rintro e w1 ⟨rfl, hB⟩
           have AW1 := Lib.hid (AW.out.below hB)
           have B1 := Lib.hid hB
           clear hB
           go_wp2_with fail
           refine (CN.out _ AW1.out).mono ?_
           rintro e w2 ⟨rfl, hB⟩
           have AW2 := Lib.hid (AW1.out.below hB)
           have B2 := Lib.hid (wk_then B1.out hB B1.out.size)
           clear hB
           go_wp2_with fail
           refine (CHx.out _ AW2.out).mono ?_
           rintro e w3 ⟨rfl, hB⟩
           have B3 := Lib.hid (wk_then B2.out hB B2.out.size)
           clear hB
           go_wp2_with fail
           go_ret
           exact ⟨rfl, B3.out⟩)
        · cases b <;>
          (go_enter Try.func7, Try.ntmps7
           go_wp2_with fail
           refine (CL.out _).mono ?_
           rintro e w1 ⟨rfl, hB⟩
           have AW1 := Lib.hid (AW.out.below hB)
           have B1 := Lib.hid hB
           clear hB
           go_wp2_with fail
           refine (CN.out _ AW1.out).mono ?_
           rintro e w2 ⟨rfl, hB⟩
           have AW2 := Lib.hid (AW1.out.below hB)
           have B2 := Lib.hid (wk_then B1.out hB B1.out.size)
           clear hB
           go_wp2_with fail
           refine (CHx.out _ AW2.out).mono ?_
           rintro e w3 ⟨rfl, hB⟩
           have B3 := Lib.hid (wk_then B2.out hB B2.out.size)
           clear hB
           go_wp2_with fail
           go_ret
           exact ⟨rfl, B3.out⟩)
  · rw [show Wk.nextN l m b = 0 from if_neg hc, show Wk.nextC l m b = Wk.chk2 l m from if_neg hc] at CN
    have hv := Wk.chk2_vals l m
    have q1 : (Wk.chk2 l m != 0) = true := by simpa using hc
    have q2 : (Wk.chk2 l m != 3) = true := by
      rcases hv with h | h | h <;> rw [h] <;> rfl
    clear hc hv CH
    generalize Wk.chk2 l m = r at *
    generalize Wk.sumR l = sm at *
    generalize Wk.chk l = ck at *
    generalize l.length = n at *
    go_enter Try.func7, Try.ntmps7
    go_wp2_with fail
    refine (CL.out _).mono ?_
    rintro e w1 ⟨rfl, hB⟩
    have AW1 := Lib.hid (AW.out.below hB)
    have B1 := Lib.hid hB
    clear hB
    go_wp2_with fail
    refine (CN.out _ AW1.out).mono ?_
    rintro e w2 ⟨rfl, hB⟩
    have AW2 := Lib.hid (AW1.out.below hB)
    have B2 := Lib.hid (wk_then B1.out hB B1.out.size)
    clear hB
    go_wp2_with fail
    refine (CS.out _ AW2.out).mono ?_
    rintro e w3 ⟨rfl, hB⟩
    have B3 := Lib.hid (wk_then B2.out hB B2.out.size)
    clear hB
    go_wp2_with fail
    go_ret
    exact ⟨rfl, B3.out⟩
end Go.Proofs.Ytmfbplemelodcaa
