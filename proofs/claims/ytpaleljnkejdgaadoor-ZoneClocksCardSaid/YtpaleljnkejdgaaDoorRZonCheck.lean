/-
  The walk of the document's own Check of a zone (bellmanref06): a zone that is right is told so, and no other. No condition.
-/
import Derived.Test.YtpaleljnkejdgaaDoorRZonSmall
import Derived.Test.YtpaleljnkejdgaaDoorZonChecks
import Derived.Test.YtpaleljnkejdgaaDoorCivRef
namespace Go.Proofs.YtpaleljnkejdgaaDoor
open Go.RowKit

set_option maxHeartbeats 1000000 in
set_option maxRecDepth 100000 in
theorem rzon_Check_clk (z : Wp.Zn) (w : World) (h : ¬ Wp.ClkOk z) : Calls Tryd.prog 29 #[.agg (Wp.zoneC z)] w fun e w' => e = .returned (.int .i64 2) ∧ Below w.heap.size w w' := by
  have hc : z.base < -900 ∨ (-900 ≤ z.base ∧ 900 < z.base) ∨ (-900 ≤ z.base ∧ z.base ≤ 900 ∧ z.save < 0) ∨ (-900 ≤ z.base ∧ z.base ≤ 900 ∧ 0 ≤ z.save ∧ 120 < z.save) := by
    by_cases h1 : z.base < -900
    · exact Or.inl h1
    · by_cases h2 : 900 < z.base
      · exact Or.inr (Or.inl ⟨by omega, h2⟩)
      · by_cases h3 : z.save < 0
        · exact Or.inr (Or.inr (Or.inl ⟨by omega, by omega, h3⟩))
        · by_cases h4 : 120 < z.save
          · exact Or.inr (Or.inr (Or.inr ⟨by omega, by omega, by omega, h4⟩))
          · exact absurd ⟨by omega, by omega, by omega, by omega⟩ h
  clear h
  obtain ⟨base, save, ⟨fm, fn, fw, fi⟩, ⟨tm, tn, tw, ti⟩⟩ := z
  unfold Wp.zoneC
  simp only [] at *
  rcases hc with h1 | ⟨h1, h2⟩ | ⟨h1, h2, h3⟩ | ⟨h1, h2, h3, h4⟩
  all_goals
    go_enter Tryd.func29, Tryd.ntmps29
    go_wp2_with fail
    go_ret
    exact ⟨rfl, Wp.below_box _ _⟩
theorem rzon_two (w : World) (o o' : Obj) : Below w.heap.size w ((w.alloc o).alloc o') := (Wp.below_box w o).trans ((Wp.below_box (w.alloc o) o').mono (by simp))
set_option maxHeartbeats 1000000 in
set_option maxRecDepth 100000 in
theorem rzon_Check_plain (z : Wp.Zn) (w : World) (hc : Wp.ClkOk z) (hs : z.save = 0) (h : z.fr = Wp.Sw.zero ∧ z.to = Wp.Sw.zero) : Calls Tryd.prog 29 #[.agg (Wp.zoneC z)] w fun e w' => e = .returned (.int .i64 0) ∧ Below w.heap.size w w' := by
  obtain ⟨b1, b2, b3, b4⟩ := hc
  obtain ⟨base, save, fr, to⟩ := z
  simp only [] at *
  obtain ⟨rfl, rfl⟩ := h
  subst hs
  unfold Wp.zoneC Wp.Sw.zero
  simp only [] at *
  go_enter Tryd.func29, Tryd.ntmps29
  go_wp2_with fail
  go_ret
  exact ⟨rfl, rzon_two _ _ _⟩
set_option maxHeartbeats 2000000 in
set_option maxRecDepth 100000 in
theorem rzon_Check_none (z : Wp.Zn) (w : World) (hc : Wp.ClkOk z) (h : z.save = 0) (hn : ¬ (z.fr = Wp.Sw.zero ∧ z.to = Wp.Sw.zero)) : Calls Tryd.prog 29 #[.agg (Wp.zoneC z)] w fun e w' => e = .returned (.int .i64 2) ∧ Below w.heap.size w w' := by
  obtain ⟨b1, b2, b3, b4⟩ := hc
  obtain ⟨base, save, fr, to⟩ := z
  simp only [] at *
  subst h
  rcases Wp.Sw.zero_or fr with rfl | hf
  · rcases Wp.Sw.zero_or to with rfl | ht
    · exact absurd ⟨rfl, rfl⟩ hn
    · clear hn
      obtain ⟨tm, tn, tw, ti⟩ := to
      unfold Wp.zoneC Wp.Sw.zero
      simp only [] at *
      rcases ht with q1 | ⟨q1, q2⟩ | ⟨q1, q2, q3⟩ | ⟨q1, q2, q3, q4⟩
      all_goals
        go_enter Tryd.func29, Tryd.ntmps29
        go_wp2_with fail
        go_ret
        exact ⟨rfl, rzon_two _ _ _⟩
  · clear hn
    obtain ⟨tm, tn, tw, ti⟩ := to
    obtain ⟨fm, fn, fw, fi⟩ := fr
    unfold Wp.zoneC
    simp only [] at *
    rcases hf with q1 | ⟨q1, q2⟩ | ⟨q1, q2, q3⟩ | ⟨q1, q2, q3, q4⟩
    all_goals
      go_enter Tryd.func29, Tryd.ntmps29
      go_wp2_with fail
      go_ret
      exact ⟨rfl, rzon_two _ _ _⟩
set_option maxHeartbeats 4000000 in
set_option maxRecDepth 100000 in
theorem rzon_Check_some (z : Wp.Zn) (w : World) (hc : Wp.ClkOk z) (hs : z.save ≠ 0) (f1 f2 : Bool) (ap r : Int) (HR : Hid (r = if f1 = true ∧ f2 = true ∧ 2 ≤ ap ∧ ap ≤ 10 then 0 else 2))
    (A1 : Hid (∀ w, Calls Tryd.prog 60 #[.agg (Wp.swC z.fr)] w fun e w' => e = .returned (.bool f1) ∧ Below w.heap.size w w'))
    (A2 : Hid (∀ w, Calls Tryd.prog 60 #[.agg (Wp.swC z.to)] w fun e w' => e = .returned (.bool f2) ∧ Below w.heap.size w w'))
    (A3 : Hid (Hid (f1 = true) → Hid (f2 = true) → ∀ w, Calls Tryd.prog 61 #[.agg (Wp.zoneC z)] w fun e w' => e = .returned (.int .i64 ap) ∧ Below w.heap.size w w')) :
    Calls Tryd.prog 29 #[.agg (Wp.zoneC z)] w fun e w' => e = .returned (.int .i64 r) ∧ Below w.heap.size w w' := by
  obtain ⟨b1, b2, b3, b4⟩ := hc
  have b5 : 0 < z.save := by omega
  have q : (z.save == 0) = false := by simpa using hs
  obtain ⟨base, save, ⟨fm, fn, fw, fi⟩, ⟨tm, tn, tw, ti⟩⟩ := z
  unfold Wp.swC at A1 A2
  unfold Wp.zoneC at A3 ⊢
  simp only [] at *
  clear hs b3
  have X0 := Lib.hid ((cv_past (w.alloc (.cells #[.int .i64 base, .int .i64 save, .int .i64 fm, .int .i64 fn, .int .i64 fw, .int .i64 fi, .int .i64 tm, .int .i64 tn, .int .i64 tw, .int .i64 ti] 48)) (.cells #[.int .i64 0, .int .i64 0, .int .i64 0, .int .i64 0] 46) w.heap.size (by simp)).trans (cv_new w (.cells #[.int .i64 base, .int .i64 save, .int .i64 fm, .int .i64 fn, .int .i64 fw, .int .i64 fi, .int .i64 tm, .int .i64 tn, .int .i64 tw, .int .i64 ti] 48)))
  have B0 := Lib.hid (rzon_two w (.cells #[.int .i64 base, .int .i64 save, .int .i64 fm, .int .i64 fn, .int .i64 fw, .int .i64 fi, .int .i64 tm, .int .i64 tn, .int .i64 tw, .int .i64 ti] 48) (.cells #[.int .i64 0, .int .i64 0, .int .i64 0, .int .i64 0] 46))
  have S0 := Lib.hid (show ((w.alloc (.cells #[.int .i64 base, .int .i64 save, .int .i64 fm, .int .i64 fn, .int .i64 fw, .int .i64 fi, .int .i64 tm, .int .i64 tn, .int .i64 tw, .int .i64 ti] 48)).alloc (.cells #[.int .i64 0, .int .i64 0, .int .i64 0, .int .i64 0] 46)).heap.size = w.heap.size + 2 by simp)
  go_enter Tryd.func29, Tryd.ntmps29
  go_wp2_with fail
  refine (A1.out _).mono ?_
  rintro e w1 ⟨rfl, hb⟩
  have B1 := Lib.hid (cv_then B0.out hb B0.out.size)
  have X1 := Lib.hid ((hb.block w.heap.size (by rw [S0.out]; omega)).trans X0.out)
  have S1 : w.heap.size + 2 ≤ w1.heap.size := by have := hb.size; rw [S0.out] at this; exact this
  clear hb A1 B0 X0 S0
  cases f1 with
  | false =>
    have Hr := Lib.hid (HR.out.trans (if_neg (by simp)))
    go_wp2_with fail
    go_ret
    exact ⟨by rw [Hr.out]; rfl, B1.out⟩
  | true =>
    obtain ⟨c0, c1, c2, c3, c4, c5, c6, c7, c8, c9⟩ := Wp.ten_of X1.out
    go_wp2_with fail
    refine (A2.out _).mono ?_
    rintro e w2 ⟨rfl, hb⟩
    have B2 := Lib.hid (cv_then B1.out hb B1.out.size)
    have X2 := Lib.hid ((hb.block w.heap.size (by omega)).trans X1.out)
    have S2 : w.heap.size + 2 ≤ w2.heap.size := by have := hb.size; omega
    clear hb A2 B1 X1 S1 c0 c1 c2 c3 c4 c5 c6 c7 c8 c9
    cases f2 with
    | false =>
      have Hr := Lib.hid (HR.out.trans (if_neg (by simp)))
      go_wp2_with fail
      go_ret
      exact ⟨by rw [Hr.out]; rfl, B2.out⟩
    | true =>
      have A4 := Lib.hid (A3.out (Lib.hid (by trivial)) (Lib.hid (by trivial)))
      clear A3
      obtain ⟨c0, c1, c2, c3, c4, c5, c6, c7, c8, c9⟩ := Wp.ten_of X2.out
      go_wp2_with fail
      refine (A4.out _).mono ?_
      rintro e w3 ⟨rfl, hb⟩
      have B3 := Lib.hid (cv_then B2.out hb B2.out.size)
      have X3 := Lib.hid ((hb.block w.heap.size (by omega)).trans X2.out)
      have S3 : w.heap.size + 2 ≤ w3.heap.size := by have := hb.size; omega
      clear hb B2 X2 S2 c0 c1 c2 c3 c4 c5 c6 c7 c8 c9
      by_cases h1 : ap < 2
      · have Hr := Lib.hid (HR.out.trans (if_neg (by omega)))
        go_wp2_with fail
        go_ret
        exact ⟨by rw [Hr.out]; rfl, B3.out⟩
      · have h2 : 2 ≤ ap := by omega
        clear h1
        obtain ⟨c0, c1, c2, c3, c4, c5, c6, c7, c8, c9⟩ := Wp.ten_of X3.out
        by_cases h3 : 10 < ap
        · have Hr := Lib.hid (HR.out.trans (if_neg (by omega)))
          go_wp2_with fail
          refine (A4.out _).mono ?_
          rintro e w4 ⟨rfl, hb⟩
          have B4 := Lib.hid (cv_then B3.out hb B3.out.size)
          clear hb B3 X3 S3 c0 c1 c2 c3 c4 c5 c6 c7 c8 c9
          go_wp2_with fail
          go_ret
          exact ⟨by rw [Hr.out]; rfl, B4.out⟩
        · have h4 : ap ≤ 10 := by omega
          have Hr := Lib.hid (HR.out.trans (if_pos ⟨by trivial, by trivial, h2, h4⟩))
          clear h3
          go_wp2_with fail
          refine (A4.out _).mono ?_
          rintro e w4 ⟨rfl, hb⟩
          have B4 := Lib.hid (cv_then B3.out hb B3.out.size)
          clear hb B3 X3 S3 c0 c1 c2 c3 c4 c5 c6 c7 c8 c9
          go_wp2_with fail
          go_ret
          exact ⟨by rw [Hr.out]; rfl, B4.out⟩
theorem rzon_Check (z : Wp.Zn) (w : World) : Calls Tryd.prog 29 #[.agg (Wp.zoneC z)] w fun e w' => e = .returned (.int .i64 (Wp.chkR z)) ∧ Below w.heap.size w w' := by
  by_cases hc : Wp.ClkOk z
  · by_cases hs : z.save = 0
    · by_cases h : z.fr = Wp.Sw.zero ∧ z.to = Wp.Sw.zero
      · rw [Wp.chkR_ok ⟨hc, Or.inl ⟨hs, h⟩⟩]
        exact rzon_Check_plain z w hc hs h
      · rw [Wp.chkR_no (fun g => by
          rcases g.2 with ⟨_, g2⟩ | ⟨g1, _⟩
          · exact h g2
          · exact g1 hs)]
        exact rzon_Check_none z w hc hs h
    · have no1 : ¬ Wp.SwOk z.fr → Wp.chkR z = 2 := fun h => Wp.chkR_no (fun g => h ((g.sws hs).1))
      have no2 : ¬ Wp.SwOk z.to → Wp.chkR z = 2 := fun h => Wp.chkR_no (fun g => h ((g.sws hs).2.1))
      by_cases h1 : Wp.SwOk z.fr
      · by_cases h2 : Wp.SwOk z.to
        · have r := rzon_Check_some z w hc hs true true (Wp.apart z) _ (Lib.hid rfl) (Lib.hid (fun w => rzon_right_yes z.fr w h1)) (Lib.hid (fun w => rzon_right_yes z.to w h2)) (Lib.hid (fun _ _ w => rzon_apart z w h1.m1 h1.m2 h2.m1 h2.m2))
          by_cases h3 : 2 ≤ Wp.apart z ∧ Wp.apart z ≤ 10
          · rw [if_pos ⟨rfl, rfl, h3⟩] at r
            rw [Wp.chkR_ok ⟨hc, Or.inr ⟨hs, h1, h2, h3⟩⟩]
            exact r
          · rw [if_neg (fun g => h3 g.2.2)] at r
            rw [Wp.chkR_no (fun g => h3 (g.sws hs).2.2)]
            exact r
        · have r := rzon_Check_some z w hc hs true false 0 _ (Lib.hid rfl) (Lib.hid (fun w => rzon_right_yes z.fr w h1)) (Lib.hid (fun w => rzon_right_no z.to w h2)) (Lib.hid (fun _ h => absurd h.out (by simp)))
          rw [if_neg (by simp)] at r
          rw [no2 h2]
          exact r
      · by_cases h2 : Wp.SwOk z.to
        · have r := rzon_Check_some z w hc hs false true 0 _ (Lib.hid rfl) (Lib.hid (fun w => rzon_right_no z.fr w h1)) (Lib.hid (fun w => rzon_right_yes z.to w h2)) (Lib.hid (fun h => absurd h.out (by simp)))
          rw [if_neg (by simp)] at r
          rw [no1 h1]
          exact r
        · have r := rzon_Check_some z w hc hs false false 0 _ (Lib.hid rfl) (Lib.hid (fun w => rzon_right_no z.fr w h1)) (Lib.hid (fun w => rzon_right_no z.to w h2)) (Lib.hid (fun h => absurd h.out (by simp)))
          rw [if_neg (by simp)] at r
          rw [no1 h1]
          exact r
  · rw [Wp.chkR_no (fun g => hc g.1)]
    exact rzon_Check_clk z w hc
end Go.Proofs.YtpaleljnkejdgaaDoor
