/-
  The walks of zone's switchesRight, refused; Check and check: a zone that is right is told so, and no other. No condition but those that the theorems state.
-/
import Derived.Test.YtpaleljnkejdgaaDoorZonCheck
namespace Go.Proofs.YtpaleljnkejdgaaDoor
open Go.RowKit

set_option maxHeartbeats 2000000 in
theorem zon_sws_none (z : Wp.Zn) (w : World) (h : z.save = 0) (hn : ¬ (z.fr = Wp.Sw.zero ∧ z.to = Wp.Sw.zero)) : Calls Tryd.prog 59 #[.agg (Wp.zoneC z)] w fun e w' => e = .returned (.bool false) ∧ Below w.heap.size w w' := by
  obtain ⟨base, save, fr, to⟩ := z
  simp only [] at h hn
  subst h
  rcases Wp.Sw.zero_or fr with rfl | hf
  · rcases Wp.Sw.zero_or to with rfl | ht
    · exact absurd ⟨rfl, rfl⟩ hn
    · clear hn
      obtain ⟨tm, tn, tw, ti⟩ := to
      unfold Wp.zoneC Wp.Sw.zero
      simp only [] at *
      rcases ht with q1 | ⟨q1, q2⟩ | ⟨q1, q2, q3⟩ | ⟨q1, q2, q3, q4⟩
      all_goals
        go_enter Tryd.func59, Tryd.ntmps59
        go_wp2_with fail
        go_ret
        exact ⟨rfl, Wp.below_box _ _⟩
  · clear hn
    obtain ⟨tm, tn, tw, ti⟩ := to
    obtain ⟨fm, fn, fw, fi⟩ := fr
    unfold Wp.zoneC
    simp only [] at *
    rcases hf with q1 | ⟨q1, q2⟩ | ⟨q1, q2, q3⟩ | ⟨q1, q2, q3, q4⟩
    all_goals
      go_enter Tryd.func59, Tryd.ntmps59
      go_wp2_with fail
      go_ret
      exact ⟨rfl, Wp.below_box _ _⟩
set_option maxHeartbeats 2000000 in
theorem zon_sws_some (z : Wp.Zn) (w : World) (h : z.save ≠ 0) (hn : ¬ (Wp.SwOk z.fr ∧ Wp.SwOk z.to ∧ 2 ≤ Wp.apart z ∧ Wp.apart z ≤ 10)) : Calls Tryd.prog 59 #[.agg (Wp.zoneC z)] w fun e w' => e = .returned (.bool false) ∧ Below w.heap.size w w' := by
  have q : (z.save == 0) = false := by simpa using h
  clear h
  by_cases hf : Wp.SwOk z.fr
  · have A1 := Lib.hid (fun w => zon_switch_yes z.fr w hf)
    by_cases ht : Wp.SwOk z.to
    · have A2 := Lib.hid (fun w => zon_switch_yes z.to w ht)
      have hap : Wp.apart z < 2 ∨ (2 ≤ Wp.apart z ∧ 10 < Wp.apart z) := by
        by_cases g : 2 ≤ Wp.apart z ∧ Wp.apart z ≤ 10
        · exact absurd ⟨hf, ht, g⟩ hn
        · omega
      clear hn
      obtain ⟨a1, a2, _, _, _, _, _, _⟩ := hf
      obtain ⟨b1, b2, _, _, _, _, _, _⟩ := ht
      obtain ⟨base, save, ⟨fm, fn, fw, fi⟩, ⟨tm, tn, tw, ti⟩⟩ := z
      unfold Wp.swC at A1 A2
      unfold Wp.zoneC
      unfold Wp.apart at hap
      simp only [] at *
      have X0 := Lib.hid (cv_new w (.cells #[.int .i64 base, .int .i64 save, .int .i64 fm, .int .i64 fn, .int .i64 fw, .int .i64 fi, .int .i64 tm, .int .i64 tn, .int .i64 tw, .int .i64 ti] 91))
      have B0 := Lib.hid (Wp.below_box w (.cells #[.int .i64 base, .int .i64 save, .int .i64 fm, .int .i64 fn, .int .i64 fw, .int .i64 fi, .int .i64 tm, .int .i64 tn, .int .i64 tw, .int .i64 ti] 91))
      by_cases hn : fm - tm < 0
      · rw [if_pos hn] at hap
        rcases hap with h4 | ⟨h4, h5⟩
        · have q2 : decide (2 ≤ fm - tm + 12) = false := decide_eq_false (by omega)
          have q3 : fm - tm + 12 < 2 := h4
          go_enter Tryd.func59, Tryd.ntmps59
          go_wp2_with fail
          refine (A1.out _).mono ?_
          rintro e w1 ⟨rfl, b1'⟩
          rw [World.size_alloc] at b1'
          have x1 := (b1'.block w.heap.size (by omega)).trans X0.out
          have B1 := B0.out.trans (b1'.mono (by omega))
          have X1 := Lib.hid x1
          have s1 : w.heap.size < w1.heap.size := by have := b1'.size; rw [World.size_alloc] at this; omega
          obtain ⟨c0, c1, c2, c3, c4, c5, c6, c7, c8, c9⟩ := Wp.ten_of x1
          clear x1
          go_wp2_with fail
          refine (A2.out _).mono ?_
          rintro e w2 ⟨rfl, b2'⟩
          have x2 := (b2'.block w.heap.size s1).trans X1.out
          have B2 := B1.trans (b2'.mono B1.size)
          clear c0 c1 c2 c3 c4 c5 c6 c7 c8 c9
          obtain ⟨c0, c1, c2, c3, c4, c5, c6, c7, c8, c9⟩ := Wp.ten_of x2
          clear x2
          go_wp2_with fail
          go_ret
          exact ⟨rfl, B2⟩
        · have q2 : decide (fm - tm + 12 ≤ 10) = false := decide_eq_false (by omega)
          go_enter Tryd.func59, Tryd.ntmps59
          go_wp2_with fail
          refine (A1.out _).mono ?_
          rintro e w1 ⟨rfl, b1'⟩
          rw [World.size_alloc] at b1'
          have x1 := (b1'.block w.heap.size (by omega)).trans X0.out
          have B1 := B0.out.trans (b1'.mono (by omega))
          have X1 := Lib.hid x1
          have s1 : w.heap.size < w1.heap.size := by have := b1'.size; rw [World.size_alloc] at this; omega
          obtain ⟨c0, c1, c2, c3, c4, c5, c6, c7, c8, c9⟩ := Wp.ten_of x1
          clear x1
          go_wp2_with fail
          refine (A2.out _).mono ?_
          rintro e w2 ⟨rfl, b2'⟩
          have x2 := (b2'.block w.heap.size s1).trans X1.out
          have B2 := B1.trans (b2'.mono B1.size)
          clear c0 c1 c2 c3 c4 c5 c6 c7 c8 c9
          obtain ⟨c0, c1, c2, c3, c4, c5, c6, c7, c8, c9⟩ := Wp.ten_of x2
          clear x2
          go_wp2_with fail
          go_ret
          exact ⟨rfl, B2⟩
      · rw [if_neg hn] at hap
        rcases hap with h4 | ⟨h4, h5⟩
        · have q2 : decide (2 ≤ fm - tm) = false := decide_eq_false (by omega)
          have q3 : fm - tm < 2 := h4
          go_enter Tryd.func59, Tryd.ntmps59
          go_wp2_with fail
          refine (A1.out _).mono ?_
          rintro e w1 ⟨rfl, b1'⟩
          rw [World.size_alloc] at b1'
          have x1 := (b1'.block w.heap.size (by omega)).trans X0.out
          have B1 := B0.out.trans (b1'.mono (by omega))
          have X1 := Lib.hid x1
          have s1 : w.heap.size < w1.heap.size := by have := b1'.size; rw [World.size_alloc] at this; omega
          obtain ⟨c0, c1, c2, c3, c4, c5, c6, c7, c8, c9⟩ := Wp.ten_of x1
          clear x1
          go_wp2_with fail
          refine (A2.out _).mono ?_
          rintro e w2 ⟨rfl, b2'⟩
          have x2 := (b2'.block w.heap.size s1).trans X1.out
          have B2 := B1.trans (b2'.mono B1.size)
          clear c0 c1 c2 c3 c4 c5 c6 c7 c8 c9
          obtain ⟨c0, c1, c2, c3, c4, c5, c6, c7, c8, c9⟩ := Wp.ten_of x2
          clear x2
          go_wp2_with fail
          go_ret
          exact ⟨rfl, B2⟩
        · have q2 : decide (fm - tm ≤ 10) = false := decide_eq_false (by omega)
          go_enter Tryd.func59, Tryd.ntmps59
          go_wp2_with fail
          refine (A1.out _).mono ?_
          rintro e w1 ⟨rfl, b1'⟩
          rw [World.size_alloc] at b1'
          have x1 := (b1'.block w.heap.size (by omega)).trans X0.out
          have B1 := B0.out.trans (b1'.mono (by omega))
          have X1 := Lib.hid x1
          have s1 : w.heap.size < w1.heap.size := by have := b1'.size; rw [World.size_alloc] at this; omega
          obtain ⟨c0, c1, c2, c3, c4, c5, c6, c7, c8, c9⟩ := Wp.ten_of x1
          clear x1
          go_wp2_with fail
          refine (A2.out _).mono ?_
          rintro e w2 ⟨rfl, b2'⟩
          have x2 := (b2'.block w.heap.size s1).trans X1.out
          have B2 := B1.trans (b2'.mono B1.size)
          clear c0 c1 c2 c3 c4 c5 c6 c7 c8 c9
          obtain ⟨c0, c1, c2, c3, c4, c5, c6, c7, c8, c9⟩ := Wp.ten_of x2
          clear x2
          go_wp2_with fail
          go_ret
          exact ⟨rfl, B2⟩
    · have A2 := Lib.hid (fun w => zon_switch_no z.to w ht)
      clear hn hf ht
      obtain ⟨base, save, ⟨fm, fn, fw, fi⟩, ⟨tm, tn, tw, ti⟩⟩ := z
      unfold Wp.swC at A1 A2
      unfold Wp.zoneC
      simp only [] at *
      have X0 := Lib.hid (cv_new w (.cells #[.int .i64 base, .int .i64 save, .int .i64 fm, .int .i64 fn, .int .i64 fw, .int .i64 fi, .int .i64 tm, .int .i64 tn, .int .i64 tw, .int .i64 ti] 91))
      have B0 := Lib.hid (Wp.below_box w (.cells #[.int .i64 base, .int .i64 save, .int .i64 fm, .int .i64 fn, .int .i64 fw, .int .i64 fi, .int .i64 tm, .int .i64 tn, .int .i64 tw, .int .i64 ti] 91))
      go_enter Tryd.func59, Tryd.ntmps59
      go_wp2_with fail
      refine (A1.out _).mono ?_
      rintro e w1 ⟨rfl, b1'⟩
      rw [World.size_alloc] at b1'
      have x1 := (b1'.block w.heap.size (by omega)).trans X0.out
      have B1 := B0.out.trans (b1'.mono (by omega))
      have X1 := Lib.hid x1
      have s1 : w.heap.size < w1.heap.size := by have := b1'.size; rw [World.size_alloc] at this; omega
      obtain ⟨c0, c1, c2, c3, c4, c5, c6, c7, c8, c9⟩ := Wp.ten_of x1
      clear x1
      go_wp2_with fail
      refine (A2.out _).mono ?_
      rintro e w2 ⟨rfl, b2'⟩
      have x2 := (b2'.block w.heap.size s1).trans X1.out
      have B2 := B1.trans (b2'.mono B1.size)
      clear c0 c1 c2 c3 c4 c5 c6 c7 c8 c9
      obtain ⟨c0, c1, c2, c3, c4, c5, c6, c7, c8, c9⟩ := Wp.ten_of x2
      clear x2
      go_wp2_with fail
      go_ret
      exact ⟨rfl, B2⟩
  · have A1 := Lib.hid (fun w => zon_switch_no z.fr w hf)
    clear hn hf
    obtain ⟨base, save, ⟨fm, fn, fw, fi⟩, ⟨tm, tn, tw, ti⟩⟩ := z
    unfold Wp.swC at A1
    unfold Wp.zoneC
    simp only [] at *
    have X0 := Lib.hid (cv_new w (.cells #[.int .i64 base, .int .i64 save, .int .i64 fm, .int .i64 fn, .int .i64 fw, .int .i64 fi, .int .i64 tm, .int .i64 tn, .int .i64 tw, .int .i64 ti] 91))
    have B0 := Lib.hid (Wp.below_box w (.cells #[.int .i64 base, .int .i64 save, .int .i64 fm, .int .i64 fn, .int .i64 fw, .int .i64 fi, .int .i64 tm, .int .i64 tn, .int .i64 tw, .int .i64 ti] 91))
    go_enter Tryd.func59, Tryd.ntmps59
    go_wp2_with fail
    refine (A1.out _).mono ?_
    rintro e w1 ⟨rfl, b1'⟩
    rw [World.size_alloc] at b1'
    have x1 := (b1'.block w.heap.size (by omega)).trans X0.out
    have B1 := B0.out.trans (b1'.mono (by omega))
    have X1 := Lib.hid x1
    have s1 : w.heap.size < w1.heap.size := by have := b1'.size; rw [World.size_alloc] at this; omega
    obtain ⟨c0, c1, c2, c3, c4, c5, c6, c7, c8, c9⟩ := Wp.ten_of x1
    clear x1
    go_wp2_with fail
    go_ret
    exact ⟨rfl, B1⟩

theorem zon_sws_no (z : Wp.Zn) (w : World) (h : ¬ Wp.SwsOk z) : Calls Tryd.prog 59 #[.agg (Wp.zoneC z)] w fun e w' => e = .returned (.bool false) ∧ Below w.heap.size w w' := by
  by_cases hs : z.save = 0
  · exact zon_sws_none z w hs (fun hc => h (Or.inl ⟨hs, hc⟩))
  · exact zon_sws_some z w hs (fun hc => h (Or.inr ⟨hs, hc⟩))

/-- What Check tells. -/
noncomputable def Wp.chkR (z : Wp.Zn) : Int := by
  classical
  exact if Wp.ZnOk z then 0 else 2
theorem Wp.chkR_ok {z : Wp.Zn} (h : Wp.ZnOk z) : Wp.chkR z = 0 := by unfold Wp.chkR; exact if_pos h
theorem Wp.chkR_no {z : Wp.Zn} (h : ¬ Wp.ZnOk z) : Wp.chkR z = 2 := by unfold Wp.chkR; exact if_neg h
set_option maxHeartbeats 1000000 in
theorem zon_Check (z : Wp.Zn) (w : World) : Calls Tryd.prog 28 #[.agg (Wp.zoneC z)] w fun e w' => e = .returned (.int .i64 (Wp.chkR z)) ∧ Below w.heap.size w w' := by
  by_cases hc : Wp.ClkOk z
  · have A1 := Lib.hid (fun w => zon_clocks_yes z w hc)
    by_cases hs : Wp.SwsOk z
    · rw [Wp.chkR_ok ⟨hc, hs⟩]
      have A2 := Lib.hid (fun w => zon_sws_yes z w hs hc)
      clear hc hs
      obtain ⟨base, save, ⟨fm, fn, fw, fi⟩, ⟨tm, tn, tw, ti⟩⟩ := z
      unfold Wp.zoneC at A1 A2 ⊢
      simp only [] at *
      have X0 := Lib.hid (cv_new (w.alloc (.cells #[.int .i64 base, .int .i64 save, .int .i64 fm, .int .i64 fn, .int .i64 fw, .int .i64 fi, .int .i64 tm, .int .i64 tn, .int .i64 tw, .int .i64 ti] 48)) (.cells #[.int .i64 base, .int .i64 save, .int .i64 fm, .int .i64 fn, .int .i64 fw, .int .i64 fi, .int .i64 tm, .int .i64 tn, .int .i64 tw, .int .i64 ti] 91))
      have B0 := Lib.hid ((Wp.below_box w (.cells #[.int .i64 base, .int .i64 save, .int .i64 fm, .int .i64 fn, .int .i64 fw, .int .i64 fi, .int .i64 tm, .int .i64 tn, .int .i64 tw, .int .i64 ti] 48)).alloc (by simp) (.cells #[.int .i64 base, .int .i64 save, .int .i64 fm, .int .i64 fn, .int .i64 fw, .int .i64 fi, .int .i64 tm, .int .i64 tn, .int .i64 tw, .int .i64 ti] 91))
      have S0 : ((w.alloc (.cells #[.int .i64 base, .int .i64 save, .int .i64 fm, .int .i64 fn, .int .i64 fw, .int .i64 fi, .int .i64 tm, .int .i64 tn, .int .i64 tw, .int .i64 ti] 48)).alloc (.cells #[.int .i64 base, .int .i64 save, .int .i64 fm, .int .i64 fn, .int .i64 fw, .int .i64 fi, .int .i64 tm, .int .i64 tn, .int .i64 tw, .int .i64 ti] 91)).heap.size = w.heap.size + 2 := by simp
      rw [World.size_alloc] at X0
      go_enter Tryd.func28, Tryd.ntmps28
      go_wp2_with fail
      refine (A1.out _).mono ?_
      rintro e w1 ⟨rfl, b1⟩
      rw [S0] at b1
      have x1 := (b1.block (w.heap.size + 1) (by omega)).trans X0.out
      have B1 := B0.out.trans (b1.mono (by omega))
      obtain ⟨c0, c1, c2, c3, c4, c5, c6, c7, c8, c9⟩ := Wp.ten_of x1
      clear x1
      go_wp2_with fail
      refine (A2.out _).mono ?_
      rintro e w2 ⟨rfl, b2⟩
      go_wp2_with fail
      go_ret
      exact ⟨rfl, B1.trans (b2.mono B1.size)⟩
    · rw [Wp.chkR_no (fun h => hs h.2)]
      have A2 := Lib.hid (fun w => zon_sws_no z w hs)
      clear hc hs
      obtain ⟨base, save, ⟨fm, fn, fw, fi⟩, ⟨tm, tn, tw, ti⟩⟩ := z
      unfold Wp.zoneC at A1 A2 ⊢
      simp only [] at *
      have X0 := Lib.hid (cv_new (w.alloc (.cells #[.int .i64 base, .int .i64 save, .int .i64 fm, .int .i64 fn, .int .i64 fw, .int .i64 fi, .int .i64 tm, .int .i64 tn, .int .i64 tw, .int .i64 ti] 48)) (.cells #[.int .i64 base, .int .i64 save, .int .i64 fm, .int .i64 fn, .int .i64 fw, .int .i64 fi, .int .i64 tm, .int .i64 tn, .int .i64 tw, .int .i64 ti] 91))
      have B0 := Lib.hid ((Wp.below_box w (.cells #[.int .i64 base, .int .i64 save, .int .i64 fm, .int .i64 fn, .int .i64 fw, .int .i64 fi, .int .i64 tm, .int .i64 tn, .int .i64 tw, .int .i64 ti] 48)).alloc (by simp) (.cells #[.int .i64 base, .int .i64 save, .int .i64 fm, .int .i64 fn, .int .i64 fw, .int .i64 fi, .int .i64 tm, .int .i64 tn, .int .i64 tw, .int .i64 ti] 91))
      have S0 : ((w.alloc (.cells #[.int .i64 base, .int .i64 save, .int .i64 fm, .int .i64 fn, .int .i64 fw, .int .i64 fi, .int .i64 tm, .int .i64 tn, .int .i64 tw, .int .i64 ti] 48)).alloc (.cells #[.int .i64 base, .int .i64 save, .int .i64 fm, .int .i64 fn, .int .i64 fw, .int .i64 fi, .int .i64 tm, .int .i64 tn, .int .i64 tw, .int .i64 ti] 91)).heap.size = w.heap.size + 2 := by simp
      rw [World.size_alloc] at X0
      go_enter Tryd.func28, Tryd.ntmps28
      go_wp2_with fail
      refine (A1.out _).mono ?_
      rintro e w1 ⟨rfl, b1⟩
      rw [S0] at b1
      have x1 := (b1.block (w.heap.size + 1) (by omega)).trans X0.out
      have B1 := B0.out.trans (b1.mono (by omega))
      obtain ⟨c0, c1, c2, c3, c4, c5, c6, c7, c8, c9⟩ := Wp.ten_of x1
      clear x1
      go_wp2_with fail
      refine (A2.out _).mono ?_
      rintro e w2 ⟨rfl, b2⟩
      go_wp2_with fail
      go_ret
      exact ⟨rfl, B1.trans (b2.mono B1.size)⟩
  · have A1 := Lib.hid (fun w => zon_clocks_no z w hc)
    rw [Wp.chkR_no (fun h => hc h.1)]
    clear hc
    obtain ⟨base, save, ⟨fm, fn, fw, fi⟩, ⟨tm, tn, tw, ti⟩⟩ := z
    unfold Wp.zoneC at A1 ⊢
    simp only [] at *
    have B0 := Lib.hid ((Wp.below_box w (.cells #[.int .i64 base, .int .i64 save, .int .i64 fm, .int .i64 fn, .int .i64 fw, .int .i64 fi, .int .i64 tm, .int .i64 tn, .int .i64 tw, .int .i64 ti] 48)).alloc (by simp) (.cells #[.int .i64 base, .int .i64 save, .int .i64 fm, .int .i64 fn, .int .i64 fw, .int .i64 fi, .int .i64 tm, .int .i64 tn, .int .i64 tw, .int .i64 ti] 91))
    have S0 : ((w.alloc (.cells #[.int .i64 base, .int .i64 save, .int .i64 fm, .int .i64 fn, .int .i64 fw, .int .i64 fi, .int .i64 tm, .int .i64 tn, .int .i64 tw, .int .i64 ti] 48)).alloc (.cells #[.int .i64 base, .int .i64 save, .int .i64 fm, .int .i64 fn, .int .i64 fw, .int .i64 fi, .int .i64 tm, .int .i64 tn, .int .i64 tw, .int .i64 ti] 91)).heap.size = w.heap.size + 2 := by simp
    go_enter Tryd.func28, Tryd.ntmps28
    go_wp2_with fail
    refine (A1.out _).mono ?_
    rintro e w1 ⟨rfl, b1⟩
    rw [S0] at b1
    go_wp2_with fail
    go_ret
    exact ⟨rfl, B0.out.trans (b1.mono (by omega))⟩
/-- What check tells. -/
noncomputable def Wp.chk2R (z : Wp.Zn) (t : Int) : Int := if Wp.chkR z = 0 then (if Wp.isT t = true then 0 else 1) else 2
set_option maxHeartbeats 1000000 in
theorem zon_check (z : Wp.Zn) (t : Int) (w : World) : Calls Tryd.prog 50 #[.agg (Wp.zoneC z), .int .i64 t] w fun e w' => e = .returned (.int .i64 (Wp.chk2R z t)) ∧ Below w.heap.size w w' := by
  have A1 := Lib.hid (fun w => zon_Check z w)
  unfold Wp.chk2R
  have hr : Wp.chkR z = 0 ∨ Wp.chkR z = 2 := by
    by_cases h : Wp.ZnOk z
    · exact Or.inl (Wp.chkR_ok h)
    · exact Or.inr (Wp.chkR_no h)
  generalize Wp.chkR z = r at *
  obtain ⟨base, save, ⟨fm, fn, fw, fi⟩, ⟨tm, tn, tw, ti⟩⟩ := z
  unfold Wp.zoneC at A1 ⊢
  simp only [] at *
  have B0 := Lib.hid (Wp.below_box w (.cells #[.int .i64 base, .int .i64 save, .int .i64 fm, .int .i64 fn, .int .i64 fw, .int .i64 fi, .int .i64 tm, .int .i64 tn, .int .i64 tw, .int .i64 ti] 48))
  rcases hr with rfl | rfl
  · have A3 := Lib.hid (fun w => zon_isTime t w)
    generalize Wp.isT t = q at *
    cases q
    · go_enter Tryd.func50, Tryd.ntmps50
      go_wp2_with fail
      refine (A1.out _).mono ?_
      rintro e w1 ⟨rfl, b1⟩
      rw [World.size_alloc] at b1
      go_wp2_with fail
      refine (A3.out _).mono ?_
      rintro e w2 ⟨rfl, rfl⟩
      go_wp2_with fail
      go_ret
      exact ⟨rfl, B0.out.trans (b1.mono (by omega))⟩
    · go_enter Tryd.func50, Tryd.ntmps50
      go_wp2_with fail
      refine (A1.out _).mono ?_
      rintro e w1 ⟨rfl, b1⟩
      rw [World.size_alloc] at b1
      go_wp2_with fail
      refine (A3.out _).mono ?_
      rintro e w2 ⟨rfl, rfl⟩
      go_wp2_with fail
      go_ret
      exact ⟨rfl, B0.out.trans (b1.mono (by omega))⟩
  · go_enter Tryd.func50, Tryd.ntmps50
    go_wp2_with fail
    refine (A1.out _).mono ?_
    rintro e w1 ⟨rfl, b1⟩
    rw [World.size_alloc] at b1
    go_wp2_with fail
    go_ret
    exact ⟨rfl, B0.out.trans (b1.mono (by omega))⟩
end Go.Proofs.YtpaleljnkejdgaaDoor
