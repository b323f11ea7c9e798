/-
  The walk of zone.turnAt: the time of a year's switch, and whether it is one. Conditions: the switch is right, the clocks are as far ahead as they may be; the calendar's table reads as it is laid.
-/
import Derived.Test.YtpaleljnkejdgaaDoorZonChecks
namespace Go.Proofs.YtpaleljnkejdgaaDoor
open Go.RowKit

theorem Wp.isT_timeD {m : Wp.Mom} (h : Wp.momOk m = true) : Wp.isT (Wp.timeD m) = true :=
  Wp.IsOf.isT (t := Wp.timeD m) (m := ⟨m.y, m.mo, m.d, m.h, m.mi, m.s, Wp.wd (Wp.num m.y m.mo m.d)⟩) ⟨h, rfl, rfl⟩
theorem Wp.swT_mom {s : Wp.Sw} (h : Wp.SwOk s) {y : Int} (h1 : 1 ≤ y) (h2 : y ≤ 9999) (a : Int) :
    Wp.momOk ⟨y, s.mo, Wp.nthD y s.mo s.wd s.nth, s.mi / 60, s.mi % 60, 0, 0⟩ = true ∧ Wp.timeD ⟨y, s.mo, Wp.nthD y s.mo s.wd s.nth, s.mi / 60, s.mi % 60, 0, 0⟩ - a * 60 = Wp.swT s y a := by
  have hd := Wp.nthD_bd (y := y) (k := s.wd) ⟨h.m1, h.m2⟩ h.n1 h.n2
  have i1 := h.i1
  have i2 := h.i2
  refine ⟨Wp.momOk_iff.2 ⟨⟨h1, h2, h.m1, h.m2, hd.1, hd.2⟩, ?_⟩, ?_⟩
  · simp only []; omega
  · unfold Wp.timeD Wp.swT
    simp only []
    omega
set_option maxHeartbeats 1000000 in
theorem zon_turnAt_yes (s : Wp.Sw) (y a : Int) (w : World) (hL : Cv.Laid w) (h : Wp.SwOk s) (a1 : -900 ≤ a) (a2 : a ≤ 1020) (h1 : 1 ≤ y) (h2 : y ≤ 9999) :
    Calls Tryd.prog 88 #[.agg (Wp.swC s), .int .i64 y, .int .i64 a] w fun e w' => e = .returned (.tuple #[.int .i64 (Wp.swT s y a), .bool (Wp.swV s y a)]) ∧ Below w.heap.size w w' := by
  obtain ⟨hok, hT⟩ := Wp.swT_mom h h1 h2 a
  have hsv : Wp.swV s y a = Wp.isT (Wp.swT s y a) := by
    unfold Wp.swV; rw [decide_eq_true ⟨h1, h2⟩, Bool.true_and]
  rw [hsv]
  have A1 := Lib.hid (fun w hL => by
    have := civ_Nth y s.mo s.wd s.nth w hL
    rw [show Wp.nthR y s.mo s.wd s.nth = (Wp.nthD y s.mo s.wd s.nth, 0) from if_pos ⟨Wp.monB_iff.2 ⟨h1, h2, h.m1, h.m2⟩, h.w1, by have := h.w2; omega, h.n1, h.n2⟩] at this
    exact this)
  have A2 := Lib.hid (fun w hL => civ_Time_yes _ w hL hok)
  unfold Wp.momC at A2
  simp only [] at A1 A2
  have hbig := Wp.isT_yes (Wp.isT_timeD hok)
  generalize Wp.timeD _ = T at *
  obtain ⟨m1, m2, _, _, _, _, i1, i2⟩ := h
  generalize Wp.nthD y s.mo s.wd s.nth = D at *
  obtain ⟨u1, u2⟩ := hbig
  generalize Wp.swT s y a = r at *
  have HT := Lib.hid hT
  obtain ⟨mo, nth, wd, mi⟩ := s
  unfold Wp.swC
  simp only [] at *
  clear hT hsv hok
  have X0 := Lib.hid (cv_new w (.cells #[.int .i64 mo, .int .i64 nth, .int .i64 wd, .int .i64 mi] 46))
  have B0 := Lib.hid (Wp.below_box w (.cells #[.int .i64 mo, .int .i64 nth, .int .i64 wd, .int .i64 mi] 46))
  have H0 := Lib.hid (hL.below B0.out)
  clear hL
  go_enter Tryd.func88, Tryd.ntmps88
  go_wp2_with fail
  refine (A1.out _ H0.out).mono ?_
  rintro e w1 ⟨rfl, rfl⟩
  go_wp2_with fail
  refine (A2.out _ H0.out).mono ?_
  rintro e w1 ⟨rfl, b1⟩
  rw [World.size_alloc] at b1
  have B1 := B0.out.trans (b1.mono (by omega))
  go_wp2_with fail
  refine (zon_seconds a _ (by omega) (by omega)).mono ?_
  rintro e w2 ⟨rfl, rfl⟩
  go_wp2_with fail
  rw [HT.out]
  refine (zon_isTime r _).mono ?_
  rintro e w2 ⟨rfl, rfl⟩
  go_wp2_with fail
  go_ret2
  exact ⟨rfl, B1⟩
set_option maxHeartbeats 1000000 in
theorem zon_turnAt_no (s : Wp.Sw) (y a : Int) (w : World) (hL : Cv.Laid w) (h : ¬ (1 ≤ y ∧ y ≤ 9999)) :
    Calls Tryd.prog 88 #[.agg (Wp.swC s), .int .i64 y, .int .i64 a] w fun e w' => e = .returned (.tuple #[.int .i64 0, .bool false]) ∧ Below w.heap.size w w' := by
  have A1 := Lib.hid (fun w hL => by
    have := civ_Nth y s.mo s.wd s.nth w hL
    rw [show Wp.nthR y s.mo s.wd s.nth = (0, 1) from if_neg fun hc => h ⟨(Wp.monB_iff.1 hc.1).1, (Wp.monB_iff.1 hc.1).2.1⟩] at this
    exact this)
  simp only [] at A1
  obtain ⟨mo, nth, wd, mi⟩ := s
  unfold Wp.swC
  simp only [] at *
  clear h
  have B0 := Lib.hid (Wp.below_box w (.cells #[.int .i64 mo, .int .i64 nth, .int .i64 wd, .int .i64 mi] 46))
  have H0 := Lib.hid (hL.below B0.out)
  clear hL
  go_enter Tryd.func88, Tryd.ntmps88
  go_wp2_with fail
  refine (A1.out _ H0.out).mono ?_
  rintro e w1 ⟨rfl, rfl⟩
  go_wp2_with fail
  go_ret2
  exact ⟨rfl, B0.out⟩
/-- What turnAt tells. -/
def Wp.turnR (s : Wp.Sw) (y a : Int) : Int := if 1 ≤ y ∧ y ≤ 9999 then Wp.swT s y a else 0
theorem zon_turnAt (s : Wp.Sw) (y a : Int) (w : World) (hL : Cv.Laid w) (h : Wp.SwOk s) (a1 : -900 ≤ a) (a2 : a ≤ 1020) :
    Calls Tryd.prog 88 #[.agg (Wp.swC s), .int .i64 y, .int .i64 a] w fun e w' => e = .returned (.tuple #[.int .i64 (Wp.turnR s y a), .bool (Wp.swV s y a)]) ∧ Below w.heap.size w w' := by
  by_cases hy : 1 ≤ y ∧ y ≤ 9999
  · rw [show Wp.turnR s y a = Wp.swT s y a from if_pos hy]
    exact zon_turnAt_yes s y a w hL h a1 a2 hy.1 hy.2
  · rw [show Wp.turnR s y a = 0 from if_neg hy, show Wp.swV s y a = false by unfold Wp.swV; rw [decide_eq_false hy, Bool.false_and]]
    exact zon_turnAt_no s y a w hL hy
end Go.Proofs.YtpaleljnkejdgaaDoor
