/-
  The walk of the document's own time of a year's switch (bellmanref06.at). Conditions: the switch is right, the clocks are as far ahead as they may be.
-/
import Derived.Test.YtpaleljnkejdgaaDoorRZonCheck
import Derived.Test.YtpaleljnkejdgaaDoorZonTurn
import Derived.Test.YtpaleljnkejdgaaDoorCivRefWeek
namespace Go.Proofs.YtpaleljnkejdgaaDoor
open Go.RowKit

structure Wp.Fours (w : World) (g : Nat) (a b c d : Value) : Prop where
  c0 : w.cell? ⟨g, 0, none⟩ = some a
  c1 : w.cell? ⟨g, 1, none⟩ = some b
  c2 : w.cell? ⟨g, 2, none⟩ = some c
  c3 : w.cell? ⟨g, 3, none⟩ = some d
theorem Wp.fours_of {w : World} {g : Nat} {a b c d : Value} {t : TypeId} (h : w.heap[g]? = some (.cells #[a, b, c, d] t (0, 0))) : Wp.Fours w g a b c d :=
  ⟨by rw [Lib.cell_of_heap h]; rfl, by rw [Lib.cell_of_heap h]; rfl, by rw [Lib.cell_of_heap h]; rfl, by rw [Lib.cell_of_heap h]; rfl⟩
set_option maxHeartbeats 1000000 in
theorem rzon_at_yes (s : Wp.Sw) (y a : Int) (w : World) (h : Wp.SwOk s) (a1 : -900 ≤ a) (a2 : a ≤ 1020) (h1 : 1 ≤ y) (h2 : y ≤ 9999) :
    Calls Tryd.prog 79 #[.agg (Wp.swC s), .int .i64 y, .int .i64 a] w fun e w' => e = .returned (.tuple #[.int .i64 (Wp.swT s y a), .bool (Wp.swV s y a)]) ∧ Below w.heap.size w w' := by
  obtain ⟨hok, hT⟩ := Wp.swT_mom h h1 h2 a
  have hsv : Wp.swV s y a = Wp.isT (Wp.swT s y a) := by
    unfold Wp.swV; rw [decide_eq_true ⟨h1, h2⟩, Bool.true_and]
  rw [hsv]
  have A1 := Lib.hid (fun w => by
    have := rciv_Nth y s.mo s.wd s.nth w
    rw [show Wp.nthR y s.mo s.wd s.nth = (Wp.nthD y s.mo s.wd s.nth, 0) from if_pos ⟨Wp.monB_iff.2 ⟨h1, h2, h.m1, h.m2⟩, h.w1, by have := h.w2; omega, h.n1, h.n2⟩] at this
    exact this)
  have A2 := Lib.hid (fun w => rciv_Time_yes _ w hok)
  unfold Wp.momC at A2
  simp only [] at A1 A2
  have hbig := Wp.isT_yes (Wp.isT_timeD hok)
  generalize Wp.timeD _ = T at *
  obtain ⟨m1, m2, _, _, _, _, i1, i2⟩ := h
  generalize Wp.nthD y s.mo s.wd s.nth = D at *
  obtain ⟨u1, u2⟩ := hbig
  generalize Wp.swT s y a = r at *
  have HT := Lib.hid (show T - 60 * a = r by omega)
  obtain ⟨mo, nth, wd, mi⟩ := s
  unfold Wp.swC
  simp only [] at *
  clear hT hsv hok
  have X0 := Lib.hid (cv_new w (.cells #[.int .i64 mo, .int .i64 nth, .int .i64 wd, .int .i64 mi] 46))
  have B0 := Lib.hid (Wp.below_box w (.cells #[.int .i64 mo, .int .i64 nth, .int .i64 wd, .int .i64 mi] 46))
  go_enter Tryd.func79, Tryd.ntmps79
  go_wp2_with fail
  refine (A1.out _).mono ?_
  rintro e w1 ⟨rfl, hb⟩
  have B1 := Lib.hid (cv_then B0.out hb B0.out.size)
  have S1 : w.heap.size < w1.heap.size := by have := hb.size; rw [World.size_alloc] at this; omega
  have X1 := Lib.hid ((hb.block w.heap.size (by rw [World.size_alloc]; omega)).trans X0.out)
  clear hb
  obtain ⟨c0, c1, c2, c3⟩ := Wp.fours_of X1.out
  go_wp2_with fail
  refine (A2.out _).mono ?_
  rintro e w2 ⟨rfl, hb⟩
  have B2 := Lib.hid (cv_then B1.out hb B1.out.size)
  clear hb
  go_wp2_with fail
  rw [HT.out]
  refine (rciv_Is r _).mono ?_
  rintro e w3 ⟨rfl, rfl⟩
  go_wp2_with fail
  go_ret2
  exact ⟨rfl, B2.out⟩
set_option maxHeartbeats 1000000 in
theorem rzon_at_no (s : Wp.Sw) (y a : Int) (w : World) (h : ¬ (1 ≤ y ∧ y ≤ 9999)) :
    Calls Tryd.prog 79 #[.agg (Wp.swC s), .int .i64 y, .int .i64 a] w fun e w' => e = .returned (.tuple #[.int .i64 0, .bool false]) ∧ Below w.heap.size w w' := by
  have A1 := Lib.hid (fun w => by
    have := rciv_Nth y s.mo s.wd s.nth w
    rw [show Wp.nthR y s.mo s.wd s.nth = (0, 1) from if_neg fun hc => h ⟨(Wp.monB_iff.1 hc.1).1, (Wp.monB_iff.1 hc.1).2.1⟩] at this
    exact this)
  simp only [] at A1
  obtain ⟨mo, nth, wd, mi⟩ := s
  unfold Wp.swC
  simp only [] at *
  clear h
  have B0 := Lib.hid (Wp.below_box w (.cells #[.int .i64 mo, .int .i64 nth, .int .i64 wd, .int .i64 mi] 46))
  go_enter Tryd.func79, Tryd.ntmps79
  go_wp2_with fail
  refine (A1.out _).mono ?_
  rintro e w1 ⟨rfl, hb⟩
  have B1 := Lib.hid (cv_then B0.out hb B0.out.size)
  clear hb
  go_wp2_with fail
  go_ret2
  exact ⟨rfl, B1.out⟩
theorem rzon_at (s : Wp.Sw) (y a : Int) (w : World) (h : Wp.SwOk s) (a1 : -900 ≤ a) (a2 : a ≤ 1020) :
    Calls Tryd.prog 79 #[.agg (Wp.swC s), .int .i64 y, .int .i64 a] w fun e w' => e = .returned (.tuple #[.int .i64 (Wp.turnR s y a), .bool (Wp.swV s y a)]) ∧ Below w.heap.size w w' := by
  by_cases hy : 1 ≤ y ∧ y ≤ 9999
  · rw [show Wp.turnR s y a = Wp.swT s y a from if_pos hy]
    exact rzon_at_yes s y a w h a1 a2 hy.1 hy.2
  · rw [show Wp.turnR s y a = 0 from if_neg hy, show Wp.swV s y a = false by unfold Wp.swV; rw [decide_eq_false hy, Bool.false_and]]
    exact rzon_at_no s y a w hy
end Go.Proofs.YtpaleljnkejdgaaDoor
