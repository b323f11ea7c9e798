/-
  The walks of the document's own answer for the calendar (bellmanref05): Time, Nth, Of and Week. No condition but those that the theorems state.
-/
import Derived.Test.YtpaleljnkejdgaaDoorCivRef
import Derived.Lib.BufferMore
import Derived.Deep.RegionHeld3
import Derived.IntWalk
namespace Go.Proofs.YtpaleljnkejdgaaDoor
open Go.RowKit

/-- What a box of a moment holds. -/
structure Wp.Seven (w : World) (g : Nat) (a b c d e f k : Value) : Prop where
  c0 : w.cell? ⟨g, 0, none⟩ = some a
  c1 : w.cell? ⟨g, 1, none⟩ = some b
  c2 : w.cell? ⟨g, 2, none⟩ = some c
  c3 : w.cell? ⟨g, 3, none⟩ = some d
  c4 : w.cell? ⟨g, 4, none⟩ = some e
  c5 : w.cell? ⟨g, 5, none⟩ = some f
  c6 : w.cell? ⟨g, 6, none⟩ = some k
structure Wp.SevenF (w : World) (g : Nat) : Prop where
  f0 : w.frozen? ⟨g, 0, none⟩ = false
  f1 : w.frozen? ⟨g, 1, none⟩ = false
  f2 : w.frozen? ⟨g, 2, none⟩ = false
  f3 : w.frozen? ⟨g, 3, none⟩ = false
  f4 : w.frozen? ⟨g, 4, none⟩ = false
  f5 : w.frozen? ⟨g, 5, none⟩ = false
  f6 : w.frozen? ⟨g, 6, none⟩ = false
theorem Wp.seven_of {w : World} {g : Nat} {a b c d e f k : Value} {t : TypeId} (h : w.heap[g]? = some (.cells #[a, b, c, d, e, f, k] t (0, 0))) : Wp.Seven w g a b c d e f k :=
  ⟨by rw [Lib.cell_of_heap h]; rfl, by rw [Lib.cell_of_heap h]; rfl, by rw [Lib.cell_of_heap h]; rfl, by rw [Lib.cell_of_heap h]; rfl, by rw [Lib.cell_of_heap h]; rfl, by rw [Lib.cell_of_heap h]; rfl, by rw [Lib.cell_of_heap h]; rfl⟩
theorem Wp.sevenF_of {w : World} {g : Nat} {a b c d e f k : Value} {t : TypeId} (h : w.heap[g]? = some (.cells #[a, b, c, d, e, f, k] t (0, 0))) : Wp.SevenF w g :=
  ⟨by simp [World.frozen?, h], by simp [World.frozen?, h], by simp [World.frozen?, h], by simp [World.frozen?, h], by simp [World.frozen?, h], by simp [World.frozen?, h], by simp [World.frozen?, h]⟩
theorem seven_set {w : World} {g : Nat} {a b c d e f k : Value} {t : TypeId} (h : w.heap[g]? = some (.cells #[a, b, c, d, e, f, k] t (0, 0))) (a' b' c' d' e' f' k' : Value) :
    (((((((w.setCell ⟨g, 0, none⟩ a').setCell ⟨g, 1, none⟩ b').setCell ⟨g, 2, none⟩ c').setCell ⟨g, 3, none⟩ d').setCell ⟨g, 4, none⟩ e').setCell ⟨g, 5, none⟩ f').setCell ⟨g, 6, none⟩ k').heap[g]? = some (.cells #[a', b', c', d', e', f', k'] t (0, 0)) :=
  (Lib.heap_setCell_same (i := 6) (Lib.heap_setCell_same (i := 5) (Lib.heap_setCell_same (i := 4) (Lib.heap_setCell_same (i := 3) (Lib.heap_setCell_same (i := 2) (Lib.heap_setCell_same (i := 1) (Lib.heap_setCell_same (i := 0) h a') b') c') d') e') f') k').trans (by simp)
theorem seven_rest (w : World) (g : Nat) (a' b' c' d' e' f' k' : Value) (j : Nat) (hj : j ≠ g) :
    (((((((w.setCell ⟨g, 0, none⟩ a').setCell ⟨g, 1, none⟩ b').setCell ⟨g, 2, none⟩ c').setCell ⟨g, 3, none⟩ d').setCell ⟨g, 4, none⟩ e').setCell ⟨g, 5, none⟩ f').setCell ⟨g, 6, none⟩ k').heap[j]? = w.heap[j]? := by
  rw [Below.heap_setCell _ _ _ _ (by simpa using hj), Below.heap_setCell _ _ _ _ (by simpa using hj), Below.heap_setCell _ _ _ _ (by simpa using hj), Below.heap_setCell _ _ _ _ (by simpa using hj), Below.heap_setCell _ _ _ _ (by simpa using hj), Below.heap_setCell _ _ _ _ (by simpa using hj), Below.heap_setCell _ _ _ _ (by simpa using hj)]
theorem seven_below {w0 w : World} {B g : Nat} (h : Below B w0 w) (hg : B ≤ g) (a' b' c' d' e' f' k' : Value) :
    Below B w0 (((((((w.setCell ⟨g, 0, none⟩ a').setCell ⟨g, 1, none⟩ b').setCell ⟨g, 2, none⟩ c').setCell ⟨g, 3, none⟩ d').setCell ⟨g, 4, none⟩ e').setCell ⟨g, 5, none⟩ f').setCell ⟨g, 6, none⟩ k') :=
  ((((((h.setCell (p := ⟨g, 0, none⟩) hg a').setCell (p := ⟨g, 1, none⟩) hg b').setCell (p := ⟨g, 2, none⟩) hg c').setCell (p := ⟨g, 3, none⟩) hg d').setCell (p := ⟨g, 4, none⟩) hg e').setCell (p := ⟨g, 5, none⟩) hg f').setCell (p := ⟨g, 6, none⟩) hg k'

theorem Wp.timeD_comm (m : Wp.Mom) : Wp.timeD m = -62135596800 + 86400 * Wp.num m.y m.mo m.d + (3600 * m.h + 60 * m.mi + m.s) := by unfold Wp.timeD; omega
set_option maxHeartbeats 1000000 in
theorem rciv_Time_yes (m : Wp.Mom) (w : World) (hm : Wp.momOk m = true) :
    Calls Tryd.prog 64 #[.agg (Wp.momC m)] w fun e w' => e = .returned (.tuple #[.int .i64 (Wp.timeD m), .int .i64 0]) ∧ Below w.heap.size w w' := by
  obtain ⟨hd, a1, a2, a3, a4, a5, a6⟩ := Wp.momOk_iff.1 hm
  have Ht := Lib.hid (Wp.timeD_comm m)
  generalize Wp.timeD m = r at *
  obtain ⟨y, mo, d, h, mi, s, k⟩ := m
  simp only [] at hd a1 a2 a3 a4 a5 a6 Ht
  unfold Wp.momC
  simp only []
  have hr := hd.range
  have hb := (Wp.dy_bd (y := y) hd.m1 hd.m2).2
  have h5 := hd.d2
  have A1 := Lib.hid (fun w => rciv_there_yes y mo d w hd)
  have A2 := Lib.hid (fun w => rciv_day y mo d w hd.y1 hd.y2 hd.m1 hd.m2 hd.d1 (by omega))
  generalize Wp.num y mo d = b at *
  obtain ⟨r1, r2⟩ := hr
  clear hm hd hb h5
  have X0 := Lib.hid (cv_new w (.cells #[.int .i64 y, .int .i64 mo, .int .i64 d, .int .i64 h, .int .i64 mi, .int .i64 s, .int .i64 k] 52))
  have B0 := Lib.hid ((Below.refl w.heap.size w).alloc (Nat.le_refl _) (.cells #[.int .i64 y, .int .i64 mo, .int .i64 d, .int .i64 h, .int .i64 mi, .int .i64 s, .int .i64 k] 52))
  go_enter Tryd.func64, Tryd.ntmps64
  go_wp2_with fail
  refine (A1.out _).mono ?_
  rintro e w1 ⟨rfl, b1⟩
  rw [World.size_alloc] at b1
  have x1 := (b1.block w.heap.size (by omega)).trans X0.out
  have X1 := Lib.hid x1
  have B1 := B0.out.trans (b1.mono (by omega))
  have s1 : w.heap.size < w1.heap.size := by have := b1.size; rw [World.size_alloc] at this; omega
  obtain ⟨c0, c1, c2, c3, c4, c5, c6⟩ := Wp.seven_of x1
  clear x1
  go_wp2_with fail
  have q1 : IntKind.i64.wrap (86400 * b) = 86400 * b := IntWalk.i64_in _ (by omega)
  have q2 : IntKind.i64.wrap (-62135596800 + 86400 * b) = -62135596800 + 86400 * b := IntWalk.i64_in _ (by omega)
  have q3 : IntKind.i64.wrap (3600 * h) = 3600 * h := IntWalk.i64_in _ (by omega)
  have q4 : IntKind.i64.wrap (60 * mi) = 60 * mi := IntWalk.i64_in _ (by omega)
  have q5 : IntKind.i64.wrap (3600 * h + 60 * mi) = 3600 * h + 60 * mi := IntWalk.i64_in _ (by omega)
  have q6 : IntKind.i64.wrap (3600 * h + 60 * mi + s) = 3600 * h + 60 * mi + s := IntWalk.i64_in _ (by omega)
  have q7 : IntKind.i64.wrap (-62135596800 + 86400 * b + (3600 * h + 60 * mi + s)) = -62135596800 + 86400 * b + (3600 * h + 60 * mi + s) := IntWalk.i64_in _ (by omega)
  go_region_held3 (fun w' => w'.cell? ⟨w.heap.size, 0, none⟩ = some (.int .i64 y) ∧ w'.cell? ⟨w.heap.size, 1, none⟩ = some (.int .i64 mo) ∧ w'.cell? ⟨w.heap.size, 2, none⟩ = some (.int .i64 d) ∧ w'.cell? ⟨w.heap.size, 3, none⟩ = some (.int .i64 h) ∧ w'.cell? ⟨w.heap.size, 4, none⟩ = some (.int .i64 mi) ∧ w'.cell? ⟨w.heap.size, 5, none⟩ = some (.int .i64 s))
    (first
      | (go_keep; done)
      | (exact ⟨(e7.cell (p := ⟨w.heap.size, 0, none⟩) s1).trans c0, (e7.cell (p := ⟨w.heap.size, 1, none⟩) s1).trans c1, (e7.cell (p := ⟨w.heap.size, 2, none⟩) s1).trans c2, (e7.cell (p := ⟨w.heap.size, 3, none⟩) s1).trans c3, (e7.cell (p := ⟨w.heap.size, 4, none⟩) s1).trans c4, (e7.cell (p := ⟨w.heap.size, 5, none⟩) s1).trans c5⟩))
    (first
      | (go_at_call 99; (with_reducible refine (A2.out _).mono ?_); rintro e w2 ⟨rfl, b2⟩; have e7 : Below w1.heap.size w1 w2 := ((Below.refl _ w1).drew.trans b2)))
  go_wp2_with fail
  go_ret2
  rw [Ht.out]
  exact ⟨rfl, B1.trans (e7.mono B1.size)⟩
theorem Wp.momOk_no2 {m : Wp.Mom} (h : Wp.momOk m = false) : ¬ Wp.Day m.y m.mo m.d ∨ (Wp.Day m.y m.mo m.d ∧ m.h < 0) ∨ (Wp.Day m.y m.mo m.d ∧ 0 ≤ m.h ∧ 23 < m.h) ∨ (Wp.Day m.y m.mo m.d ∧ 0 ≤ m.h ∧ m.h ≤ 23 ∧ m.mi < 0) ∨ (Wp.Day m.y m.mo m.d ∧ 0 ≤ m.h ∧ m.h ≤ 23 ∧ 0 ≤ m.mi ∧ 59 < m.mi) ∨ (Wp.Day m.y m.mo m.d ∧ 0 ≤ m.h ∧ m.h ≤ 23 ∧ 0 ≤ m.mi ∧ m.mi ≤ 59 ∧ m.s < 0) ∨ (Wp.Day m.y m.mo m.d ∧ 0 ≤ m.h ∧ m.h ≤ 23 ∧ 0 ≤ m.mi ∧ m.mi ≤ 59 ∧ 0 ≤ m.s ∧ 59 < m.s) := by
  by_cases h1 : Wp.Day m.y m.mo m.d
  · refine Or.inr ?_
    have hn : ¬ (0 ≤ m.h ∧ m.h < 24 ∧ 0 ≤ m.mi ∧ m.mi < 60 ∧ 0 ≤ m.s ∧ m.s < 60) := fun hc => by rw [Wp.momOk_iff.2 ⟨h1, hc⟩] at h; cases h
    simp only [h1, true_and]
    omega
  · exact Or.inl h1
set_option maxHeartbeats 1000000 in
theorem rciv_Time_no (m : Wp.Mom) (w : World) (hm : Wp.momOk m = false) :
    Calls Tryd.prog 64 #[.agg (Wp.momC m)] w fun e w' => e = .returned (.tuple #[.int .i64 0, .int .i64 2]) ∧ Below w.heap.size w w' := by
  have hc := Wp.momOk_no2 hm
  clear hm
  obtain ⟨y, mo, d, h, mi, s, k⟩ := m
  simp only [] at hc
  unfold Wp.momC
  simp only []
  have X0 := Lib.hid (cv_new w (.cells #[.int .i64 y, .int .i64 mo, .int .i64 d, .int .i64 h, .int .i64 mi, .int .i64 s, .int .i64 k] 52))
  have B0 := Lib.hid ((Below.refl w.heap.size w).alloc (Nat.le_refl _) (.cells #[.int .i64 y, .int .i64 mo, .int .i64 d, .int .i64 h, .int .i64 mi, .int .i64 s, .int .i64 k] 52))
  rcases hc with h0 | ⟨h0, h1⟩ | ⟨h0, h1, h2⟩ | ⟨h0, h1, h2, h3⟩ | ⟨h0, h1, h2, h3, h4⟩ | ⟨h0, h1, h2, h3, h4, h5⟩ | ⟨h0, h1, h2, h3, h4, h5, h6⟩
  case inl =>
    have A1 := Lib.hid (fun w => rciv_there_no y mo d w h0)
    clear h0
    go_enter Tryd.func64, Tryd.ntmps64
    go_wp2_with fail
    refine (A1.out _).mono ?_
    rintro e w1 ⟨rfl, b1⟩
    rw [World.size_alloc] at b1
    have B1 := B0.out.trans (b1.mono (by omega))
    go_wp2_with fail
    go_ret2
    exact ⟨rfl, B1⟩
  all_goals
    have A1 := Lib.hid (fun w => rciv_there_yes y mo d w h0)
    clear h0
    go_enter Tryd.func64, Tryd.ntmps64
    go_wp2_with fail
    refine (A1.out _).mono ?_
    rintro e w1 ⟨rfl, b1⟩
    rw [World.size_alloc] at b1
    have x1 := (b1.block w.heap.size (by omega)).trans X0.out
    have B1 := B0.out.trans (b1.mono (by omega))
    obtain ⟨c0, c1, c2, c3, c4, c5, c6⟩ := Wp.seven_of x1
    clear x1
    go_wp2_with fail
    go_ret2
    exact ⟨rfl, B1⟩
theorem rciv_Time (m : Wp.Mom) (w : World) :
    Calls Tryd.prog 64 #[.agg (Wp.momC m)] w fun e w' => e = .returned (.tuple #[.int .i64 (Wp.timeR m).1, .int .i64 (Wp.timeR m).2]) ∧ Below w.heap.size w w' := by
  cases hm : Wp.momOk m with
  | true => rw [show Wp.timeR m = (Wp.timeD m, 0) from if_pos hm]; exact rciv_Time_yes m w hm
  | false => rw [show Wp.timeR m = (0, 2) from if_neg (by rw [hm]; simp)]; exact rciv_Time_no m w hm
end Go.Proofs.YtpaleljnkejdgaaDoor
