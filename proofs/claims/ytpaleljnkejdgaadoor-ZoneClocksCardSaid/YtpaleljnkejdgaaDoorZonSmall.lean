/-
  The walks of zone's small calls: which zones are right, what a summer's clocks are ahead, seconds, times. No condition but those that the theorems state.
-/
import Derived.Test.YtpaleljnkejdgaaDoorZonPlain
import Derived.Test.YtpaleljnkejdgaaDoorCivTime
import Derived.Lib.BufferMore
namespace Go.Proofs.YtpaleljnkejdgaaDoor
open Go.RowKit

theorem zon_isTime (t : Int) (w : World) : Calls Tryd.prog 78 #[.int .i64 t] w fun e w' => e = .returned (.bool (Wp.isT t)) ∧ w = w' := by
  unfold Wp.isT
  by_cases h : -62135596800 ≤ t
  · rw [decide_eq_true h, Bool.true_and]
    go_enter Tryd.func78, Tryd.ntmps78
    go_wp2_with fail
    go_ret
    exact ⟨rfl, rfl⟩
  · rw [decide_eq_false h, Bool.false_and]
    have h2 : t < -62135596800 := by omega
    go_enter Tryd.func78, Tryd.ntmps78
    go_wp2_with fail
    go_ret
    exact ⟨rfl, rfl⟩
theorem zon_seconds (n : Int) (w : World) (h1 : -2000 ≤ n) (h2 : n ≤ 2000) : Calls Tryd.prog 55 #[.int .i64 n] w fun e w' => e = .returned (.int .i64 (n * 60)) ∧ w = w' := by
  go_enter Tryd.func55, Tryd.ntmps55
  go_wp2_with fail
  go_ret
  exact ⟨rfl, rfl⟩
theorem Wp.below_box (w : World) (o : Obj) : Below w.heap.size w (w.alloc o) := (Below.refl _ _).alloc (Nat.le_refl _) o
theorem zon_summer (z : Wp.Zn) (w : World) (h : Wp.ClkOk z) : Calls Tryd.prog 89 #[.agg (Wp.zoneC z)] w fun e w' => e = .returned (.int .i64 (z.base + z.save)) ∧ Below w.heap.size w w' := by
  obtain ⟨h1, h2, h3, h4⟩ := h
  obtain ⟨base, save, ⟨fm, fn, fw, fi⟩, ⟨tm, tn, tw, ti⟩⟩ := z
  unfold Wp.zoneC
  simp only [] at *
  go_enter Tryd.func89, Tryd.ntmps89
  go_wp2_with fail
  go_ret
  exact ⟨rfl, Wp.below_box _ _⟩
theorem zon_clocks_yes (z : Wp.Zn) (w : World) (h : Wp.ClkOk z) : Calls Tryd.prog 58 #[.agg (Wp.zoneC z)] w fun e w' => e = .returned (.bool true) ∧ Below w.heap.size w w' := by
  obtain ⟨h1, h2, h3, h4⟩ := h
  obtain ⟨base, save, ⟨fm, fn, fw, fi⟩, ⟨tm, tn, tw, ti⟩⟩ := z
  unfold Wp.zoneC
  simp only [] at *
  go_enter Tryd.func58, Tryd.ntmps58
  go_wp2_with fail
  go_ret
  exact ⟨rfl, Wp.below_box _ _⟩
theorem zon_clocks_no (z : Wp.Zn) (w : World) (h : ¬ Wp.ClkOk z) : Calls Tryd.prog 58 #[.agg (Wp.zoneC z)] w fun e w' => e = .returned (.bool false) ∧ Below w.heap.size w w' := by
  have h' : z.base < -900 ∨ (-900 ≤ z.base ∧ 900 < z.base) ∨ (-900 ≤ z.base ∧ z.base ≤ 900 ∧ z.save < 0) ∨ (-900 ≤ z.base ∧ z.base ≤ 900 ∧ 0 ≤ z.save ∧ 120 < z.save) := by
    by_cases g : -900 ≤ z.base ∧ z.base ≤ 900 ∧ 0 ≤ z.save ∧ z.save ≤ 120
    · exact absurd ⟨g.1, g.2.1, g.2.2.1, g.2.2.2⟩ h
    · omega
  clear h
  obtain ⟨base, save, ⟨fm, fn, fw, fi⟩, ⟨tm, tn, tw, ti⟩⟩ := z
  unfold Wp.zoneC
  simp only [] at *
  rcases h' with h | ⟨h1, h⟩ | ⟨h1, h2, h⟩ | ⟨h1, h2, h3, h⟩
  case inr.inr.inr =>
    have q : decide (save ≤ 120) = false := decide_eq_false (by omega)
    go_enter Tryd.func58, Tryd.ntmps58
    go_wp2_with fail
    go_ret
    exact ⟨rfl, Wp.below_box _ _⟩
  all_goals
    go_enter Tryd.func58, Tryd.ntmps58
    go_wp2_with fail
    go_ret
    exact ⟨rfl, Wp.below_box _ _⟩
set_option maxHeartbeats 1000000 in
theorem zon_switch_yes (s : Wp.Sw) (w : World) (h : Wp.SwOk s) : Calls Tryd.prog 93 #[.agg (Wp.swC s)] w fun e w' => e = .returned (.bool true) ∧ Below w.heap.size w w' := by
  obtain ⟨h1, h2, h3, h4, h5, h6, h7, h8⟩ := h
  obtain ⟨mo, nth, wd, mi⟩ := s
  unfold Wp.swC
  simp only [] at *
  go_enter Tryd.func93, Tryd.ntmps93
  go_wp2_with fail
  go_ret
  exact ⟨rfl, Wp.below_box _ _⟩
theorem Wp.SwOk.no {s : Wp.Sw} (h : ¬ Wp.SwOk s) : s.mo < 1 ∨ (1 ≤ s.mo ∧ 12 < s.mo) ∨ (1 ≤ s.mo ∧ s.mo ≤ 12 ∧ s.nth < 1) ∨ (1 ≤ s.mo ∧ s.mo ≤ 12 ∧ 1 ≤ s.nth ∧ 5 < s.nth) ∨ (1 ≤ s.mo ∧ s.mo ≤ 12 ∧ 1 ≤ s.nth ∧ s.nth ≤ 5 ∧ s.wd < 0) ∨ (1 ≤ s.mo ∧ s.mo ≤ 12 ∧ 1 ≤ s.nth ∧ s.nth ≤ 5 ∧ 0 ≤ s.wd ∧ 6 < s.wd) ∨ (1 ≤ s.mo ∧ s.mo ≤ 12 ∧ 1 ≤ s.nth ∧ s.nth ≤ 5 ∧ 0 ≤ s.wd ∧ s.wd ≤ 6 ∧ s.mi < 0) ∨ (1 ≤ s.mo ∧ s.mo ≤ 12 ∧ 1 ≤ s.nth ∧ s.nth ≤ 5 ∧ 0 ≤ s.wd ∧ s.wd ≤ 6 ∧ 0 ≤ s.mi ∧ 1440 ≤ s.mi) := by
  by_cases g : 1 ≤ s.mo ∧ s.mo ≤ 12 ∧ 1 ≤ s.nth ∧ s.nth ≤ 5 ∧ 0 ≤ s.wd ∧ s.wd ≤ 6 ∧ 0 ≤ s.mi ∧ s.mi < 1440
  · exact absurd ⟨g.1, g.2.1, g.2.2.1, g.2.2.2.1, g.2.2.2.2.1, g.2.2.2.2.2.1, g.2.2.2.2.2.2.1, g.2.2.2.2.2.2.2⟩ h
  · omega
set_option maxHeartbeats 2000000 in
theorem zon_switch_no (s : Wp.Sw) (w : World) (h : ¬ Wp.SwOk s) : Calls Tryd.prog 93 #[.agg (Wp.swC s)] w fun e w' => e = .returned (.bool false) ∧ Below w.heap.size w w' := by
  have h' := Wp.SwOk.no h
  clear h
  obtain ⟨mo, nth, wd, mi⟩ := s
  unfold Wp.swC
  simp only [] at *
  rcases h' with h | ⟨h1, h⟩ | ⟨h1, h2, h⟩ | ⟨h1, h2, h3, h⟩ | ⟨h1, h2, h3, h4, h⟩ | ⟨h1, h2, h3, h4, h5, h⟩ | ⟨h1, h2, h3, h4, h5, h6, h⟩ | ⟨h1, h2, h3, h4, h5, h6, h7, h⟩
  case inr.inr.inr.inr.inr.inr.inr =>
    have q : decide (mi < 1440) = false := decide_eq_false (by omega)
    go_enter Tryd.func93, Tryd.ntmps93
    go_wp2_with fail
    go_ret
    exact ⟨rfl, Wp.below_box _ _⟩
  all_goals
    go_enter Tryd.func93, Tryd.ntmps93
    go_wp2_with fail
    go_ret
    exact ⟨rfl, Wp.below_box _ _⟩
/-- The cells of a zone's box. -/
structure Wp.Ten (w : World) (g : Nat) (a b c d e f h i j k : Value) : Prop where
  c0 : w.cell? ⟨g, 0, none⟩ = some a
  c1 : w.cell? ⟨g, 1, none⟩ = some b
  c2 : w.cell? ⟨g, 2, none⟩ = some c
  c3 : w.cell? ⟨g, 3, none⟩ = some d
  c4 : w.cell? ⟨g, 4, none⟩ = some e
  c5 : w.cell? ⟨g, 5, none⟩ = some f
  c6 : w.cell? ⟨g, 6, none⟩ = some h
  c7 : w.cell? ⟨g, 7, none⟩ = some i
  c8 : w.cell? ⟨g, 8, none⟩ = some j
  c9 : w.cell? ⟨g, 9, none⟩ = some k
theorem Wp.ten_of {w : World} {g : Nat} {a b c d e f h i j k : Value} {t : TypeId} (hh : w.heap[g]? = some (.cells #[a, b, c, d, e, f, h, i, j, k] t (0, 0))) : Wp.Ten w g a b c d e f h i j k :=
  ⟨by rw [Lib.cell_of_heap hh]; rfl, by rw [Lib.cell_of_heap hh]; rfl, by rw [Lib.cell_of_heap hh]; rfl, by rw [Lib.cell_of_heap hh]; rfl, by rw [Lib.cell_of_heap hh]; rfl, by rw [Lib.cell_of_heap hh]; rfl, by rw [Lib.cell_of_heap hh]; rfl, by rw [Lib.cell_of_heap hh]; rfl, by rw [Lib.cell_of_heap hh]; rfl, by rw [Lib.cell_of_heap hh]; rfl⟩
end Go.Proofs.YtpaleljnkejdgaaDoor
