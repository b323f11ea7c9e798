/-
  The walks of the document's own zone answer (bellmanref06): which switches are right, how far they are apart. No condition but those that the theorems state.
-/
import Derived.Test.YtpaleljnkejdgaaDoorZonSmall
namespace Go.Proofs.YtpaleljnkejdgaaDoor
open Go.RowKit

set_option maxHeartbeats 1000000 in
theorem rzon_right_yes (s : Wp.Sw) (w : World) (h : Wp.SwOk s) : Calls Tryd.prog 60 #[.agg (Wp.swC s)] w fun e w' => e = .returned (.bool true) ∧ Below w.heap.size w w' := by
  obtain ⟨h1, h2, h3, h4, h5, h6, h7, h8⟩ := h
  obtain ⟨mo, nth, wd, mi⟩ := s
  unfold Wp.swC
  simp only [] at *
  have h9 : mi ≤ 1439 := by omega
  go_enter Tryd.func60, Tryd.ntmps60
  go_wp2_with fail
  go_ret
  exact ⟨rfl, Wp.below_box _ _⟩
set_option maxHeartbeats 2000000 in
theorem rzon_right_no (s : Wp.Sw) (w : World) (h : ¬ Wp.SwOk s) : Calls Tryd.prog 60 #[.agg (Wp.swC s)] w fun e w' => e = .returned (.bool false) ∧ Below w.heap.size w w' := by
  have h' := Wp.SwOk.no h
  clear h
  obtain ⟨mo, nth, wd, mi⟩ := s
  unfold Wp.swC
  simp only [] at *
  rcases h' with h | ⟨h1, h⟩ | ⟨h1, h2, h⟩ | ⟨h1, h2, h3, h⟩ | ⟨h1, h2, h3, h4, h⟩ | ⟨h1, h2, h3, h4, h5, h⟩ | ⟨h1, h2, h3, h4, h5, h6, h⟩ | ⟨h1, h2, h3, h4, h5, h6, h7, h⟩
  case inr.inr.inr.inr.inr.inr.inr =>
    have q : decide (mi ≤ 1439) = false := decide_eq_false (by omega)
    go_enter Tryd.func60, Tryd.ntmps60
    go_wp2_with fail
    go_ret
    exact ⟨rfl, Wp.below_box _ _⟩
  all_goals
    go_enter Tryd.func60, Tryd.ntmps60
    go_wp2_with fail
    go_ret
    exact ⟨rfl, Wp.below_box _ _⟩
theorem Wp.apart_def (z : Wp.Zn) : Wp.apart z = if z.fr.mo - z.to.mo < 0 then z.fr.mo - z.to.mo + 12 else z.fr.mo - z.to.mo := rfl
set_option maxHeartbeats 1000000 in
theorem rzon_apart (z : Wp.Zn) (w : World) (h1 : 1 ≤ z.fr.mo) (h2 : z.fr.mo ≤ 12) (h3 : 1 ≤ z.to.mo) (h4 : z.to.mo ≤ 12) : Calls Tryd.prog 61 #[.agg (Wp.zoneC z)] w fun e w' => e = .returned (.int .i64 (Wp.apart z)) ∧ Below w.heap.size w w' := by
  rw [Wp.apart_def]
  obtain ⟨base, save, ⟨fm, fn, fw, fi⟩, ⟨tm, tn, tw, ti⟩⟩ := z
  unfold Wp.zoneC
  simp only [] at *
  by_cases hlt : fm - tm < 0
  · rw [if_pos hlt]
    go_enter Tryd.func61, Tryd.ntmps61
    go_wp2_with fail
    go_ret
    exact ⟨rfl, Wp.below_box _ _⟩
  · rw [if_neg hlt]
    go_enter Tryd.func61, Tryd.ntmps61
    go_wp2_with fail
    go_ret
    exact ⟨rfl, Wp.below_box _ _⟩
end Go.Proofs.YtpaleljnkejdgaaDoor
