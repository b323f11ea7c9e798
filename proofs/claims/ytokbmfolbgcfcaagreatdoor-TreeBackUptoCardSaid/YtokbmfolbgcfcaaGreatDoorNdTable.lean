
/-
  What the rows of tree's laws list, read: the table of the words, and the two errors. No condition but those that the theorems state.
-/
import Derived.Test.YtokbmfolbgcfcaaGreatDoorScTable
import Derived.Test.YtokbmfolbgcfcaaGreatDoorNdR
import Derived.Stop.LaidTwo
namespace Go.Proofs.YtokbmfolbgcfcaaGreatDoor
open Go.ChangeShapes Go.WideShapes Go.RowKit

theorem Nd.g0 : Tryz.prog.globalNamed "bellman/tree.errStray" = some 0 := by kernel_rfl
theorem Nd.g0Type : (Tryz.prog.globals[0]?).map (·.type) = some 58 := by kernel_rfl
theorem Nd.g1 : Tryz.prog.globalNamed "bellman/tree.errDeep" = some 1 := by kernel_rfl
theorem Nd.g1Type : (Tryz.prog.globals[1]?).map (·.type) = some 58 := by kernel_rfl
theorem Nd.var_heap {W : World} {nm : String} {g : Nat} {cs : Array Value} (hg : Tryz.prog.globalNamed nm = some g) (hv : W.var? Tryz.prog nm = some cs) : ∃ t fr, W.heap[g]? = some (.cells cs t fr) := by
  simp only [World.var?, hg, Option.bind_some] at hv
  split at hv
  · next c t fr hh =>
    simp only [Option.some.injEq] at hv
    subst hv
    exact ⟨t, fr, hh⟩
  · cases hv
theorem Nd.star : "*" ++ "errors.errorString" = "*errors.errorString" := by decide
theorem Nd.rowErr (u : TypeId) (h : Tryz.prog.typeName? 3 u = some "*errors.errorString") : u = 205 :=
  typeName_ptr_named (nm := "errors.errorString") (by rw [Nd.star]; kernel_rfl) (by kernel_rfl) (by decide) u (by rw [Nd.star]; exact h)
set_option maxRecDepth 100000 in
theorem Nd.laid_of {W : World} (h : laidMet Tryz.prog [("unicode/utf8.acceptRanges", Rows.laid_unicode_utf8_acceptRanges), ("bellman/scan.keywords", Rows.laid_bellman_scan_keywords), ("bellman/tree.errStray", Rows.laid_bellman_tree_errStray), ("bellman/tree.errDeep", Rows.laid_bellman_tree_errDeep), ("unicode/utf8.first", Rows.laid_unicode_utf8_first)] W) : Sc.Laid W ∧ ∃ a b, Nd.Errs W a b := by
  have h2 := laidMet.tail (laidMet.tail h)
  refine ⟨?_, ?_⟩
  · obtain ⟨_, ⟨_, _, _, _, _, _, _, _, _, _, ⟨g2, t2, c2, f2, p2, q2, hg2, ht2, hv2, hd2, _, _⟩, _⟩, _⟩ := h
    obtain rfl := Option.some.inj (Sc.gKwType.symm.trans ((Option.some.inj (Sc.gKw.symm.trans hg2) ▸ rfl : (Tryz.prog.globals[2]?).map (·.type) = (Tryz.prog.globals[g2]?).map (·.type)).trans ht2))
    exact Sc.laid_of hv2 hd2
  · obtain ⟨a0, a1, s0, s1, c0, c1, t0, t1, hv0, hv1, _, _, _, _, _, _, hne, hb0, hb1⟩ := laid_sentinels2 h2 Nd.g0 Nd.g0Type Nd.g1 Nd.g1Type Tryz.underlying58 (tp := 205) Nd.rowErr Tryz.underlying205 Tryz.underlying227 rfl rfl Tryz.underlying9 (by kernel_rfl) (by kernel_rfl)
    obtain ⟨_, _, hh0⟩ := Nd.var_heap Nd.g0 hv0
    obtain ⟨_, _, hh1⟩ := Nd.var_heap Nd.g1 hv1
    exact ⟨a0, a1, by rw [Lib.cell_of_heap hh0]; rfl, by rw [Lib.cell_of_heap hh1]; rfl, hne, ⟨c0, t0, hb0⟩, ⟨c1, t1, hb1⟩⟩
end Go.Proofs.YtokbmfolbgcfcaaGreatDoor
