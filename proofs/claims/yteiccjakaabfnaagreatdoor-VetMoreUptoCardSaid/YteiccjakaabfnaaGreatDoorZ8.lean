/-
  The table of the words that tags begin with: its cells, out of what the row lists of it. No condition but those that the theorems state.
  What the rows of tree's laws list, read: the table of the words, and the two errors. No condition but those that the theorems state.
-/
import Derived.Test.YteiccjakaabfnaaGreatDoorZ24
import Derived.Test.YteiccjakaabfnaaGreatDoorRows
import Derived.OpenShut
import Derived.LaidLaws
import Derived.Lib.LaidTab
import Derived.Test.YteiccjakaabfnaaGreatDoorZ32
import Derived.Stop.LaidTwo
namespace Go.Proofs.YteiccjakaabfnaaGreatDoor
open Go.ChangeShapes Go.WideShapes Go.RowKit

section
variable {H : Type} {enc : TypeId × Value → H} {W : World} {base : Nat} {sp : Nat → Bool} {hd : Bool} {n : Nat}
theorem Sc.strc {c : List Value} {l : List UInt8} {p : List MemPlace} (h : DataW.trod enc Tryz.prog W base sp hd n 9 c = some (.lit (.string l), p)) : c = [.string ⟨l.toArray⟩] := by
  obtain ⟨s, hy, hx, _⟩ := DataW.trod_string Tryz.underlying9 h
  simp only [Prod.mk.injEq, DataW.lit.injEq, Lit.string.injEq] at hx
  rw [hy, hx.1]
theorem Sc.fst_get {xs : List (DataW H × List MemPlace)} {l : List (DataW H)} (h : xs.map (·.1) = l) (i : Nat) {d : DataW H} (hd : l[i]? = some d) : ∃ p, xs[i]? = some (d, p) := by
  rw [← h, List.getElem?_map] at hd
  obtain ⟨x, hx, rfl⟩ := Option.map_eq_some_iff.1 hd
  exact ⟨x.2, hx⟩
set_option maxRecDepth 100000 in
theorem Sc.kwc {c : List Value} {p : List MemPlace} (h : DataW.trod enc Tryz.prog W base sp hd n 231 c = some (.agg [.lit (.string []), .lit (.string []), .lit (.string []), .lit (.string [105, 102]), .lit (.string [101, 108, 115, 101]), .lit (.string [101, 97, 99, 104]), .lit (.string [101, 110, 100])], p)) : c = Sc.kws.toList := by
  obtain ⟨xs, m, _, hx, hlen, _, hg⟩ := DataW.trod_array Tryz.underlying231 h
  have h1 : Tryz.prog.cellsOf 9 = 1 := by kernel_rfl
  have hl : c.length = 7 := hlen.trans (by kernel_rfl)
  rw [h1] at hg
  simp only [Prod.mk.injEq, DataW.agg.injEq] at hx
  have hm := hx.1.symm
  have key : ∀ i, i < 7 → ∀ w, ([[], [], [], [105, 102], [101, 108, 115, 101], [101, 97, 99, 104], [101, 110, 100]] : List (List UInt8))[i]? = some w → (c.drop (i * 1)).take 1 = [.string ⟨w.toArray⟩] := by
    intro i hi w hw
    obtain ⟨p, e⟩ := Sc.fst_get hm i (d := .lit (.string w)) (by
      have := congrArg (Option.map (fun w => (DataW.lit (.string w) : DataW H))) hw
      rw [← List.getElem?_map] at this
      exact this)
    exact Sc.strc ((hg i hi).trans e)
  have r0 := key 0 (by omega) _ rfl
  have r1 := key 1 (by omega) _ rfl
  have r2 := key 2 (by omega) _ rfl
  have r3 := key 3 (by omega) _ rfl
  have r4 := key 4 (by omega) _ rfl
  have r5 := key 5 (by omega) _ rfl
  have r6 := key 6 (by omega) _ rfl
  clear h hlen hg
  match c, hl, r0, r1, r2, r3, r4, r5, r6 with
  | [a0, a1, a2, a3, a4, a5, a6], _, r0, r1, r2, r3, r4, r5, r6 =>
    simp only [Nat.mul_one, List.drop_succ_cons, List.drop_zero, List.take_succ_cons, List.take_zero, List.cons.injEq, and_true] at r0 r1 r2 r3 r4 r5 r6
    subst r0 r1 r2 r3 r4 r5 r6
    rfl
end
theorem Sc.gKw : Tryz.prog.globalNamed "bellman/scan.keywords" = some 4 := by kernel_rfl
theorem Sc.gKwType : (Tryz.prog.globals[4]?).map (·.type) = some 231 := by kernel_rfl
set_option maxRecDepth 100000 in
theorem Sc.laid_of {W : World} {cs : Array Value} {fuel : Nat} {p : List MemPlace} (hv : W.var? Tryz.prog "bellman/scan.keywords" = some cs)
    (h : DataW.trod (fun _ => ()) Tryz.prog W 0 (fun _ => true) false fuel 231 cs.toList = some (Rows.laid_bellman_scan_keywords, p)) : Sc.Laid W := by
  have hc : cs.toList = Sc.kws.toList := Sc.kwc (p := p) (h.trans rfl)
  have hc2 : cs = Sc.kws := Array.toList_inj.1 hc
  subst hc2
  simp only [World.var?, Sc.gKw, Option.bind_some] at hv
  split at hv
  · next c t fr hh =>
    simp only [Option.some.injEq] at hv
    subst hv
    exact ⟨t, fr, hh⟩
  · cases hv
end Go.Proofs.YteiccjakaabfnaaGreatDoor
namespace Go.Proofs.YteiccjakaabfnaaGreatDoor
open Go.ChangeShapes Go.WideShapes Go.RowKit

theorem Nd.g0 : Tryz.prog.globalNamed "bellman/tree.errStray" = some 1 := by kernel_rfl
theorem Nd.g0Type : (Tryz.prog.globals[1]?).map (·.type) = some 93 := by kernel_rfl
theorem Nd.g1 : Tryz.prog.globalNamed "bellman/tree.errDeep" = some 2 := by kernel_rfl
theorem Nd.g1Type : (Tryz.prog.globals[2]?).map (·.type) = some 93 := by kernel_rfl
theorem Nd.var_heap {W : World} {nm : String} {g : Nat} {cs : Array Value} (hg : Tryz.prog.globalNamed nm = some g) (hv : W.var? Tryz.prog nm = some cs) : ∃ t fr, W.heap[g]? = some (.cells cs t fr) := by
  simp only [World.var?, hg, Option.bind_some] at hv
  split at hv
  · next c t fr hh =>
    simp only [Option.some.injEq] at hv
    subst hv
    exact ⟨t, fr, hh⟩
  · cases hv
theorem Nd.star : "*" ++ "errors.errorString" = "*errors.errorString" := by decide
theorem Nd.rowErr (u : TypeId) (h : Tryz.prog.typeName? 3 u = some "*errors.errorString") : u = 297 :=
  typeName_ptr_named (nm := "errors.errorString") (by rw [Nd.star]; kernel_rfl) (by kernel_rfl) (by decide) u (by rw [Nd.star]; exact h)
set_option maxRecDepth 100000 in
theorem Nd.laid_of {W : World} (h : laidMet Tryz.prog [("unicode/utf8.acceptRanges", Rows.laid_unicode_utf8_acceptRanges), ("bellman/scan.keywords", Rows.laid_bellman_scan_keywords), ("bellman/tree.errStray", Rows.laid_bellman_tree_errStray), ("bellman/tree.errDeep", Rows.laid_bellman_tree_errDeep), ("unicode/utf8.first", Rows.laid_unicode_utf8_first)] W) : Sc.Laid W ∧ ∃ a b, Nd.Errs W a b := by
  have h2 := laidMet.tail (laidMet.tail h)
  refine ⟨?_, ?_⟩
  · obtain ⟨_, ⟨_, _, _, _, _, _, _, _, _, _, ⟨g2, t2, c2, f2, p2, q2, hg2, ht2, hv2, hd2, _, _⟩, _⟩, _⟩ := h
    obtain rfl := Option.some.inj (Sc.gKwType.symm.trans ((Option.some.inj (Sc.gKw.symm.trans hg2) ▸ rfl : (Tryz.prog.globals[4]?).map (·.type) = (Tryz.prog.globals[g2]?).map (·.type)).trans ht2))
    exact Sc.laid_of hv2 hd2
  · obtain ⟨a0, a1, s0, s1, c0, c1, t0, t1, hv0, hv1, _, _, _, _, _, _, hne, hb0, hb1⟩ := laid_sentinels2 h2 Nd.g0 Nd.g0Type Nd.g1 Nd.g1Type Tryz.underlying93 (tp := 297) Nd.rowErr Tryz.underlying297 Tryz.underlying299 rfl rfl Tryz.underlying9 (by kernel_rfl) (by kernel_rfl)
    obtain ⟨_, _, hh0⟩ := Nd.var_heap Nd.g0 hv0
    obtain ⟨_, _, hh1⟩ := Nd.var_heap Nd.g1 hv1
    exact ⟨a0, a1, by rw [Lib.cell_of_heap hh0]; rfl, by rw [Lib.cell_of_heap hh1]; rfl, hne, ⟨c0, t0, hb0⟩, ⟨c1, t1, hb1⟩⟩
end Go.Proofs.YteiccjakaabfnaaGreatDoor
