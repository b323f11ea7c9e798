
/-
  What layer 13's rows list, read: the table of the channels, and the library's ErrSyntax; and the bulk of a text. No condition but those that the theorems state.
-/
import Derived.Test.YtlhmbmnjajbbaaaDoorEsLives
import Derived.Test.YtlhmbmnjajbbaaaDoorRows
import Derived.OpenShut
import Derived.LaidLaws
import Derived.Lib.LaidTab
namespace Go.Proofs.YtlhmbmnjajbbaaaDoor
open Go.ChangeShapes Go.WideShapes Go.RowKit

theorem Es.bulk_mem {H : Type} (ds : List (DataW H)) (d : DataW H) (h : d ∈ ds) : Rows.uptoBulk d ≤ Rows.uptoBulkAll ds := by
  induction ds with
  | nil => simp at h
  | cons x ds ih =>
    simp only [Rows.uptoBulkAll]
    rcases List.mem_cons.1 h with rfl | h
    · omega
    · have := ih h; omega
theorem Es.bulk_text {H : Type} {ds : List (DataW H)} (hk : Rows.uptoSmall H ds = true) (s : ByteArray) (h : DataW.lit (.string s.data.toList) ∈ ds) : s.size ≤ 1048576 := by
  have h1 : Rows.uptoBulkAll ds ≤ 1048576 := of_decide_eq_true hk
  have h2 := Es.bulk_mem ds _ h
  have h3 : s.data.toList.length ≤ Rows.uptoBulk (H := H) (.lit (.string s.data.toList)) := by
    simp only [Rows.uptoBulk]
    omega
  rw [← Wp.size_len] at h3
  omega
section
variable {H : Type} {enc : TypeId × Value → H} {W : World} {base : Nat} {sp : Nat → Bool} {hd : Bool} {n : Nat}
theorem Es.intc {c : List Value} {z : Int} {p : List MemPlace} (h : DataW.trod enc Tryd.prog W base sp hd n 3 c = some (.lit (.int .i64 z), p)) : c = [.int .i64 z] := by
  obtain ⟨y, hy, hx, _⟩ := DataW.trod_int Tryd.underlying3 h
  simp only [Prod.mk.injEq, DataW.lit.injEq, Lit.int.injEq, true_and] at hx
  rw [hy, hx.1]
theorem Es.strc {c : List Value} {l : List UInt8} {p : List MemPlace} (h : DataW.trod enc Tryd.prog W base sp hd n 9 c = some (.lit (.string l), p)) : c = [.string ⟨l.toArray⟩] := by
  obtain ⟨s, hy, hx, _⟩ := DataW.trod_string Tryd.underlying9 h
  simp only [Prod.mk.injEq, DataW.lit.injEq, Lit.string.injEq] at hx
  rw [hy, hx.1]
theorem Es.fst_get {xs : List (DataW H × List MemPlace)} {l : List (DataW H)} (h : xs.map (·.1) = l) (i : Nat) {d : DataW H} (hd : l[i]? = some d) : ∃ p, xs[i]? = some (d, p) := by
  rw [← h, List.getElem?_map] at hd
  obtain ⟨x, hx, rfl⟩ := Option.map_eq_some_iff.1 hd
  exact ⟨x.2, hx⟩
set_option maxRecDepth 100000 in
theorem Es.rowc {c : List Value} {l : List UInt8} {z : Int} {p : List MemPlace} (h : DataW.trod enc Tryd.prog W base sp hd n 41 c = some (.agg [.lit (.string l), .lit (.int .i64 z)], p)) : c = [.string ⟨l.toArray⟩, .int .i64 z] := by
  obtain ⟨xs, m, _, hx, hlen, _, hg⟩ := DataW.trod_struct Tryd.underlying41 h
  have h1 : Tryd.prog.cellsOf 9 = 1 := by kernel_rfl
  have h2 : Tryd.prog.cellsOf 3 = 1 := by kernel_rfl
  have hl : c.length = 2 := hlen.trans (by kernel_rfl)
  simp only [Prod.mk.injEq, DataW.agg.injEq] at hx
  have hm := hx.1.symm
  obtain ⟨p0, e0⟩ := Es.fst_get hm 0 rfl
  obtain ⟨p1, e1⟩ := Es.fst_get hm 1 rfl
  have g0 : DataW.trod enc Tryd.prog W base sp hd m 9 ((c.drop 0).take (Tryd.prog.cellsOf 9)) = xs[0]? := hg 0 _ rfl
  have g1 : DataW.trod enc Tryd.prog W base sp hd m 3 ((c.drop 1).take (Tryd.prog.cellsOf 3)) = xs[1]? := hg 1 _ rfl
  rw [h1] at g0
  rw [h2] at g1
  have c0 := Es.strc (g0.trans e0)
  have c1 := Es.intc (g1.trans e1)
  clear h hlen hg g0 g1
  match c, hl, c0, c1 with
  | [a0, a1], _, c0, c1 =>
    simp only [List.drop_succ_cons, List.drop_zero, List.take_succ_cons, List.take_zero, List.cons.injEq, and_true] at c0 c1
    subst c0 c1
    rfl
set_option maxRecDepth 100000 in
theorem Es.wayc {c : List Value} {p : List MemPlace} (h : DataW.trod enc Tryd.prog W base sp hd n 42 c = some (Rows.laid_bellman_esc_ways, p)) : c = Es.wys.toList := by
  obtain ⟨xs, m, _, hx, hlen, _, hg⟩ := DataW.trod_array Tryd.underlying42 h
  have h1 : Tryd.prog.cellsOf 41 = 2 := by kernel_rfl
  have hl : c.length = 8 := hlen.trans (by kernel_rfl)
  rw [h1] at hg
  unfold Rows.laid_bellman_esc_ways at hx
  simp only [Prod.mk.injEq, DataW.agg.injEq] at hx
  have hm := hx.1.symm
  have key : ∀ i, i < 4 → ∀ w z, ([([], 0), ([112, 117, 115, 104], 256), ([101, 109, 97, 105, 108], 2048), ([115, 109, 115], 160)] : List (List UInt8 × Int))[i]? = some (w, z) → (c.drop (i * 2)).take 2 = [.string ⟨w.toArray⟩, .int .i64 z] := by
    intro i hi w z hw
    obtain ⟨p, e⟩ := Es.fst_get hm i (d := .agg [.lit (.string w), .lit (.int .i64 z)]) (by
      have := congrArg (Option.map (fun w => (DataW.agg [.lit (.string w.1), .lit (.int .i64 w.2)] : DataW H))) hw
      rw [← List.getElem?_map] at this
      exact this)
    exact Es.rowc ((hg i hi).trans e)
  have r0 := key 0 (by omega) _ _ rfl
  have r1 := key 1 (by omega) _ _ rfl
  have r2 := key 2 (by omega) _ _ rfl
  have r3 := key 3 (by omega) _ _ rfl
  clear h hlen hg key
  match c, hl, r0, r1, r2, r3 with
  | [a0, a1, a2, a3, a4, a5, a6, a7], _, r0, r1, r2, r3 =>
    simp only [Nat.reduceMul, List.drop_succ_cons, List.drop_zero, List.take_succ_cons, List.take_zero, List.cons.injEq, and_true] at r0 r1 r2 r3
    obtain ⟨rfl, rfl⟩ := r0
    obtain ⟨rfl, rfl⟩ := r1
    obtain ⟨rfl, rfl⟩ := r2
    obtain ⟨rfl, rfl⟩ := r3
    rfl
end
theorem Es.gWays : Tryd.prog.globalNamed "bellman/esc.ways" = some 0 := by kernel_rfl
theorem Es.gWaysType : (Tryd.prog.globals[0]?).map (·.type) = some 42 := by kernel_rfl
theorem Es.gSyn : Tryd.prog.globalNamed "strconv.ErrSyntax" = some 1 := by kernel_rfl
theorem Es.gSynType : (Tryd.prog.globals[1]?).map (·.type) = some 47 := by kernel_rfl
theorem Es.var_heap {W : World} {nm : String} {g : Nat} {cs : Array Value} (hg : Tryd.prog.globalNamed nm = some g) (hv : W.var? Tryd.prog nm = some cs) : ∃ t fr, W.heap[g]? = some (.cells cs t fr) := by
  simp only [World.var?, hg, Option.bind_some] at hv
  split at hv
  · next c t fr hh =>
    simp only [Option.some.injEq] at hv
    subst hv
    exact ⟨t, fr, hh⟩
  · cases hv
set_option maxRecDepth 100000 in
theorem Es.laid_of {W : World} (h : laidMet Tryd.prog [("math/bits.deBruijn32tab", Rows.laid_math_bits_deBruijn32tab), ("math/bits.deBruijn64tab", Rows.laid_math_bits_deBruijn64tab), ("internal/strconv.uint64pow10", Rows.laid_internal_strconv_uint64pow10), ("strconv.ErrRange", Rows.laid_strconv_ErrRange), ("strconv.ErrSyntax", Rows.laid_strconv_ErrSyntax), ("bellman/esc.ways", Rows.laid_bellman_esc_ways)] W) : Es.Laid W := by
  obtain ⟨_, ⟨_, _, _, _, _, _, _, _, _, _, ⟨_, _, _, _, _, _, _, _, _, _, ⟨_, _, _, _, _, _, _, _, _, _, ⟨_, _, _, _, _, _, _, _, _, _, ⟨g5, t5, c5, f5, p5, q5, hg5, ht5, hv5, hd5, ⟨g6, t6, c6, f6, p6, q6, hg6, ht6, hv6, hd6, _, _⟩, _⟩, _⟩, _⟩, _⟩, _⟩, _⟩ := h
  obtain rfl := Option.some.inj (Es.gSyn.symm.trans hg5)
  obtain rfl := Option.some.inj (Es.gSynType.symm.trans ht5)
  obtain rfl := Option.some.inj (Es.gWays.symm.trans hg6)
  obtain rfl := Option.some.inj (Es.gWaysType.symm.trans ht6)
  refine ⟨?_, ?_⟩
  · obtain ⟨_, u, v, hc, _, _⟩ := iface_of_trod Tryd.underlying47 hd5
    obtain ⟨t, fr, hh⟩ := Es.var_heap Es.gSyn hv5
    have hc2 : c5 = #[.iface u v] := Array.toList_inj.1 hc
    subst hc2
    exact ⟨u, v, by rw [Lib.cell_of_heap hh]; rfl⟩
  · obtain ⟨t, fr, hh⟩ := Es.var_heap Es.gWays hv6
    have hc2 : c6 = Es.wys := Array.toList_inj.1 (Es.wayc hd6)
    subst hc2
    exact ⟨t, fr, hh⟩
end Go.Proofs.YtlhmbmnjajbbaaaDoor
