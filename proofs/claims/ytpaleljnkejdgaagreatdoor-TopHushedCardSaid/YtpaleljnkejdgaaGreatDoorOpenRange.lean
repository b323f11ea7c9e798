/-
  What a law's slice of ranges reads as, opened for the walks. No condition but the form's own reach.
-/
import Derived.Test.YtpaleljnkejdgaaGreatDoorRowKit
import Derived.Test.YtpaleljnkejdgaaGreatDoorWkAt
import Derived.Deep.SlicePairs
import Derived.Lib.SmallJoins
namespace Go.Proofs.YtpaleljnkejdgaaGreatDoor
open Go.ChangeShapes Go.WideShapes Go.ChangeAt Go.RowKit Go.Joins Go.Deep

theorem Wk.cells_range : Tryz.prog.cellsOf 56 = 2 := by kernel_rfl
theorem Wk.bytes_range : Tryz.prog.bytesOf 56 = 16 := by kernel_rfl
def Wk.I64 (n : Int) : Prop := -9223372036854775808 ≤ n ∧ n ≤ 9223372036854775807
set_option maxRecDepth 100000 in
theorem Wk.open_field_ranges {H : Type} {enc : TypeId × Value → H} {W : World} {n : Nat} {v : Value} {y : DataW H × List MemPlace}
    (h : DataW.trod enc Tryz.prog W 0 (fun _ => true) true n 26 [v] = some y) (hw : (y.1.weights Tryz.prog 26).all (· ≤ reachBytes) = true) :
    ∃ p c, ∃ l : List (Int × Int), v = .slice p l.length c ∧ Wk.At W p l ∧ l.length ≤ 140737488351232 ∧ ∀ x ∈ l, Wk.I64 x.1 ∧ Wk.I64 x.2 := by
  rcases open_slice_pairs Tryz.underlying26 Tryz.underlying56 Wk.cells_range rfl rfl (by kernel_rfl) (by kernel_rfl) h with ⟨hc, hx⟩ | ⟨a, len, cap, m, n', V0, V1, D0, D1, P0, P1, hc, hb, hl, hm, hmm, hx, hcell⟩
  · simp only [List.cons.injEq, and_true] at hc
    exact ⟨none, 0, [], hc, Or.inl rfl, by simp, by simp⟩
  · simp only [List.cons.injEq, and_true] at hc
    subst hc
    simp only [if_true] at hmm
    subst hx
    have hr : len * 16 ≤ reachBytes := by
      have := List.all_eq_true.1 hw _ (by simp only [DataW.weights, Tryz.underlying26]; exact List.mem_cons_self)
      rw [Wk.bytes_range] at this
      simp only [List.length_map, List.length_range, decide_eq_true_eq] at this
      omega
    simp only [reachBytes] at hr
    have key : ∀ i, i < len → ∃ q : Int × Int, W.cell? (a.add (i * 2)) = some (.int .i64 q.1) ∧ W.cell? (a.add (i * 2 + 1)) = some (.int .i64 q.2) ∧ Wk.I64 q.1 ∧ Wk.I64 q.2 := by
      intro i hi
      obtain ⟨h1, h2, h3, h4⟩ := hcell i (by omega)
      obtain ⟨z, e1, _, w1⟩ := DataW.trod_int Tryz.underlying3 h3
      obtain ⟨s, e2, _, w2⟩ := DataW.trod_int Tryz.underlying3 h4
      simp only [List.cons.injEq, and_true] at e1 e2
      exact ⟨(z, s), by rw [h1, e1], by rw [h2, e2], by simpa [Wk.I64, Lit.wf, IntKind.min, IntKind.max, IntKind.signed, IntKind.bits] using w1, by simpa [Wk.I64, Lit.wf, IntKind.min, IntKind.max, IntKind.signed, IntKind.bits] using w2⟩
    let f : Nat → Int × Int := fun i => if h : i < len then (key i h).choose else (0, 0)
    have hf : ∀ i (hi : i < len), W.cell? (a.add (i * 2)) = some (.int .i64 (f i).1) ∧ W.cell? (a.add (i * 2 + 1)) = some (.int .i64 (f i).2) ∧ Wk.I64 (f i).1 ∧ Wk.I64 (f i).2 := by
      intro i hi
      have e : f i = (key i hi).choose := dif_pos hi
      rw [e]
      exact (key i hi).choose_spec
    obtain ⟨b, off, sp⟩ := a
    refine ⟨some ⟨b, off, sp⟩, cap, (List.range len).map f, by simp, ?_, by simp; omega, ?_⟩
    · by_cases h0 : len = 0
      · left; subst h0; rfl
      · right
        have h1 := (hf 0 (by omega)).1
        have hsp : sp = none := by
          cases sp with
          | none => rfl
          | some x => simp [World.cell?, Addr.add] at h1; split at h1 <;> simp_all
        subst hsp
        refine ⟨b, off, rfl, fun i hi => ?_⟩
        simp only [List.length_map, List.length_range] at hi
        have h2 := hf i hi
        have e1 : (⟨b, off, none⟩ : Addr).add (i * 2) = ⟨b, off + i * 2, none⟩ := by simp [Addr.add]
        have e2 : (⟨b, off, none⟩ : Addr).add (i * 2 + 1) = ⟨b, off + i * 2 + 1, none⟩ := by simp [Addr.add, Nat.add_assoc]
        rw [e1, e2] at h2
        simp only [List.getElem_map, List.getElem_range]
        exact ⟨h2.1, h2.2.1⟩
    · intro x hx
      obtain ⟨i, hi, rfl⟩ := List.mem_map.1 hx
      exact (hf i (List.mem_range.1 hi)).2.2
set_option maxRecDepth 100000 in
theorem Wk.open_ranges {H : Type} {enc : TypeId × Value → H} {W : World} {base : Nat} {ts : List TypeId} {ds : List (DataW H)} (hsz : (DataW.weightsEach Tryz.prog ts ds).all (· ≤ reachBytes) = true)
    (j : Nat) {v : Value} {d : DataW H} {ps : List MemPlace} (ht : ts[j]? = some 26) (hd : ds[j]? = some d) (hval : Value.okWide Tryz.prog W .any base 26 v)
    (h : DataW.Trod enc Tryz.prog W 0 (fun _ => true) true 26 v d ps) :
    ∃ p c, ∃ l : List (Int × Int), v = .slice p l.length c ∧ Wk.At W p l ∧ l.length ≤ 140737488351232 ∧ ∀ x ∈ l, Wk.I64 x.1 ∧ Wk.I64 x.2 := by
  obtain ⟨a0, len, cap, rfl⟩ := okWide_slice Tryz.underlying26 hval
  obtain ⟨fuel, hf⟩ := h
  exact Wk.open_field_ranges (y := (d, ps)) hf (List.all_eq_true.2 fun x hx => List.all_eq_true.1 hsz x (DataW.weights_mem_each ht hd x hx))
end Go.Proofs.YtpaleljnkejdgaaGreatDoor
