
/-
  What a law's slice of numbers reads as, opened for the walks. No condition but the form's own reach.
-/
import Derived.Test.YtlbifinkjghgaaaRowKit
import Derived.Test.YtlbifinkjghgaaaPut
import Derived.SliceStrings
namespace Go.Proofs.Ytlbifinkjghgaaa
open Go.ChangeShapes Go.WideShapes Go.ChangeAt Go.RowKit

theorem cells_num : Try.prog.cellsOf 2 = 1 := by kernel_rfl
theorem bytes_num : Try.prog.bytesOf 2 = 8 := by kernel_rfl

set_option maxRecDepth 100000 in
theorem Wp.open_nums {H : Type} {enc : TypeId × Value → H} {W : World} {base : Nat} {ts : List TypeId} {ds : List (DataW H)} (hsz : (DataW.weightsEach Try.prog ts ds).all (· ≤ reachBytes) = true)
    (j : Nat) {v : Value} {d : DataW H} {ps : List MemPlace} (ht : ts[j]? = some 23) (hd : ds[j]? = some d) (hval : Value.okWide Try.prog W .any base 23 v)
    (h : DataW.Trod enc Try.prog W 0 (fun _ => true) true 23 v d ps) :
    ∃ p c, ∃ l : List Int, v = .slice p l.length c ∧ Wp.At Wp.mkN W p l ∧ l.length ≤ 140737488351232 ∧ ∀ x ∈ l, Wp.I64 x := by
  obtain ⟨a0, len, cap, rfl⟩ := okWide_slice Try.underlying23 hval
  obtain ⟨fuel, hf⟩ := h
  rcases open_ints Try.underlying23 Try.underlying2 cells_num hf with ⟨hc, hx⟩ | ⟨a, len', cap', zs, hc, hb, hl, hm, hz, hx, hcell, hw⟩
  · simp [Value.cells] at hc
    obtain ⟨rfl, rfl, rfl⟩ := hc
    exact ⟨none, 0, [], rfl, Or.inl rfl, by simp, by simp⟩
  · simp [Value.cells] at hc
    obtain ⟨rfl, rfl, rfl⟩ := hc
    simp only [if_true] at hz
    simp only [Prod.mk.injEq] at hx
    obtain ⟨rfl, rfl⟩ := hx
    have hlen : (zs.take len).length = len := by rw [List.length_take]; omega
    have hs := sized_slice hsz ht hd Try.underlying23
    rw [bytes_num] at hs
    simp only [lits, List.length_map, List.length_take, List.length_drop, reachBytes] at hs
    obtain ⟨b, off, sp⟩ := a
    refine ⟨some ⟨b, off, sp⟩, cap, zs.take len, by rw [hlen], ?_, by rw [hlen]; omega, ?_⟩
    · by_cases h0 : len = 0
      · left; subst h0; rfl
      · right
        have h1 := hcell 0 (by omega)
        have hsp : sp = none := by
          cases sp with
          | none => rfl
          | some x => simp [World.cell?, Addr.add] at h1; split at h1 <;> simp_all
        subst hsp
        refine ⟨b, off, rfl, fun i hi => ?_⟩
        have h2 := hcell i (by omega)
        have e : (⟨b, off, none⟩ : Addr).add i = ⟨b, off + i, none⟩ := by simp [Addr.add]
        rw [e] at h2
        rw [h2, List.getElem_take]
        have h3 : i < zs.length := by omega
        simp [List.getD, List.getElem?_eq_getElem h3, Wp.mkN]
    · intro x hx
      have := hw x (List.mem_of_mem_take hx)
      simpa [Wp.I64, Lit.wf, IntKind.min, IntKind.max, IntKind.signed, IntKind.bits] using this
end Go.Proofs.Ytlbifinkjghgaaa
