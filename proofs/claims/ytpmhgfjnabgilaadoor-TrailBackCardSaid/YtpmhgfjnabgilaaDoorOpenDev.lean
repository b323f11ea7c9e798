/-
  What a law's device, and its slice of waits, read as, opened for the walks. No condition but the form's own reach.
-/
import Derived.Test.YtpmhgfjnabgilaaDoorRowKit
import Derived.Test.YtpmhgfjnabgilaaDoorDevAt
import Derived.SliceStrings
import Derived.Deep.SlicePairs
import Derived.Lib.SmallJoins
namespace Go.Proofs.YtpmhgfjnabgilaaDoor
open Go.ChangeShapes Go.WideShapes Go.ChangeAt Go.RowKit Go.Joins Go.Deep

set_option maxRecDepth 100000 in
theorem cells_text : Tryd.prog.cellsOf 9 = 1 := by kernel_rfl
set_option maxRecDepth 100000 in
theorem cells_wait : Tryd.prog.cellsOf 100 = 2 := by kernel_rfl
set_option maxRecDepth 100000 in
theorem bytes_text : Tryd.prog.bytesOf 9 = 16 := by kernel_rfl
set_option maxRecDepth 100000 in
theorem bytes_wait : Tryd.prog.bytesOf 100 = 24 := by kernel_rfl

set_option maxRecDepth 100000 in
/-- A field of texts. -/
theorem Wp.open_field_texts {H : Type} {enc : TypeId × Value → H} {W : World} {n : Nat} {v : Value} {y : DataW H × List MemPlace}
    (h : DataW.trod enc Tryd.prog W 0 (fun _ => true) true n 22 [v] = some y) (hw : (y.1.weights Tryd.prog 22).all (· ≤ reachBytes) = true) :
    ∃ p c, ∃ l : List ByteArray, v = .slice p l.length c ∧ Wp.At Wp.mkT W p l ∧ l.length ≤ 140737488351232 ∧ ∀ x ∈ l, x.size ≤ 9223372036854775807 := by
  rcases open_strings Tryd.underlying22 Tryd.underlying9 cells_text h with ⟨hc, hx⟩ | ⟨a, len, cap, zs, hc, hb, hl, hm, hz, hx, hcell, hs⟩
  · simp only [List.cons.injEq, and_true] at hc
    exact ⟨none, 0, [], hc, Or.inl rfl, by simp, by simp⟩
  · simp only [List.cons.injEq, and_true] at hc
    subst hc
    simp only [if_true] at hz
    subst hx
    have hlen : (zs.take len).length = len := by rw [List.length_take]; omega
    have hr : len * 16 ≤ reachBytes := by
      have := List.all_eq_true.1 hw (((strs (H := H) (zs.take len)).length + (strs (H := H) (zs.drop len)).length) * Tryd.prog.bytesOf 9) (by simp [DataW.weights, Tryd.underlying22])
      rw [bytes_text] at this
      simp only [strs, List.length_map, List.length_take, List.length_drop, decide_eq_true_eq] at this
      omega
    simp only [reachBytes] at hr
    obtain ⟨b, off, sp⟩ := a
    refine ⟨some ⟨b, off, sp⟩, cap, zs.take len, by rw [hlen], ?_, by rw [hlen]; omega, fun x hx => ?_⟩
    · by_cases h0 : len = 0
      · left; subst h0; rfl
      · right
        have h1 := hcell 0 (by omega)
        have hsp : sp = none := by
          cases sp with
          | none => rfl
          | some x => simp [World.cell?, Addr.add] at h1; split at h1 <;> simp_all
        subst hsp
        refine ⟨b, off, rfl, fun i hi => ?_⟩
        have h2 := hcell i (by omega)
        have e : (⟨b, off, none⟩ : Addr).add i = ⟨b, off + i, none⟩ := by simp [Addr.add]
        rw [e] at h2
        rw [h2, List.getElem_take]
        have h3 : i < zs.length := by omega
        simp [List.getD, List.getElem?_eq_getElem h3, Wp.mkT]
    · have := hs x (List.mem_of_mem_take hx)
      unfold maxLen at this
      omega
set_option maxRecDepth 100000 in
/-- A field of waits. -/
theorem Wp.open_field_waits {H : Type} {enc : TypeId × Value → H} {W : World} {n : Nat} {v : Value} {y : DataW H × List MemPlace}
    (h : DataW.trod enc Tryd.prog W 0 (fun _ => true) true n 23 [v] = some y) (hw : (y.1.weights Tryd.prog 23).all (· ≤ reachBytes) = true) :
    ∃ p c, ∃ l : List (Int × ByteArray), v = .slice p l.length c ∧ Wp.AtW W p l ∧ l.length ≤ 140737488351232 ∧ (∀ x ∈ l, Wp.I64 x.1) ∧ ∀ x ∈ l, x.2.size ≤ 9223372036854775807 := by
  rcases open_slice_pairs Tryd.underlying23 Tryd.underlying100 cells_wait rfl rfl (by kernel_rfl) (by kernel_rfl) h with ⟨hc, hx⟩ | ⟨a, len, cap, m, n', V0, V1, D0, D1, P0, P1, hc, hb, hl, hm, hmm, hx, hcell⟩
  · simp only [List.cons.injEq, and_true] at hc
    exact ⟨none, 0, [], hc, Or.inl rfl, by simp, by simp, by simp⟩
  · simp only [List.cons.injEq, and_true] at hc
    subst hc
    simp only [if_true] at hmm
    subst hx
    have hr : len * 24 ≤ reachBytes := by
      have := List.all_eq_true.1 hw _ (by simp only [DataW.weights, Tryd.underlying23]; exact List.mem_cons_self)
      rw [bytes_wait] at this
      simp only [List.length_map, List.length_range, decide_eq_true_eq] at this
      omega
    simp only [reachBytes] at hr
    have key : ∀ i, i < len → ∃ q : Int × ByteArray, W.cell? (a.add (i * 2)) = some (.int .i64 q.1) ∧ W.cell? (a.add (i * 2 + 1)) = some (.string q.2) ∧ Wp.I64 q.1 ∧ q.2.size ≤ 9223372036854775807 := by
      intro i hi
      obtain ⟨h1, h2, h3, h4⟩ := hcell i (by omega)
      obtain ⟨z, e1, _, w1⟩ := DataW.trod_int Tryd.underlying3 h3
      obtain ⟨s, e2, _, w2⟩ := DataW.trod_string Tryd.underlying9 h4
      simp only [List.cons.injEq, and_true] at e1 e2
      refine ⟨(z, s), by rw [h1, e1], by rw [h2, e2], by simpa [Wp.I64, Lit.wf, IntKind.min, IntKind.max, IntKind.signed, IntKind.bits] using w1, by unfold maxLen at w2; omega⟩
    let f : Nat → Int × ByteArray := fun i => if h : i < len then (key i h).choose else (0, ByteArray.empty)
    have hf : ∀ i (hi : i < len), W.cell? (a.add (i * 2)) = some (.int .i64 (f i).1) ∧ W.cell? (a.add (i * 2 + 1)) = some (.string (f i).2) ∧ Wp.I64 (f i).1 ∧ (f i).2.size ≤ 9223372036854775807 := by
      intro i hi
      have e : f i = (key i hi).choose := dif_pos hi
      rw [e]
      exact (key i hi).choose_spec
    obtain ⟨b, off, sp⟩ := a
    refine ⟨some ⟨b, off, sp⟩, cap, (List.range len).map f, by simp, ?_, by simp; omega, ?_, ?_⟩
    · by_cases h0 : len = 0
      · left; subst h0; rfl
      · right
        have h1 := (hf 0 (by omega)).1
        have hsp : sp = none := by
          cases sp with
          | none => rfl
          | some x => simp [World.cell?, Addr.add] at h1; split at h1 <;> simp_all
        subst hsp
        refine ⟨b, off, rfl, fun i hi => ?_⟩
        simp only [List.length_map, List.length_range] at hi
        have h2 := hf i hi
        have e1 : (⟨b, off, none⟩ : Addr).add (i * 2) = ⟨b, off + i * 2, none⟩ := by simp [Addr.add]
        have e2 : (⟨b, off, none⟩ : Addr).add (i * 2 + 1) = ⟨b, off + i * 2 + 1, none⟩ := by simp [Addr.add, Nat.add_assoc]
        rw [e1, e2] at h2
        simp only [List.getElem_map, List.getElem_range]
        exact ⟨h2.1, h2.2.1⟩
    · intro x hx
      obtain ⟨i, hi, rfl⟩ := List.mem_map.1 hx
      exact (hf i (List.mem_range.1 hi)).2.2.1
    · intro x hx
      obtain ⟨i, hi, rfl⟩ := List.mem_map.1 hx
      exact (hf i (List.mem_range.1 hi)).2.2.2
set_option maxRecDepth 100000 in
/-- A device among the arguments. -/
theorem Wp.open_dev {H : Type} {enc : TypeId × Value → H} {W : World} {base : Nat} {ts : List TypeId} {ds : List (DataW H)} (hsz : (DataW.weightsEach Tryd.prog ts ds).all (· ≤ reachBytes) = true)
    (j : Nat) {v : Value} {d : DataW H} {ps : List MemPlace} (ht : ts[j]? = some 25) (hd : ds[j]? = some d) (hval : Value.okWide Tryd.prog W .any base 25 v)
    (h : DataW.Trod enc Tryd.prog W 0 (fun _ => true) true 25 v d ps) :
    ∃ D : Wp.Dev, Wp.DevAt W v D ∧ D.Fits := by
  obtain ⟨v0, v1, v2, v3, y0, y1, y2, y3, n, rfl, rfl, rfl, h0, h1, h2, h3⟩ := open_agg4 Tryd.underlying25 (by kernel_rfl) (by kernel_rfl) hval h
  have hall : ∀ x ∈ DataW.weightsEach Tryd.prog [22, 23, 3, 4] [y0.1, y1.1, y2.1, y3.1], x ≤ reachBytes := by
    intro x hx
    have := List.all_eq_true.1 hsz x (DataW.weights_mem_each ht hd x (by
      simp only [DataW.weights, Tryd.underlying25]
      exact hx))
    simpa using this
  obtain ⟨p0, c0, bl, rfl, a0, l0, s0⟩ := Wp.open_field_texts h0 (List.all_eq_true.2 fun x hx => by simpa using hall x (by simp only [DataW.weightsEach, List.mem_append]; exact Or.inl hx))
  obtain ⟨p1, c1, ws, rfl, a1, l1, i1, s1⟩ := Wp.open_field_waits h1 (List.all_eq_true.2 fun x hx => by simpa using hall x (by simp only [DataW.weightsEach, List.mem_append]; exact Or.inr (Or.inl hx)))
  obtain ⟨fu, e2, _, w2⟩ := DataW.trod_int Tryd.underlying3 h2
  obtain ⟨dn, e3, _⟩ := DataW.trod_bool Tryd.underlying4 h3
  simp only [List.cons.injEq, and_true] at e2 e3
  subst e2 e3
  exact ⟨⟨bl, ws, fu, dn⟩, ⟨p0, c0, p1, c1, rfl, a0, a1⟩, ⟨l0, l1, by simpa [Wp.I64, Lit.wf, IntKind.min, IntKind.max, IntKind.signed, IntKind.bits] using w2, s0, i1, s1⟩⟩
end Go.Proofs.YtpmhgfjnabgilaaDoor
