
/-
  What a law's value reads as, opened for the walks. No condition but the form's own reach.
-/
import Derived.Test.YtckcbdnlligndaaDoorOpenTexts
import Derived.Test.YtckcbdnlligndaaDoorVlLives
import Derived.Deep.Slices
import Derived.ChangeArms
namespace Go.Proofs.YtckcbdnlligndaaDoor
open Go.ChangeShapes Go.WideShapes Go.ChangeAt Go.RowKit

theorem Vl.list5 {α : Type} {l : List α} (h : l.length = 5) : ∃ a b c d e, l = [a, b, c, d, e] := by
  match l, h with
  | [a, b, c, d, e], _ => exact ⟨a, b, c, d, e, rfl⟩
set_option maxRecDepth 100000 in
theorem Vl.cellsT : Tryd.prog.cellsOf 22 = 1 ∧ Tryd.prog.cellsOf 2 = 1 ∧ Tryd.prog.cellsOf 23 = 1 ∧ Tryd.prog.cellsOf 24 = 1 ∧ Tryd.prog.cellsOf 26 = 5 := ⟨by kernel_rfl, by kernel_rfl, by kernel_rfl, by kernel_rfl, by kernel_rfl⟩
set_option maxRecDepth 100000 in
theorem Vl.bytesV : Tryd.prog.bytesOf 26 = 80 := by kernel_rfl
set_option maxRecDepth 100000 in
/-- A field of texts. -/
theorem Vl.open_names {H : Type} {enc : TypeId × Value → H} {W : World} {n : Nat} {v : Value} {y : DataW H × List MemPlace}
    (h : DataW.trod enc Tryd.prog W 0 (fun _ => true) true n 24 [v] = some y) (hw : ∀ q ∈ y.1.weights Tryd.prog 24, q ≤ reachBytes) :
    ∃ p c, ∃ l : List ByteArray, v = .slice p l.length c ∧ Wp.At Wp.mkT W p l ∧ l.length ≤ 140737488351232 ∧ ∀ x ∈ l, x.size ≤ 140737488351232 := by
  rcases open_strings Tryd.underlying24 Tryd.underlying9 cells_text h with ⟨hc, hx⟩ | ⟨a, len, cap, zs, hc, hb, hl, hm, hz, hx, hcell, hs⟩
  · simp only [List.cons.injEq, and_true] at hc
    exact ⟨none, 0, [], hc, Or.inl rfl, by simp, by simp⟩
  · simp only [List.cons.injEq, and_true] at hc
    subst hc
    simp only [if_true] at hz
    subst hx
    have hlen : (zs.take len).length = len := by rw [List.length_take]; omega
    have hr : len * 16 ≤ reachBytes := by
      have := hw (((strs (H := H) (zs.take len)).length + (strs (H := H) (zs.drop len)).length) * Tryd.prog.bytesOf 9) (by simp [DataW.weights, Tryd.underlying24])
      rw [bytes_text] at this
      simp only [strs, List.length_map, List.length_take, List.length_drop] at this
      omega
    simp only [reachBytes] at hr
    obtain ⟨b, off, sp⟩ := a
    refine ⟨some ⟨b, off, sp⟩, cap, zs.take len, by rw [hlen], ?_, by rw [hlen]; omega, fun x hx => ?_⟩
    · by_cases h0 : len = 0
      · left; subst h0; rfl
      · right
        have h1 := hcell 0 (by omega)
        have hsp : sp = none := by
          cases sp with
          | none => rfl
          | some x => simp [World.cell?, Addr.add] at h1; split at h1 <;> simp_all
        subst hsp
        refine ⟨b, off, rfl, fun i hi => ?_⟩
        have h2 := hcell i (by omega)
        have e : (⟨b, off, none⟩ : Addr).add i = ⟨b, off + i, none⟩ := by simp [Addr.add]
        rw [e] at h2
        rw [h2, List.getElem_take]
        have h3 : i < zs.length := by omega
        simp [List.getD, List.getElem?_eq_getElem h3, Wp.mkT]
    · have h5 := weights_text (H := H) 9 (zs.take len) x hx
      have h6 := hw x.size (by
        simp only [DataW.weights, Tryd.underlying24, List.mem_cons, List.mem_append]
        exact Or.inr (Or.inl h5))
      exact h6
theorem Vl.weightsAll_mem {H : Type} (P : Program) (e : TypeId) : ∀ (l : List (DataW H)) (d : DataW H), d ∈ l → ∀ q ∈ d.weights P e, q ∈ DataW.weightsAll P e l
  | [], d, h, _, _ => by simp at h
  | a :: l, d, h, q, hq => by
    simp only [DataW.weightsAll, List.mem_append]
    rcases List.mem_cons.1 h with rfl | h
    · exact Or.inl hq
    · exact Or.inr (Vl.weightsAll_mem P e l d h q hq)
theorem Vl.cells5 {W : World} {a : Addr} {cs : List Value} (h : W.cells? 0 a 5 = some cs) : ∃ c0 c1 c2 c3 c4, cs = [c0, c1, c2, c3, c4] ∧ a.spot = none ∧ Vl.Five W a.block a.off c0 c1 c2 c3 c4 := by
  obtain ⟨b, off, sp⟩ := a
  unfold World.cells? at h
  rw [if_pos (Nat.zero_le _)] at h
  simp only [List.range_succ, List.range_zero, List.nil_append, List.cons_append, List.mapM_cons, List.mapM_nil, Option.pure_def, Option.bind_eq_bind, Option.bind_eq_some_iff, Option.some.injEq] at h
  obtain ⟨c0, h0, _, ⟨c1, h1, _, ⟨c2, h2, _, ⟨c3, h3, _, ⟨c4, h4, _, rfl, rfl⟩, rfl⟩, rfl⟩, rfl⟩, rfl⟩ := h
  have hsp : sp = none := by
    cases sp with
    | none => rfl
    | some x => simp [World.cell?, Addr.add] at h0; split at h0 <;> simp_all
  subst hsp
  exact ⟨c0, c1, c2, c3, c4, rfl, rfl, by simpa [Addr.add] using h0, by simpa [Addr.add] using h1, by simpa [Addr.add] using h2, by simpa [Addr.add] using h3, by simpa [Addr.add] using h4⟩
set_option maxRecDepth 100000 in
theorem Vl.open_trod {H : Type} {enc : TypeId × Value → H} {W : World} (n : Nat) : ∀ (cs : List Value) (y : DataW H × List MemPlace), DataW.trod enc Tryd.prog W 0 (fun _ => true) true n 26 cs = some y → (∀ q ∈ y.1.weights Tryd.prog 26, q ≤ reachBytes) → ∃ d x, Vl.At (d + 1) W (.agg cs.toArray) x := by
  induction n using Nat.strongRecOn with
  | ind n ih =>
    intro cs y h hw
    obtain ⟨z2, z3, z4, z5, z6⟩ := Vl.cellsT
    obtain ⟨xs, n1, hn1, rfl, hl, hlen, hf⟩ := DataW.trod_struct Tryd.underlying26 h
    rw [z6] at hl
    obtain ⟨c0, c1, c2, c3, c4, rfl⟩ := Vl.list5 hl
    obtain ⟨y0, y1, y2, y3, y4, rfl⟩ := Vl.list5 hlen
    have f0 : DataW.trod enc Tryd.prog W 0 (fun _ => true) true n1 22 [c0] = some y0 := by
      have := hf 0 _ rfl
      simpa [z2] using this
    have f1 : DataW.trod enc Tryd.prog W 0 (fun _ => true) true n1 9 [c1] = some y1 := by
      have := hf 1 _ rfl
      simpa [cells_text] using this
    have f2 : DataW.trod enc Tryd.prog W 0 (fun _ => true) true n1 2 [c2] = some y2 := by
      have := hf 2 _ rfl
      simpa [z3] using this
    have f3 : DataW.trod enc Tryd.prog W 0 (fun _ => true) true n1 23 [c3] = some y3 := by
      have := hf 3 _ rfl
      simpa [z4] using this
    have f4 : DataW.trod enc Tryd.prog W 0 (fun _ => true) true n1 24 [c4] = some y4 := by
      have := hf 4 _ rfl
      simpa [z5] using this
    simp only [DataW.weights, Tryd.underlying26, List.map_cons, List.map_nil, DataW.weightsEach, List.mem_append, List.append_nil] at hw
    obtain ⟨k, e0, _, w0⟩ := DataW.trod_int Tryd.underlying22 f0
    obtain ⟨t, e1, e1', _⟩ := DataW.trod_string Tryd.underlying9 f1
    obtain ⟨z, e2, _, w2⟩ := DataW.trod_int Tryd.underlying2 f2
    simp only [List.cons.injEq, and_true] at e0 e1 e2
    subst e0 e1 e2
    have hk : 0 ≤ k ∧ k ≤ 255 := by simpa [Lit.wf, IntKind.min, IntKind.max, IntKind.signed, IntKind.bits] using w0
    obtain ⟨kn, rfl⟩ := Int.eq_ofNat_of_zero_le hk.1
    have hz : Wp.I64 z := by simpa [Wp.I64, Lit.wf, IntKind.min, IntKind.max, IntKind.signed, IntKind.bits] using w2
    have ht : t.size ≤ 140737488351232 := by
      have := hw t.data.toList.length (Or.inr (Or.inl (by rw [e1']; simp [DataW.weights])))
      rw [← Wp.size_len] at this
      exact this
    obtain ⟨pn, cn, ns, rfl, hns, hnl, hnsz⟩ := Vl.open_names f4 (fun q hq => hw q (Or.inr (Or.inr (Or.inr (Or.inr hq)))))
    rcases DataW.trod_slice Tryd.underlying23 f3 with ⟨e3, _⟩ | ⟨a, len, cap, elems, rest, n2, hn2, e3, hy3, hb, hlc, hm, hel, helem, _, _⟩
    · simp only [List.cons.injEq, and_true] at e3
      subst e3
      exact ⟨0, .mk kn t z [] ns, none, 0, pn, cn, rfl, ⟨by show kn ≤ 255; omega, ht, hz, Nat.zero_le _, hnl, hnsz⟩, hns, Or.inl rfl⟩
    · simp only [List.cons.injEq, and_true] at e3
      subst e3
      rw [z6] at helem
      have hlr : len ≤ 140737488351232 := by
        have := hw (((elems.map (·.1)).length + (rest.map (·.1)).length) * Tryd.prog.bytesOf 26) (Or.inr (Or.inr (Or.inr (Or.inl (by rw [hy3]; simp only [DataW.weights, Tryd.underlying23]; exact List.mem_cons_self)))))
        rw [Vl.bytesV, List.length_map, hel] at this
        simp only [reachBytes] at this
        omega
      have key : ∀ i, i < len → ∃ d x c0 c1 c2 c3 c4, a.spot = none ∧ Vl.Five W a.block (a.off + i * 5) c0 c1 c2 c3 c4 ∧ Vl.At (d + 1) W (.agg #[c0, c1, c2, c3, c4]) x := by
        intro i hi
        have h1 := helem i hi
        rw [List.getElem?_eq_getElem (by omega)] at h1
        obtain ⟨cs', h2, h3⟩ := Option.bind_eq_some_iff.1 h1
        have hsp0 : a.spot = none := by
          have h1 := helem 0 (by omega)
          rw [List.getElem?_eq_getElem (by omega)] at h1
          obtain ⟨cs0, h2, _⟩ := Option.bind_eq_some_iff.1 h1
          obtain ⟨_, _, _, _, _, _, hsp, _⟩ := Vl.cells5 h2
          rw [Nat.zero_mul] at hsp
          simpa [Addr.add] using hsp
        have e : a.add (i * 5) = ⟨a.block, a.off + i * 5, none⟩ := by
          obtain ⟨b, off, sp⟩ := a
          change sp = none at hsp0
          subst hsp0
          exact Addr.add_lit _ _ _
        obtain ⟨a0, a1, a2, a3, a4, rfl, _, h5⟩ := Vl.cells5 h2
        obtain ⟨d, x, hx⟩ := ih n2 (by omega) _ _ h3 (fun q hq => hw q (Or.inr (Or.inr (Or.inr (Or.inl (by
          rw [hy3]
          simp only [DataW.weights, Tryd.underlying23, List.mem_cons, List.mem_append]
          exact Or.inr (Or.inl (Vl.weightsAll_mem _ _ _ _ (List.mem_map.2 ⟨_, List.getElem_mem _, rfl⟩) q hq))))))))
        rw [e] at h5
        exact ⟨d, x, a0, a1, a2, a3, a4, hsp0, h5, hx⟩
      have hall : ∀ m, m ≤ len → ∃ D, ∃ l : List Vl.V, l.length = m ∧ ∀ i (hi : i < l.length), ∃ c0 c1 c2 c3 c4, a.spot = none ∧ Vl.Five W a.block (a.off + i * 5) c0 c1 c2 c3 c4 ∧ Vl.At (D + 1) W (.agg #[c0, c1, c2, c3, c4]) l[i] := by
        intro m
        induction m with
        | zero => exact fun _ => ⟨0, [], rfl, fun i hi => by simp at hi⟩
        | succ m ihm =>
          intro hm'
          obtain ⟨D, l, hl', hi'⟩ := ihm (by omega)
          obtain ⟨d, x, c0, c1, c2, c3, c4, hsp, h5, hx⟩ := key m (by omega)
          refine ⟨max D d, l ++ [x], by simp [hl'], fun i hi => ?_⟩
          by_cases him : i < l.length
          · obtain ⟨g0, g1, g2, g3, g4, q1, q2, q3⟩ := hi' i him
            refine ⟨g0, g1, g2, g3, g4, q1, q2, ?_⟩
            rw [List.getElem_append_left him]
            exact q3.le (by omega)
          · have : i = m := by rw [List.length_append] at hi; simp at hi; omega
            subst this
            refine ⟨c0, c1, c2, c3, c4, hsp, h5, ?_⟩
            rw [List.getElem_append_right (by omega)]
            simp only [hl', Nat.sub_self, List.getElem_cons_zero]
            exact hx.le (by omega)
      obtain ⟨D, l, hll, hli⟩ := hall len (Nat.le_refl _)
      refine ⟨D + 1, .mk kn t z l ns, some a, cap, pn, cn, by rw [← hll]; rfl, ⟨by show kn ≤ 255; omega, ht, hz, by show l.length ≤ _; omega, hnl, hnsz⟩, hns, ?_⟩
      by_cases h0 : len = 0
      · left
        show l = []
        exact List.length_eq_zero_iff.1 (by omega)
      · right
        obtain ⟨_, _, _, _, _, hsp, _⟩ := hli 0 (by omega)
        obtain ⟨b, off, sp⟩ := a
        change sp = none at hsp
        subst hsp
        exact ⟨b, off, rfl, fun i hi => by
          obtain ⟨g0, g1, g2, g3, g4, _, q2, q3⟩ := hli i hi
          exact ⟨g0, g1, g2, g3, g4, q2, q3⟩⟩
set_option maxRecDepth 100000 in
/-- A value among the arguments. -/
theorem Vl.open_val {H : Type} {enc : TypeId × Value → H} {W : World} {base : Nat} {ts : List TypeId} {ds : List (DataW H)} (hsz : (DataW.weightsEach Tryd.prog ts ds).all (· ≤ reachBytes) = true)
    (j : Nat) {v : Value} {d : DataW H} {ps : List MemPlace} (ht : ts[j]? = some 26) (hd : ds[j]? = some d) (hval : Value.okWide Tryd.prog W .any base 26 v)
    (h : DataW.Trod enc Tryd.prog W 0 (fun _ => true) true 26 v d ps) : ∃ D x, Vl.At (D + 1) W v x := by
  obtain ⟨cs, rfl, hc⟩ := okWide_struct Tryd.underlying26 hval
  obtain ⟨fuel, hf⟩ := h
  have h2 := Vl.open_trod fuel cs.toList (d, ps) hf (fun q hq => by
    have := List.all_eq_true.1 hsz q (DataW.weights_mem_each ht hd q hq)
    simpa using this)
  exact h2
end Go.Proofs.YtckcbdnlligndaaDoor
