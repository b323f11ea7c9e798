
/-
  What a law's slice of tokens reads as, opened for the walks, with the bulk of its texts. No condition but the form's own reach.
-/
import Derived.Test.YteiccjakaabfnaaGreatDoorZ21
import Derived.Test.YteiccjakaabfnaaGreatDoorZ27
import Derived.Test.YteiccjakaabfnaaGreatDoorRows
import Derived.Deep.Slices
import Derived.ChangeArms
namespace Go.Proofs.YteiccjakaabfnaaGreatDoor
open Go.ChangeShapes Go.WideShapes Go.ChangeAt Go.RowKit

theorem Sc.list3 {α : Type} {l : List α} (h : l.length = 3) : ∃ a b c, l = [a, b, c] := by
  match l, h with
  | [a, b, c], _ => exact ⟨a, b, c, rfl⟩
set_option maxRecDepth 100000 in
theorem Sc.cellsT : Tryz.prog.cellsOf 35 = 1 ∧ Tryz.prog.cellsOf 23 = 1 ∧ Tryz.prog.cellsOf 110 = 3 := ⟨by kernel_rfl, by kernel_rfl, by kernel_rfl⟩
set_option maxRecDepth 100000 in
theorem Sc.bytesT : Tryz.prog.bytesOf 110 = 48 := by kernel_rfl
set_option maxRecDepth 100000 in
/-- A field of texts, with its capacity. -/
theorem Sc.open_path {H : Type} {enc : TypeId × Value → H} {W : World} {n : Nat} {v : Value} {y : DataW H × List MemPlace}
    (h : DataW.trod enc Tryz.prog W 0 (fun _ => true) true n 23 [v] = some y) (hw : ∀ q ∈ y.1.weights Tryz.prog 23, q ≤ reachBytes) :
    ∃ p c, ∃ l : List ByteArray, v = .slice p l.length c ∧ Wp.At Wp.mkT W p l ∧ l.length ≤ 140737488351232 ∧ (∀ x ∈ l, x.size ≤ 140737488351232) ∧ l.length ≤ c := by
  rcases open_strings Tryz.underlying23 Tryz.underlying9 cells_text h with ⟨hc, hx⟩ | ⟨a, len, cap, zs, hc, hb, hl, hm, hz, hx, hcell, hs⟩
  · simp only [List.cons.injEq, and_true] at hc
    exact ⟨none, 0, [], hc, Or.inl rfl, by simp, by simp, by simp⟩
  · simp only [List.cons.injEq, and_true] at hc
    subst hc
    simp only [if_true] at hz
    subst hx
    have hlen : (zs.take len).length = len := by rw [List.length_take]; omega
    have hr : len * 16 ≤ reachBytes := by
      have := hw (((strs (H := H) (zs.take len)).length + (strs (H := H) (zs.drop len)).length) * Tryz.prog.bytesOf 9) (by simp [DataW.weights, Tryz.underlying23])
      rw [bytes_text] at this
      simp only [strs, List.length_map, List.length_take, List.length_drop] at this
      omega
    simp only [reachBytes] at hr
    obtain ⟨b, off, sp⟩ := a
    refine ⟨some ⟨b, off, sp⟩, cap, zs.take len, by rw [hlen], ?_, by rw [hlen]; omega, fun x hx => ?_, by rw [hlen]; omega⟩
    · by_cases h0 : len = 0
      · left; subst h0; rfl
      · right
        have h1 := hcell 0 (by omega)
        have hsp : sp = none := by
          cases sp with
          | none => rfl
          | some x => simp [World.cell?, Addr.add] at h1; split at h1 <;> simp_all
        subst hsp
        refine ⟨b, off, rfl, fun i hi => ?_⟩
        have h2 := hcell i (by omega)
        have e : (⟨b, off, none⟩ : Addr).add i = ⟨b, off + i, none⟩ := by simp [Addr.add]
        rw [e] at h2
        rw [h2, List.getElem_take]
        have h3 : i < zs.length := by omega
        simp [List.getD, List.getElem?_eq_getElem h3, Wp.mkT]
    · have h5 := weights_text (H := H) 9 (zs.take len) x hx
      have h6 := hw x.size (by
        simp only [DataW.weights, Tryz.underlying23, List.mem_cons, List.mem_append]
        exact Or.inr (Or.inl h5))
      exact h6
theorem Sc.weightsAll_mem {H : Type} (P : Program) (e : TypeId) : ∀ (l : List (DataW H)) (d : DataW H), d ∈ l → ∀ q ∈ d.weights P e, q ∈ DataW.weightsAll P e l
  | [], d, h, _, _ => by simp at h
  | a :: l, d, h, q, hq => by
    simp only [DataW.weightsAll, List.mem_append]
    rcases List.mem_cons.1 h with rfl | h
    · exact Or.inl hq
    · exact Or.inr (Sc.weightsAll_mem P e l d h q hq)
theorem Sc.bulk_mem {H : Type} (ds : List (DataW H)) (d : DataW H) (h : d ∈ ds) : Rows.uptoBulk d ≤ Rows.uptoBulkAll ds := by
  induction ds with
  | nil => simp at h
  | cons x ds ih =>
    simp only [Rows.uptoBulkAll]
    rcases List.mem_cons.1 h with rfl | h
    · omega
    · have := ih h; omega
theorem Sc.bulk_pos {H : Type} (d : DataW H) : 1 ≤ Rows.uptoBulk d := by
  cases d with
  | lit x => cases x <;> simp [Rows.uptoBulk]
  | _ => simp [Rows.uptoBulk]
theorem Sc.bulk_count {H : Type} : ∀ ds : List (DataW H), ds.length ≤ Rows.uptoBulkAll ds
  | [] => Nat.zero_le _
  | d :: r => by
    have h1 := Sc.bulk_pos d
    have h2 := Sc.bulk_count r
    simp only [Rows.uptoBulkAll, List.length_cons]
    omega
theorem Sc.bulk_get {H : Type} {ds : List (DataW H)} (hk : Rows.uptoSmall H ds = true) (d : DataW H) (h : d ∈ ds) : Rows.uptoBulk d ≤ 1048576 := by
  have h1 : Rows.uptoBulkAll ds ≤ 1048576 := of_decide_eq_true hk
  exact Nat.le_trans (Sc.bulk_mem ds d h) h1
theorem Sc.bulk_text {H : Type} {ds : List (DataW H)} (hk : Rows.uptoSmall H ds = true) (s : ByteArray) (h : DataW.lit (.string s.data.toList) ∈ ds) : s.size ≤ 1048576 := by
  have h2 := Sc.bulk_get hk _ h
  have h3 : s.data.toList.length ≤ Rows.uptoBulk (H := H) (.lit (.string s.data.toList)) := by
    simp only [Rows.uptoBulk]
    omega
  rw [← Wp.size_len] at h3
  omega
theorem Sc.cells3 {W : World} {a : Addr} {cs : List Value} (h : W.cells? 0 a 3 = some cs) : ∃ c0 c1 c2, cs = [c0, c1, c2] ∧ a.spot = none ∧ Sc.Three W a.block a.off c0 c1 c2 := by
  obtain ⟨b, off, sp⟩ := a
  unfold World.cells? at h
  rw [if_pos (Nat.zero_le _)] at h
  simp only [List.range_succ, List.range_zero, List.nil_append, List.cons_append, List.mapM_cons, List.mapM_nil, Option.pure_def, Option.bind_eq_bind, Option.bind_eq_some_iff, Option.some.injEq] at h
  obtain ⟨c0, h0, _, ⟨c1, h1, _, ⟨c2, h2, _, rfl, rfl⟩, rfl⟩, rfl⟩ := h
  have hsp : sp = none := by
    cases sp with
    | none => rfl
    | some x => simp [World.cell?, Addr.add] at h0; split at h0 <;> simp_all
  subst hsp
  exact ⟨c0, c1, c2, rfl, rfl, by simpa [Addr.add] using h0, by simpa [Addr.add] using h1, by simpa [Addr.add] using h2⟩
set_option maxRecDepth 100000 in
theorem Sc.open_tok {H : Type} {enc : TypeId × Value → H} {W : World} (n : Nat) (cs : List Value) (y : DataW H × List MemPlace) (h : DataW.trod enc Tryz.prog W 0 (fun _ => true) true n 110 cs = some y) (hw : ∀ q ∈ y.1.weights Tryz.prog 110, q ≤ reachBytes) :
    ∃ t : Sc.T, Sc.Tok W (.agg cs.toArray) t ∧ t.text.size ≤ Rows.uptoBulk y.1 := by
  obtain ⟨z2, z4, z6⟩ := Sc.cellsT
  obtain ⟨xs, n1, hn1, rfl, hl, hlen, hf⟩ := DataW.trod_struct Tryz.underlying110 h
  rw [z6] at hl
  obtain ⟨c0, c1, c2, rfl⟩ := Sc.list3 hl
  obtain ⟨y0, y1, y2, rfl⟩ := Sc.list3 hlen
  have f0 : DataW.trod enc Tryz.prog W 0 (fun _ => true) true n1 35 [c0] = some y0 := by
    have := hf 0 _ rfl
    simpa [z2] using this
  have f1 : DataW.trod enc Tryz.prog W 0 (fun _ => true) true n1 9 [c1] = some y1 := by
    have := hf 1 _ rfl
    simpa [cells_text] using this
  have f2 : DataW.trod enc Tryz.prog W 0 (fun _ => true) true n1 23 [c2] = some y2 := by
    have := hf 2 _ rfl
    simpa [z4] using this
  simp only [DataW.weights, Tryz.underlying110, List.map_cons, List.map_nil, DataW.weightsEach, List.mem_append, List.append_nil] at hw
  obtain ⟨k, e0, _, w0⟩ := DataW.trod_int Tryz.underlying35 f0
  obtain ⟨t, e1, e1', _⟩ := DataW.trod_string Tryz.underlying9 f1
  simp only [List.cons.injEq, and_true] at e0 e1
  subst e0 e1
  have hk : 0 ≤ k ∧ k ≤ 255 := by simpa [Lit.wf, IntKind.min, IntKind.max, IntKind.signed, IntKind.bits] using w0
  obtain ⟨kn, rfl⟩ := Int.eq_ofNat_of_zero_le hk.1
  have ht : t.size ≤ 140737488351232 := by
    have := hw t.data.toList.length (Or.inr (Or.inl (by rw [e1']; simp [DataW.weights])))
    rw [← Wp.size_len] at this
    exact this
  obtain ⟨pn, cn, ns, rfl, hns, hnl, hnsz, hcap⟩ := Sc.open_path f2 (fun q hq => hw q (Or.inr (Or.inr hq)))
  refine ⟨⟨kn, t, ns⟩, ⟨pn, cn, rfl, ⟨⟨by show kn ≤ 255; omega, hcap⟩, ht, hnl, hnsz⟩, hns⟩, ?_⟩
  have hb := Sc.bulk_mem (H := H) [y0.1, y1.1, y2.1] y1.1 (by simp)
  have h1 : t.size ≤ Rows.uptoBulk y1.1 := by
    rw [e1']
    simp only [Rows.uptoBulk]
    rw [Wp.size_len]
    omega
  show t.size ≤ Rows.uptoBulk (.agg [y0.1, y1.1, y2.1])
  simp only [Rows.uptoBulk]
  omega
set_option maxRecDepth 100000 in
/-- Tokens among the arguments. -/
theorem Sc.open_toks {H : Type} {enc : TypeId × Value → H} {W : World} {base : Nat} {ts : List TypeId} {ds : List (DataW H)} (hsz : (DataW.weightsEach Tryz.prog ts ds).all (· ≤ reachBytes) = true)
    (j : Nat) {v : Value} {d : DataW H} {ps : List MemPlace} (ht : ts[j]? = some 104) (hd : ds[j]? = some d) (hval : Value.okWide Tryz.prog W .any base 104 v)
    (h : DataW.Trod enc Tryz.prog W 0 (fun _ => true) true 104 v d ps) :
    ∃ p c, ∃ l : List Sc.T, v = .slice p l.length c ∧ Sc.At W p l ∧ (l.length ≤ 140737488351232 ∧ l.length ≤ Rows.uptoBulk d) ∧ ∀ t ∈ l, t.text.size ≤ Rows.uptoBulk d := by
  obtain ⟨a0, len0, cap0, rfl⟩ := okWide_slice Tryz.underlying104 hval
  obtain ⟨fuel, hf⟩ := h
  obtain ⟨z2, z4, z6⟩ := Sc.cellsT
  have hw : ∀ q ∈ d.weights Tryz.prog 104, q ≤ reachBytes := fun q hq => by
    have := List.all_eq_true.1 hsz q (DataW.weights_mem_each ht hd q hq)
    simpa using this
  rcases DataW.trod_slice Tryz.underlying104 hf with ⟨e3, _⟩ | ⟨a, len, cap, elems, rest, n2, hn2, e3, hy3, hb, hlc, hm, hel, helem, _, _⟩
  · simp [Value.cells] at e3
    obtain ⟨rfl, rfl, rfl⟩ := e3
    exact ⟨none, 0, [], rfl, Sc.At.nil W none, ⟨by simp, Nat.zero_le _⟩, by simp⟩
  · simp [Value.cells] at e3
    obtain ⟨rfl, rfl, rfl⟩ := e3
    have hyd : d = .slice (elems.map (·.1)) (rest.map (·.1)) := by
      have := congrArg Prod.fst hy3
      simpa using this
    rw [z6] at helem
    have hlr : len0 ≤ 140737488351232 := by
      have := hw (((elems.map (·.1)).length + (rest.map (·.1)).length) * Tryz.prog.bytesOf 110) (by rw [hyd]; simp only [DataW.weights, Tryz.underlying104]; exact List.mem_cons_self)
      rw [Sc.bytesT, List.length_map, hel] at this
      simp only [reachBytes] at this
      omega
    have key : ∀ i, i < len0 → ∃ t c0 c1 c2, a.spot = none ∧ Sc.Three W a.block (a.off + i * 3) c0 c1 c2 ∧ Sc.Tok W (.agg #[c0, c1, c2]) t ∧ t.text.size ≤ Rows.uptoBulk d := by
      intro i hi
      have h1 := helem i hi
      rw [List.getElem?_eq_getElem (by omega)] at h1
      obtain ⟨cs', h2, h3⟩ := Option.bind_eq_some_iff.1 h1
      have hsp0 : a.spot = none := by
        have h1 := helem 0 (by omega)
        rw [List.getElem?_eq_getElem (by omega)] at h1
        obtain ⟨cs0, h2, _⟩ := Option.bind_eq_some_iff.1 h1
        obtain ⟨_, _, _, _, hsp, _⟩ := Sc.cells3 h2
        rw [Nat.zero_mul] at hsp
        simpa [Addr.add] using hsp
      have e : a.add (i * 3) = ⟨a.block, a.off + i * 3, none⟩ := by
        obtain ⟨b, off, sp⟩ := a
        change sp = none at hsp0
        subst hsp0
        exact Addr.add_lit _ _ _
      obtain ⟨a0, a1, a2, rfl, _, h5⟩ := Sc.cells3 h2
      have hmem : (elems[i]'(by omega)).1 ∈ elems.map (·.1) := List.mem_map.2 ⟨_, List.getElem_mem _, rfl⟩
      obtain ⟨t, hx, hbk⟩ := Sc.open_tok n2 _ _ h3 (fun q hq => hw q (by
        rw [hyd]
        simp only [DataW.weights, Tryz.underlying104, List.mem_cons, List.mem_append]
        exact Or.inr (Or.inl (Sc.weightsAll_mem _ _ _ _ hmem q hq))))
      rw [e] at h5
      refine ⟨t, a0, a1, a2, hsp0, h5, hx, Nat.le_trans hbk ?_⟩
      rw [hyd]
      have := Sc.bulk_mem _ _ hmem
      simp only [Rows.uptoBulk]
      omega
    have hall : ∀ m, m ≤ len0 → ∃ l : List Sc.T, l.length = m ∧ ∀ i (hi : i < l.length), ∃ c0 c1 c2, a.spot = none ∧ Sc.Three W a.block (a.off + i * 3) c0 c1 c2 ∧ Sc.Tok W (.agg #[c0, c1, c2]) l[i] ∧ l[i].text.size ≤ Rows.uptoBulk d := by
      intro m
      induction m with
      | zero => exact fun _ => ⟨[], rfl, fun i hi => by simp at hi⟩
      | succ m ihm =>
        intro hm'
        obtain ⟨l, hl', hi'⟩ := ihm (by omega)
        obtain ⟨x, c0, c1, c2, hsp, h5, hx, hbk⟩ := key m (by omega)
        refine ⟨l ++ [x], by simp [hl'], fun i hi => ?_⟩
        by_cases him : i < l.length
        · obtain ⟨g0, g1, g2, q1, q2, q3, q4⟩ := hi' i him
          refine ⟨g0, g1, g2, q1, q2, ?_, ?_⟩
          · rw [List.getElem_append_left him]; exact q3
          · rw [List.getElem_append_left him]; exact q4
        · have : i = m := by rw [List.length_append] at hi; simp at hi; omega
          subst this
          refine ⟨c0, c1, c2, hsp, h5, ?_, ?_⟩
          · rw [List.getElem_append_right (by omega)]
            simp only [hl', Nat.sub_self, List.getElem_cons_zero]
            exact hx
          · rw [List.getElem_append_right (by omega)]
            simp only [hl', Nat.sub_self, List.getElem_cons_zero]
            exact hbk
    obtain ⟨l, hll, hli⟩ := hall len0 (Nat.le_refl _)
    have hcnt : len0 ≤ Rows.uptoBulk d := by
      have h1 := Sc.bulk_count (elems.map (·.1))
      rw [List.length_map, hel] at h1
      rw [hyd]
      simp only [Rows.uptoBulk]
      omega
    refine ⟨some a, cap0, l, by rw [hll], fun i hi => ?_, ⟨by omega, by omega⟩, fun t htm => ?_⟩
    · obtain ⟨g0, g1, g2, hsp, q2, q3, _⟩ := hli i hi
      obtain ⟨b, off, sp⟩ := a
      change sp = none at hsp
      subst hsp
      exact ⟨b, off, g0, g1, g2, rfl, q2, l[i], List.getElem?_eq_getElem hi, q3⟩
    · obtain ⟨i, hi, rfl⟩ := List.getElem_of_mem htm
      obtain ⟨_, _, _, _, _, _, q4⟩ := hli i hi
      exact q4
end Go.Proofs.YteiccjakaabfnaaGreatDoor
