/-
  What a law's slice of nodes reads as, opened for the walks, with the bulk of the texts of its tokens. No condition but the form's own reach.
  What a law's slice of nodes reads as, opened for the walks, with the bulk of the texts and the paths of its tokens and of the slice itself. No condition but the form's own reach.
-/
import Derived.Test.YteiccjakaabfnaaGreatDoorZ53
import Derived.Test.YteiccjakaabfnaaGreatDoorZ36
import Derived.Deep.Slices
import Derived.ChangeArms
namespace Go.Proofs.YteiccjakaabfnaaGreatDoor
open Go.ChangeShapes Go.WideShapes Go.ChangeAt Go.RowKit

theorem Nd.list5 {α : Type} {l : List α} (h : l.length = 5) : ∃ a b c d e, l = [a, b, c, d, e] := by
  match l, h with
  | [a, b, c, d, e], _ => exact ⟨a, b, c, d, e, rfl⟩
set_option maxRecDepth 100000 in
theorem Nd.cellsN : Tryz.prog.cellsOf 22 = 1 ∧ Tryz.prog.cellsOf 37 = 5 := ⟨by kernel_rfl, by kernel_rfl⟩
set_option maxRecDepth 100000 in
theorem Nd.bytesN : Tryz.prog.bytesOf 37 = 96 := by kernel_rfl
theorem Nd.cells5 {W : World} {a : Addr} {cs : List Value} (h : W.cells? 0 a 5 = some cs) : ∃ c0 c1 c2 c3 c4, cs = [c0, c1, c2, c3, c4] ∧ a.spot = none ∧ Vl.Five W a.block a.off c0 c1 c2 c3 c4 := by
  obtain ⟨b, off, sp⟩ := a
  unfold World.cells? at h
  rw [if_pos (Nat.zero_le _)] at h
  simp only [List.range_succ, List.range_zero, List.nil_append, List.cons_append, List.mapM_cons, List.mapM_nil, Option.pure_def, Option.bind_eq_bind, Option.bind_eq_some_iff, Option.some.injEq] at h
  obtain ⟨c0, h0, _, ⟨c1, h1, _, ⟨c2, h2, _, ⟨c3, h3, _, ⟨c4, h4, _, rfl, rfl⟩, rfl⟩, rfl⟩, rfl⟩, rfl⟩ := h
  have hsp : sp = none := by
    cases sp with
    | none => rfl
    | some x => simp [World.cell?, Addr.add] at h0; split at h0 <;> simp_all
  subst hsp
  exact ⟨c0, c1, c2, c3, c4, rfl, rfl, by simpa [Addr.add] using h0, by simpa [Addr.add] using h1, by simpa [Addr.add] using h2, by simpa [Addr.add] using h3, by simpa [Addr.add] using h4⟩
/-- The texts of tokens are of at most that size. -/
def Nd.Tx (m : Nat) (l : List Sc.T) : Prop := ∀ t ∈ l, t.text.size ≤ m
theorem Nd.Tx.mono {m m' : Nat} {l : List Sc.T} (h : Nd.Tx m l) (hm : m ≤ m') : Nd.Tx m' l := fun t ht => Nat.le_trans (h t ht) hm
theorem Nd.tx_all {m : Nat} : ∀ {l : List Nd.N}, (∀ x ∈ l, Nd.Tx m x.toks) → Nd.Tx m (Nd.toksL l)
  | [], _ => by rw [Nd.toksL_nil]; intro t ht; simp at ht
  | x :: l, h => by
    rw [Nd.toksL_cons]
    intro t ht
    rcases List.mem_append.1 ht with ht | ht
    · exact h x (by simp) t ht
    · exact Nd.tx_all (fun y hy => h y (by simp [hy])) t ht
theorem Nd.tx_node {m k : Nat} {t : ByteArray} {p : List ByteArray} {kids els : List Nd.N} (h0 : t.size ≤ m) (h1 : Nd.Tx m (Nd.toksL kids)) (h2 : Nd.Tx m (Nd.toksL els)) : Nd.Tx m (Nd.N.mk k t p kids els).toks := by
  intro x hx
  rw [Nd.N.toks] at hx
  rcases List.mem_cons.1 hx with rfl | hx
  · exact h0
  · split at hx
    · rcases List.mem_append.1 hx with hx | hx
      · exact h1 x hx
      · rcases List.mem_append.1 hx with hx | hx
        · split at hx
          · simp at hx
          · rcases List.mem_cons.1 hx with rfl | hx
            · exact Nat.zero_le _
            · exact h2 x hx
        · rcases List.mem_cons.1 hx with rfl | hx
          · exact Nat.zero_le _
          · simp at hx
    · simp at hx
/-- What is known of a node that is read at some depth. -/
def Nd.Opens {H : Type} (enc : TypeId × Value → H) (W : World) (n : Nat) : Prop := ∀ (cs : List Value) (y : DataW H × List MemPlace),
  DataW.trod enc Tryz.prog W 0 (fun _ => true) true n 37 cs = some y → (∀ q ∈ y.1.weights Tryz.prog 37, q ≤ reachBytes) → ∃ x : Nd.N, Nd.At W (.agg cs.toArray) x ∧ Nd.Tx (Rows.uptoBulk y.1) x.toks
set_option maxRecDepth 100000 in
theorem Nd.open_row {H : Type} {enc : TypeId × Value → H} {W : World} (n : Nat) (ih : ∀ m, m < n → Nd.Opens enc W m) (v : Value) (y : DataW H × List MemPlace)
    (h : DataW.trod enc Tryz.prog W 0 (fun _ => true) true n 22 [v] = some y) (hw : ∀ q ∈ y.1.weights Tryz.prog 22, q ≤ reachBytes) :
    ∃ p c, ∃ l : List Nd.N, v = .slice p l.length c ∧ Nd.Row W p l ∧ (l.length ≤ 140737488351232 ∧ l.length ≤ c) ∧ Nd.Tx (Rows.uptoBulk y.1) (Nd.toksL l) := by
  obtain ⟨z4, z6⟩ := Nd.cellsN
  rcases DataW.trod_slice Tryz.underlying22 h with ⟨e3, _⟩ | ⟨a, len, cap, elems, rest, n2, hn2, e3, hy3, hb, hlc, hm, hel, helem, _, _⟩
  · simp only [List.cons.injEq, and_true] at e3
    exact ⟨none, 0, [], e3, Nd.Row.nil W none, ⟨by simp, Nat.le_refl _⟩, by rw [Nd.toksL_nil]; intro t ht; simp at ht⟩
  · simp only [List.cons.injEq, and_true] at e3
    subst e3
    have hyd : y.1 = .slice (elems.map (·.1)) (rest.map (·.1)) := by
      rw [hy3]
    rw [z6] at helem
    have hlr : len ≤ 140737488351232 := by
      have := hw (((elems.map (·.1)).length + (rest.map (·.1)).length) * Tryz.prog.bytesOf 37) (by rw [hyd]; simp only [DataW.weights, Tryz.underlying22]; exact List.mem_cons_self)
      rw [Nd.bytesN, List.length_map, hel] at this
      simp only [reachBytes] at this
      omega
    have key : ∀ i, i < len → ∃ x c0 c1 c2 c3 c4, a.spot = none ∧ Vl.Five W a.block (a.off + i * 5) c0 c1 c2 c3 c4 ∧ Nd.At W (.agg #[c0, c1, c2, c3, c4]) x ∧ Nd.Tx (Rows.uptoBulk y.1) x.toks := by
      intro i hi
      have h1 := helem i hi
      rw [List.getElem?_eq_getElem (by omega)] at h1
      obtain ⟨cs', h2, h3⟩ := Option.bind_eq_some_iff.1 h1
      have hsp0 : a.spot = none := by
        have h1 := helem 0 (by omega)
        rw [List.getElem?_eq_getElem (by omega)] at h1
        obtain ⟨cs0, h2, _⟩ := Option.bind_eq_some_iff.1 h1
        obtain ⟨_, _, _, _, _, _, hsp, _⟩ := Nd.cells5 h2
        rw [Nat.zero_mul] at hsp
        simpa [Addr.add] using hsp
      have e : a.add (i * 5) = ⟨a.block, a.off + i * 5, none⟩ := by
        obtain ⟨b, off, sp⟩ := a
        change sp = none at hsp0
        subst hsp0
        exact Addr.add_lit _ _ _
      obtain ⟨a0, a1, a2, a3, a4, rfl, _, h5⟩ := Nd.cells5 h2
      have hmem : (elems[i]'(by omega)).1 ∈ elems.map (·.1) := List.mem_map.2 ⟨_, List.getElem_mem _, rfl⟩
      obtain ⟨x, hx, hbk⟩ := ih n2 (by omega) _ _ h3 (fun q hq => hw q (by
        rw [hyd]
        simp only [DataW.weights, Tryz.underlying22, List.mem_cons, List.mem_append]
        exact Or.inr (Or.inl (Sc.weightsAll_mem _ _ _ _ hmem q hq))))
      rw [e] at h5
      refine ⟨x, a0, a1, a2, a3, a4, hsp0, h5, hx, hbk.mono ?_⟩
      rw [hyd]
      have := Sc.bulk_mem _ _ hmem
      simp only [Rows.uptoBulk]
      omega
    have hall : ∀ m, m ≤ len → ∃ l : List Nd.N, l.length = m ∧ ∀ i (hi : i < l.length), ∃ c0 c1 c2 c3 c4, a.spot = none ∧ Vl.Five W a.block (a.off + i * 5) c0 c1 c2 c3 c4 ∧ Nd.At W (.agg #[c0, c1, c2, c3, c4]) l[i] ∧ Nd.Tx (Rows.uptoBulk y.1) l[i].toks := by
      intro m
      induction m with
      | zero => exact fun _ => ⟨[], rfl, fun i hi => by simp at hi⟩
      | succ m ihm =>
        intro hm'
        obtain ⟨l, hl', hi'⟩ := ihm (by omega)
        obtain ⟨x, c0, c1, c2, c3, c4, hsp, h5, hx, hbk⟩ := key m (by omega)
        refine ⟨l ++ [x], by simp [hl'], fun i hi => ?_⟩
        by_cases him : i < l.length
        · obtain ⟨g0, g1, g2, g3, g4, q1, q2, q3, q4⟩ := hi' i him
          refine ⟨g0, g1, g2, g3, g4, q1, q2, ?_, ?_⟩
          · rw [List.getElem_append_left him]; exact q3
          · rw [List.getElem_append_left him]; exact q4
        · have : i = m := by rw [List.length_append] at hi; simp at hi; omega
          subst this
          refine ⟨c0, c1, c2, c3, c4, hsp, h5, ?_, ?_⟩
          · rw [List.getElem_append_right (by omega)]
            simp only [hl', Nat.sub_self, List.getElem_cons_zero]
            exact hx
          · rw [List.getElem_append_right (by omega)]
            simp only [hl', Nat.sub_self, List.getElem_cons_zero]
            exact hbk
    obtain ⟨l, hll, hli⟩ := hall len (Nat.le_refl _)
    refine ⟨some a, cap, l, by rw [hll], fun i hi => ?_, ⟨by omega, by omega⟩, Nd.tx_all fun x hx => ?_⟩
    · obtain ⟨g0, g1, g2, g3, g4, hsp, q2, q3, _⟩ := hli i hi
      obtain ⟨b, off, sp⟩ := a
      change sp = none at hsp
      subst hsp
      exact ⟨b, off, g0, g1, g2, g3, g4, rfl, q2, l[i], List.getElem?_eq_getElem hi, q3⟩
    · obtain ⟨i, hi, rfl⟩ := List.getElem_of_mem hx
      obtain ⟨_, _, _, _, _, _, _, _, q4⟩ := hli i hi
      exact q4
set_option maxRecDepth 100000 in
theorem Nd.open_node {H : Type} {enc : TypeId × Value → H} {W : World} (n : Nat) : Nd.Opens enc W n := by
  induction n using Nat.strongRecOn with
  | ind n ih =>
    intro cs y h hw
    obtain ⟨z2, z5, _⟩ := Sc.cellsT
    obtain ⟨z4, z6⟩ := Nd.cellsN
    obtain ⟨xs, n1, hn1, rfl, hl, hlen, hf⟩ := DataW.trod_struct Tryz.underlying37 h
    rw [z6] at hl
    obtain ⟨c0, c1, c2, c3, c4, rfl⟩ := Nd.list5 hl
    obtain ⟨y0, y1, y2, y3, y4, rfl⟩ := Nd.list5 hlen
    have f0 : DataW.trod enc Tryz.prog W 0 (fun _ => true) true n1 35 [c0] = some y0 := by
      have := hf 0 _ rfl
      simpa [z2] using this
    have f1 : DataW.trod enc Tryz.prog W 0 (fun _ => true) true n1 9 [c1] = some y1 := by
      have := hf 1 _ rfl
      simpa [cells_text] using this
    have f2 : DataW.trod enc Tryz.prog W 0 (fun _ => true) true n1 23 [c2] = some y2 := by
      have := hf 2 _ rfl
      simpa [z5] using this
    have f3 : DataW.trod enc Tryz.prog W 0 (fun _ => true) true n1 22 [c3] = some y3 := by
      have := hf 3 _ rfl
      simpa [z4] using this
    have f4 : DataW.trod enc Tryz.prog W 0 (fun _ => true) true n1 22 [c4] = some y4 := by
      have := hf 4 _ rfl
      simpa [z4] using this
    simp only [DataW.weights, Tryz.underlying37, List.map_cons, List.map_nil, DataW.weightsEach, List.mem_append, List.append_nil] at hw
    obtain ⟨k, e0, _, w0⟩ := DataW.trod_int Tryz.underlying35 f0
    obtain ⟨t, e1, e1', _⟩ := DataW.trod_string Tryz.underlying9 f1
    simp only [List.cons.injEq, and_true] at e0 e1
    subst e0 e1
    have hk : 0 ≤ k ∧ k ≤ 255 := by simpa [Lit.wf, IntKind.min, IntKind.max, IntKind.signed, IntKind.bits] using w0
    obtain ⟨kn, rfl⟩ := Int.eq_ofNat_of_zero_le hk.1
    have ht : t.size ≤ 140737488351232 := by
      have := hw t.data.toList.length (Or.inr (Or.inl (by rw [e1']; simp [DataW.weights])))
      rw [← Wp.size_len] at this
      exact this
    obtain ⟨pn, cn, ns, rfl, hns, hnl, hnsz, hcap⟩ := Sc.open_path f2 (fun q hq => hw q (Or.inr (Or.inr (Or.inl hq))))
    obtain ⟨pk, ck, kids, rfl, hA3, ⟨hl3, hc3⟩, hT3⟩ := Nd.open_row n1 (fun m hm => ih m (by omega)) c3 y3 f3 (fun q hq => hw q (Or.inr (Or.inr (Or.inr (Or.inl hq)))))
    obtain ⟨pe, ce, els, rfl, hA4, ⟨hl4, hc4⟩, hT4⟩ := Nd.open_row n1 (fun m hm => ih m (by omega)) c4 y4 f4 (fun q hq => hw q (Or.inr (Or.inr (Or.inr (Or.inr hq)))))
    have hb1 := Sc.bulk_mem (H := H) [y0.1, y1.1, y2.1, y3.1, y4.1] y1.1 (by simp)
    have hb3 := Sc.bulk_mem (H := H) [y0.1, y1.1, y2.1, y3.1, y4.1] y3.1 (by simp)
    have hb4 := Sc.bulk_mem (H := H) [y0.1, y1.1, y2.1, y3.1, y4.1] y4.1 (by simp)
    have hbk : Rows.uptoBulkAll [y0.1, y1.1, y2.1, y3.1, y4.1] ≤ Rows.uptoBulk (.agg [y0.1, y1.1, y2.1, y3.1, y4.1]) := by
      simp only [Rows.uptoBulk]
      omega
    have h1 : t.size ≤ Rows.uptoBulk y1.1 := by
      rw [e1']
      simp only [Rows.uptoBulk]
      rw [Wp.size_len]
      omega
    refine ⟨.mk kn t ns kids els, ?_, Nd.tx_node (show t.size ≤ Rows.uptoBulk (.agg [y0.1, y1.1, y2.1, y3.1, y4.1]) by omega) (hT3.mono (show _ ≤ Rows.uptoBulk (.agg [y0.1, y1.1, y2.1, y3.1, y4.1]) by omega)) (hT4.mono (show _ ≤ Rows.uptoBulk (.agg [y0.1, y1.1, y2.1, y3.1, y4.1]) by omega))⟩
    rw [Nd.At]
    exact ⟨pn, cn, pk, ck, pe, ce, rfl, ⟨by omega, ht, hnl, hl3, hl4, hnsz, hcap, hc3, hc4⟩, hns, (Nd.row_iff _ _ _).2 hA3, (Nd.row_iff _ _ _).2 hA4⟩
set_option maxRecDepth 100000 in
/-- Nodes among the arguments. -/
theorem Nd.open_nodes {H : Type} {enc : TypeId × Value → H} {W : World} {base : Nat} {ts : List TypeId} {ds : List (DataW H)} (hsz : (DataW.weightsEach Tryz.prog ts ds).all (· ≤ reachBytes) = true)
    (j : Nat) {v : Value} {d : DataW H} {ps : List MemPlace} (ht : ts[j]? = some 22) (hd : ds[j]? = some d) (hval : Value.okWide Tryz.prog W .any base 22 v)
    (h : DataW.Trod enc Tryz.prog W 0 (fun _ => true) true 22 v d ps) :
    ∃ p c, ∃ l : List Nd.N, v = .slice p l.length c ∧ Nd.Row W p l ∧ (l.length ≤ 140737488351232 ∧ l.length ≤ c) ∧ ∀ t ∈ Nd.toksL l, t.text.size ≤ Rows.uptoBulk d := by
  obtain ⟨a0, len0, cap0, rfl⟩ := okWide_slice Tryz.underlying22 hval
  obtain ⟨fuel, hf⟩ := h
  exact Nd.open_row fuel (fun m _ => Nd.open_node m) _ (d, ps) hf (fun q hq => by
    have := List.all_eq_true.1 hsz q (DataW.weights_mem_each ht hd q hq)
    simpa using this)
end Go.Proofs.YteiccjakaabfnaaGreatDoor
namespace Go.Proofs.YteiccjakaabfnaaGreatDoor
open Go.ChangeShapes Go.WideShapes Go.ChangeAt Go.RowKit

/-- The texts and paths of tokens are of at most that size. -/
def Nd.Tz (m : Nat) (l : List Sc.T) : Prop := ∀ t ∈ l, t.text.size ≤ m ∧ t.path.length ≤ m
theorem Nd.Tz.mono {m m' : Nat} {l : List Sc.T} (h : Nd.Tz m l) (hm : m ≤ m') : Nd.Tz m' l := fun t ht => ⟨Nat.le_trans (h t ht).1 hm, Nat.le_trans (h t ht).2 hm⟩
theorem Nd.tz_all {m : Nat} : ∀ {l : List Nd.N}, (∀ x ∈ l, Nd.Tz m x.toks) → Nd.Tz m (Nd.toksL l)
  | [], _ => by rw [Nd.toksL_nil]; intro t ht; simp at ht
  | x :: l, h => by
    rw [Nd.toksL_cons]
    intro t ht
    rcases List.mem_append.1 ht with ht | ht
    · exact h x (by simp) t ht
    · exact Nd.tz_all (fun y hy => h y (by simp [hy])) t ht
theorem Nd.tz_node {m k : Nat} {t : ByteArray} {p : List ByteArray} {kids els : List Nd.N} (h0 : t.size ≤ m ∧ p.length ≤ m) (h1 : Nd.Tz m (Nd.toksL kids)) (h2 : Nd.Tz m (Nd.toksL els)) : Nd.Tz m (Nd.N.mk k t p kids els).toks := by
  intro x hx
  rw [Nd.N.toks] at hx
  rcases List.mem_cons.1 hx with rfl | hx
  · exact h0
  · split at hx
    · rcases List.mem_append.1 hx with hx | hx
      · exact h1 x hx
      · rcases List.mem_append.1 hx with hx | hx
        · split at hx
          · simp at hx
          · rcases List.mem_cons.1 hx with rfl | hx
            · exact ⟨Nat.zero_le _, Nat.zero_le _⟩
            · exact h2 x hx
        · rcases List.mem_cons.1 hx with rfl | hx
          · exact ⟨Nat.zero_le _, Nat.zero_le _⟩
          · simp at hx
    · simp at hx
/-- What is known of a node that is read at some depth. -/
def Nd.OpensL {H : Type} (enc : TypeId × Value → H) (W : World) (n : Nat) : Prop := ∀ (cs : List Value) (y : DataW H × List MemPlace),
  DataW.trod enc Tryz.prog W 0 (fun _ => true) true n 37 cs = some y → (∀ q ∈ y.1.weights Tryz.prog 37, q ≤ reachBytes) → ∃ x : Nd.N, Nd.At W (.agg cs.toArray) x ∧ Nd.Tz (Rows.uptoBulk y.1) x.toks
set_option maxRecDepth 100000 in
theorem Nd.open_rowL {H : Type} {enc : TypeId × Value → H} {W : World} (n : Nat) (ih : ∀ m, m < n → Nd.OpensL enc W m) (v : Value) (y : DataW H × List MemPlace)
    (h : DataW.trod enc Tryz.prog W 0 (fun _ => true) true n 22 [v] = some y) (hw : ∀ q ∈ y.1.weights Tryz.prog 22, q ≤ reachBytes) :
    ∃ p c, ∃ l : List Nd.N, v = .slice p l.length c ∧ Nd.Row W p l ∧ (l.length ≤ 140737488351232 ∧ l.length ≤ c) ∧ Nd.Tz (Rows.uptoBulk y.1) (Nd.toksL l) ∧ l.length ≤ Rows.uptoBulk y.1 := by
  obtain ⟨z4, z6⟩ := Nd.cellsN
  rcases DataW.trod_slice Tryz.underlying22 h with ⟨e3, _⟩ | ⟨a, len, cap, elems, rest, n2, hn2, e3, hy3, hb, hlc, hm, hel, helem, _, _⟩
  · simp only [List.cons.injEq, and_true] at e3
    exact ⟨none, 0, [], e3, Nd.Row.nil W none, ⟨by simp, Nat.le_refl _⟩, by rw [Nd.toksL_nil]; intro t ht; simp at ht, Nat.zero_le _⟩
  · simp only [List.cons.injEq, and_true] at e3
    subst e3
    have hyd : y.1 = .slice (elems.map (·.1)) (rest.map (·.1)) := by
      rw [hy3]
    rw [z6] at helem
    have hlr : len ≤ 140737488351232 := by
      have := hw (((elems.map (·.1)).length + (rest.map (·.1)).length) * Tryz.prog.bytesOf 37) (by rw [hyd]; simp only [DataW.weights, Tryz.underlying22]; exact List.mem_cons_self)
      rw [Nd.bytesN, List.length_map, hel] at this
      simp only [reachBytes] at this
      omega
    have key : ∀ i, i < len → ∃ x c0 c1 c2 c3 c4, a.spot = none ∧ Vl.Five W a.block (a.off + i * 5) c0 c1 c2 c3 c4 ∧ Nd.At W (.agg #[c0, c1, c2, c3, c4]) x ∧ Nd.Tz (Rows.uptoBulk y.1) x.toks := by
      intro i hi
      have h1 := helem i hi
      rw [List.getElem?_eq_getElem (by omega)] at h1
      obtain ⟨cs', h2, h3⟩ := Option.bind_eq_some_iff.1 h1
      have hsp0 : a.spot = none := by
        have h1 := helem 0 (by omega)
        rw [List.getElem?_eq_getElem (by omega)] at h1
        obtain ⟨cs0, h2, _⟩ := Option.bind_eq_some_iff.1 h1
        obtain ⟨_, _, _, _, _, _, hsp, _⟩ := Nd.cells5 h2
        rw [Nat.zero_mul] at hsp
        simpa [Addr.add] using hsp
      have e : a.add (i * 5) = ⟨a.block, a.off + i * 5, none⟩ := by
        obtain ⟨b, off, sp⟩ := a
        change sp = none at hsp0
        subst hsp0
        exact Addr.add_lit _ _ _
      obtain ⟨a0, a1, a2, a3, a4, rfl, _, h5⟩ := Nd.cells5 h2
      have hmem : (elems[i]'(by omega)).1 ∈ elems.map (·.1) := List.mem_map.2 ⟨_, List.getElem_mem _, rfl⟩
      obtain ⟨x, hx, hbk⟩ := ih n2 (by omega) _ _ h3 (fun q hq => hw q (by
        rw [hyd]
        simp only [DataW.weights, Tryz.underlying22, List.mem_cons, List.mem_append]
        exact Or.inr (Or.inl (Sc.weightsAll_mem _ _ _ _ hmem q hq))))
      rw [e] at h5
      refine ⟨x, a0, a1, a2, a3, a4, hsp0, h5, hx, hbk.mono ?_⟩
      rw [hyd]
      have := Sc.bulk_mem _ _ hmem
      simp only [Rows.uptoBulk]
      omega
    have hall : ∀ m, m ≤ len → ∃ l : List Nd.N, l.length = m ∧ ∀ i (hi : i < l.length), ∃ c0 c1 c2 c3 c4, a.spot = none ∧ Vl.Five W a.block (a.off + i * 5) c0 c1 c2 c3 c4 ∧ Nd.At W (.agg #[c0, c1, c2, c3, c4]) l[i] ∧ Nd.Tz (Rows.uptoBulk y.1) l[i].toks := by
      intro m
      induction m with
      | zero => exact fun _ => ⟨[], rfl, fun i hi => by simp at hi⟩
      | succ m ihm =>
        intro hm'
        obtain ⟨l, hl', hi'⟩ := ihm (by omega)
        obtain ⟨x, c0, c1, c2, c3, c4, hsp, h5, hx, hbk⟩ := key m (by omega)
        refine ⟨l ++ [x], by simp [hl'], fun i hi => ?_⟩
        by_cases him : i < l.length
        · obtain ⟨g0, g1, g2, g3, g4, q1, q2, q3, q4⟩ := hi' i him
          refine ⟨g0, g1, g2, g3, g4, q1, q2, ?_, ?_⟩
          · rw [List.getElem_append_left him]; exact q3
          · rw [List.getElem_append_left him]; exact q4
        · have : i = m := by rw [List.length_append] at hi; simp at hi; omega
          subst this
          refine ⟨c0, c1, c2, c3, c4, hsp, h5, ?_, ?_⟩
          · rw [List.getElem_append_right (by omega)]
            simp only [hl', Nat.sub_self, List.getElem_cons_zero]
            exact hx
          · rw [List.getElem_append_right (by omega)]
            simp only [hl', Nat.sub_self, List.getElem_cons_zero]
            exact hbk
    obtain ⟨l, hll, hli⟩ := hall len (Nat.le_refl _)
    refine ⟨some a, cap, l, by rw [hll], fun i hi => ?_, ⟨by omega, by omega⟩, Nd.tz_all fun x hx => ?_, by rw [hyd, hll]; have h1 := Sc.bulk_count (elems.map (·.1)); rw [List.length_map, hel] at h1; simp only [Rows.uptoBulk]; omega⟩
    · obtain ⟨g0, g1, g2, g3, g4, hsp, q2, q3, _⟩ := hli i hi
      obtain ⟨b, off, sp⟩ := a
      change sp = none at hsp
      subst hsp
      exact ⟨b, off, g0, g1, g2, g3, g4, rfl, q2, l[i], List.getElem?_eq_getElem hi, q3⟩
    · obtain ⟨i, hi, rfl⟩ := List.getElem_of_mem hx
      obtain ⟨_, _, _, _, _, _, _, _, q4⟩ := hli i hi
      exact q4
set_option maxRecDepth 100000 in
theorem Nd.open_nodeL {H : Type} {enc : TypeId × Value → H} {W : World} (n : Nat) : Nd.OpensL enc W n := by
  induction n using Nat.strongRecOn with
  | ind n ih =>
    intro cs y h hw
    obtain ⟨z2, z5, _⟩ := Sc.cellsT
    obtain ⟨z4, z6⟩ := Nd.cellsN
    obtain ⟨xs, n1, hn1, rfl, hl, hlen, hf⟩ := DataW.trod_struct Tryz.underlying37 h
    rw [z6] at hl
    obtain ⟨c0, c1, c2, c3, c4, rfl⟩ := Nd.list5 hl
    obtain ⟨y0, y1, y2, y3, y4, rfl⟩ := Nd.list5 hlen
    have f0 : DataW.trod enc Tryz.prog W 0 (fun _ => true) true n1 35 [c0] = some y0 := by
      have := hf 0 _ rfl
      simpa [z2] using this
    have f1 : DataW.trod enc Tryz.prog W 0 (fun _ => true) true n1 9 [c1] = some y1 := by
      have := hf 1 _ rfl
      simpa [cells_text] using this
    have f2 : DataW.trod enc Tryz.prog W 0 (fun _ => true) true n1 23 [c2] = some y2 := by
      have := hf 2 _ rfl
      simpa [z5] using this
    have f3 : DataW.trod enc Tryz.prog W 0 (fun _ => true) true n1 22 [c3] = some y3 := by
      have := hf 3 _ rfl
      simpa [z4] using this
    have f4 : DataW.trod enc Tryz.prog W 0 (fun _ => true) true n1 22 [c4] = some y4 := by
      have := hf 4 _ rfl
      simpa [z4] using this
    simp only [DataW.weights, Tryz.underlying37, List.map_cons, List.map_nil, DataW.weightsEach, List.mem_append, List.append_nil] at hw
    obtain ⟨k, e0, _, w0⟩ := DataW.trod_int Tryz.underlying35 f0
    obtain ⟨t, e1, e1', _⟩ := DataW.trod_string Tryz.underlying9 f1
    simp only [List.cons.injEq, and_true] at e0 e1
    subst e0 e1
    have hk : 0 ≤ k ∧ k ≤ 255 := by simpa [Lit.wf, IntKind.min, IntKind.max, IntKind.signed, IntKind.bits] using w0
    obtain ⟨kn, rfl⟩ := Int.eq_ofNat_of_zero_le hk.1
    have ht : t.size ≤ 140737488351232 := by
      have := hw t.data.toList.length (Or.inr (Or.inl (by rw [e1']; simp [DataW.weights])))
      rw [← Wp.size_len] at this
      exact this
    obtain ⟨pn, cn, ns, rfl, hns, hnl, hnsz, hcap⟩ := Sc.open_path f2 (fun q hq => hw q (Or.inr (Or.inr (Or.inl hq))))
    obtain ⟨pk, ck, kids, rfl, hA3, ⟨hl3, hc3⟩, hT3, -⟩ := Nd.open_rowL n1 (fun m hm => ih m (by omega)) c3 y3 f3 (fun q hq => hw q (Or.inr (Or.inr (Or.inr (Or.inl hq)))))
    obtain ⟨pe, ce, els, rfl, hA4, ⟨hl4, hc4⟩, hT4, -⟩ := Nd.open_rowL n1 (fun m hm => ih m (by omega)) c4 y4 f4 (fun q hq => hw q (Or.inr (Or.inr (Or.inr (Or.inr hq)))))
    have hb2 := Sc.bulk_mem (H := H) [y0.1, y1.1, y2.1, y3.1, y4.1] y2.1 (by simp)
    have hpb : ns.length ≤ Rows.uptoBulk y2.1 := by
      rcases DataW.trod_slice Tryz.underlying23 f2 with ⟨e3, _⟩ | ⟨a, len, cap, elems, rest, n2, hn2, e3, hy3, hb, hlc, hm, hel, helem, _, _⟩
      · simp only [List.cons.injEq, and_true, Value.slice.injEq] at e3
        omega
      · simp only [List.cons.injEq, and_true, Value.slice.injEq] at e3
        have h1 := Sc.bulk_count (elems.map (·.1))
        rw [List.length_map, hel] at h1
        rw [hy3]
        simp only [Rows.uptoBulk]
        omega
    have hb1 := Sc.bulk_mem (H := H) [y0.1, y1.1, y2.1, y3.1, y4.1] y1.1 (by simp)
    have hb3 := Sc.bulk_mem (H := H) [y0.1, y1.1, y2.1, y3.1, y4.1] y3.1 (by simp)
    have hb4 := Sc.bulk_mem (H := H) [y0.1, y1.1, y2.1, y3.1, y4.1] y4.1 (by simp)
    have hbk : Rows.uptoBulkAll [y0.1, y1.1, y2.1, y3.1, y4.1] ≤ Rows.uptoBulk (.agg [y0.1, y1.1, y2.1, y3.1, y4.1]) := by
      simp only [Rows.uptoBulk]
      omega
    have h1 : t.size ≤ Rows.uptoBulk y1.1 := by
      rw [e1']
      simp only [Rows.uptoBulk]
      rw [Wp.size_len]
      omega
    refine ⟨.mk kn t ns kids els, ?_, Nd.tz_node (show t.size ≤ Rows.uptoBulk (.agg [y0.1, y1.1, y2.1, y3.1, y4.1]) ∧ ns.length ≤ Rows.uptoBulk (.agg [y0.1, y1.1, y2.1, y3.1, y4.1]) by omega) (hT3.mono (show _ ≤ Rows.uptoBulk (.agg [y0.1, y1.1, y2.1, y3.1, y4.1]) by omega)) (hT4.mono (show _ ≤ Rows.uptoBulk (.agg [y0.1, y1.1, y2.1, y3.1, y4.1]) by omega))⟩
    rw [Nd.At]
    exact ⟨pn, cn, pk, ck, pe, ce, rfl, ⟨by omega, ht, hnl, hl3, hl4, hnsz, hcap, hc3, hc4⟩, hns, (Nd.row_iff _ _ _).2 hA3, (Nd.row_iff _ _ _).2 hA4⟩
set_option maxRecDepth 100000 in
/-- Nodes among the arguments. -/
theorem Nd.open_nodesL {H : Type} {enc : TypeId × Value → H} {W : World} {base : Nat} {ts : List TypeId} {ds : List (DataW H)} (hsz : (DataW.weightsEach Tryz.prog ts ds).all (· ≤ reachBytes) = true)
    (j : Nat) {v : Value} {d : DataW H} {ps : List MemPlace} (ht : ts[j]? = some 22) (hd : ds[j]? = some d) (hval : Value.okWide Tryz.prog W .any base 22 v)
    (h : DataW.Trod enc Tryz.prog W 0 (fun _ => true) true 22 v d ps) :
    ∃ p c, ∃ l : List Nd.N, v = .slice p l.length c ∧ Nd.Row W p l ∧ (l.length ≤ 140737488351232 ∧ l.length ≤ c) ∧ (∀ t ∈ Nd.toksL l, t.text.size ≤ Rows.uptoBulk d ∧ t.path.length ≤ Rows.uptoBulk d) ∧ l.length ≤ Rows.uptoBulk d := by
  obtain ⟨a0, len0, cap0, rfl⟩ := okWide_slice Tryz.underlying22 hval
  obtain ⟨fuel, hf⟩ := h
  exact Nd.open_rowL fuel (fun m _ => Nd.open_nodeL m) _ (d, ps) hf (fun q hq => by
    have := List.all_eq_true.1 hsz q (DataW.weights_mem_each ht hd q hq)
    simpa using this)
end Go.Proofs.YteiccjakaabfnaaGreatDoor
