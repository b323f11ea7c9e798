/-
  The bulk of a slice of texts bounds how many they are: for the statements of the second form. No condition.
  What a law's slice of texts reads as, opened for the walks. No condition but the form's own reach.
  What a law's slice of tokens reads as, opened for the walks, with the bulk of its texts. No condition but the form's own reach.
  What a law's slice of nodes reads as, opened for the walks, with the bulk of the texts of its tokens. No condition but the form's own reach.
  What a law's slice of nodes reads as, opened for the walks, with the bulk of the texts and the paths of its tokens and of the slice itself. No condition but the form's own reach.
-/
import Derived.Test.YteajjlilpikdeaaGreatDoorRows
import Derived.Test.YteajjlilpikdeaaGreatDoorRowKit
import Derived.Test.YteajjlilpikdeaaGreatDoorAt
import Derived.Test.YteajjlilpikdeaaGreatDoorPlain
import Derived.SliceStrings
import Derived.Test.YteajjlilpikdeaaGreatDoorScAt
import Derived.Deep.Slices
import Derived.ChangeArms
import Derived.Test.YteajjlilpikdeaaGreatDoorNdS
namespace Go.Proofs.YteajjlilpikdeaaGreatDoor
open Go.ChangeShapes Go.WideShapes Go.ChangeAt Go.RowKit

theorem bulk_len {H : Type} (l : List ByteArray) : l.length ≤ Rows.uptoBulkAll (strs (H := H) l) := by
  induction l with
  | nil => simp
  | cons x l ih =>
    simp only [strs, List.map_cons, Rows.uptoBulkAll, Rows.uptoBulk, List.length_cons] at ih ⊢
    omega
theorem bulk_mem {H : Type} (ds : List (DataW H)) (d : DataW H) (h : d ∈ ds) : Rows.uptoBulk d ≤ Rows.uptoBulkAll ds := by
  induction ds with
  | nil => simp at h
  | cons x ds ih =>
    simp only [Rows.uptoBulkAll]
    rcases List.mem_cons.1 h with rfl | h
    · omega
    · have := ih h; omega
theorem bulk_get {H : Type} {ds : List (DataW H)} (hk : Rows.uptoSmall H ds = true) (d : DataW H) (h : d ∈ ds) : Rows.uptoBulk d ≤ 1048576 := by
  have h1 : Rows.uptoBulkAll ds ≤ 1048576 := of_decide_eq_true hk
  exact Nat.le_trans (bulk_mem ds d h) h1
set_option maxRecDepth 100000 in
/-- The same list that open_texts opens, with its bulk. -/
theorem Wp.open_texts_bulk {H : Type} {enc : TypeId × Value → H} {W : World} {base : Nat} {ts : List TypeId} {ds : List (DataW H)} (hsz : (DataW.weightsEach Tryz.prog ts ds).all (· ≤ reachBytes) = true)
    (j : Nat) {v : Value} {d : DataW H} {ps : List MemPlace} (ht : ts[j]? = some 35) (hd : ds[j]? = some d) (hval : Value.okWide Tryz.prog W .any base 35 v)
    (h : DataW.Trod enc Tryz.prog W 0 (fun _ => true) true 35 v d ps) :
    ∃ p c, ∃ l : List ByteArray, v = .slice p l.length c ∧ Wp.At Wp.mkT W p l ∧ l.length ≤ 140737488351232 ∧ (∀ x ∈ l, x.size ≤ 140737488351232) ∧ l.length ≤ Rows.uptoBulk d := by
  obtain ⟨p, c, l, hv, hat, hl, hx⟩ := Wp.open_texts hsz j ht hd hval h
  refine ⟨p, c, l, hv, hat, hl, hx, ?_⟩
  subst hv
  obtain ⟨fuel, hf⟩ := h
  rcases open_strings Tryz.underlying35 Tryz.underlying9 cells_text hf with ⟨hc, hx2⟩ | ⟨a, len', cap', ss, hc, hb, hl2, hm, hz, hx2, hcell, hw⟩
  · simp [Value.cells] at hc
    obtain ⟨_, h0, _⟩ := hc
    have : l = [] := h0
    subst this
    simp
  · simp [Value.cells] at hc
    obtain ⟨rfl, h1, rfl⟩ := hc
    simp only [if_true] at hz
    simp only [Prod.mk.injEq] at hx2
    obtain ⟨rfl, _⟩ := hx2
    have e : l = ss.take len' := by
      apply List.ext_getElem
      · rw [List.length_take]; omega
      · intro i hi1 hi2
        rcases hat with h0 | ⟨b, off, hp, hc⟩
        · subst h0; simp at hi1
        · have hp' := Option.some.inj hp
          subst hp'
          have h2 := hc i hi1
          have h3 : i < ss.length := by rw [List.length_take] at hi2; omega
          have h4 := hcell i h3
          have e2 : (⟨b, off, none⟩ : Addr).add i = ⟨b, off + i, none⟩ := by simp [Addr.add]
          rw [e2, h2] at h4
          simp only [Wp.mkT, Option.some.injEq, Value.string.injEq] at h4
          rw [h4, List.getElem_take]
          simp [List.getD, List.getElem?_eq_getElem h3]
    rw [e]
    have := bulk_len (H := H) (ss.take len')
    simp only [Rows.uptoBulk]
    omega
end Go.Proofs.YteajjlilpikdeaaGreatDoor
namespace Go.Proofs.YteajjlilpikdeaaGreatDoor
open Go.ChangeShapes Go.WideShapes Go.ChangeAt Go.RowKit

set_option maxRecDepth 100000 in
theorem cells_text : Tryz.prog.cellsOf 9 = 1 := by kernel_rfl
set_option maxRecDepth 100000 in
theorem bytes_text : Tryz.prog.bytesOf 9 = 16 := by kernel_rfl
set_option maxRecDepth 100000 in
theorem weights_text {H : Type} (e : TypeId) (l : List ByteArray) (x : ByteArray) (hx : x ∈ l) : x.size ∈ DataW.weightsAll Tryz.prog e (strs (H := H) l) := by
  induction l with
  | nil => simp at hx
  | cons y l ih =>
    simp only [strs, List.map_cons, DataW.weightsAll, DataW.weights, List.mem_append, List.mem_singleton]
    rcases List.mem_cons.1 hx with rfl | h
    · exact Or.inl (by rw [Wp.size_len])
    · exact Or.inr (ih h)
set_option maxRecDepth 100000 in
theorem Wp.open_texts {H : Type} {enc : TypeId × Value → H} {W : World} {base : Nat} {ts : List TypeId} {ds : List (DataW H)} (hsz : (DataW.weightsEach Tryz.prog ts ds).all (· ≤ reachBytes) = true)
    (j : Nat) {v : Value} {d : DataW H} {ps : List MemPlace} (ht : ts[j]? = some 35) (hd : ds[j]? = some d) (hval : Value.okWide Tryz.prog W .any base 35 v)
    (h : DataW.Trod enc Tryz.prog W 0 (fun _ => true) true 35 v d ps) :
    ∃ p c, ∃ l : List ByteArray, v = .slice p l.length c ∧ Wp.At Wp.mkT W p l ∧ l.length ≤ 140737488351232 ∧ ∀ x ∈ l, x.size ≤ 140737488351232 := by
  obtain ⟨a0, len, cap, rfl⟩ := okWide_slice Tryz.underlying35 hval
  obtain ⟨fuel, hf⟩ := h
  rcases open_strings Tryz.underlying35 Tryz.underlying9 cells_text hf with ⟨hc, hx⟩ | ⟨a, len', cap', zs, hc, hb, hl, hm, hz, hx, hcell, hw⟩
  · simp [Value.cells] at hc
    obtain ⟨rfl, rfl, rfl⟩ := hc
    exact ⟨none, 0, [], rfl, Or.inl rfl, by simp, by simp⟩
  · simp [Value.cells] at hc
    obtain ⟨rfl, rfl, rfl⟩ := hc
    simp only [if_true] at hz
    simp only [Prod.mk.injEq] at hx
    obtain ⟨rfl, rfl⟩ := hx
    have hlen : (zs.take len).length = len := by rw [List.length_take]; omega
    have hs := sized_slice hsz ht hd Tryz.underlying35
    rw [bytes_text] at hs
    simp only [strs, List.length_map, List.length_take, List.length_drop, reachBytes] at hs
    obtain ⟨b, off, sp⟩ := a
    refine ⟨some ⟨b, off, sp⟩, cap, zs.take len, by rw [hlen], ?_, by rw [hlen]; omega, ?_⟩
    · by_cases h0 : len = 0
      · left; subst h0; rfl
      · right
        have h1 := hcell 0 (by omega)
        have hsp : sp = none := by
          cases sp with
          | none => rfl
          | some x => simp [World.cell?, Addr.add] at h1; split at h1 <;> simp_all
        subst hsp
        refine ⟨b, off, rfl, fun i hi => ?_⟩
        have h2 := hcell i (by omega)
        have e : (⟨b, off, none⟩ : Addr).add i = ⟨b, off + i, none⟩ := by simp [Addr.add]
        rw [e] at h2
        rw [h2, List.getElem_take]
        have h3 : i < zs.length := by omega
        simp [List.getD, List.getElem?_eq_getElem h3, Wp.mkT]
    · intro x hx
      have h5 := weights_text (H := H) 9 (zs.take len) x hx
      have h6 := List.all_eq_true.1 hsz _ (DataW.weights_mem_each ht hd x.size (by
        simp only [DataW.weights, Tryz.underlying35, List.mem_cons, List.mem_append]
        exact Or.inr (Or.inl h5)))
      have h7 : x.size ≤ reachBytes := by simpa using h6
      exact h7
end Go.Proofs.YteajjlilpikdeaaGreatDoor
namespace Go.Proofs.YteajjlilpikdeaaGreatDoor
open Go.ChangeShapes Go.WideShapes Go.ChangeAt Go.RowKit

theorem Sc.list3 {α : Type} {l : List α} (h : l.length = 3) : ∃ a b c, l = [a, b, c] := by
  match l, h with
  | [a, b, c], _ => exact ⟨a, b, c, rfl⟩
set_option maxRecDepth 100000 in
theorem Sc.cellsT : Tryz.prog.cellsOf 42 = 1 ∧ Tryz.prog.cellsOf 35 = 1 ∧ Tryz.prog.cellsOf 46 = 3 := ⟨by kernel_rfl, by kernel_rfl, by kernel_rfl⟩
set_option maxRecDepth 100000 in
theorem Sc.bytesT : Tryz.prog.bytesOf 46 = 48 := by kernel_rfl
set_option maxRecDepth 100000 in
/-- A field of texts, with its capacity. -/
theorem Sc.open_path {H : Type} {enc : TypeId × Value → H} {W : World} {n : Nat} {v : Value} {y : DataW H × List MemPlace}
    (h : DataW.trod enc Tryz.prog W 0 (fun _ => true) true n 35 [v] = some y) (hw : ∀ q ∈ y.1.weights Tryz.prog 35, q ≤ reachBytes) :
    ∃ p c, ∃ l : List ByteArray, v = .slice p l.length c ∧ Wp.At Wp.mkT W p l ∧ l.length ≤ 140737488351232 ∧ (∀ x ∈ l, x.size ≤ 140737488351232) ∧ l.length ≤ c := by
  rcases open_strings Tryz.underlying35 Tryz.underlying9 cells_text h with ⟨hc, hx⟩ | ⟨a, len, cap, zs, hc, hb, hl, hm, hz, hx, hcell, hs⟩
  · simp only [List.cons.injEq, and_true] at hc
    exact ⟨none, 0, [], hc, Or.inl rfl, by simp, by simp, by simp⟩
  · simp only [List.cons.injEq, and_true] at hc
    subst hc
    simp only [if_true] at hz
    subst hx
    have hlen : (zs.take len).length = len := by rw [List.length_take]; omega
    have hr : len * 16 ≤ reachBytes := by
      have := hw (((strs (H := H) (zs.take len)).length + (strs (H := H) (zs.drop len)).length) * Tryz.prog.bytesOf 9) (by simp [DataW.weights, Tryz.underlying35])
      rw [bytes_text] at this
      simp only [strs, List.length_map, List.length_take, List.length_drop] at this
      omega
    simp only [reachBytes] at hr
    obtain ⟨b, off, sp⟩ := a
    refine ⟨some ⟨b, off, sp⟩, cap, zs.take len, by rw [hlen], ?_, by rw [hlen]; omega, fun x hx => ?_, by rw [hlen]; omega⟩
    · by_cases h0 : len = 0
      · left; subst h0; rfl
      · right
        have h1 := hcell 0 (by omega)
        have hsp : sp = none := by
          cases sp with
          | none => rfl
          | some x => simp [World.cell?, Addr.add] at h1; split at h1 <;> simp_all
        subst hsp
        refine ⟨b, off, rfl, fun i hi => ?_⟩
        have h2 := hcell i (by omega)
        have e : (⟨b, off, none⟩ : Addr).add i = ⟨b, off + i, none⟩ := by simp [Addr.add]
        rw [e] at h2
        rw [h2, List.getElem_take]
        have h3 : i < zs.length := by omega
        simp [List.getD, List.getElem?_eq_getElem h3, Wp.mkT]
    · have h5 := weights_text (H := H) 9 (zs.take len) x hx
      have h6 := hw x.size (by
        simp only [DataW.weights, Tryz.underlying35, List.mem_cons, List.mem_append]
        exact Or.inr (Or.inl h5))
      exact h6
theorem Sc.weightsAll_mem {H : Type} (P : Program) (e : TypeId) : ∀ (l : List (DataW H)) (d : DataW H), d ∈ l → ∀ q ∈ d.weights P e, q ∈ DataW.weightsAll P e l
  | [], d, h, _, _ => by simp at h
  | a :: l, d, h, q, hq => by
    simp only [DataW.weightsAll, List.mem_append]
    rcases List.mem_cons.1 h with rfl | h
    · exact Or.inl hq
    · exact Or.inr (Sc.weightsAll_mem P e l d h q hq)
theorem Sc.bulk_mem {H : Type} (ds : List (DataW H)) (d : DataW H) (h : d ∈ ds) : Rows.uptoBulk d ≤ Rows.uptoBulkAll ds := by
  induction ds with
  | nil => simp at h
  | cons x ds ih =>
    simp only [Rows.uptoBulkAll]
    rcases List.mem_cons.1 h with rfl | h
    · omega
    · have := ih h; omega
theorem Sc.bulk_pos {H : Type} (d : DataW H) : 1 ≤ Rows.uptoBulk d := by
  cases d with
  | lit x => cases x <;> simp [Rows.uptoBulk]
  | _ => simp [Rows.uptoBulk]
theorem Sc.bulk_count {H : Type} : ∀ ds : List (DataW H), ds.length ≤ Rows.uptoBulkAll ds
  | [] => Nat.zero_le _
  | d :: r => by
    have h1 := Sc.bulk_pos d
    have h2 := Sc.bulk_count r
    simp only [Rows.uptoBulkAll, List.length_cons]
    omega
theorem Sc.bulk_get {H : Type} {ds : List (DataW H)} (hk : Rows.uptoSmall H ds = true) (d : DataW H) (h : d ∈ ds) : Rows.uptoBulk d ≤ 1048576 := by
  have h1 : Rows.uptoBulkAll ds ≤ 1048576 := of_decide_eq_true hk
  exact Nat.le_trans (Sc.bulk_mem ds d h) h1
theorem Sc.bulk_text {H : Type} {ds : List (DataW H)} (hk : Rows.uptoSmall H ds = true) (s : ByteArray) (h : DataW.lit (.string s.data.toList) ∈ ds) : s.size ≤ 1048576 := by
  have h2 := Sc.bulk_get hk _ h
  have h3 : s.data.toList.length ≤ Rows.uptoBulk (H := H) (.lit (.string s.data.toList)) := by
    simp only [Rows.uptoBulk]
    omega
  rw [← Wp.size_len] at h3
  omega
theorem Sc.cells3 {W : World} {a : Addr} {cs : List Value} (h : W.cells? 0 a 3 = some cs) : ∃ c0 c1 c2, cs = [c0, c1, c2] ∧ a.spot = none ∧ Sc.Three W a.block a.off c0 c1 c2 := by
  obtain ⟨b, off, sp⟩ := a
  unfold World.cells? at h
  rw [if_pos (Nat.zero_le _)] at h
  simp only [List.range_succ, List.range_zero, List.nil_append, List.cons_append, List.mapM_cons, List.mapM_nil, Option.pure_def, Option.bind_eq_bind, Option.bind_eq_some_iff, Option.some.injEq] at h
  obtain ⟨c0, h0, _, ⟨c1, h1, _, ⟨c2, h2, _, rfl, rfl⟩, rfl⟩, rfl⟩ := h
  have hsp : sp = none := by
    cases sp with
    | none => rfl
    | some x => simp [World.cell?, Addr.add] at h0; split at h0 <;> simp_all
  subst hsp
  exact ⟨c0, c1, c2, rfl, rfl, by simpa [Addr.add] using h0, by simpa [Addr.add] using h1, by simpa [Addr.add] using h2⟩
set_option maxRecDepth 100000 in
theorem Sc.open_tok {H : Type} {enc : TypeId × Value → H} {W : World} (n : Nat) (cs : List Value) (y : DataW H × List MemPlace) (h : DataW.trod enc Tryz.prog W 0 (fun _ => true) true n 46 cs = some y) (hw : ∀ q ∈ y.1.weights Tryz.prog 46, q ≤ reachBytes) :
    ∃ t : Sc.T, Sc.Tok W (.agg cs.toArray) t ∧ t.text.size ≤ Rows.uptoBulk y.1 := by
  obtain ⟨z2, z4, z6⟩ := Sc.cellsT
  obtain ⟨xs, n1, hn1, rfl, hl, hlen, hf⟩ := DataW.trod_struct Tryz.underlying46 h
  rw [z6] at hl
  obtain ⟨c0, c1, c2, rfl⟩ := Sc.list3 hl
  obtain ⟨y0, y1, y2, rfl⟩ := Sc.list3 hlen
  have f0 : DataW.trod enc Tryz.prog W 0 (fun _ => true) true n1 42 [c0] = some y0 := by
    have := hf 0 _ rfl
    simpa [z2] using this
  have f1 : DataW.trod enc Tryz.prog W 0 (fun _ => true) true n1 9 [c1] = some y1 := by
    have := hf 1 _ rfl
    simpa [cells_text] using this
  have f2 : DataW.trod enc Tryz.prog W 0 (fun _ => true) true n1 35 [c2] = some y2 := by
    have := hf 2 _ rfl
    simpa [z4] using this
  simp only [DataW.weights, Tryz.underlying46, List.map_cons, List.map_nil, DataW.weightsEach, List.mem_append, List.append_nil] at hw
  obtain ⟨k, e0, _, w0⟩ := DataW.trod_int Tryz.underlying42 f0
  obtain ⟨t, e1, e1', _⟩ := DataW.trod_string Tryz.underlying9 f1
  simp only [List.cons.injEq, and_true] at e0 e1
  subst e0 e1
  have hk : 0 ≤ k ∧ k ≤ 255 := by simpa [Lit.wf, IntKind.min, IntKind.max, IntKind.signed, IntKind.bits] using w0
  obtain ⟨kn, rfl⟩ := Int.eq_ofNat_of_zero_le hk.1
  have ht : t.size ≤ 140737488351232 := by
    have := hw t.data.toList.length (Or.inr (Or.inl (by rw [e1']; simp [DataW.weights])))
    rw [← Wp.size_len] at this
    exact this
  obtain ⟨pn, cn, ns, rfl, hns, hnl, hnsz, hcap⟩ := Sc.open_path f2 (fun q hq => hw q (Or.inr (Or.inr hq)))
  refine ⟨⟨kn, t, ns⟩, ⟨pn, cn, rfl, ⟨⟨by show kn ≤ 255; omega, hcap⟩, ht, hnl, hnsz⟩, hns⟩, ?_⟩
  have hb := Sc.bulk_mem (H := H) [y0.1, y1.1, y2.1] y1.1 (by simp)
  have h1 : t.size ≤ Rows.uptoBulk y1.1 := by
    rw [e1']
    simp only [Rows.uptoBulk]
    rw [Wp.size_len]
    omega
  show t.size ≤ Rows.uptoBulk (.agg [y0.1, y1.1, y2.1])
  simp only [Rows.uptoBulk]
  omega
set_option maxRecDepth 100000 in
/-- Tokens among the arguments. -/
theorem Sc.open_toks {H : Type} {enc : TypeId × Value → H} {W : World} {base : Nat} {ts : List TypeId} {ds : List (DataW H)} (hsz : (DataW.weightsEach Tryz.prog ts ds).all (· ≤ reachBytes) = true)
    (j : Nat) {v : Value} {d : DataW H} {ps : List MemPlace} (ht : ts[j]? = some 22) (hd : ds[j]? = some d) (hval : Value.okWide Tryz.prog W .any base 22 v)
    (h : DataW.Trod enc Tryz.prog W 0 (fun _ => true) true 22 v d ps) :
    ∃ p c, ∃ l : List Sc.T, v = .slice p l.length c ∧ Sc.At W p l ∧ (l.length ≤ 140737488351232 ∧ l.length ≤ Rows.uptoBulk d) ∧ ∀ t ∈ l, t.text.size ≤ Rows.uptoBulk d := by
  obtain ⟨a0, len0, cap0, rfl⟩ := okWide_slice Tryz.underlying22 hval
  obtain ⟨fuel, hf⟩ := h
  obtain ⟨z2, z4, z6⟩ := Sc.cellsT
  have hw : ∀ q ∈ d.weights Tryz.prog 22, q ≤ reachBytes := fun q hq => by
    have := List.all_eq_true.1 hsz q (DataW.weights_mem_each ht hd q hq)
    simpa using this
  rcases DataW.trod_slice Tryz.underlying22 hf with ⟨e3, _⟩ | ⟨a, len, cap, elems, rest, n2, hn2, e3, hy3, hb, hlc, hm, hel, helem, _, _⟩
  · simp [Value.cells] at e3
    obtain ⟨rfl, rfl, rfl⟩ := e3
    exact ⟨none, 0, [], rfl, Sc.At.nil W none, ⟨by simp, Nat.zero_le _⟩, by simp⟩
  · simp [Value.cells] at e3
    obtain ⟨rfl, rfl, rfl⟩ := e3
    have hyd : d = .slice (elems.map (·.1)) (rest.map (·.1)) := by
      have := congrArg Prod.fst hy3
      simpa using this
    rw [z6] at helem
    have hlr : len0 ≤ 140737488351232 := by
      have := hw (((elems.map (·.1)).length + (rest.map (·.1)).length) * Tryz.prog.bytesOf 46) (by rw [hyd]; simp only [DataW.weights, Tryz.underlying22]; exact List.mem_cons_self)
      rw [Sc.bytesT, List.length_map, hel] at this
      simp only [reachBytes] at this
      omega
    have key : ∀ i, i < len0 → ∃ t c0 c1 c2, a.spot = none ∧ Sc.Three W a.block (a.off + i * 3) c0 c1 c2 ∧ Sc.Tok W (.agg #[c0, c1, c2]) t ∧ t.text.size ≤ Rows.uptoBulk d := by
      intro i hi
      have h1 := helem i hi
      rw [List.getElem?_eq_getElem (by omega)] at h1
      obtain ⟨cs', h2, h3⟩ := Option.bind_eq_some_iff.1 h1
      have hsp0 : a.spot = none := by
        have h1 := helem 0 (by omega)
        rw [List.getElem?_eq_getElem (by omega)] at h1
        obtain ⟨cs0, h2, _⟩ := Option.bind_eq_some_iff.1 h1
        obtain ⟨_, _, _, _, hsp, _⟩ := Sc.cells3 h2
        rw [Nat.zero_mul] at hsp
        simpa [Addr.add] using hsp
      have e : a.add (i * 3) = ⟨a.block, a.off + i * 3, none⟩ := by
        obtain ⟨b, off, sp⟩ := a
        change sp = none at hsp0
        subst hsp0
        exact Addr.add_lit _ _ _
      obtain ⟨a0, a1, a2, rfl, _, h5⟩ := Sc.cells3 h2
      have hmem : (elems[i]'(by omega)).1 ∈ elems.map (·.1) := List.mem_map.2 ⟨_, List.getElem_mem _, rfl⟩
      obtain ⟨t, hx, hbk⟩ := Sc.open_tok n2 _ _ h3 (fun q hq => hw q (by
        rw [hyd]
        simp only [DataW.weights, Tryz.underlying22, List.mem_cons, List.mem_append]
        exact Or.inr (Or.inl (Sc.weightsAll_mem _ _ _ _ hmem q hq))))
      rw [e] at h5
      refine ⟨t, a0, a1, a2, hsp0, h5, hx, Nat.le_trans hbk ?_⟩
      rw [hyd]
      have := Sc.bulk_mem _ _ hmem
      simp only [Rows.uptoBulk]
      omega
    have hall : ∀ m, m ≤ len0 → ∃ l : List Sc.T, l.length = m ∧ ∀ i (hi : i < l.length), ∃ c0 c1 c2, a.spot = none ∧ Sc.Three W a.block (a.off + i * 3) c0 c1 c2 ∧ Sc.Tok W (.agg #[c0, c1, c2]) l[i] ∧ l[i].text.size ≤ Rows.uptoBulk d := by
      intro m
      induction m with
      | zero => exact fun _ => ⟨[], rfl, fun i hi => by simp at hi⟩
      | succ m ihm =>
        intro hm'
        obtain ⟨l, hl', hi'⟩ := ihm (by omega)
        obtain ⟨x, c0, c1, c2, hsp, h5, hx, hbk⟩ := key m (by omega)
        refine ⟨l ++ [x], by simp [hl'], fun i hi => ?_⟩
        by_cases him : i < l.length
        · obtain ⟨g0, g1, g2, q1, q2, q3, q4⟩ := hi' i him
          refine ⟨g0, g1, g2, q1, q2, ?_, ?_⟩
          · rw [List.getElem_append_left him]; exact q3
          · rw [List.getElem_append_left him]; exact q4
        · have : i = m := by rw [List.length_append] at hi; simp at hi; omega
          subst this
          refine ⟨c0, c1, c2, hsp, h5, ?_, ?_⟩
          · rw [List.getElem_append_right (by omega)]
            simp only [hl', Nat.sub_self, List.getElem_cons_zero]
            exact hx
          · rw [List.getElem_append_right (by omega)]
            simp only [hl', Nat.sub_self, List.getElem_cons_zero]
            exact hbk
    obtain ⟨l, hll, hli⟩ := hall len0 (Nat.le_refl _)
    have hcnt : len0 ≤ Rows.uptoBulk d := by
      have h1 := Sc.bulk_count (elems.map (·.1))
      rw [List.length_map, hel] at h1
      rw [hyd]
      simp only [Rows.uptoBulk]
      omega
    refine ⟨some a, cap0, l, by rw [hll], fun i hi => ?_, ⟨by omega, by omega⟩, fun t htm => ?_⟩
    · obtain ⟨g0, g1, g2, hsp, q2, q3, _⟩ := hli i hi
      obtain ⟨b, off, sp⟩ := a
      change sp = none at hsp
      subst hsp
      exact ⟨b, off, g0, g1, g2, rfl, q2, l[i], List.getElem?_eq_getElem hi, q3⟩
    · obtain ⟨i, hi, rfl⟩ := List.getElem_of_mem htm
      obtain ⟨_, _, _, _, _, _, q4⟩ := hli i hi
      exact q4
end Go.Proofs.YteajjlilpikdeaaGreatDoor
namespace Go.Proofs.YteajjlilpikdeaaGreatDoor
open Go.ChangeShapes Go.WideShapes Go.ChangeAt Go.RowKit

theorem Nd.list5 {α : Type} {l : List α} (h : l.length = 5) : ∃ a b c d e, l = [a, b, c, d, e] := by
  match l, h with
  | [a, b, c, d, e], _ => exact ⟨a, b, c, d, e, rfl⟩
set_option maxRecDepth 100000 in
theorem Nd.cellsN : Tryz.prog.cellsOf 23 = 1 ∧ Tryz.prog.cellsOf 44 = 5 := ⟨by kernel_rfl, by kernel_rfl⟩
set_option maxRecDepth 100000 in
theorem Nd.bytesN : Tryz.prog.bytesOf 44 = 96 := by kernel_rfl
theorem Nd.cells5 {W : World} {a : Addr} {cs : List Value} (h : W.cells? 0 a 5 = some cs) : ∃ c0 c1 c2 c3 c4, cs = [c0, c1, c2, c3, c4] ∧ a.spot = none ∧ Vl.Five W a.block a.off c0 c1 c2 c3 c4 := by
  obtain ⟨b, off, sp⟩ := a
  unfold World.cells? at h
  rw [if_pos (Nat.zero_le _)] at h
  simp only [List.range_succ, List.range_zero, List.nil_append, List.cons_append, List.mapM_cons, List.mapM_nil, Option.pure_def, Option.bind_eq_bind, Option.bind_eq_some_iff, Option.some.injEq] at h
  obtain ⟨c0, h0, _, ⟨c1, h1, _, ⟨c2, h2, _, ⟨c3, h3, _, ⟨c4, h4, _, rfl, rfl⟩, rfl⟩, rfl⟩, rfl⟩, rfl⟩ := h
  have hsp : sp = none := by
    cases sp with
    | none => rfl
    | some x => simp [World.cell?, Addr.add] at h0; split at h0 <;> simp_all
  subst hsp
  exact ⟨c0, c1, c2, c3, c4, rfl, rfl, by simpa [Addr.add] using h0, by simpa [Addr.add] using h1, by simpa [Addr.add] using h2, by simpa [Addr.add] using h3, by simpa [Addr.add] using h4⟩
/-- The texts of tokens are of at most that size. -/
def Nd.Tx (m : Nat) (l : List Sc.T) : Prop := ∀ t ∈ l, t.text.size ≤ m
theorem Nd.Tx.mono {m m' : Nat} {l : List Sc.T} (h : Nd.Tx m l) (hm : m ≤ m') : Nd.Tx m' l := fun t ht => Nat.le_trans (h t ht) hm
theorem Nd.tx_all {m : Nat} : ∀ {l : List Nd.N}, (∀ x ∈ l, Nd.Tx m x.toks) → Nd.Tx m (Nd.toksL l)
  | [], _ => by rw [Nd.toksL_nil]; intro t ht; simp at ht
  | x :: l, h => by
    rw [Nd.toksL_cons]
    intro t ht
    rcases List.mem_append.1 ht with ht | ht
    · exact h x (by simp) t ht
    · exact Nd.tx_all (fun y hy => h y (by simp [hy])) t ht
theorem Nd.tx_node {m k : Nat} {t : ByteArray} {p : List ByteArray} {kids els : List Nd.N} (h0 : t.size ≤ m) (h1 : Nd.Tx m (Nd.toksL kids)) (h2 : Nd.Tx m (Nd.toksL els)) : Nd.Tx m (Nd.N.mk k t p kids els).toks := by
  intro x hx
  rw [Nd.N.toks] at hx
  rcases List.mem_cons.1 hx with rfl | hx
  · exact h0
  · split at hx
    · rcases List.mem_append.1 hx with hx | hx
      · exact h1 x hx
      · rcases List.mem_append.1 hx with hx | hx
        · split at hx
          · simp at hx
          · rcases List.mem_cons.1 hx with rfl | hx
            · exact Nat.zero_le _
            · exact h2 x hx
        · rcases List.mem_cons.1 hx with rfl | hx
          · exact Nat.zero_le _
          · simp at hx
    · simp at hx
/-- What is known of a node that is read at some depth. -/
def Nd.Opens {H : Type} (enc : TypeId × Value → H) (W : World) (n : Nat) : Prop := ∀ (cs : List Value) (y : DataW H × List MemPlace),
  DataW.trod enc Tryz.prog W 0 (fun _ => true) true n 44 cs = some y → (∀ q ∈ y.1.weights Tryz.prog 44, q ≤ reachBytes) → ∃ x : Nd.N, Nd.At W (.agg cs.toArray) x ∧ Nd.Tx (Rows.uptoBulk y.1) x.toks
set_option maxRecDepth 100000 in
theorem Nd.open_row {H : Type} {enc : TypeId × Value → H} {W : World} (n : Nat) (ih : ∀ m, m < n → Nd.Opens enc W m) (v : Value) (y : DataW H × List MemPlace)
    (h : DataW.trod enc Tryz.prog W 0 (fun _ => true) true n 23 [v] = some y) (hw : ∀ q ∈ y.1.weights Tryz.prog 23, q ≤ reachBytes) :
    ∃ p c, ∃ l : List Nd.N, v = .slice p l.length c ∧ Nd.Row W p l ∧ (l.length ≤ 140737488351232 ∧ l.length ≤ c) ∧ Nd.Tx (Rows.uptoBulk y.1) (Nd.toksL l) := by
  obtain ⟨z4, z6⟩ := Nd.cellsN
  rcases DataW.trod_slice Tryz.underlying23 h with ⟨e3, _⟩ | ⟨a, len, cap, elems, rest, n2, hn2, e3, hy3, hb, hlc, hm, hel, helem, _, _⟩
  · simp only [List.cons.injEq, and_true] at e3
    exact ⟨none, 0, [], e3, Nd.Row.nil W none, ⟨by simp, Nat.le_refl _⟩, by rw [Nd.toksL_nil]; intro t ht; simp at ht⟩
  · simp only [List.cons.injEq, and_true] at e3
    subst e3
    have hyd : y.1 = .slice (elems.map (·.1)) (rest.map (·.1)) := by
      rw [hy3]
    rw [z6] at helem
    have hlr : len ≤ 140737488351232 := by
      have := hw (((elems.map (·.1)).length + (rest.map (·.1)).length) * Tryz.prog.bytesOf 44) (by rw [hyd]; simp only [DataW.weights, Tryz.underlying23]; exact List.mem_cons_self)
      rw [Nd.bytesN, List.length_map, hel] at this
      simp only [reachBytes] at this
      omega
    have key : ∀ i, i < len → ∃ x c0 c1 c2 c3 c4, a.spot = none ∧ Vl.Five W a.block (a.off + i * 5) c0 c1 c2 c3 c4 ∧ Nd.At W (.agg #[c0, c1, c2, c3, c4]) x ∧ Nd.Tx (Rows.uptoBulk y.1) x.toks := by
      intro i hi
      have h1 := helem i hi
      rw [List.getElem?_eq_getElem (by omega)] at h1
      obtain ⟨cs', h2, h3⟩ := Option.bind_eq_some_iff.1 h1
      have hsp0 : a.spot = none := by
        have h1 := helem 0 (by omega)
        rw [List.getElem?_eq_getElem (by omega)] at h1
        obtain ⟨cs0, h2, _⟩ := Option.bind_eq_some_iff.1 h1
        obtain ⟨_, _, _, _, _, _, hsp, _⟩ := Nd.cells5 h2
        rw [Nat.zero_mul] at hsp
        simpa [Addr.add] using hsp
      have e : a.add (i * 5) = ⟨a.block, a.off + i * 5, none⟩ := by
        obtain ⟨b, off, sp⟩ := a
        change sp = none at hsp0
        subst hsp0
        exact Addr.add_lit _ _ _
      obtain ⟨a0, a1, a2, a3, a4, rfl, _, h5⟩ := Nd.cells5 h2
      have hmem : (elems[i]'(by omega)).1 ∈ elems.map (·.1) := List.mem_map.2 ⟨_, List.getElem_mem _, rfl⟩
      obtain ⟨x, hx, hbk⟩ := ih n2 (by omega) _ _ h3 (fun q hq => hw q (by
        rw [hyd]
        simp only [DataW.weights, Tryz.underlying23, List.mem_cons, List.mem_append]
        exact Or.inr (Or.inl (Sc.weightsAll_mem _ _ _ _ hmem q hq))))
      rw [e] at h5
      refine ⟨x, a0, a1, a2, a3, a4, hsp0, h5, hx, hbk.mono ?_⟩
      rw [hyd]
      have := Sc.bulk_mem _ _ hmem
      simp only [Rows.uptoBulk]
      omega
    have hall : ∀ m, m ≤ len → ∃ l : List Nd.N, l.length = m ∧ ∀ i (hi : i < l.length), ∃ c0 c1 c2 c3 c4, a.spot = none ∧ Vl.Five W a.block (a.off + i * 5) c0 c1 c2 c3 c4 ∧ Nd.At W (.agg #[c0, c1, c2, c3, c4]) l[i] ∧ Nd.Tx (Rows.uptoBulk y.1) l[i].toks := by
      intro m
      induction m with
      | zero => exact fun _ => ⟨[], rfl, fun i hi => by simp at hi⟩
      | succ m ihm =>
        intro hm'
        obtain ⟨l, hl', hi'⟩ := ihm (by omega)
        obtain ⟨x, c0, c1, c2, c3, c4, hsp, h5, hx, hbk⟩ := key m (by omega)
        refine ⟨l ++ [x], by simp [hl'], fun i hi => ?_⟩
        by_cases him : i < l.length
        · obtain ⟨g0, g1, g2, g3, g4, q1, q2, q3, q4⟩ := hi' i him
          refine ⟨g0, g1, g2, g3, g4, q1, q2, ?_, ?_⟩
          · rw [List.getElem_append_left him]; exact q3
          · rw [List.getElem_append_left him]; exact q4
        · have : i = m := by rw [List.length_append] at hi; simp at hi; omega
          subst this
          refine ⟨c0, c1, c2, c3, c4, hsp, h5, ?_, ?_⟩
          · rw [List.getElem_append_right (by omega)]
            simp only [hl', Nat.sub_self, List.getElem_cons_zero]
            exact hx
          · rw [List.getElem_append_right (by omega)]
            simp only [hl', Nat.sub_self, List.getElem_cons_zero]
            exact hbk
    obtain ⟨l, hll, hli⟩ := hall len (Nat.le_refl _)
    refine ⟨some a, cap, l, by rw [hll], fun i hi => ?_, ⟨by omega, by omega⟩, Nd.tx_all fun x hx => ?_⟩
    · obtain ⟨g0, g1, g2, g3, g4, hsp, q2, q3, _⟩ := hli i hi
      obtain ⟨b, off, sp⟩ := a
      change sp = none at hsp
      subst hsp
      exact ⟨b, off, g0, g1, g2, g3, g4, rfl, q2, l[i], List.getElem?_eq_getElem hi, q3⟩
    · obtain ⟨i, hi, rfl⟩ := List.getElem_of_mem hx
      obtain ⟨_, _, _, _, _, _, _, _, q4⟩ := hli i hi
      exact q4
set_option maxRecDepth 100000 in
theorem Nd.open_node {H : Type} {enc : TypeId × Value → H} {W : World} (n : Nat) : Nd.Opens enc W n := by
  induction n using Nat.strongRecOn with
  | ind n ih =>
    intro cs y h hw
    obtain ⟨z2, z5, _⟩ := Sc.cellsT
    obtain ⟨z4, z6⟩ := Nd.cellsN
    obtain ⟨xs, n1, hn1, rfl, hl, hlen, hf⟩ := DataW.trod_struct Tryz.underlying44 h
    rw [z6] at hl
    obtain ⟨c0, c1, c2, c3, c4, rfl⟩ := Nd.list5 hl
    obtain ⟨y0, y1, y2, y3, y4, rfl⟩ := Nd.list5 hlen
    have f0 : DataW.trod enc Tryz.prog W 0 (fun _ => true) true n1 42 [c0] = some y0 := by
      have := hf 0 _ rfl
      simpa [z2] using this
    have f1 : DataW.trod enc Tryz.prog W 0 (fun _ => true) true n1 9 [c1] = some y1 := by
      have := hf 1 _ rfl
      simpa [cells_text] using this
    have f2 : DataW.trod enc Tryz.prog W 0 (fun _ => true) true n1 35 [c2] = some y2 := by
      have := hf 2 _ rfl
      simpa [z5] using this
    have f3 : DataW.trod enc Tryz.prog W 0 (fun _ => true) true n1 23 [c3] = some y3 := by
      have := hf 3 _ rfl
      simpa [z4] using this
    have f4 : DataW.trod enc Tryz.prog W 0 (fun _ => true) true n1 23 [c4] = some y4 := by
      have := hf 4 _ rfl
      simpa [z4] using this
    simp only [DataW.weights, Tryz.underlying44, List.map_cons, List.map_nil, DataW.weightsEach, List.mem_append, List.append_nil] at hw
    obtain ⟨k, e0, _, w0⟩ := DataW.trod_int Tryz.underlying42 f0
    obtain ⟨t, e1, e1', _⟩ := DataW.trod_string Tryz.underlying9 f1
    simp only [List.cons.injEq, and_true] at e0 e1
    subst e0 e1
    have hk : 0 ≤ k ∧ k ≤ 255 := by simpa [Lit.wf, IntKind.min, IntKind.max, IntKind.signed, IntKind.bits] using w0
    obtain ⟨kn, rfl⟩ := Int.eq_ofNat_of_zero_le hk.1
    have ht : t.size ≤ 140737488351232 := by
      have := hw t.data.toList.length (Or.inr (Or.inl (by rw [e1']; simp [DataW.weights])))
      rw [← Wp.size_len] at this
      exact this
    obtain ⟨pn, cn, ns, rfl, hns, hnl, hnsz, hcap⟩ := Sc.open_path f2 (fun q hq => hw q (Or.inr (Or.inr (Or.inl hq))))
    obtain ⟨pk, ck, kids, rfl, hA3, ⟨hl3, hc3⟩, hT3⟩ := Nd.open_row n1 (fun m hm => ih m (by omega)) c3 y3 f3 (fun q hq => hw q (Or.inr (Or.inr (Or.inr (Or.inl hq)))))
    obtain ⟨pe, ce, els, rfl, hA4, ⟨hl4, hc4⟩, hT4⟩ := Nd.open_row n1 (fun m hm => ih m (by omega)) c4 y4 f4 (fun q hq => hw q (Or.inr (Or.inr (Or.inr (Or.inr hq)))))
    have hb1 := Sc.bulk_mem (H := H) [y0.1, y1.1, y2.1, y3.1, y4.1] y1.1 (by simp)
    have hb3 := Sc.bulk_mem (H := H) [y0.1, y1.1, y2.1, y3.1, y4.1] y3.1 (by simp)
    have hb4 := Sc.bulk_mem (H := H) [y0.1, y1.1, y2.1, y3.1, y4.1] y4.1 (by simp)
    have hbk : Rows.uptoBulkAll [y0.1, y1.1, y2.1, y3.1, y4.1] ≤ Rows.uptoBulk (.agg [y0.1, y1.1, y2.1, y3.1, y4.1]) := by
      simp only [Rows.uptoBulk]
      omega
    have h1 : t.size ≤ Rows.uptoBulk y1.1 := by
      rw [e1']
      simp only [Rows.uptoBulk]
      rw [Wp.size_len]
      omega
    refine ⟨.mk kn t ns kids els, ?_, Nd.tx_node (show t.size ≤ Rows.uptoBulk (.agg [y0.1, y1.1, y2.1, y3.1, y4.1]) by omega) (hT3.mono (show _ ≤ Rows.uptoBulk (.agg [y0.1, y1.1, y2.1, y3.1, y4.1]) by omega)) (hT4.mono (show _ ≤ Rows.uptoBulk (.agg [y0.1, y1.1, y2.1, y3.1, y4.1]) by omega))⟩
    rw [Nd.At]
    exact ⟨pn, cn, pk, ck, pe, ce, rfl, ⟨by omega, ht, hnl, hl3, hl4, hnsz, hcap, hc3, hc4⟩, hns, (Nd.row_iff _ _ _).2 hA3, (Nd.row_iff _ _ _).2 hA4⟩
set_option maxRecDepth 100000 in
/-- Nodes among the arguments. -/
theorem Nd.open_nodes {H : Type} {enc : TypeId × Value → H} {W : World} {base : Nat} {ts : List TypeId} {ds : List (DataW H)} (hsz : (DataW.weightsEach Tryz.prog ts ds).all (· ≤ reachBytes) = true)
    (j : Nat) {v : Value} {d : DataW H} {ps : List MemPlace} (ht : ts[j]? = some 23) (hd : ds[j]? = some d) (hval : Value.okWide Tryz.prog W .any base 23 v)
    (h : DataW.Trod enc Tryz.prog W 0 (fun _ => true) true 23 v d ps) :
    ∃ p c, ∃ l : List Nd.N, v = .slice p l.length c ∧ Nd.Row W p l ∧ (l.length ≤ 140737488351232 ∧ l.length ≤ c) ∧ ∀ t ∈ Nd.toksL l, t.text.size ≤ Rows.uptoBulk d := by
  obtain ⟨a0, len0, cap0, rfl⟩ := okWide_slice Tryz.underlying23 hval
  obtain ⟨fuel, hf⟩ := h
  exact Nd.open_row fuel (fun m _ => Nd.open_node m) _ (d, ps) hf (fun q hq => by
    have := List.all_eq_true.1 hsz q (DataW.weights_mem_each ht hd q hq)
    simpa using this)
end Go.Proofs.YteajjlilpikdeaaGreatDoor
namespace Go.Proofs.YteajjlilpikdeaaGreatDoor
open Go.ChangeShapes Go.WideShapes Go.ChangeAt Go.RowKit

/-- The texts and paths of tokens are of at most that size. -/
def Nd.Tz (m : Nat) (l : List Sc.T) : Prop := ∀ t ∈ l, t.text.size ≤ m ∧ t.path.length ≤ m
theorem Nd.Tz.mono {m m' : Nat} {l : List Sc.T} (h : Nd.Tz m l) (hm : m ≤ m') : Nd.Tz m' l := fun t ht => ⟨Nat.le_trans (h t ht).1 hm, Nat.le_trans (h t ht).2 hm⟩
theorem Nd.tz_all {m : Nat} : ∀ {l : List Nd.N}, (∀ x ∈ l, Nd.Tz m x.toks) → Nd.Tz m (Nd.toksL l)
  | [], _ => by rw [Nd.toksL_nil]; intro t ht; simp at ht
  | x :: l, h => by
    rw [Nd.toksL_cons]
    intro t ht
    rcases List.mem_append.1 ht with ht | ht
    · exact h x (by simp) t ht
    · exact Nd.tz_all (fun y hy => h y (by simp [hy])) t ht
theorem Nd.tz_node {m k : Nat} {t : ByteArray} {p : List ByteArray} {kids els : List Nd.N} (h0 : t.size ≤ m ∧ p.length ≤ m) (h1 : Nd.Tz m (Nd.toksL kids)) (h2 : Nd.Tz m (Nd.toksL els)) : Nd.Tz m (Nd.N.mk k t p kids els).toks := by
  intro x hx
  rw [Nd.N.toks] at hx
  rcases List.mem_cons.1 hx with rfl | hx
  · exact h0
  · split at hx
    · rcases List.mem_append.1 hx with hx | hx
      · exact h1 x hx
      · rcases List.mem_append.1 hx with hx | hx
        · split at hx
          · simp at hx
          · rcases List.mem_cons.1 hx with rfl | hx
            · exact ⟨Nat.zero_le _, Nat.zero_le _⟩
            · exact h2 x hx
        · rcases List.mem_cons.1 hx with rfl | hx
          · exact ⟨Nat.zero_le _, Nat.zero_le _⟩
          · simp at hx
    · simp at hx
/-- What is known of a node that is read at some depth. -/
def Nd.OpensL {H : Type} (enc : TypeId × Value → H) (W : World) (n : Nat) : Prop := ∀ (cs : List Value) (y : DataW H × List MemPlace),
  DataW.trod enc Tryz.prog W 0 (fun _ => true) true n 44 cs = some y → (∀ q ∈ y.1.weights Tryz.prog 44, q ≤ reachBytes) → ∃ x : Nd.N, Nd.At W (.agg cs.toArray) x ∧ Nd.Tz (Rows.uptoBulk y.1) x.toks
set_option maxRecDepth 100000 in
theorem Nd.open_rowL {H : Type} {enc : TypeId × Value → H} {W : World} (n : Nat) (ih : ∀ m, m < n → Nd.OpensL enc W m) (v : Value) (y : DataW H × List MemPlace)
    (h : DataW.trod enc Tryz.prog W 0 (fun _ => true) true n 23 [v] = some y) (hw : ∀ q ∈ y.1.weights Tryz.prog 23, q ≤ reachBytes) :
    ∃ p c, ∃ l : List Nd.N, v = .slice p l.length c ∧ Nd.Row W p l ∧ (l.length ≤ 140737488351232 ∧ l.length ≤ c) ∧ Nd.Tz (Rows.uptoBulk y.1) (Nd.toksL l) ∧ l.length ≤ Rows.uptoBulk y.1 := by
  obtain ⟨z4, z6⟩ := Nd.cellsN
  rcases DataW.trod_slice Tryz.underlying23 h with ⟨e3, _⟩ | ⟨a, len, cap, elems, rest, n2, hn2, e3, hy3, hb, hlc, hm, hel, helem, _, _⟩
  · simp only [List.cons.injEq, and_true] at e3
    exact ⟨none, 0, [], e3, Nd.Row.nil W none, ⟨by simp, Nat.le_refl _⟩, by rw [Nd.toksL_nil]; intro t ht; simp at ht, Nat.zero_le _⟩
  · simp only [List.cons.injEq, and_true] at e3
    subst e3
    have hyd : y.1 = .slice (elems.map (·.1)) (rest.map (·.1)) := by
      rw [hy3]
    rw [z6] at helem
    have hlr : len ≤ 140737488351232 := by
      have := hw (((elems.map (·.1)).length + (rest.map (·.1)).length) * Tryz.prog.bytesOf 44) (by rw [hyd]; simp only [DataW.weights, Tryz.underlying23]; exact List.mem_cons_self)
      rw [Nd.bytesN, List.length_map, hel] at this
      simp only [reachBytes] at this
      omega
    have key : ∀ i, i < len → ∃ x c0 c1 c2 c3 c4, a.spot = none ∧ Vl.Five W a.block (a.off + i * 5) c0 c1 c2 c3 c4 ∧ Nd.At W (.agg #[c0, c1, c2, c3, c4]) x ∧ Nd.Tz (Rows.uptoBulk y.1) x.toks := by
      intro i hi
      have h1 := helem i hi
      rw [List.getElem?_eq_getElem (by omega)] at h1
      obtain ⟨cs', h2, h3⟩ := Option.bind_eq_some_iff.1 h1
      have hsp0 : a.spot = none := by
        have h1 := helem 0 (by omega)
        rw [List.getElem?_eq_getElem (by omega)] at h1
        obtain ⟨cs0, h2, _⟩ := Option.bind_eq_some_iff.1 h1
        obtain ⟨_, _, _, _, _, _, hsp, _⟩ := Nd.cells5 h2
        rw [Nat.zero_mul] at hsp
        simpa [Addr.add] using hsp
      have e : a.add (i * 5) = ⟨a.block, a.off + i * 5, none⟩ := by
        obtain ⟨b, off, sp⟩ := a
        change sp = none at hsp0
        subst hsp0
        exact Addr.add_lit _ _ _
      obtain ⟨a0, a1, a2, a3, a4, rfl, _, h5⟩ := Nd.cells5 h2
      have hmem : (elems[i]'(by omega)).1 ∈ elems.map (·.1) := List.mem_map.2 ⟨_, List.getElem_mem _, rfl⟩
      obtain ⟨x, hx, hbk⟩ := ih n2 (by omega) _ _ h3 (fun q hq => hw q (by
        rw [hyd]
        simp only [DataW.weights, Tryz.underlying23, List.mem_cons, List.mem_append]
        exact Or.inr (Or.inl (Sc.weightsAll_mem _ _ _ _ hmem q hq))))
      rw [e] at h5
      refine ⟨x, a0, a1, a2, a3, a4, hsp0, h5, hx, hbk.mono ?_⟩
      rw [hyd]
      have := Sc.bulk_mem _ _ hmem
      simp only [Rows.uptoBulk]
      omega
    have hall : ∀ m, m ≤ len → ∃ l : List Nd.N, l.length = m ∧ ∀ i (hi : i < l.length), ∃ c0 c1 c2 c3 c4, a.spot = none ∧ Vl.Five W a.block (a.off + i * 5) c0 c1 c2 c3 c4 ∧ Nd.At W (.agg #[c0, c1, c2, c3, c4]) l[i] ∧ Nd.Tz (Rows.uptoBulk y.1) l[i].toks := by
      intro m
      induction m with
      | zero => exact fun _ => ⟨[], rfl, fun i hi => by simp at hi⟩
      | succ m ihm =>
        intro hm'
        obtain ⟨l, hl', hi'⟩ := ihm (by omega)
        obtain ⟨x, c0, c1, c2, c3, c4, hsp, h5, hx, hbk⟩ := key m (by omega)
        refine ⟨l ++ [x], by simp [hl'], fun i hi => ?_⟩
        by_cases him : i < l.length
        · obtain ⟨g0, g1, g2, g3, g4, q1, q2, q3, q4⟩ := hi' i him
          refine ⟨g0, g1, g2, g3, g4, q1, q2, ?_, ?_⟩
          · rw [List.getElem_append_left him]; exact q3
          · rw [List.getElem_append_left him]; exact q4
        · have : i = m := by rw [List.length_append] at hi; simp at hi; omega
          subst this
          refine ⟨c0, c1, c2, c3, c4, hsp, h5, ?_, ?_⟩
          · rw [List.getElem_append_right (by omega)]
            simp only [hl', Nat.sub_self, List.getElem_cons_zero]
            exact hx
          · rw [List.getElem_append_right (by omega)]
            simp only [hl', Nat.sub_self, List.getElem_cons_zero]
            exact hbk
    obtain ⟨l, hll, hli⟩ := hall len (Nat.le_refl _)
    refine ⟨some a, cap, l, by rw [hll], fun i hi => ?_, ⟨by omega, by omega⟩, Nd.tz_all fun x hx => ?_, by rw [hyd, hll]; have h1 := Sc.bulk_count (elems.map (·.1)); rw [List.length_map, hel] at h1; simp only [Rows.uptoBulk]; omega⟩
    · obtain ⟨g0, g1, g2, g3, g4, hsp, q2, q3, _⟩ := hli i hi
      obtain ⟨b, off, sp⟩ := a
      change sp = none at hsp
      subst hsp
      exact ⟨b, off, g0, g1, g2, g3, g4, rfl, q2, l[i], List.getElem?_eq_getElem hi, q3⟩
    · obtain ⟨i, hi, rfl⟩ := List.getElem_of_mem hx
      obtain ⟨_, _, _, _, _, _, _, _, q4⟩ := hli i hi
      exact q4
set_option maxRecDepth 100000 in
theorem Nd.open_nodeL {H : Type} {enc : TypeId × Value → H} {W : World} (n : Nat) : Nd.OpensL enc W n := by
  induction n using Nat.strongRecOn with
  | ind n ih =>
    intro cs y h hw
    obtain ⟨z2, z5, _⟩ := Sc.cellsT
    obtain ⟨z4, z6⟩ := Nd.cellsN
    obtain ⟨xs, n1, hn1, rfl, hl, hlen, hf⟩ := DataW.trod_struct Tryz.underlying44 h
    rw [z6] at hl
    obtain ⟨c0, c1, c2, c3, c4, rfl⟩ := Nd.list5 hl
    obtain ⟨y0, y1, y2, y3, y4, rfl⟩ := Nd.list5 hlen
    have f0 : DataW.trod enc Tryz.prog W 0 (fun _ => true) true n1 42 [c0] = some y0 := by
      have := hf 0 _ rfl
      simpa [z2] using this
    have f1 : DataW.trod enc Tryz.prog W 0 (fun _ => true) true n1 9 [c1] = some y1 := by
      have := hf 1 _ rfl
      simpa [cells_text] using this
    have f2 : DataW.trod enc Tryz.prog W 0 (fun _ => true) true n1 35 [c2] = some y2 := by
      have := hf 2 _ rfl
      simpa [z5] using this
    have f3 : DataW.trod enc Tryz.prog W 0 (fun _ => true) true n1 23 [c3] = some y3 := by
      have := hf 3 _ rfl
      simpa [z4] using this
    have f4 : DataW.trod enc Tryz.prog W 0 (fun _ => true) true n1 23 [c4] = some y4 := by
      have := hf 4 _ rfl
      simpa [z4] using this
    simp only [DataW.weights, Tryz.underlying44, List.map_cons, List.map_nil, DataW.weightsEach, List.mem_append, List.append_nil] at hw
    obtain ⟨k, e0, _, w0⟩ := DataW.trod_int Tryz.underlying42 f0
    obtain ⟨t, e1, e1', _⟩ := DataW.trod_string Tryz.underlying9 f1
    simp only [List.cons.injEq, and_true] at e0 e1
    subst e0 e1
    have hk : 0 ≤ k ∧ k ≤ 255 := by simpa [Lit.wf, IntKind.min, IntKind.max, IntKind.signed, IntKind.bits] using w0
    obtain ⟨kn, rfl⟩ := Int.eq_ofNat_of_zero_le hk.1
    have ht : t.size ≤ 140737488351232 := by
      have := hw t.data.toList.length (Or.inr (Or.inl (by rw [e1']; simp [DataW.weights])))
      rw [← Wp.size_len] at this
      exact this
    obtain ⟨pn, cn, ns, rfl, hns, hnl, hnsz, hcap⟩ := Sc.open_path f2 (fun q hq => hw q (Or.inr (Or.inr (Or.inl hq))))
    obtain ⟨pk, ck, kids, rfl, hA3, ⟨hl3, hc3⟩, hT3, -⟩ := Nd.open_rowL n1 (fun m hm => ih m (by omega)) c3 y3 f3 (fun q hq => hw q (Or.inr (Or.inr (Or.inr (Or.inl hq)))))
    obtain ⟨pe, ce, els, rfl, hA4, ⟨hl4, hc4⟩, hT4, -⟩ := Nd.open_rowL n1 (fun m hm => ih m (by omega)) c4 y4 f4 (fun q hq => hw q (Or.inr (Or.inr (Or.inr (Or.inr hq)))))
    have hb2 := Sc.bulk_mem (H := H) [y0.1, y1.1, y2.1, y3.1, y4.1] y2.1 (by simp)
    have hpb : ns.length ≤ Rows.uptoBulk y2.1 := by
      rcases DataW.trod_slice Tryz.underlying35 f2 with ⟨e3, _⟩ | ⟨a, len, cap, elems, rest, n2, hn2, e3, hy3, hb, hlc, hm, hel, helem, _, _⟩
      · simp only [List.cons.injEq, and_true, Value.slice.injEq] at e3
        omega
      · simp only [List.cons.injEq, and_true, Value.slice.injEq] at e3
        have h1 := Sc.bulk_count (elems.map (·.1))
        rw [List.length_map, hel] at h1
        rw [hy3]
        simp only [Rows.uptoBulk]
        omega
    have hb1 := Sc.bulk_mem (H := H) [y0.1, y1.1, y2.1, y3.1, y4.1] y1.1 (by simp)
    have hb3 := Sc.bulk_mem (H := H) [y0.1, y1.1, y2.1, y3.1, y4.1] y3.1 (by simp)
    have hb4 := Sc.bulk_mem (H := H) [y0.1, y1.1, y2.1, y3.1, y4.1] y4.1 (by simp)
    have hbk : Rows.uptoBulkAll [y0.1, y1.1, y2.1, y3.1, y4.1] ≤ Rows.uptoBulk (.agg [y0.1, y1.1, y2.1, y3.1, y4.1]) := by
      simp only [Rows.uptoBulk]
      omega
    have h1 : t.size ≤ Rows.uptoBulk y1.1 := by
      rw [e1']
      simp only [Rows.uptoBulk]
      rw [Wp.size_len]
      omega
    refine ⟨.mk kn t ns kids els, ?_, Nd.tz_node (show t.size ≤ Rows.uptoBulk (.agg [y0.1, y1.1, y2.1, y3.1, y4.1]) ∧ ns.length ≤ Rows.uptoBulk (.agg [y0.1, y1.1, y2.1, y3.1, y4.1]) by omega) (hT3.mono (show _ ≤ Rows.uptoBulk (.agg [y0.1, y1.1, y2.1, y3.1, y4.1]) by omega)) (hT4.mono (show _ ≤ Rows.uptoBulk (.agg [y0.1, y1.1, y2.1, y3.1, y4.1]) by omega))⟩
    rw [Nd.At]
    exact ⟨pn, cn, pk, ck, pe, ce, rfl, ⟨by omega, ht, hnl, hl3, hl4, hnsz, hcap, hc3, hc4⟩, hns, (Nd.row_iff _ _ _).2 hA3, (Nd.row_iff _ _ _).2 hA4⟩
set_option maxRecDepth 100000 in
/-- Nodes among the arguments. -/
theorem Nd.open_nodesL {H : Type} {enc : TypeId × Value → H} {W : World} {base : Nat} {ts : List TypeId} {ds : List (DataW H)} (hsz : (DataW.weightsEach Tryz.prog ts ds).all (· ≤ reachBytes) = true)
    (j : Nat) {v : Value} {d : DataW H} {ps : List MemPlace} (ht : ts[j]? = some 23) (hd : ds[j]? = some d) (hval : Value.okWide Tryz.prog W .any base 23 v)
    (h : DataW.Trod enc Tryz.prog W 0 (fun _ => true) true 23 v d ps) :
    ∃ p c, ∃ l : List Nd.N, v = .slice p l.length c ∧ Nd.Row W p l ∧ (l.length ≤ 140737488351232 ∧ l.length ≤ c) ∧ (∀ t ∈ Nd.toksL l, t.text.size ≤ Rows.uptoBulk d ∧ t.path.length ≤ Rows.uptoBulk d) ∧ l.length ≤ Rows.uptoBulk d := by
  obtain ⟨a0, len0, cap0, rfl⟩ := okWide_slice Tryz.underlying23 hval
  obtain ⟨fuel, hf⟩ := h
  exact Nd.open_rowL fuel (fun m _ => Nd.open_nodeL m) _ (d, ps) hf (fun q hq => by
    have := List.all_eq_true.1 hsz q (DataW.weights_mem_each ht hd q hq)
    simpa using this)
end Go.Proofs.YteajjlilpikdeaaGreatDoor
