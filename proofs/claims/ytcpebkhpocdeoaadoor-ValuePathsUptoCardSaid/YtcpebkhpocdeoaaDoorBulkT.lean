/-
  The bulk of a slice of texts bounds how many they are: for the statements of the second form. No condition.
-/
import Derived.Test.YtcpebkhpocdeoaaDoorOpenTexts
import Derived.Test.YtcpebkhpocdeoaaDoorRows
namespace Go.Proofs.YtcpebkhpocdeoaaDoor
open Go.ChangeShapes Go.WideShapes Go.ChangeAt Go.RowKit

theorem bulk_len {H : Type} (l : List ByteArray) : l.length ≤ Rows.uptoBulkAll (strs (H := H) l) := by
  induction l with
  | nil => simp
  | cons x l ih =>
    simp only [strs, List.map_cons, Rows.uptoBulkAll, Rows.uptoBulk, List.length_cons] at ih ⊢
    omega
theorem bulk_mem {H : Type} (ds : List (DataW H)) (d : DataW H) (h : d ∈ ds) : Rows.uptoBulk d ≤ Rows.uptoBulkAll ds := by
  induction ds with
  | nil => simp at h
  | cons x ds ih =>
    simp only [Rows.uptoBulkAll]
    rcases List.mem_cons.1 h with rfl | h
    · omega
    · have := ih h; omega
theorem bulk_get {H : Type} {ds : List (DataW H)} (hk : Rows.uptoSmall H ds = true) (d : DataW H) (h : d ∈ ds) : Rows.uptoBulk d ≤ 1048576 := by
  have h1 : Rows.uptoBulkAll ds ≤ 1048576 := of_decide_eq_true hk
  exact Nat.le_trans (bulk_mem ds d h) h1
set_option maxRecDepth 100000 in
/-- The same list that open_texts opens, with its bulk. -/
theorem Wp.open_texts_bulk {H : Type} {enc : TypeId × Value → H} {W : World} {base : Nat} {ts : List TypeId} {ds : List (DataW H)} (hsz : (DataW.weightsEach Tryd.prog ts ds).all (· ≤ reachBytes) = true)
    (j : Nat) {v : Value} {d : DataW H} {ps : List MemPlace} (ht : ts[j]? = some 24) (hd : ds[j]? = some d) (hval : Value.okWide Tryd.prog W .any base 24 v)
    (h : DataW.Trod enc Tryd.prog W 0 (fun _ => true) true 24 v d ps) :
    ∃ p c, ∃ l : List ByteArray, v = .slice p l.length c ∧ Wp.At Wp.mkT W p l ∧ l.length ≤ 140737488351232 ∧ (∀ x ∈ l, x.size ≤ 140737488351232) ∧ l.length ≤ Rows.uptoBulk d := by
  obtain ⟨p, c, l, hv, hat, hl, hx⟩ := Wp.open_texts hsz j ht hd hval h
  refine ⟨p, c, l, hv, hat, hl, hx, ?_⟩
  subst hv
  obtain ⟨fuel, hf⟩ := h
  rcases open_strings Tryd.underlying24 Tryd.underlying9 cells_text hf with ⟨hc, hx2⟩ | ⟨a, len', cap', ss, hc, hb, hl2, hm, hz, hx2, hcell, hw⟩
  · simp [Value.cells] at hc
    obtain ⟨_, h0, _⟩ := hc
    have : l = [] := h0
    subst this
    simp
  · simp [Value.cells] at hc
    obtain ⟨rfl, h1, rfl⟩ := hc
    simp only [if_true] at hz
    simp only [Prod.mk.injEq] at hx2
    obtain ⟨rfl, _⟩ := hx2
    have e : l = ss.take len' := by
      apply List.ext_getElem
      · rw [List.length_take]; omega
      · intro i hi1 hi2
        rcases hat with h0 | ⟨b, off, hp, hc⟩
        · subst h0; simp at hi1
        · have hp' := Option.some.inj hp
          subst hp'
          have h2 := hc i hi1
          have h3 : i < ss.length := by rw [List.length_take] at hi2; omega
          have h4 := hcell i h3
          have e2 : (⟨b, off, none⟩ : Addr).add i = ⟨b, off + i, none⟩ := by simp [Addr.add]
          rw [e2, h2] at h4
          simp only [Wp.mkT, Option.some.injEq, Value.string.injEq] at h4
          rw [h4, List.getElem_take]
          simp [List.getD, List.getElem?_eq_getElem h3]
    rw [e]
    have := bulk_len (H := H) (ss.take len')
    simp only [Rows.uptoBulk]
    omega
end Go.Proofs.YtcpebkhpocdeoaaDoor
