/-
  What a law's slice of tokens reads as, with its capacity. No condition but the form's own reach.
-/
import Derived.Test.YteajjlilpikdeaaGreatDoorOpenToks
namespace Go.Proofs.YteajjlilpikdeaaGreatDoor
open Go.ChangeShapes Go.WideShapes Go.ChangeAt Go.RowKit

set_option maxRecDepth 100000 in
theorem Sc.open_toksC {H : Type} {enc : TypeId × Value → H} {W : World} {base : Nat} {ts : List TypeId} {ds : List (DataW H)} (hsz : (DataW.weightsEach Tryz.prog ts ds).all (· ≤ reachBytes) = true)
    (j : Nat) {v : Value} {d : DataW H} {ps : List MemPlace} (ht : ts[j]? = some 22) (hd : ds[j]? = some d) (hval : Value.okWide Tryz.prog W .any base 22 v)
    (h : DataW.Trod enc Tryz.prog W 0 (fun _ => true) true 22 v d ps) :
    ∃ p c, ∃ l : List Sc.T, v = .slice p l.length c ∧ Sc.At W p l ∧ (l.length ≤ 140737488351232 ∧ l.length ≤ Rows.uptoBulk d) ∧ (∀ t ∈ l, t.text.size ≤ Rows.uptoBulk d) ∧ (l.length ≤ c ∧ c ≤ 9223372036854775807) := by
  obtain ⟨p, c, l, rfl, hA, hm, hx⟩ := Sc.open_toks hsz j ht hd hval h
  obtain ⟨fuel, hf⟩ := h
  refine ⟨p, c, l, rfl, hA, hm, hx, ?_⟩
  obtain ⟨k, hk⟩ : ∃ k, k = l.length := ⟨_, rfl⟩
  rw [← hk] at hf ⊢
  rcases DataW.trod_slice Tryz.underlying22 hf with ⟨e3, _⟩ | ⟨a, len, cap, elems, rest, n2, hn2, e3, hy3, hb, hlc, hmx, _⟩
  · simp [Value.cells] at e3
    obtain ⟨_, h1, h2⟩ := e3
    omega
  · simp [Value.cells] at e3
    obtain ⟨_, h1, h2⟩ := e3
    unfold maxLen at hmx
    omega
end Go.Proofs.YteajjlilpikdeaaGreatDoor
