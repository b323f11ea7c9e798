
/-
  A device's value laid open, and kept while boxes are written. No condition.
-/
import Derived.Test.YtpmhgfjnabgilabDoorDevAt
namespace Go.Proofs.YtpmhgfjnabgilabDoor
open Go.RowKit

/-- A device's value laid open. -/
theorem devAt_open {w : World} {v : Value} {d : Wp.Dev} (h : Wp.DevAt w v d) : ∃ pb cb pw cw, v = .agg #[.slice pb d.bl.length cb, .slice pw d.ws.length cw, .int .i64 d.fu, .bool d.dn] ∧ Wp.DevAt w (.agg #[.slice pb d.bl.length cb, .slice pw d.ws.length cw, .int .i64 d.fu, .bool d.dn]) d := by
  have h2 := h
  obtain ⟨pb, cb, pw, cw, rfl, _, _⟩ := h2
  exact ⟨pb, cb, pw, cw, rfl, h⟩
/-- A box holds no row: a device's value reads as it did when a box is written. -/
theorem devAt_box {w w' : World} {v : Value} {d : Wp.Dev} {k : Nat} {a b : Option Addr} {n1 c1 n2 c2 : Nat} {i : Int} {q : Bool} {T : TypeId} (h : Wp.DevAt w v d)
    (hb : w.heap[k]? = some (.cells #[.slice a n1 c1, .slice b n2 c2, .int .i64 i, .bool q] T (0, 0))) (hk : ∀ j, j ≠ k → w'.heap[j]? = w.heap[j]?) : Wp.DevAt w' v d := by
  obtain ⟨pb, cb, pw, cw, rfl, h1, h2⟩ := h
  have key : ∀ (x : Nat) (s : ByteArray), w.cell? ⟨k, x, none⟩ ≠ some (.string s) := by
    intro x s
    rw [Lib.cell_of_heap hb]
    match x with
    | 0 => simp
    | 1 => simp
    | 2 => simp
    | 3 => simp
    | x + 4 => simp
  have cellk : ∀ {p : Addr}, p.spot = none → p.block ≠ k → w'.cell? p = w.cell? p := fun {p} hs hp => World.cell?_of_block (hk p.block hp)
  refine ⟨pb, cb, pw, cw, rfl, ?_, ?_⟩
  · rcases h1 with h1 | ⟨g, off, hp, hc⟩
    · exact Or.inl h1
    · by_cases h0 : d.bl = []
      · exact Or.inl h0
      · have hg : g ≠ k := by
          intro e
          subst e
          exact key _ _ (hc 0 (List.length_pos_iff.2 h0))
        exact Or.inr ⟨g, off, hp, fun i hi => (cellk rfl hg).trans (hc i hi)⟩
  · rcases h2 with h2 | ⟨g, off, hp, hc⟩
    · exact Or.inl h2
    · by_cases h0 : d.ws = []
      · exact Or.inl h0
      · have hg : g ≠ k := by
          intro e
          subst e
          exact key _ _ (hc 0 (List.length_pos_iff.2 h0)).2
        exact Or.inr ⟨g, off, hp, fun i hi => ⟨(cellk rfl hg).trans (hc i hi).1, (cellk rfl hg).trans (hc i hi).2⟩⟩
theorem devAt_fuse {w : World} {x y : Value} {d : Wp.Dev} {i : Int} {b : Bool} (h : Wp.DevAt w (.agg #[x, y, .int .i64 i, .bool b]) d) (n : Int) : Wp.DevAt w (.agg #[x, y, .int .i64 n, .bool b]) { d with fu := n } := by
  obtain ⟨pb, cb, pw, cw, he, h1, h2⟩ := h
  simp only [Wp.devV, Value.agg.injEq, Array.mk.injEq, List.cons.injEq, and_true] at he
  obtain ⟨rfl, rfl, _, e4⟩ := he
  refine ⟨pb, cb, pw, cw, ?_, h1, h2⟩
  unfold Wp.devV
  rw [e4]
end Go.Proofs.YtpmhgfjnabgilabDoor
