/-
  What a slice's value reads as, and a Builder's contents kept where only new memory has come: for the walks over lists. No condition but those that the theorems state.
-/
import Derived.Test.YtdhiekhinimohaaDoorWire
import Derived.Test.YtdhiekhinimohaaDoorBuilder
import Derived.Test.YtdhiekhinimohaaDoorPlainThree
namespace Go.Proofs.YtdhiekhinimohaaDoor
open Go.RowKit

/-- The slice whose first cell is at p reads as l: each cell holds its part. -/
def Wp.At {α : Type} (mk : α → Value) (w : World) (p : Option Addr) (l : List α) : Prop :=
  l = [] ∨ ∃ b off, p = some ⟨b, off, none⟩ ∧ ∀ i (h : i < l.length), w.cell? ⟨b, off + i, none⟩ = some (mk l[i])
theorem Wp.At.below {α : Type} {mk : α → Value} {w w' : World} {p : Option Addr} {l : List α} (h : Wp.At mk w p l) (hb : Below w.heap.size w w') : Wp.At mk w' p l := by
  rcases h with h | ⟨b, off, hp, hc⟩
  · exact Or.inl h
  · exact Or.inr ⟨b, off, hp, fun i hi => (hb.cell (World.block_lt_of_cell? w _ (hc i hi))).trans (hc i hi)⟩
theorem Wp.At.get {α : Type} {mk : α → Value} {w : World} {p : Option Addr} {l : List α} (h : Wp.At mk w p l) (k : Nat) (hk : k < l.length) :
    ∃ b off, p = some ⟨b, off, none⟩ ∧ w.cell? ⟨b, off + k, none⟩ = some (mk l[k]) := by
  rcases h with h | ⟨b, off, hp, hc⟩
  · subst h; simp at hk
  · exact ⟨b, off, hp, hc k hk⟩
theorem isBuilder_below {T e : TypeId} {B b : Nat} {bs : List Value} {w w' : World} (h : Lib.IsBuilder T e B b bs w) (hb : Below w.heap.size w w') : Lib.IsBuilder T e B b bs w' := by
  have key : ∀ p, Lib.BuilderAt T e B b p bs w → Lib.BuilderAt T e B b p bs w' := by
    intro p h
    have hlt := h.lt
    obtain ⟨hB, v, hc, hown, hne⟩ := h
    exact ⟨hB, v, (hb.block b hlt).trans hc, hown.kept (row := none) ⟨hb.os, hb.tape, hb.output, hb.size, fun k hk _ => hb.block k hk⟩ (Classical.em _), hne⟩
  rcases h with h | h
  · exact Or.inl (key _ h)
  · exact Or.inr (key _ h)
theorem isBuilder_new (T e : TypeId) (w : World) : Lib.IsBuilder T e w.heap.size w.heap.size [] (w.alloc (.cells #[.pointer none, .slice none 0 0] T)) := by
  refine Or.inl ⟨Nat.le_refl _, .slice none 0 0, ?_, World.ownsRow_nil _ _ _ _, by simp [Value.ownBlock]⟩
  show (w.heap.push _)[w.heap.size]? = _
  simp
theorem cells_app (a b : List UInt8) : Lib.byteCells a ++ Lib.strCells (Wp.B b) = Lib.byteCells (a ++ b) := by
  rw [Lib.strCells_eq, Wp.B_data, Lib.byteCells_append]
end Go.Proofs.YtdhiekhinimohaaDoor
