
/-
  What a slice's value reads as, a Builder's contents, and a slice that a call has made, kept where only new memory has come. No condition but those that the theorems state.
-/
import Derived.Test.YteajjlilpikdeaaGreatDoorProg
import Derived.Test.YteajjlilpikdeaaGreatDoorPlain
import Derived.WalkKit
import Derived.WalkSpells
import Derived.WalkLawsBesides
import Derived.Lib.Hide
import Derived.Lib.Strings
import Derived.Shelf.Strings.Builder1
namespace Go.Proofs.YteajjlilpikdeaaGreatDoor
open Go.RowKit

/-- The slice whose first cell is at p reads as l: each cell holds its part. -/
def Wp.At {α : Type} (mk : α → Value) (w : World) (p : Option Addr) (l : List α) : Prop :=
  l = [] ∨ ∃ b off, p = some ⟨b, off, none⟩ ∧ ∀ i (h : i < l.length), w.cell? ⟨b, off + i, none⟩ = some (mk l[i])
theorem Wp.At.below {α : Type} {mk : α → Value} {w w' : World} {p : Option Addr} {l : List α} (h : Wp.At mk w p l) (hb : Below w.heap.size w w') : Wp.At mk w' p l := by
  rcases h with h | ⟨b, off, hp, hc⟩
  · exact Or.inl h
  · exact Or.inr ⟨b, off, hp, fun i hi => (hb.cell (World.block_lt_of_cell? w _ (hc i hi))).trans (hc i hi)⟩
theorem Wp.At.get {α : Type} {mk : α → Value} {w : World} {p : Option Addr} {l : List α} (h : Wp.At mk w p l) (k : Nat) (hk : k < l.length) :
    ∃ b off, p = some ⟨b, off, none⟩ ∧ w.cell? ⟨b, off + k, none⟩ = some (mk l[k]) := by
  rcases h with h | ⟨b, off, hp, hc⟩
  · subst h; simp at hk
  · exact ⟨b, off, hp, hc k hk⟩
theorem isBuilder_below {T e : TypeId} {B b : Nat} {bs : List Value} {w w' : World} (h : Lib.IsBuilder T e B b bs w) (hb : Below w.heap.size w w') : Lib.IsBuilder T e B b bs w' := by
  have key : ∀ p, Lib.BuilderAt T e B b p bs w → Lib.BuilderAt T e B b p bs w' := by
    intro p h
    have hlt := h.lt
    obtain ⟨hB, v, hc, hown, hne⟩ := h
    exact ⟨hB, v, (hb.block b hlt).trans hc, hown.kept (row := none) ⟨hb.os, hb.tape, hb.output, hb.size, fun k hk _ => hb.block k hk⟩ (Classical.em _), hne⟩
  rcases h with h | h
  · exact Or.inl (key _ h)
  · exact Or.inr (key _ h)
theorem isBuilder_new (T e : TypeId) (w : World) : Lib.IsBuilder T e w.heap.size w.heap.size [] (w.alloc (.cells #[.pointer none, .slice none 0 0] T)) := by
  refine Or.inl ⟨Nat.le_refl _, .slice none 0 0, ?_, World.ownsRow_nil _ _ _ _, by simp [Value.ownBlock]⟩
  show (w.heap.push _)[w.heap.size]? = _
  simp
theorem ownsRow_below {w w' : World} {base : Nat} {e : TypeId} {size : Nat} {v : Value} {n : Nat} {xs : List Value} (h : w.ownsRow base e size v n xs) (hb : Below w.heap.size w w') : w'.ownsRow base e size v n xs :=
  h.kept (row := none) ⟨hb.os, hb.tape, hb.output, hb.size, fun k hk _ => hb.block k hk⟩ (Classical.em _)
theorem owns_at {α : Type} {mk : α → Value} {w : World} {base : Nat} {e : TypeId} {v : Value} {l : List α} (h : w.ownsRow base e 1 v l.length (l.map mk)) :
    ∃ p c, v = .slice p l.length c ∧ Wp.At mk w p l := by
  rcases h.2 with ⟨hv, h0⟩ | ⟨g, cap, cur, hv, hg, hc, hn, hm, hs, ht⟩
  · exact ⟨none, 0, by rw [hv, h0], Or.inl (List.length_eq_zero_iff.1 h0)⟩
  · refine ⟨some ⟨g, 0, none⟩, cap, hv, Or.inr ⟨g, 0, rfl, fun i hi => ?_⟩⟩
    have h1 : w.cell? ⟨g, 0 + i, none⟩ = cur[0 + i]? := Lib.cell_of_heap hc _
    rw [h1, Nat.zero_add]
    have h2 : (cur.toList.take (l.length * 1))[i]? = (l.map mk)[i]? := by rw [ht]
    rw [List.getElem?_take_of_lt (by omega), List.getElem?_map, List.getElem?_eq_getElem hi] at h2
    rw [Array.getElem?_toList] at h2
    exact h2
theorem below_grown {w w' w0 : World} {base : Nat} {e : TypeId} {v : Value} {n : Nat} {xs : List Value} (hb : Below w0.heap.size w0 w) (ho : w.ownsRow base e 1 v n xs) (hbase : w0.heap.size ≤ base) (hg : w.grownBy w' v.ownBlock) : Below w0.heap.size w0 w' :=
  hb.grown hg hb.size (fun k hk => Nat.le_trans hbase (ho.lt k hk).1)
def Wp.mkN (x : Int) : Value := .int .i64 x
def Wp.mkT (x : ByteArray) : Value := .string x
end Go.Proofs.YteajjlilpikdeaaGreatDoor
