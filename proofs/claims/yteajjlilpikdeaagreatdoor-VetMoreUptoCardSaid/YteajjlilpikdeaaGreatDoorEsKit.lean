
/-
  What a builder holds behind writes of texts and bytes. No condition but those that the theorems state.
-/
import Derived.Test.YteajjlilpikdeaaGreatDoorBuX
import Derived.Test.YteajjlilpikdeaaGreatDoorPlainTwo
import Derived.Lib.Hide
namespace Go.Proofs.YteajjlilpikdeaaGreatDoor
open Go.RowKit

theorem Es.builder_below {T e : TypeId} {B b : Nat} {bs : List Value} {w w' : World} (h : Lib.IsBuilderF T e B b bs w) (hb : Below w.heap.size w w') : Lib.IsBuilderF T e B b bs w' := by
  have key : ∀ p, Lib.BuilderAtF T e B b p bs w → Lib.BuilderAtF T e B b p bs w' := by
    intro p h
    have hlt := h.lt
    obtain ⟨hB, v, hc, hown, hne⟩ := h
    exact ⟨hB, v, (hb.block b hlt).trans hc, hown.kept (row := none) ⟨hb.os, hb.tape, hb.output, hb.size, fun k hk _ => hb.block k hk⟩ (Classical.em _), hne⟩
  exact h.elim (fun x => .inl (key _ x)) (fun x => .inr (key _ x))
/-- What stands where bytes were put behind what a builder had. -/
structure Es.Put (B g : Nat) (pre add : List UInt8) (w w' : World) : Prop where
  bld : Lib.IsBuilderF 111 5 B g (Lib.byteCells (pre ++ add)) w'
  below : Below B w w'
  size : w.heap.size ≤ w'.heap.size
theorem Es.Put.trans {B g : Nat} {pre a b : List UInt8} {w w1 w2 : World} (h : Es.Put B g pre a w w1) (k : Es.Put B g (pre ++ a) b w1 w2) : Es.Put B g pre (a ++ b) w w2 :=
  ⟨by rw [← List.append_assoc]; exact k.bld, h.below.trans k.below, Nat.le_trans h.size k.size⟩
theorem Es.putString {B g : Nat} {pre : List UInt8} (s : ByteArray) (w : World) (h : Lib.IsBuilderF 111 5 B g (Lib.byteCells pre) w) (hl : pre.length + s.size ≤ 140737488355328) (hB : B ≤ w.heap.size) :
    Calls Tryz.prog 98 #[.pointer (some ⟨g, 0, none⟩), .string s] w fun e w' => e = .returned (.tuple #[.int .i64 s.size, .nilIface]) ∧ Es.Put B g pre s.data.toList w w' := by
  refine (Tryz.Builder_PutString B g _ s w h (by rw [Lib.byteCells_length]; exact hl) hB).mono ?_
  rintro e w' ⟨rfl, h1, h2, h3⟩
  refine ⟨rfl, Or.inr ?_, h2, h2.size⟩
  rw [Lib.byteCells_append, ← Lib.strCells_eq]
  exact h1
theorem Es.new (w : World) (o : Obj) : (w.alloc o).heap[w.heap.size]? = some o := by
  show (w.heap.push o)[w.heap.size]? = some o
  simp
theorem Es.newBuilder (w : World) : Lib.IsBuilderF 111 5 w.heap.size w.heap.size (Lib.byteCells []) (w.alloc (.cells #[.pointer none, .slice none 0 0] 111)) :=
  Or.inl ⟨Nat.le_refl _, .slice none 0 0, Es.new _ _, World.ownsRowF_nil _ _ _ _, by simp [Value.ownBlock]⟩
end Go.Proofs.YteajjlilpikdeaaGreatDoor
