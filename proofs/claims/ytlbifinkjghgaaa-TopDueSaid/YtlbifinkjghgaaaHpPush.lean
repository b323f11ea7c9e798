
/-
  The walk of heap.Push: a right heap with one timer more, or why there is none. Condition: the list is of a size that a machine holds.
-/
import Derived.Test.YtlbifinkjghgaaaHpMake
namespace Go.Proofs.Ytlbifinkjghgaaa
open Go.RowKit Go.Lib Go.Sort Go.Shelf

noncomputable def Hp.puC (l : List (Int × Int × Int × Int)) (s : Int) : Int := @ite _ (Hp.Ok l) (Classical.propDecidable _) (if 0 ≤ Hp.plc l s then 4 else if l.length = 4096 then 8 else 0) 2
noncomputable def Hp.puL (l : List (Int × Int × Int × Int)) (t : Int × Int × Int × Int) : List (Int × Int × Int × Int) := if Hp.puC l t.2.1 = 0 then Hp.pushF l t else if Hp.puC l t.2.1 = 2 then [] else l
theorem Hp.one {w : World} {g : Nat} {x : Int × Int × Int × Int} (h : Hp.At1 w g 0 x) : Hp.At w (some ⟨g, 0, none⟩) [x] := by
  refine Or.inr ⟨g, 0, rfl, fun i hi => ?_⟩
  obtain rfl : i = 0 := by simp at hi; omega
  exact h
theorem Hp.one_new (w : World) (x : Int × Int × Int × Int) : Hp.At (w.alloc (.cells #[.int .i64 x.1, .int .i64 x.2.1, .int .u8 x.2.2.1, .int .i64 x.2.2.2] 29)) (some ⟨w.heap.size, 0, none⟩) [x] := Hp.one (Hp.boxed (hp_new w _))
theorem Hp.At.below' {w w' : World} {p : Option Addr} {l : List (Int × Int × Int × Int)} (h : Hp.At w p l) (hb : Below w.drew.heap.size w.drew w') : Hp.At w' p l := Hp.At.below (w := w.drew) h hb
theorem hp_grown_own {w0 w w' : World} {base : Nat} {v : Value} {l : List (Int × Int × Int × Int)} (h : Below base w0 w) (hO : Hp.Own w base v l) (hg : w.grownBy w' v.ownBlock) (hb : base ≤ w.heap.size) : Below base w0 w' := h.grown hg hb (fun k hk => (hO.lt k hk).1)
end Go.Proofs.Ytlbifinkjghgaaa
