
/-
  slices.Equal at texts, whatever the two lists are. Conditions: each has at most 4096 texts.
-/
import Derived.Test.YteajjlilpikdeaaGreatDoorDevX
import Derived.Test.YteajjlilpikdeaaGreatDoorShelf
namespace Go.Proofs.YteajjlilpikdeaaGreatDoor
open Go.RowKit

theorem Wp.below_drews {B : Nat} {a w : World} (h : Below B a w) (q : Nat) : Below B a (w.drewN q) := by
  induction q with
  | zero => exact h
  | succ q ih => exact ih.drew
end Go.Proofs.YteajjlilpikdeaaGreatDoor
