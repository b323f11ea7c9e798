
/-
  What every row of the program asks of it alone, proved once: how its types are laid out. No condition.
-/
import Derived.Test.YteiccjakaabfnaaGreatDoorChecked
import Derived.Test.YteiccjakaabfnaaGreatDoorRows
import Derived.Deep.DeepHandedRow
namespace Go.Proofs.YteiccjakaabfnaaGreatDoor
open Go.ChangeShapes Go.WideShapes

theorem Seat.laid : laidOutB Tryz.pinned.checked.prog = true := by kernel_rfl
theorem Seat.rowed : mapsRowed Tryz.pinned.checked.prog = true := by kernel_rfl
theorem Seat.and2 {a b : Bool} (h : a = true) (k : b = true) : (a && b) = true := by rw [h, k]; rfl
end Go.Proofs.YteiccjakaabfnaaGreatDoor
