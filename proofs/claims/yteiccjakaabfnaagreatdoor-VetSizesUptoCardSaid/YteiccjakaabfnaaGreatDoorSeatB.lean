
/-
  What every row of the program asks of it alone, proved once: what it stops at, what it may enter. No condition.
-/
import Derived.Test.YteiccjakaabfnaaGreatDoorChecked
import Derived.Test.YteiccjakaabfnaaGreatDoorRows
import Derived.Deep.DeepHandedRow
namespace Go.Proofs.YteiccjakaabfnaaGreatDoor
open Go.ChangeShapes Go.WideShapes

theorem Seat.stops : (Tryz.pinned.checked.prog.stops == []) = true := by kernel_rfl
theorem Seat.stopKnobs : (Tryz.pinned.checked.prog.stopKnobs == []) = true := by kernel_rfl
theorem Seat.heard : Tryz.pinned.checked.prog.stopsHeard = true := by kernel_rfl
theorem Seat.enter : Tryz.pinned.checked.prog.mayEnter = true := by kernel_rfl
end Go.Proofs.YteiccjakaabfnaaGreatDoor
