
/-
  What every row of the program asks of it alone, proved once: its keys, its make. No condition.
-/
import Derived.Test.YteiccjakaabfnaaGreatDoorChecked
import Derived.Test.YteiccjakaabfnaaGreatDoorRows
import Derived.Deep.DeepHandedRow
namespace Go.Proofs.YteiccjakaabfnaaGreatDoor
open Go.ChangeShapes Go.WideShapes

theorem Seat.keys : (true == Tryz.pinned.checked.prog.plainKeys) = true := by kernel_rfl
theorem Seat.lifted : (false == Tryz.pinned.checked.prog.liftsFinal) = true := by kernel_rfl
theorem Seat.make : (Tryz.pinned.checked.prog.make == some Make.cut) = true := by kernel_rfl
end Go.Proofs.YteiccjakaabfnaaGreatDoor
