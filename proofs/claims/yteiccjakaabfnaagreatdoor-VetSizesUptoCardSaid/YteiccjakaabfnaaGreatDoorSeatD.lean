
/-
  What every row of the program asks of it alone, proved once: that it looks. No condition.
-/
import Derived.Test.YteiccjakaabfnaaGreatDoorChecked
import Derived.Test.YteiccjakaabfnaaGreatDoorRows
import Derived.Deep.DeepHandedRow
import Derived.Test.YteiccjakaabfnaaGreatDoorCards
import Derived.Test.YteiccjakaabfnaaGreatDoorTie
namespace Go.Proofs.YteiccjakaabfnaaGreatDoor
open Go.ChangeShapes Go.WideShapes

theorem Seat.looks : true = Tryz.pinned.checked.prog.looks [] := by kernel_rfl
end Go.Proofs.YteiccjakaabfnaaGreatDoor
