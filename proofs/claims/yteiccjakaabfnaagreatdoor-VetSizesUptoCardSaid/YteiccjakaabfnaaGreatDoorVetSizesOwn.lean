
/-
  The closed facts of VetSizes's row. No condition.
-/
import Derived.Test.YteiccjakaabfnaaGreatDoorCards
import Derived.Test.YteiccjakaabfnaaGreatDoorChecked
import Derived.Test.YteiccjakaabfnaaGreatDoorZ52
import Derived.Test.YteiccjakaabfnaaGreatDoorRows
import Derived.Deep.DeepHandedRow
namespace Go.Proofs.YteiccjakaabfnaaGreatDoor.vetSizes
open Go.ChangeShapes Go.WideShapes Go.ChangeAt Go.RowKit
open Go.ChangeMaps (open_string)

theorem j9 : ((Rows.vetSizesUptoRow.inPlace == Tryz.pinned.checked.prog.inPlace 5)) = true := by kernel_rfl
theorem j10 : ((Rows.vetSizesUptoRow.unfollowed == Tryz.pinned.checked.prog.unfollowed 5)) = true := by kernel_rfl
theorem j11 : ((Rows.vetSizesUptoRow.recurses == Tryz.pinned.checked.prog.recurses 5)) = true := by kernel_rfl
theorem j12 : ((Rows.vetSizesUptoRow.named == Tryz.pinned.checked.prog.varsNamed 5)) = true := by kernel_rfl
end Go.Proofs.YteiccjakaabfnaaGreatDoor.vetSizes
