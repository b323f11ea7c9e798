
/-
  The closed facts of VetMore's row. No condition.
-/
import Derived.Test.YteiccjakaabfnaaGreatDoorCards
import Derived.Test.YteiccjakaabfnaaGreatDoorChecked
import Derived.Test.YteiccjakaabfnaaGreatDoorZ21
import Derived.Test.YteiccjakaabfnaaGreatDoorRows
import Derived.Deep.DeepHandedRow
namespace Go.Proofs.YteiccjakaabfnaaGreatDoor.vetMore
open Go.ChangeShapes Go.WideShapes Go.ChangeAt Go.RowKit
open Go.ChangeMaps (open_string)

theorem j9 : ((Rows.vetMoreUptoRow.inPlace == Tryz.pinned.checked.prog.inPlace 4)) = true := by kernel_rfl
theorem j10 : ((Rows.vetMoreUptoRow.unfollowed == Tryz.pinned.checked.prog.unfollowed 4)) = true := by kernel_rfl
theorem j11 : ((Rows.vetMoreUptoRow.recurses == Tryz.pinned.checked.prog.recurses 4)) = true := by kernel_rfl
theorem j12 : ((Rows.vetMoreUptoRow.named == Tryz.pinned.checked.prog.varsNamed 4)) = true := by kernel_rfl
end Go.Proofs.YteiccjakaabfnaaGreatDoor.vetMore
