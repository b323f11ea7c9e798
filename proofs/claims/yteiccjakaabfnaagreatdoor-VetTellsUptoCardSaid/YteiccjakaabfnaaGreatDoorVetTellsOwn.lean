
/-
  The closed facts of VetTells's row. No condition.
-/
import Derived.Test.YteiccjakaabfnaaGreatDoorCards
import Derived.Test.YteiccjakaabfnaaGreatDoorChecked
import Derived.Test.YteiccjakaabfnaaGreatDoorZ60
import Derived.Test.YteiccjakaabfnaaGreatDoorRows
import Derived.Deep.DeepHandedRow
namespace Go.Proofs.YteiccjakaabfnaaGreatDoor.vetTells
open Go.ChangeShapes Go.WideShapes Go.ChangeAt Go.RowKit
open Go.ChangeMaps (open_string)

theorem j9 : ((Rows.vetTellsUptoRow.inPlace == Tryz.pinned.checked.prog.inPlace 3)) = true := by kernel_rfl
theorem j10 : ((Rows.vetTellsUptoRow.unfollowed == Tryz.pinned.checked.prog.unfollowed 3)) = true := by kernel_rfl
theorem j11 : ((Rows.vetTellsUptoRow.recurses == Tryz.pinned.checked.prog.recurses 3)) = true := by kernel_rfl
theorem j12 : ((Rows.vetTellsUptoRow.named == Tryz.pinned.checked.prog.varsNamed 3)) = true := by kernel_rfl
end Go.Proofs.YteiccjakaabfnaaGreatDoor.vetTells
