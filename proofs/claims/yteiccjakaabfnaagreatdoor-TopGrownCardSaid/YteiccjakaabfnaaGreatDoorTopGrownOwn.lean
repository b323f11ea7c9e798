
/-
  The closed facts of TopGrown's row. No condition.
-/
import Derived.Test.YteiccjakaabfnaaGreatDoorCards
import Derived.Test.YteiccjakaabfnaaGreatDoorChecked
import Derived.Test.YteiccjakaabfnaaGreatDoorRowKit
import Derived.Test.YteiccjakaabfnaaGreatDoorRows
import Derived.Deep.DeepHandedRow
namespace Go.Proofs.YteiccjakaabfnaaGreatDoor.topGrown
open Go.ChangeShapes Go.WideShapes Go.ChangeAt Go.RowKit
open Go.ChangeMaps (open_string)

theorem j9 : ((Rows.topGrownRow.inPlace == Tryz.pinned.checked.prog.inPlace 12)) = true := by kernel_rfl
theorem j10 : ((Rows.topGrownRow.unfollowed == Tryz.pinned.checked.prog.unfollowed 12)) = true := by kernel_rfl
theorem j11 : ((Rows.topGrownRow.recurses == Tryz.pinned.checked.prog.recurses 12)) = true := by kernel_rfl
theorem j12 : ((Rows.topGrownRow.named == Tryz.pinned.checked.prog.varsNamed 12)) = true := by kernel_rfl
end Go.Proofs.YteiccjakaabfnaaGreatDoor.topGrown
