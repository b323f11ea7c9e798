/-
  DERIVED. GIVEN WITH THE SEED: THE PROGRAM's TIES (one call each: nine closed facts by the kernel) AND EACH ROW's TIE, after the 31st guide's Derived/Test/Toyas{Tie, Card}.lean. No idea stands in it: it is a product of the set-up. Laid BY PROGRAM, IN A SANDBOX (cutbox-door.mjs). By AI agents, Wed Nov 11 2026. No macro, syntax, notation, axiom, sorry.
-/
import Derived.Test.YtmfbplemelodcaaDoorRows
import Derived.LaidByTextLater
import Derived.SevenTiedAt
import Derived.LaidSub
import Derived.LaidOnce
namespace Go.Proofs.YtmfbplemelodcaaDoor
open Go
set_option maxRecDepth 100000
theorem seatTie1 : Tryd.prog.laidByTextLater [("bellman/civil.daysAhead", Rows.laid_bellman_civil_daysAhead), ("bellman/zone.named", Rows.laid_bellman_zone_named)] [.data, .data] true :=
  Program.laidByTextLater_by_one 45 8 89 (by kernel_rfl) (by kernel_rfl) (by kernel_rfl) (by kernel_rfl) (by kernel_rfl) (by kernel_rfl) (fun _ _ => by kernel_rfl)
theorem noOwnUnsafe : Tryd.pinned.checked.prog.headLifts.contains "ownunsafe" = false := by kernel_rfl
theorem tie : Tryd.prog.laidByTextLater [("bellman/civil.daysAhead", Rows.laid_bellman_civil_daysAhead), ("bellman/zone.named", Rows.laid_bellman_zone_named)] [.data, .data] true :=
  Program.laidByTextLater.sub seatTie1 ["bellman/civil.daysAhead", "bellman/zone.named"] (by kernel_rfl) (by kernel_rfl)
theorem zoneClocks_row_tie : Rows.zoneClocksRow.laidByTextAt .later Tryd.pinned [.data, .data] true :=
  OpenClaim.laidByTextAt_later rfl rfl tie noOwnUnsafe
theorem zoneTimes_row_tie : Rows.zoneTimesRow.laidByTextAt .later Tryd.pinned [.data, .data] true :=
  OpenClaim.laidByTextAt_later rfl rfl tie noOwnUnsafe
theorem tie2 : Tryd.prog.laidByTextLater [("bellman/civil.daysAhead", Rows.laid_bellman_civil_daysAhead)] [.data] true :=
  Program.laidByTextLater.sub seatTie1 ["bellman/civil.daysAhead"] (by kernel_rfl) (by kernel_rfl)
theorem quietFree_row_tie : Rows.quietFreeRow.laidByTextAt .later Tryd.pinned [.data] true :=
  OpenClaim.laidByTextAt_later rfl rfl tie2 noOwnUnsafe
theorem quietSoon_row_tie : Rows.quietSoonRow.laidByTextAt .later Tryd.pinned [.data] true :=
  OpenClaim.laidByTextAt_later rfl rfl tie2 noOwnUnsafe
theorem zoneClocksUpto_row_tie : Rows.zoneClocksUptoRow.laidByTextAt .later Tryd.pinned [.data, .data] true :=
  OpenClaim.laidByTextAt_later rfl rfl tie noOwnUnsafe
theorem zoneTimesUpto_row_tie : Rows.zoneTimesUptoRow.laidByTextAt .later Tryd.pinned [.data, .data] true :=
  OpenClaim.laidByTextAt_later rfl rfl tie noOwnUnsafe
theorem quietFreeUpto_row_tie : Rows.quietFreeUptoRow.laidByTextAt .later Tryd.pinned [.data] true :=
  OpenClaim.laidByTextAt_later rfl rfl tie2 noOwnUnsafe
theorem quietSoonUpto_row_tie : Rows.quietSoonUptoRow.laidByTextAt .later Tryd.pinned [.data] true :=
  OpenClaim.laidByTextAt_later rfl rfl tie2 noOwnUnsafe
end Go.Proofs.YtmfbplemelodcaaDoor
