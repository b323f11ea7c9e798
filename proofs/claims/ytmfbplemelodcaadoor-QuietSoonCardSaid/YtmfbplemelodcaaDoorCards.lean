/-
  DERIVED. GIVEN WITH THE SEED: THE CARDS: each row of YtmfbplemelodcaaDoorRows.lean that lists a variable, with what it lists TIED to the program's text (the seventh form; the later family's looks); each row that meets fmt, with fmt's text TOLD by the authors' own Lean function (tested against real Go, not proved from fmt's source: count such statements apart). THE CARD IS WHAT COUNTS. Prove the row's statement (the work); the ties are given (YtmfbplemelodcaaDoorTie.lean); close each card by the builder's one call (the guide's Derived/Test/ToyasCard.lean, 'card_holds'). Laid BY PROGRAM, IN A SANDBOX (cutbox-door.mjs). By AI agents, Wed Nov 11 2026. No macro, syntax, notation, axiom, sorry.
-/
import Derived.Test.YtmfbplemelodcaaDoorRows
import GoSem.ClaimSeven
namespace Go.Proofs.YtmfbplemelodcaaDoor
namespace Rows

/-- THE TIED CARD OF 'bellmanlaw06.ZoneClocks'. -/
def zoneClocksCard : Claim7 := { stood := { row := zoneClocksRow, standIns := [], harness := (true, "06235606f6fcce0af0d94c7d70956604f1355644ab620373f7c5e74ad97837fa"), looks := false }, kinds := [], alts := [], laidByText := true, laidKinds := [.data, .data], laidTests := true, laidLooks := .later }
def ZoneClocksCardSaid : Prop := Claim7.holds Tryd.pinned (.plain (OpenSpec.ofChange zoneClocksSpec)) zoneClocksCard

/-- THE TIED CARD OF 'bellmanlaw06.ZoneTimes'. -/
def zoneTimesCard : Claim7 := { stood := { row := zoneTimesRow, standIns := [], harness := (true, "06235606f6fcce0af0d94c7d70956604f1355644ab620373f7c5e74ad97837fa"), looks := false }, kinds := [], alts := [], laidByText := true, laidKinds := [.data, .data], laidTests := true, laidLooks := .later }
def ZoneTimesCardSaid : Prop := Claim7.holds Tryd.pinned (.plain (OpenSpec.ofChange zoneTimesSpec)) zoneTimesCard

/-- THE TIED CARD OF 'bellmanlaw08.QuietFree'. -/
def quietFreeCard : Claim7 := { stood := { row := quietFreeRow, standIns := [], harness := (true, "06235606f6fcce0af0d94c7d70956604f1355644ab620373f7c5e74ad97837fa"), looks := false }, kinds := [], alts := [], laidByText := true, laidKinds := [.data], laidTests := true, laidLooks := .later }
def QuietFreeCardSaid : Prop := Claim7.holds Tryd.pinned (.plain (OpenSpec.ofChange quietFreeSpec)) quietFreeCard

/-- THE TIED CARD OF 'bellmanlaw08.QuietSoon'. -/
def quietSoonCard : Claim7 := { stood := { row := quietSoonRow, standIns := [], harness := (true, "06235606f6fcce0af0d94c7d70956604f1355644ab620373f7c5e74ad97837fa"), looks := false }, kinds := [], alts := [], laidByText := true, laidKinds := [.data], laidTests := true, laidLooks := .later }
def QuietSoonCardSaid : Prop := Claim7.holds Tryd.pinned (.plain (OpenSpec.ofChange quietSoonSpec)) quietSoonCard

/-- THE SECOND FORM's CARD OF 'bellmanlaw06.ZoneClocks'. -/
def zoneClocksUptoCard : Claim7 := { stood := { row := zoneClocksUptoRow, standIns := [], harness := (true, "06235606f6fcce0af0d94c7d70956604f1355644ab620373f7c5e74ad97837fa"), looks := false }, kinds := [], alts := [], laidByText := true, laidKinds := [.data, .data], laidTests := true, laidLooks := .later }
def ZoneClocksUptoCardSaid : Prop := Claim7.holds Tryd.pinned (.plain (OpenSpec.upto zoneClocksSpec)) zoneClocksUptoCard

/-- THE SECOND FORM's CARD OF 'bellmanlaw06.ZoneTimes'. -/
def zoneTimesUptoCard : Claim7 := { stood := { row := zoneTimesUptoRow, standIns := [], harness := (true, "06235606f6fcce0af0d94c7d70956604f1355644ab620373f7c5e74ad97837fa"), looks := false }, kinds := [], alts := [], laidByText := true, laidKinds := [.data, .data], laidTests := true, laidLooks := .later }
def ZoneTimesUptoCardSaid : Prop := Claim7.holds Tryd.pinned (.plain (OpenSpec.upto zoneTimesSpec)) zoneTimesUptoCard

/-- THE SECOND FORM's CARD OF 'bellmanlaw08.QuietFree'. -/
def quietFreeUptoCard : Claim7 := { stood := { row := quietFreeUptoRow, standIns := [], harness := (true, "06235606f6fcce0af0d94c7d70956604f1355644ab620373f7c5e74ad97837fa"), looks := false }, kinds := [], alts := [], laidByText := true, laidKinds := [.data], laidTests := true, laidLooks := .later }
def QuietFreeUptoCardSaid : Prop := Claim7.holds Tryd.pinned (.plain (OpenSpec.upto quietFreeSpec)) quietFreeUptoCard

/-- THE SECOND FORM's CARD OF 'bellmanlaw08.QuietSoon'. -/
def quietSoonUptoCard : Claim7 := { stood := { row := quietSoonUptoRow, standIns := [], harness := (true, "06235606f6fcce0af0d94c7d70956604f1355644ab620373f7c5e74ad97837fa"), looks := false }, kinds := [], alts := [], laidByText := true, laidKinds := [.data], laidTests := true, laidLooks := .later }
def QuietSoonUptoCardSaid : Prop := Claim7.holds Tryd.pinned (.plain (OpenSpec.upto quietSoonSpec)) quietSoonUptoCard
end Rows
end Go.Proofs.YtmfbplemelodcaaDoor
