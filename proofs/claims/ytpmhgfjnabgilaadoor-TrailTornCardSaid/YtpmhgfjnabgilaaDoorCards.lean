/-
  DERIVED. GIVEN WITH THE SEED: THE CARDS: each row of YtpmhgfjnabgilaaDoorRows.lean that lists a variable, with what it lists TIED to the program's text (the seventh form; the later family's looks); each row that meets fmt, with fmt's text TOLD by the authors' own Lean function (tested against real Go, not proved from fmt's source: count such statements apart). THE CARD IS WHAT COUNTS. Prove the row's statement (the work); the ties are given (YtpmhgfjnabgilaaDoorTie.lean); close each card by the builder's one call (the guide's Derived/Test/ToyasCard.lean, 'card_holds'). Laid BY PROGRAM, IN A SANDBOX (cutbox-door.mjs). By AI agents, Wed Nov 11 2026. No macro, syntax, notation, axiom, sorry.
-/
import Derived.Test.YtpmhgfjnabgilaaDoorRows
import GoSem.ClaimSeven
namespace Go.Proofs.YtpmhgfjnabgilaaDoor
namespace Rows

/-- THE TIED CARD OF 'bellmanlaw04.TrailBack'. -/
def trailBackCard : Claim7 := { stood := { row := trailBackRow, standIns := [], harness := (true, "d16bafac0d733464518e46a5e9f0148dd604d44e011e379bffa620a369cb3ca5"), looks := false }, kinds := [], alts := [], laidByText := true, laidKinds := [.data], laidTests := true, laidLooks := .later }
def TrailBackCardSaid : Prop := Claim7.holds Tryd.pinned (.plain (OpenSpec.ofChange trailBackSpec)) trailBackCard

/-- THE TIED CARD OF 'bellmanlaw04.TrailTorn'. -/
def trailTornCard : Claim7 := { stood := { row := trailTornRow, standIns := [], harness := (true, "d16bafac0d733464518e46a5e9f0148dd604d44e011e379bffa620a369cb3ca5"), looks := false }, kinds := [], alts := [], laidByText := true, laidKinds := [.data], laidTests := true, laidLooks := .later }
def TrailTornCardSaid : Prop := Claim7.holds Tryd.pinned (.plain (OpenSpec.ofChange trailTornSpec)) trailTornCard

/-- THE TIED CARD OF 'bellmanlaw04.TrailWiped'. -/
def trailWipedCard : Claim7 := { stood := { row := trailWipedRow, standIns := [], harness := (true, "d16bafac0d733464518e46a5e9f0148dd604d44e011e379bffa620a369cb3ca5"), looks := false }, kinds := [], alts := [], laidByText := true, laidKinds := [.data], laidTests := true, laidLooks := .later }
def TrailWipedCardSaid : Prop := Claim7.holds Tryd.pinned (.plain (OpenSpec.ofChange trailWipedSpec)) trailWipedCard

/-- THE TIED CARD OF 'bellmanlaw09.ValueAsks'. -/
def valueAsksCard : Claim7 := { stood := { row := valueAsksRow, standIns := [], harness := (true, "d16bafac0d733464518e46a5e9f0148dd604d44e011e379bffa620a369cb3ca5"), looks := false }, kinds := [], alts := [], laidByText := true, laidKinds := [.data, .data, .data], laidTests := true, laidLooks := .later }
def ValueAsksCardSaid : Prop := Claim7.holds Tryd.pinned (.plain (OpenSpec.ofChange valueAsksSpec)) valueAsksCard

/-- THE TIED CARD OF 'bellmanlaw09.ValueCodes'. -/
def valueCodesCard : Claim7 := { stood := { row := valueCodesRow, standIns := [], harness := (true, "d16bafac0d733464518e46a5e9f0148dd604d44e011e379bffa620a369cb3ca5"), looks := false }, kinds := [], alts := [], laidByText := true, laidKinds := [.data, .data, .data], laidTests := true, laidLooks := .later }
def ValueCodesCardSaid : Prop := Claim7.holds Tryd.pinned (.plain (OpenSpec.ofChange valueCodesSpec)) valueCodesCard

/-- THE TIED CARD OF 'bellmanlaw09.ValueBack'. -/
def valueBackCard : Claim7 := { stood := { row := valueBackRow, standIns := [], harness := (true, "d16bafac0d733464518e46a5e9f0148dd604d44e011e379bffa620a369cb3ca5"), looks := false }, kinds := [], alts := [], laidByText := true, laidKinds := [.data, .data, .data], laidTests := true, laidLooks := .later }
def ValueBackCardSaid : Prop := Claim7.holds Tryd.pinned (.plain (OpenSpec.ofChange valueBackSpec)) valueBackCard

/-- THE TIED CARD OF 'bellmanlaw09.ValueWith'. -/
def valueWithCard : Claim7 := { stood := { row := valueWithRow, standIns := [], harness := (true, "d16bafac0d733464518e46a5e9f0148dd604d44e011e379bffa620a369cb3ca5"), looks := false }, kinds := [], alts := [], laidByText := true, laidKinds := [.data, .data, .data], laidTests := true, laidLooks := .later }
def ValueWithCardSaid : Prop := Claim7.holds Tryd.pinned (.plain (OpenSpec.ofChange valueWithSpec)) valueWithCard

/-- THE TIED CARD OF 'bellmanlaw09.ValuePaths'. -/
def valuePathsCard : Claim7 := { stood := { row := valuePathsRow, standIns := [], harness := (true, "d16bafac0d733464518e46a5e9f0148dd604d44e011e379bffa620a369cb3ca5"), looks := false }, kinds := [], alts := [], laidByText := true, laidKinds := [.data, .data, .data], laidTests := true, laidLooks := .later }
def ValuePathsCardSaid : Prop := Claim7.holds Tryd.pinned (.plain (OpenSpec.ofChange valuePathsSpec)) valuePathsCard

/-- THE TIED CARD OF 'bellmanlaw10.ScanTokens'. -/
def scanTokensCard : Claim7 := { stood := { row := scanTokensRow, standIns := [], harness := (true, "d16bafac0d733464518e46a5e9f0148dd604d44e011e379bffa620a369cb3ca5"), looks := false }, kinds := [], alts := [], laidByText := true, laidKinds := [.data, .data, .pinned], laidTests := true, laidLooks := .later }
def ScanTokensCardSaid : Prop := Claim7.holds Tryd.pinned (.plain (OpenSpec.ofChange scanTokensSpec)) scanTokensCard

/-- THE TIED CARD OF 'bellmanlaw10.ScanWrites'. -/
def scanWritesCard : Claim7 := { stood := { row := scanWritesRow, standIns := [], harness := (true, "d16bafac0d733464518e46a5e9f0148dd604d44e011e379bffa620a369cb3ca5"), looks := false }, kinds := [], alts := [], laidByText := true, laidKinds := [.data, .data, .pinned], laidTests := true, laidLooks := .later }
def ScanWritesCardSaid : Prop := Claim7.holds Tryd.pinned (.plain (OpenSpec.ofChange scanWritesSpec)) scanWritesCard

/-- THE TIED CARD OF 'bellmanlaw10.ScanBack'. -/
def scanBackCard : Claim7 := { stood := { row := scanBackRow, standIns := [], harness := (true, "d16bafac0d733464518e46a5e9f0148dd604d44e011e379bffa620a369cb3ca5"), looks := false }, kinds := [], alts := [], laidByText := true, laidKinds := [.data, .data, .pinned], laidTests := true, laidLooks := .later }
def ScanBackCardSaid : Prop := Claim7.holds Tryd.pinned (.plain (OpenSpec.ofChange scanBackSpec)) scanBackCard

/-- THE TIED CARD OF 'bellmanlaw10.ScanPlain'. -/
def scanPlainCard : Claim7 := { stood := { row := scanPlainRow, standIns := [], harness := (true, "d16bafac0d733464518e46a5e9f0148dd604d44e011e379bffa620a369cb3ca5"), looks := false }, kinds := [], alts := [], laidByText := true, laidKinds := [.data, .data, .pinned], laidTests := true, laidLooks := .later }
def ScanPlainCardSaid : Prop := Claim7.holds Tryd.pinned (.plain (OpenSpec.ofChange scanPlainSpec)) scanPlainCard

/-- THE SECOND FORM's CARD OF 'bellmanlaw04.TrailBack'. -/
def trailBackUptoCard : Claim7 := { stood := { row := trailBackUptoRow, standIns := [], harness := (true, "d16bafac0d733464518e46a5e9f0148dd604d44e011e379bffa620a369cb3ca5"), looks := false }, kinds := [], alts := [], laidByText := true, laidKinds := [.data], laidTests := true, laidLooks := .later }
def TrailBackUptoCardSaid : Prop := Claim7.holds Tryd.pinned (.plain (OpenSpec.upto trailBackSpec)) trailBackUptoCard

/-- THE SECOND FORM's CARD OF 'bellmanlaw04.TrailTorn'. -/
def trailTornUptoCard : Claim7 := { stood := { row := trailTornUptoRow, standIns := [], harness := (true, "d16bafac0d733464518e46a5e9f0148dd604d44e011e379bffa620a369cb3ca5"), looks := false }, kinds := [], alts := [], laidByText := true, laidKinds := [.data], laidTests := true, laidLooks := .later }
def TrailTornUptoCardSaid : Prop := Claim7.holds Tryd.pinned (.plain (OpenSpec.upto trailTornSpec)) trailTornUptoCard

/-- THE SECOND FORM's CARD OF 'bellmanlaw04.TrailWiped'. -/
def trailWipedUptoCard : Claim7 := { stood := { row := trailWipedUptoRow, standIns := [], harness := (true, "d16bafac0d733464518e46a5e9f0148dd604d44e011e379bffa620a369cb3ca5"), looks := false }, kinds := [], alts := [], laidByText := true, laidKinds := [.data], laidTests := true, laidLooks := .later }
def TrailWipedUptoCardSaid : Prop := Claim7.holds Tryd.pinned (.plain (OpenSpec.upto trailWipedSpec)) trailWipedUptoCard

/-- THE SECOND FORM's CARD OF 'bellmanlaw09.ValueAsks'. -/
def valueAsksUptoCard : Claim7 := { stood := { row := valueAsksUptoRow, standIns := [], harness := (true, "d16bafac0d733464518e46a5e9f0148dd604d44e011e379bffa620a369cb3ca5"), looks := false }, kinds := [], alts := [], laidByText := true, laidKinds := [.data, .data, .data], laidTests := true, laidLooks := .later }
def ValueAsksUptoCardSaid : Prop := Claim7.holds Tryd.pinned (.plain (OpenSpec.upto valueAsksSpec)) valueAsksUptoCard

/-- THE SECOND FORM's CARD OF 'bellmanlaw09.ValueCodes'. -/
def valueCodesUptoCard : Claim7 := { stood := { row := valueCodesUptoRow, standIns := [], harness := (true, "d16bafac0d733464518e46a5e9f0148dd604d44e011e379bffa620a369cb3ca5"), looks := false }, kinds := [], alts := [], laidByText := true, laidKinds := [.data, .data, .data], laidTests := true, laidLooks := .later }
def ValueCodesUptoCardSaid : Prop := Claim7.holds Tryd.pinned (.plain (OpenSpec.upto valueCodesSpec)) valueCodesUptoCard

/-- THE SECOND FORM's CARD OF 'bellmanlaw09.ValueBack'. -/
def valueBackUptoCard : Claim7 := { stood := { row := valueBackUptoRow, standIns := [], harness := (true, "d16bafac0d733464518e46a5e9f0148dd604d44e011e379bffa620a369cb3ca5"), looks := false }, kinds := [], alts := [], laidByText := true, laidKinds := [.data, .data, .data], laidTests := true, laidLooks := .later }
def ValueBackUptoCardSaid : Prop := Claim7.holds Tryd.pinned (.plain (OpenSpec.upto valueBackSpec)) valueBackUptoCard

/-- THE SECOND FORM's CARD OF 'bellmanlaw09.ValueWith'. -/
def valueWithUptoCard : Claim7 := { stood := { row := valueWithUptoRow, standIns := [], harness := (true, "d16bafac0d733464518e46a5e9f0148dd604d44e011e379bffa620a369cb3ca5"), looks := false }, kinds := [], alts := [], laidByText := true, laidKinds := [.data, .data, .data], laidTests := true, laidLooks := .later }
def ValueWithUptoCardSaid : Prop := Claim7.holds Tryd.pinned (.plain (OpenSpec.upto valueWithSpec)) valueWithUptoCard

/-- THE SECOND FORM's CARD OF 'bellmanlaw09.ValuePaths'. -/
def valuePathsUptoCard : Claim7 := { stood := { row := valuePathsUptoRow, standIns := [], harness := (true, "d16bafac0d733464518e46a5e9f0148dd604d44e011e379bffa620a369cb3ca5"), looks := false }, kinds := [], alts := [], laidByText := true, laidKinds := [.data, .data, .data], laidTests := true, laidLooks := .later }
def ValuePathsUptoCardSaid : Prop := Claim7.holds Tryd.pinned (.plain (OpenSpec.upto valuePathsSpec)) valuePathsUptoCard

/-- THE SECOND FORM's CARD OF 'bellmanlaw10.ScanTokens'. -/
def scanTokensUptoCard : Claim7 := { stood := { row := scanTokensUptoRow, standIns := [], harness := (true, "d16bafac0d733464518e46a5e9f0148dd604d44e011e379bffa620a369cb3ca5"), looks := false }, kinds := [], alts := [], laidByText := true, laidKinds := [.data, .data, .pinned], laidTests := true, laidLooks := .later }
def ScanTokensUptoCardSaid : Prop := Claim7.holds Tryd.pinned (.plain (OpenSpec.upto scanTokensSpec)) scanTokensUptoCard

/-- THE SECOND FORM's CARD OF 'bellmanlaw10.ScanWrites'. -/
def scanWritesUptoCard : Claim7 := { stood := { row := scanWritesUptoRow, standIns := [], harness := (true, "d16bafac0d733464518e46a5e9f0148dd604d44e011e379bffa620a369cb3ca5"), looks := false }, kinds := [], alts := [], laidByText := true, laidKinds := [.data, .data, .pinned], laidTests := true, laidLooks := .later }
def ScanWritesUptoCardSaid : Prop := Claim7.holds Tryd.pinned (.plain (OpenSpec.upto scanWritesSpec)) scanWritesUptoCard

/-- THE SECOND FORM's CARD OF 'bellmanlaw10.ScanBack'. -/
def scanBackUptoCard : Claim7 := { stood := { row := scanBackUptoRow, standIns := [], harness := (true, "d16bafac0d733464518e46a5e9f0148dd604d44e011e379bffa620a369cb3ca5"), looks := false }, kinds := [], alts := [], laidByText := true, laidKinds := [.data, .data, .pinned], laidTests := true, laidLooks := .later }
def ScanBackUptoCardSaid : Prop := Claim7.holds Tryd.pinned (.plain (OpenSpec.upto scanBackSpec)) scanBackUptoCard

/-- THE SECOND FORM's CARD OF 'bellmanlaw10.ScanPlain'. -/
def scanPlainUptoCard : Claim7 := { stood := { row := scanPlainUptoRow, standIns := [], harness := (true, "d16bafac0d733464518e46a5e9f0148dd604d44e011e379bffa620a369cb3ca5"), looks := false }, kinds := [], alts := [], laidByText := true, laidKinds := [.data, .data, .pinned], laidTests := true, laidLooks := .later }
def ScanPlainUptoCardSaid : Prop := Claim7.holds Tryd.pinned (.plain (OpenSpec.upto scanPlainSpec)) scanPlainUptoCard
end Rows
end Go.Proofs.YtpmhgfjnabgilaaDoor
