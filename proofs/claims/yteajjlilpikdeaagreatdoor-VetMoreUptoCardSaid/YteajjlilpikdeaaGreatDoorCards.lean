/-
  DERIVED. GIVEN WITH THE SEED: THE CARDS: each row of YteajjlilpikdeaaGreatDoorRows.lean that lists a variable, with what it lists TIED to the program's text (the seventh form; the later family's looks); each row that meets fmt, with fmt's text TOLD by the authors' own Lean function (tested against real Go, not proved from fmt's source: count such statements apart). THE CARD IS WHAT COUNTS. Prove the row's statement (the work); the ties are given (YteajjlilpikdeaaGreatDoorTie.lean); close each card by the builder's one call (the guide's Derived/Test/ToyasCard.lean, 'card_holds'). Laid BY PROGRAM, IN A SANDBOX (cutbox-door.mjs). By AI agents, Wed Nov 11 2026. No macro, syntax, notation, axiom, sorry.
-/
import Derived.Test.YteajjlilpikdeaaGreatDoorRows
import GoSem.ClaimSeven
namespace Go.Proofs.YteajjlilpikdeaaGreatDoor
namespace Rows

/-- THE TIED CARD OF 'bellmanlaw11.TreeParses'. -/
def treeParsesCard : Claim7 := { stood := { row := treeParsesRow, standIns := [], harness := (true, "ead0a197480963c8fc647b042f0c4599ff5bcee36aaef27313f87b99f3e265ba"), looks := true }, kinds := [], alts := [], laidByText := true, laidKinds := [.data, .data, .sentinel, .sentinel, .pinned], laidTests := true, laidLooks := .later }
def TreeParsesCardSaid : Prop := Claim7.holds Tryz.pinned (.plain (OpenSpec.ofChange treeParsesSpec)) treeParsesCard

/-- THE TIED CARD OF 'bellmanlaw11.TreeTells'. -/
def treeTellsCard : Claim7 := { stood := { row := treeTellsRow, standIns := [], harness := (true, "ead0a197480963c8fc647b042f0c4599ff5bcee36aaef27313f87b99f3e265ba"), looks := true }, kinds := [], alts := [], laidByText := true, laidKinds := [.data, .data, .sentinel, .sentinel, .pinned], laidTests := true, laidLooks := .later }
def TreeTellsCardSaid : Prop := Claim7.holds Tryz.pinned (.plain (OpenSpec.ofChange treeTellsSpec)) treeTellsCard

/-- THE TIED CARD OF 'bellmanlaw11.TreeBeside'. -/
def treeBesideCard : Claim7 := { stood := { row := treeBesideRow, standIns := [], harness := (true, "ead0a197480963c8fc647b042f0c4599ff5bcee36aaef27313f87b99f3e265ba"), looks := true }, kinds := [], alts := [], laidByText := true, laidKinds := [.data, .data, .sentinel, .sentinel, .pinned], laidTests := true, laidLooks := .later }
def TreeBesideCardSaid : Prop := Claim7.holds Tryz.pinned (.plain (OpenSpec.ofChange treeBesideSpec)) treeBesideCard

/-- THE TIED CARD OF 'bellmanlaw12.VetTells'. -/
def vetTellsCard : Claim7 := { stood := { row := vetTellsRow, standIns := [], harness := (true, "ead0a197480963c8fc647b042f0c4599ff5bcee36aaef27313f87b99f3e265ba"), looks := true }, kinds := [], alts := [], laidByText := true, laidKinds := [.data, .data, .sentinel, .sentinel, .pinned], laidTests := true, laidLooks := .later }
def VetTellsCardSaid : Prop := Claim7.holds Tryz.pinned (.plain (OpenSpec.ofChange vetTellsSpec)) vetTellsCard

/-- THE TIED CARD OF 'bellmanlaw12.VetMore'. -/
def vetMoreCard : Claim7 := { stood := { row := vetMoreRow, standIns := [], harness := (true, "ead0a197480963c8fc647b042f0c4599ff5bcee36aaef27313f87b99f3e265ba"), looks := true }, kinds := [], alts := [], laidByText := true, laidKinds := [.data, .data, .sentinel, .sentinel, .pinned], laidTests := true, laidLooks := .later }
def VetMoreCardSaid : Prop := Claim7.holds Tryz.pinned (.plain (OpenSpec.ofChange vetMoreSpec)) vetMoreCard

/-- THE TIED CARD OF 'bellmanlaw12.VetSizes'. -/
def vetSizesCard : Claim7 := { stood := { row := vetSizesRow, standIns := [], harness := (true, "ead0a197480963c8fc647b042f0c4599ff5bcee36aaef27313f87b99f3e265ba"), looks := true }, kinds := [], alts := [], laidByText := true, laidKinds := [.data, .data, .sentinel, .sentinel, .pinned], laidTests := true, laidLooks := .later }
def VetSizesCardSaid : Prop := Claim7.holds Tryz.pinned (.plain (OpenSpec.ofChange vetSizesSpec)) vetSizesCard

/-- THE TIED CARD OF 'bellmanlaw12.VetWithin'. -/
def vetWithinCard : Claim7 := { stood := { row := vetWithinRow, standIns := [], harness := (true, "ead0a197480963c8fc647b042f0c4599ff5bcee36aaef27313f87b99f3e265ba"), looks := true }, kinds := [], alts := [], laidByText := true, laidKinds := [.data, .data, .sentinel, .sentinel, .pinned], laidTests := true, laidLooks := .later }
def VetWithinCardSaid : Prop := Claim7.holds Tryz.pinned (.plain (OpenSpec.ofChange vetWithinSpec)) vetWithinCard

/-- THE TIED CARD OF 'bellmantop.TopGrown'. -/
def topGrownCard : Claim7 := { stood := { row := topGrownRow, standIns := [], harness := (true, "ead0a197480963c8fc647b042f0c4599ff5bcee36aaef27313f87b99f3e265ba"), looks := true }, kinds := [], alts := [], laidByText := true, laidKinds := [.data, .data, .sentinel, .sentinel, .pinned], laidTests := true, laidLooks := .later }
def TopGrownCardSaid : Prop := Claim7.holds Tryz.pinned (.plain (OpenSpec.ofChange topGrownSpec)) topGrownCard

/-- THE SECOND FORM's CARD OF 'bellmanlaw11.TreeParses'. -/
def treeParsesUptoCard : Claim7 := { stood := { row := treeParsesUptoRow, standIns := [], harness := (true, "ead0a197480963c8fc647b042f0c4599ff5bcee36aaef27313f87b99f3e265ba"), looks := true }, kinds := [], alts := [], laidByText := true, laidKinds := [.data, .data, .sentinel, .sentinel, .pinned], laidTests := true, laidLooks := .later }
def TreeParsesUptoCardSaid : Prop := Claim7.holds Tryz.pinned (.plain (OpenSpec.upto treeParsesSpec)) treeParsesUptoCard

/-- THE SECOND FORM's CARD OF 'bellmanlaw11.TreeTells'. -/
def treeTellsUptoCard : Claim7 := { stood := { row := treeTellsUptoRow, standIns := [], harness := (true, "ead0a197480963c8fc647b042f0c4599ff5bcee36aaef27313f87b99f3e265ba"), looks := true }, kinds := [], alts := [], laidByText := true, laidKinds := [.data, .data, .sentinel, .sentinel, .pinned], laidTests := true, laidLooks := .later }
def TreeTellsUptoCardSaid : Prop := Claim7.holds Tryz.pinned (.plain (OpenSpec.upto treeTellsSpec)) treeTellsUptoCard

/-- THE SECOND FORM's CARD OF 'bellmanlaw11.TreeBeside'. -/
def treeBesideUptoCard : Claim7 := { stood := { row := treeBesideUptoRow, standIns := [], harness := (true, "ead0a197480963c8fc647b042f0c4599ff5bcee36aaef27313f87b99f3e265ba"), looks := true }, kinds := [], alts := [], laidByText := true, laidKinds := [.data, .data, .sentinel, .sentinel, .pinned], laidTests := true, laidLooks := .later }
def TreeBesideUptoCardSaid : Prop := Claim7.holds Tryz.pinned (.plain (OpenSpec.upto treeBesideSpec)) treeBesideUptoCard

/-- THE SECOND FORM's CARD OF 'bellmanlaw12.VetTells'. -/
def vetTellsUptoCard : Claim7 := { stood := { row := vetTellsUptoRow, standIns := [], harness := (true, "ead0a197480963c8fc647b042f0c4599ff5bcee36aaef27313f87b99f3e265ba"), looks := true }, kinds := [], alts := [], laidByText := true, laidKinds := [.data, .data, .sentinel, .sentinel, .pinned], laidTests := true, laidLooks := .later }
def VetTellsUptoCardSaid : Prop := Claim7.holds Tryz.pinned (.plain (OpenSpec.upto vetTellsSpec)) vetTellsUptoCard

/-- THE SECOND FORM's CARD OF 'bellmanlaw12.VetMore'. -/
def vetMoreUptoCard : Claim7 := { stood := { row := vetMoreUptoRow, standIns := [], harness := (true, "ead0a197480963c8fc647b042f0c4599ff5bcee36aaef27313f87b99f3e265ba"), looks := true }, kinds := [], alts := [], laidByText := true, laidKinds := [.data, .data, .sentinel, .sentinel, .pinned], laidTests := true, laidLooks := .later }
def VetMoreUptoCardSaid : Prop := Claim7.holds Tryz.pinned (.plain (OpenSpec.upto vetMoreSpec)) vetMoreUptoCard

/-- THE SECOND FORM's CARD OF 'bellmanlaw12.VetSizes'. -/
def vetSizesUptoCard : Claim7 := { stood := { row := vetSizesUptoRow, standIns := [], harness := (true, "ead0a197480963c8fc647b042f0c4599ff5bcee36aaef27313f87b99f3e265ba"), looks := true }, kinds := [], alts := [], laidByText := true, laidKinds := [.data, .data, .sentinel, .sentinel, .pinned], laidTests := true, laidLooks := .later }
def VetSizesUptoCardSaid : Prop := Claim7.holds Tryz.pinned (.plain (OpenSpec.upto vetSizesSpec)) vetSizesUptoCard

/-- THE SECOND FORM's CARD OF 'bellmanlaw12.VetWithin'. -/
def vetWithinUptoCard : Claim7 := { stood := { row := vetWithinUptoRow, standIns := [], harness := (true, "ead0a197480963c8fc647b042f0c4599ff5bcee36aaef27313f87b99f3e265ba"), looks := true }, kinds := [], alts := [], laidByText := true, laidKinds := [.data, .data, .sentinel, .sentinel, .pinned], laidTests := true, laidLooks := .later }
def VetWithinUptoCardSaid : Prop := Claim7.holds Tryz.pinned (.plain (OpenSpec.upto vetWithinSpec)) vetWithinUptoCard

/-- THE SECOND FORM's CARD OF 'bellmantop.TopGrown'. -/
def topGrownUptoCard : Claim7 := { stood := { row := topGrownUptoRow, standIns := [], harness := (true, "ead0a197480963c8fc647b042f0c4599ff5bcee36aaef27313f87b99f3e265ba"), looks := true }, kinds := [], alts := [], laidByText := true, laidKinds := [.data, .data, .sentinel, .sentinel, .pinned], laidTests := true, laidLooks := .later }
def TopGrownUptoCardSaid : Prop := Claim7.holds Tryz.pinned (.plain (OpenSpec.upto topGrownSpec)) topGrownUptoCard
end Rows
end Go.Proofs.YteajjlilpikdeaaGreatDoor
