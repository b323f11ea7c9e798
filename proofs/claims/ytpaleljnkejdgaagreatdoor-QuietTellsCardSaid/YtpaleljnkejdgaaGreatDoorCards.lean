/-
  DERIVED. GIVEN WITH THE SEED: THE CARDS: each row of YtpaleljnkejdgaaGreatDoorRows.lean that lists a variable, with what it lists TIED to the program's text (the seventh form; the later family's looks); each row that meets fmt, with fmt's text TOLD by the authors' own Lean function (tested against real Go, not proved from fmt's source: count such statements apart). THE CARD IS WHAT COUNTS. Prove the row's statement (the work); the ties are given (YtpaleljnkejdgaaGreatDoorTie.lean); close each card by the builder's one call (the guide's Derived/Test/ToyasCard.lean, 'card_holds'). Laid BY PROGRAM, IN A SANDBOX (cutbox-door.mjs). By AI agents, Wed Nov 11 2026. No macro, syntax, notation, axiom, sorry.
-/
import Derived.Test.YtpaleljnkejdgaaGreatDoorRows
import GoSem.ClaimSeven
namespace Go.Proofs.YtpaleljnkejdgaaGreatDoor
namespace Rows

/-- THE TIED CARD OF 'bellmanlaw08.QuietTells'. -/
def quietTellsCard : Claim7 := { stood := { row := quietTellsRow, standIns := [], harness := (true, "d3162994795d65c70847aebcb7d73785fb182d6433e4908e1c8283125c66b00a"), looks := false }, kinds := [], alts := [], laidByText := true, laidKinds := [.data], laidTests := true, laidLooks := .later }
def QuietTellsCardSaid : Prop := Claim7.holds Tryz.pinned (.plain (OpenSpec.ofChange quietTellsSpec)) quietTellsCard

/-- THE TIED CARD OF 'bellmanlaw08.QuietNever'. -/
def quietNeverCard : Claim7 := { stood := { row := quietNeverRow, standIns := [], harness := (true, "d3162994795d65c70847aebcb7d73785fb182d6433e4908e1c8283125c66b00a"), looks := false }, kinds := [], alts := [], laidByText := true, laidKinds := [.data], laidTests := true, laidLooks := .later }
def QuietNeverCardSaid : Prop := Claim7.holds Tryz.pinned (.plain (OpenSpec.ofChange quietNeverSpec)) quietNeverCard

/-- THE TIED CARD OF 'bellmantop.TopHushed'. -/
def topHushedCard : Claim7 := { stood := { row := topHushedRow, standIns := [], harness := (true, "d3162994795d65c70847aebcb7d73785fb182d6433e4908e1c8283125c66b00a"), looks := false }, kinds := [], alts := [], laidByText := true, laidKinds := [.data], laidTests := true, laidLooks := .later }
def TopHushedCardSaid : Prop := Claim7.holds Tryz.pinned (.plain (OpenSpec.ofChange topHushedSpec)) topHushedCard

/-- THE SECOND FORM's CARD OF 'bellmanlaw08.QuietTells'. -/
def quietTellsUptoCard : Claim7 := { stood := { row := quietTellsUptoRow, standIns := [], harness := (true, "d3162994795d65c70847aebcb7d73785fb182d6433e4908e1c8283125c66b00a"), looks := false }, kinds := [], alts := [], laidByText := true, laidKinds := [.data], laidTests := true, laidLooks := .later }
def QuietTellsUptoCardSaid : Prop := Claim7.holds Tryz.pinned (.plain (OpenSpec.upto quietTellsSpec)) quietTellsUptoCard

/-- THE SECOND FORM's CARD OF 'bellmanlaw08.QuietNever'. -/
def quietNeverUptoCard : Claim7 := { stood := { row := quietNeverUptoRow, standIns := [], harness := (true, "d3162994795d65c70847aebcb7d73785fb182d6433e4908e1c8283125c66b00a"), looks := false }, kinds := [], alts := [], laidByText := true, laidKinds := [.data], laidTests := true, laidLooks := .later }
def QuietNeverUptoCardSaid : Prop := Claim7.holds Tryz.pinned (.plain (OpenSpec.upto quietNeverSpec)) quietNeverUptoCard

/-- THE SECOND FORM's CARD OF 'bellmantop.TopHushed'. -/
def topHushedUptoCard : Claim7 := { stood := { row := topHushedUptoRow, standIns := [], harness := (true, "d3162994795d65c70847aebcb7d73785fb182d6433e4908e1c8283125c66b00a"), looks := false }, kinds := [], alts := [], laidByText := true, laidKinds := [.data], laidTests := true, laidLooks := .later }
def TopHushedUptoCardSaid : Prop := Claim7.holds Tryz.pinned (.plain (OpenSpec.upto topHushedSpec)) topHushedUptoCard
end Rows
end Go.Proofs.YtpaleljnkejdgaaGreatDoor
