/-
  DERIVED. GIVEN WITH THE SEED: THE CARDS: each row of YtlhmbmnjajbbaaaDoorRows.lean that lists a variable, with what it lists TIED to the program's text (the seventh form; the later family's looks); each row that meets fmt, with fmt's text TOLD by the authors' own Lean function (tested against real Go, not proved from fmt's source: count such statements apart). THE CARD IS WHAT COUNTS. Prove the row's statement (the work); the ties are given (YtlhmbmnjajbbaaaDoorTie.lean); close each card by the builder's one call (the guide's Derived/Test/ToyasCard.lean, 'card_holds'). Laid BY PROGRAM, IN A SANDBOX (cutbox-door.mjs). By AI agents, Wed Nov 11 2026. No macro, syntax, notation, axiom, sorry.
-/
import Derived.Test.YtlhmbmnjajbbaaaDoorRows
import GoSem.ClaimSeven
namespace Go.Proofs.YtlhmbmnjajbbaaaDoor
namespace Rows

/-- THE TIED CARD OF 'bellmanlaw13.EscTexts'. -/
def escTextsCard : Claim7 := { stood := { row := escTextsRow, standIns := [], harness := (true, "6df22e09f3251ca84e6bfd3eaa519168e8fb8c6ee576ab19d05b85b5ef0698f9"), looks := true }, kinds := [], alts := [], laidByText := true, laidKinds := [.data, .data, .data, .sentinel, .sentinel, .data], laidTests := true, laidLooks := .later }
def EscTextsCardSaid : Prop := Claim7.holds Tryd.pinned (.plain (OpenSpec.ofChange escTextsSpec)) escTextsCard

/-- THE TIED CARD OF 'bellmanlaw13.EscChannels'. -/
def escChannelsCard : Claim7 := { stood := { row := escChannelsRow, standIns := [], harness := (true, "6df22e09f3251ca84e6bfd3eaa519168e8fb8c6ee576ab19d05b85b5ef0698f9"), looks := true }, kinds := [], alts := [], laidByText := true, laidKinds := [.data, .data, .data, .sentinel, .sentinel, .data], laidTests := true, laidLooks := .later }
def EscChannelsCardSaid : Prop := Claim7.holds Tryd.pinned (.plain (OpenSpec.ofChange escChannelsSpec)) escChannelsCard

/-- THE TIED CARD OF 'bellmanlaw13.EscBack'. -/
def escBackCard : Claim7 := { stood := { row := escBackRow, standIns := [], harness := (true, "6df22e09f3251ca84e6bfd3eaa519168e8fb8c6ee576ab19d05b85b5ef0698f9"), looks := true }, kinds := [], alts := [], laidByText := true, laidKinds := [.data, .data, .data, .sentinel, .sentinel, .data], laidTests := true, laidLooks := .later }
def EscBackCardSaid : Prop := Claim7.holds Tryd.pinned (.plain (OpenSpec.ofChange escBackSpec)) escBackCard

/-- THE TIED CARD OF 'bellmanlaw13.EscSafe'. -/
def escSafeCard : Claim7 := { stood := { row := escSafeRow, standIns := [], harness := (true, "6df22e09f3251ca84e6bfd3eaa519168e8fb8c6ee576ab19d05b85b5ef0698f9"), looks := true }, kinds := [], alts := [], laidByText := true, laidKinds := [.data, .data, .data, .sentinel, .sentinel, .data], laidTests := true, laidLooks := .later }
def EscSafeCardSaid : Prop := Claim7.holds Tryd.pinned (.plain (OpenSpec.ofChange escSafeSpec)) escSafeCard

/-- THE TIED CARD OF 'bellmanlaw13.EscParts'. -/
def escPartsCard : Claim7 := { stood := { row := escPartsRow, standIns := [], harness := (true, "6df22e09f3251ca84e6bfd3eaa519168e8fb8c6ee576ab19d05b85b5ef0698f9"), looks := true }, kinds := [], alts := [], laidByText := true, laidKinds := [.data, .data, .data, .sentinel, .sentinel, .data], laidTests := true, laidLooks := .later }
def EscPartsCardSaid : Prop := Claim7.holds Tryd.pinned (.plain (OpenSpec.ofChange escPartsSpec)) escPartsCard

/-- THE SECOND FORM's CARD OF 'bellmanlaw13.EscTexts'. -/
def escTextsUptoCard : Claim7 := { stood := { row := escTextsUptoRow, standIns := [], harness := (true, "6df22e09f3251ca84e6bfd3eaa519168e8fb8c6ee576ab19d05b85b5ef0698f9"), looks := true }, kinds := [], alts := [], laidByText := true, laidKinds := [.data, .data, .data, .sentinel, .sentinel, .data], laidTests := true, laidLooks := .later }
def EscTextsUptoCardSaid : Prop := Claim7.holds Tryd.pinned (.plain (OpenSpec.upto escTextsSpec)) escTextsUptoCard

/-- THE SECOND FORM's CARD OF 'bellmanlaw13.EscChannels'. -/
def escChannelsUptoCard : Claim7 := { stood := { row := escChannelsUptoRow, standIns := [], harness := (true, "6df22e09f3251ca84e6bfd3eaa519168e8fb8c6ee576ab19d05b85b5ef0698f9"), looks := true }, kinds := [], alts := [], laidByText := true, laidKinds := [.data, .data, .data, .sentinel, .sentinel, .data], laidTests := true, laidLooks := .later }
def EscChannelsUptoCardSaid : Prop := Claim7.holds Tryd.pinned (.plain (OpenSpec.upto escChannelsSpec)) escChannelsUptoCard

/-- THE SECOND FORM's CARD OF 'bellmanlaw13.EscBack'. -/
def escBackUptoCard : Claim7 := { stood := { row := escBackUptoRow, standIns := [], harness := (true, "6df22e09f3251ca84e6bfd3eaa519168e8fb8c6ee576ab19d05b85b5ef0698f9"), looks := true }, kinds := [], alts := [], laidByText := true, laidKinds := [.data, .data, .data, .sentinel, .sentinel, .data], laidTests := true, laidLooks := .later }
def EscBackUptoCardSaid : Prop := Claim7.holds Tryd.pinned (.plain (OpenSpec.upto escBackSpec)) escBackUptoCard

/-- THE SECOND FORM's CARD OF 'bellmanlaw13.EscSafe'. -/
def escSafeUptoCard : Claim7 := { stood := { row := escSafeUptoRow, standIns := [], harness := (true, "6df22e09f3251ca84e6bfd3eaa519168e8fb8c6ee576ab19d05b85b5ef0698f9"), looks := true }, kinds := [], alts := [], laidByText := true, laidKinds := [.data, .data, .data, .sentinel, .sentinel, .data], laidTests := true, laidLooks := .later }
def EscSafeUptoCardSaid : Prop := Claim7.holds Tryd.pinned (.plain (OpenSpec.upto escSafeSpec)) escSafeUptoCard

/-- THE SECOND FORM's CARD OF 'bellmanlaw13.EscParts'. -/
def escPartsUptoCard : Claim7 := { stood := { row := escPartsUptoRow, standIns := [], harness := (true, "6df22e09f3251ca84e6bfd3eaa519168e8fb8c6ee576ab19d05b85b5ef0698f9"), looks := true }, kinds := [], alts := [], laidByText := true, laidKinds := [.data, .data, .data, .sentinel, .sentinel, .data], laidTests := true, laidLooks := .later }
def EscPartsUptoCardSaid : Prop := Claim7.holds Tryd.pinned (.plain (OpenSpec.upto escPartsSpec)) escPartsUptoCard
end Rows
end Go.Proofs.YtlhmbmnjajbbaaaDoor
