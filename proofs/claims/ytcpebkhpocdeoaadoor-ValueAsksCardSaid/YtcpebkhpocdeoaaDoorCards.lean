/-
  DERIVED. GIVEN WITH THE SEED: THE CARDS: each row of YtcpebkhpocdeoaaDoorRows.lean that lists a variable, with what it lists TIED to the program's text (the seventh form; the later family's looks); each row that meets fmt, with fmt's text TOLD by the authors' own Lean function (tested against real Go, not proved from fmt's source: count such statements apart). THE CARD IS WHAT COUNTS. Prove the row's statement (the work); the ties are given (YtcpebkhpocdeoaaDoorTie.lean); close each card by the builder's one call (the guide's Derived/Test/ToyasCard.lean, 'card_holds'). Laid BY PROGRAM, IN A SANDBOX (cutbox-door.mjs). By AI agents, Wed Nov 11 2026. No macro, syntax, notation, axiom, sorry.
-/
import Derived.Test.YtcpebkhpocdeoaaDoorRows
import GoSem.ClaimSeven
namespace Go.Proofs.YtcpebkhpocdeoaaDoor
namespace Rows

/-- THE TIED CARD OF 'bellmanlaw09.ValueAsks'. -/
def valueAsksCard : Claim7 := { stood := { row := valueAsksRow, standIns := [], harness := (true, "d121b1a6069edf5f26a810323542c850c434f689ce37f5d39fc08cf56410d1d2"), looks := false }, kinds := [], alts := [], laidByText := true, laidKinds := [.data, .data, .data], laidTests := true, laidLooks := .later }
def ValueAsksCardSaid : Prop := Claim7.holds Tryd.pinned (.plain (OpenSpec.ofChange valueAsksSpec)) valueAsksCard

/-- THE TIED CARD OF 'bellmanlaw09.ValueCodes'. -/
def valueCodesCard : Claim7 := { stood := { row := valueCodesRow, standIns := [], harness := (true, "d121b1a6069edf5f26a810323542c850c434f689ce37f5d39fc08cf56410d1d2"), looks := false }, kinds := [], alts := [], laidByText := true, laidKinds := [.data, .data, .data], laidTests := true, laidLooks := .later }
def ValueCodesCardSaid : Prop := Claim7.holds Tryd.pinned (.plain (OpenSpec.ofChange valueCodesSpec)) valueCodesCard

/-- THE TIED CARD OF 'bellmanlaw09.ValueBack'. -/
def valueBackCard : Claim7 := { stood := { row := valueBackRow, standIns := [], harness := (true, "d121b1a6069edf5f26a810323542c850c434f689ce37f5d39fc08cf56410d1d2"), looks := false }, kinds := [], alts := [], laidByText := true, laidKinds := [.data, .data, .data], laidTests := true, laidLooks := .later }
def ValueBackCardSaid : Prop := Claim7.holds Tryd.pinned (.plain (OpenSpec.ofChange valueBackSpec)) valueBackCard

/-- THE TIED CARD OF 'bellmanlaw09.ValueWith'. -/
def valueWithCard : Claim7 := { stood := { row := valueWithRow, standIns := [], harness := (true, "d121b1a6069edf5f26a810323542c850c434f689ce37f5d39fc08cf56410d1d2"), looks := false }, kinds := [], alts := [], laidByText := true, laidKinds := [.data, .data, .data], laidTests := true, laidLooks := .later }
def ValueWithCardSaid : Prop := Claim7.holds Tryd.pinned (.plain (OpenSpec.ofChange valueWithSpec)) valueWithCard

/-- THE TIED CARD OF 'bellmanlaw09.ValuePaths'. -/
def valuePathsCard : Claim7 := { stood := { row := valuePathsRow, standIns := [], harness := (true, "d121b1a6069edf5f26a810323542c850c434f689ce37f5d39fc08cf56410d1d2"), looks := false }, kinds := [], alts := [], laidByText := true, laidKinds := [.data, .data, .data], laidTests := true, laidLooks := .later }
def ValuePathsCardSaid : Prop := Claim7.holds Tryd.pinned (.plain (OpenSpec.ofChange valuePathsSpec)) valuePathsCard

/-- THE SECOND FORM's CARD OF 'bellmanlaw09.ValueAsks'. -/
def valueAsksUptoCard : Claim7 := { stood := { row := valueAsksUptoRow, standIns := [], harness := (true, "d121b1a6069edf5f26a810323542c850c434f689ce37f5d39fc08cf56410d1d2"), looks := false }, kinds := [], alts := [], laidByText := true, laidKinds := [.data, .data, .data], laidTests := true, laidLooks := .later }
def ValueAsksUptoCardSaid : Prop := Claim7.holds Tryd.pinned (.plain (OpenSpec.upto valueAsksSpec)) valueAsksUptoCard

/-- THE SECOND FORM's CARD OF 'bellmanlaw09.ValueCodes'. -/
def valueCodesUptoCard : Claim7 := { stood := { row := valueCodesUptoRow, standIns := [], harness := (true, "d121b1a6069edf5f26a810323542c850c434f689ce37f5d39fc08cf56410d1d2"), looks := false }, kinds := [], alts := [], laidByText := true, laidKinds := [.data, .data, .data], laidTests := true, laidLooks := .later }
def ValueCodesUptoCardSaid : Prop := Claim7.holds Tryd.pinned (.plain (OpenSpec.upto valueCodesSpec)) valueCodesUptoCard

/-- THE SECOND FORM's CARD OF 'bellmanlaw09.ValueBack'. -/
def valueBackUptoCard : Claim7 := { stood := { row := valueBackUptoRow, standIns := [], harness := (true, "d121b1a6069edf5f26a810323542c850c434f689ce37f5d39fc08cf56410d1d2"), looks := false }, kinds := [], alts := [], laidByText := true, laidKinds := [.data, .data, .data], laidTests := true, laidLooks := .later }
def ValueBackUptoCardSaid : Prop := Claim7.holds Tryd.pinned (.plain (OpenSpec.upto valueBackSpec)) valueBackUptoCard

/-- THE SECOND FORM's CARD OF 'bellmanlaw09.ValueWith'. -/
def valueWithUptoCard : Claim7 := { stood := { row := valueWithUptoRow, standIns := [], harness := (true, "d121b1a6069edf5f26a810323542c850c434f689ce37f5d39fc08cf56410d1d2"), looks := false }, kinds := [], alts := [], laidByText := true, laidKinds := [.data, .data, .data], laidTests := true, laidLooks := .later }
def ValueWithUptoCardSaid : Prop := Claim7.holds Tryd.pinned (.plain (OpenSpec.upto valueWithSpec)) valueWithUptoCard

/-- THE SECOND FORM's CARD OF 'bellmanlaw09.ValuePaths'. -/
def valuePathsUptoCard : Claim7 := { stood := { row := valuePathsUptoRow, standIns := [], harness := (true, "d121b1a6069edf5f26a810323542c850c434f689ce37f5d39fc08cf56410d1d2"), looks := false }, kinds := [], alts := [], laidByText := true, laidKinds := [.data, .data, .data], laidTests := true, laidLooks := .later }
def ValuePathsUptoCardSaid : Prop := Claim7.holds Tryd.pinned (.plain (OpenSpec.upto valuePathsSpec)) valuePathsUptoCard
end Rows
end Go.Proofs.YtcpebkhpocdeoaaDoor
