/-
  DERIVED. GIVEN WITH THE SEED: THE CARDS: each row of YtkpjkekaedecgaaDoorRows.lean that lists a variable, with what it lists TIED to the program's text (the seventh form; the later family's looks); each row that meets fmt, with fmt's text TOLD by the authors' own Lean function (tested against real Go, not proved from fmt's source: count such statements apart). THE CARD IS WHAT COUNTS. Prove the row's statement (the work); the ties are given (YtkpjkekaedecgaaDoorTie.lean); close each card by the builder's one call (the guide's Derived/Test/ToyasCard.lean, 'card_holds'). Laid BY PROGRAM, IN A SANDBOX (cutbox-door.mjs). By AI agents, Wed Nov 11 2026. No macro, syntax, notation, axiom, sorry.
-/
import Derived.Test.YtkpjkekaedecgaaDoorRows
import GoSem.ClaimSeven
namespace Go.Proofs.YtkpjkekaedecgaaDoor
namespace Rows

/-- THE TIED CARD OF 'bellmanlaw05.CivilTimes'. -/
def civilTimesCard : Claim7 := { stood := { row := civilTimesRow, standIns := [], harness := (true, "31108647718a0416178482fcfbfb96df6592223a0b30609b41b3b105b2b6007c"), looks := false }, kinds := [], alts := [], laidByText := true, laidKinds := [.data], laidTests := true, laidLooks := .later }
def CivilTimesCardSaid : Prop := Claim7.holds Tryd.pinned (.plain (OpenSpec.ofChange civilTimesSpec)) civilTimesCard

/-- THE TIED CARD OF 'bellmanlaw05.CivilMonths'. -/
def civilMonthsCard : Claim7 := { stood := { row := civilMonthsRow, standIns := [], harness := (true, "31108647718a0416178482fcfbfb96df6592223a0b30609b41b3b105b2b6007c"), looks := false }, kinds := [], alts := [], laidByText := true, laidKinds := [.data], laidTests := true, laidLooks := .later }
def CivilMonthsCardSaid : Prop := Claim7.holds Tryd.pinned (.plain (OpenSpec.ofChange civilMonthsSpec)) civilMonthsCard

/-- THE TIED CARD OF 'bellmanlaw05.CivilBack'. -/
def civilBackCard : Claim7 := { stood := { row := civilBackRow, standIns := [], harness := (true, "31108647718a0416178482fcfbfb96df6592223a0b30609b41b3b105b2b6007c"), looks := false }, kinds := [], alts := [], laidByText := true, laidKinds := [.data], laidTests := true, laidLooks := .later }
def CivilBackCardSaid : Prop := Claim7.holds Tryd.pinned (.plain (OpenSpec.ofChange civilBackSpec)) civilBackCard

/-- THE TIED CARD OF 'bellmanlaw05.CivilOn'. -/
def civilOnCard : Claim7 := { stood := { row := civilOnRow, standIns := [], harness := (true, "31108647718a0416178482fcfbfb96df6592223a0b30609b41b3b105b2b6007c"), looks := false }, kinds := [], alts := [], laidByText := true, laidKinds := [.data], laidTests := true, laidLooks := .later }
def CivilOnCardSaid : Prop := Claim7.holds Tryd.pinned (.plain (OpenSpec.ofChange civilOnSpec)) civilOnCard

/-- THE TIED CARD OF 'bellmanlaw05.CivilNth'. -/
def civilNthCard : Claim7 := { stood := { row := civilNthRow, standIns := [], harness := (true, "31108647718a0416178482fcfbfb96df6592223a0b30609b41b3b105b2b6007c"), looks := false }, kinds := [], alts := [], laidByText := true, laidKinds := [.data], laidTests := true, laidLooks := .later }
def CivilNthCardSaid : Prop := Claim7.holds Tryd.pinned (.plain (OpenSpec.ofChange civilNthSpec)) civilNthCard

/-- THE TIED CARD OF 'bellmanlaw06.ZoneClocks'. -/
def zoneClocksCard : Claim7 := { stood := { row := zoneClocksRow, standIns := [], harness := (true, "31108647718a0416178482fcfbfb96df6592223a0b30609b41b3b105b2b6007c"), looks := false }, kinds := [], alts := [], laidByText := true, laidKinds := [.data, .data], laidTests := true, laidLooks := .later }
def ZoneClocksCardSaid : Prop := Claim7.holds Tryd.pinned (.plain (OpenSpec.ofChange zoneClocksSpec)) zoneClocksCard

/-- THE TIED CARD OF 'bellmanlaw06.ZoneTimes'. -/
def zoneTimesCard : Claim7 := { stood := { row := zoneTimesRow, standIns := [], harness := (true, "31108647718a0416178482fcfbfb96df6592223a0b30609b41b3b105b2b6007c"), looks := false }, kinds := [], alts := [], laidByText := true, laidKinds := [.data, .data], laidTests := true, laidLooks := .later }
def ZoneTimesCardSaid : Prop := Claim7.holds Tryd.pinned (.plain (OpenSpec.ofChange zoneTimesSpec)) zoneTimesCard

/-- THE TIED CARD OF 'bellmanlaw06.ZoneBack'. -/
def zoneBackCard : Claim7 := { stood := { row := zoneBackRow, standIns := [], harness := (true, "31108647718a0416178482fcfbfb96df6592223a0b30609b41b3b105b2b6007c"), looks := false }, kinds := [], alts := [], laidByText := true, laidKinds := [.data, .data], laidTests := true, laidLooks := .later }
def ZoneBackCardSaid : Prop := Claim7.holds Tryd.pinned (.plain (OpenSpec.ofChange zoneBackSpec)) zoneBackCard

/-- THE TIED CARD OF 'bellmanlaw06.ZoneSteady'. -/
def zoneSteadyCard : Claim7 := { stood := { row := zoneSteadyRow, standIns := [], harness := (true, "31108647718a0416178482fcfbfb96df6592223a0b30609b41b3b105b2b6007c"), looks := false }, kinds := [], alts := [], laidByText := true, laidKinds := [.data, .data], laidTests := true, laidLooks := .later }
def ZoneSteadyCardSaid : Prop := Claim7.holds Tryd.pinned (.plain (OpenSpec.ofChange zoneSteadySpec)) zoneSteadyCard

/-- THE TIED CARD OF 'bellmanlaw06.ZonePlain'. -/
def zonePlainCard : Claim7 := { stood := { row := zonePlainRow, standIns := [], harness := (true, "31108647718a0416178482fcfbfb96df6592223a0b30609b41b3b105b2b6007c"), looks := false }, kinds := [], alts := [], laidByText := true, laidKinds := [.data, .data], laidTests := true, laidLooks := .later }
def ZonePlainCardSaid : Prop := Claim7.holds Tryd.pinned (.plain (OpenSpec.ofChange zonePlainSpec)) zonePlainCard

/-- THE TIED CARD OF 'bellmantop.TopClocks'. -/
def topClocksCard : Claim7 := { stood := { row := topClocksRow, standIns := [], harness := (true, "31108647718a0416178482fcfbfb96df6592223a0b30609b41b3b105b2b6007c"), looks := false }, kinds := [], alts := [], laidByText := true, laidKinds := [.data], laidTests := true, laidLooks := .later }
def TopClocksCardSaid : Prop := Claim7.holds Tryd.pinned (.plain (OpenSpec.ofChange topClocksSpec)) topClocksCard

/-- THE SECOND FORM's CARD OF 'bellmanlaw05.CivilTimes'. -/
def civilTimesUptoCard : Claim7 := { stood := { row := civilTimesUptoRow, standIns := [], harness := (true, "31108647718a0416178482fcfbfb96df6592223a0b30609b41b3b105b2b6007c"), looks := false }, kinds := [], alts := [], laidByText := true, laidKinds := [.data], laidTests := true, laidLooks := .later }
def CivilTimesUptoCardSaid : Prop := Claim7.holds Tryd.pinned (.plain (OpenSpec.upto civilTimesSpec)) civilTimesUptoCard

/-- THE SECOND FORM's CARD OF 'bellmanlaw05.CivilMonths'. -/
def civilMonthsUptoCard : Claim7 := { stood := { row := civilMonthsUptoRow, standIns := [], harness := (true, "31108647718a0416178482fcfbfb96df6592223a0b30609b41b3b105b2b6007c"), looks := false }, kinds := [], alts := [], laidByText := true, laidKinds := [.data], laidTests := true, laidLooks := .later }
def CivilMonthsUptoCardSaid : Prop := Claim7.holds Tryd.pinned (.plain (OpenSpec.upto civilMonthsSpec)) civilMonthsUptoCard

/-- THE SECOND FORM's CARD OF 'bellmanlaw05.CivilBack'. -/
def civilBackUptoCard : Claim7 := { stood := { row := civilBackUptoRow, standIns := [], harness := (true, "31108647718a0416178482fcfbfb96df6592223a0b30609b41b3b105b2b6007c"), looks := false }, kinds := [], alts := [], laidByText := true, laidKinds := [.data], laidTests := true, laidLooks := .later }
def CivilBackUptoCardSaid : Prop := Claim7.holds Tryd.pinned (.plain (OpenSpec.upto civilBackSpec)) civilBackUptoCard

/-- THE SECOND FORM's CARD OF 'bellmanlaw05.CivilOn'. -/
def civilOnUptoCard : Claim7 := { stood := { row := civilOnUptoRow, standIns := [], harness := (true, "31108647718a0416178482fcfbfb96df6592223a0b30609b41b3b105b2b6007c"), looks := false }, kinds := [], alts := [], laidByText := true, laidKinds := [.data], laidTests := true, laidLooks := .later }
def CivilOnUptoCardSaid : Prop := Claim7.holds Tryd.pinned (.plain (OpenSpec.upto civilOnSpec)) civilOnUptoCard

/-- THE SECOND FORM's CARD OF 'bellmanlaw05.CivilNth'. -/
def civilNthUptoCard : Claim7 := { stood := { row := civilNthUptoRow, standIns := [], harness := (true, "31108647718a0416178482fcfbfb96df6592223a0b30609b41b3b105b2b6007c"), looks := false }, kinds := [], alts := [], laidByText := true, laidKinds := [.data], laidTests := true, laidLooks := .later }
def CivilNthUptoCardSaid : Prop := Claim7.holds Tryd.pinned (.plain (OpenSpec.upto civilNthSpec)) civilNthUptoCard

/-- THE SECOND FORM's CARD OF 'bellmanlaw06.ZoneClocks'. -/
def zoneClocksUptoCard : Claim7 := { stood := { row := zoneClocksUptoRow, standIns := [], harness := (true, "31108647718a0416178482fcfbfb96df6592223a0b30609b41b3b105b2b6007c"), looks := false }, kinds := [], alts := [], laidByText := true, laidKinds := [.data, .data], laidTests := true, laidLooks := .later }
def ZoneClocksUptoCardSaid : Prop := Claim7.holds Tryd.pinned (.plain (OpenSpec.upto zoneClocksSpec)) zoneClocksUptoCard

/-- THE SECOND FORM's CARD OF 'bellmanlaw06.ZoneTimes'. -/
def zoneTimesUptoCard : Claim7 := { stood := { row := zoneTimesUptoRow, standIns := [], harness := (true, "31108647718a0416178482fcfbfb96df6592223a0b30609b41b3b105b2b6007c"), looks := false }, kinds := [], alts := [], laidByText := true, laidKinds := [.data, .data], laidTests := true, laidLooks := .later }
def ZoneTimesUptoCardSaid : Prop := Claim7.holds Tryd.pinned (.plain (OpenSpec.upto zoneTimesSpec)) zoneTimesUptoCard

/-- THE SECOND FORM's CARD OF 'bellmanlaw06.ZoneBack'. -/
def zoneBackUptoCard : Claim7 := { stood := { row := zoneBackUptoRow, standIns := [], harness := (true, "31108647718a0416178482fcfbfb96df6592223a0b30609b41b3b105b2b6007c"), looks := false }, kinds := [], alts := [], laidByText := true, laidKinds := [.data, .data], laidTests := true, laidLooks := .later }
def ZoneBackUptoCardSaid : Prop := Claim7.holds Tryd.pinned (.plain (OpenSpec.upto zoneBackSpec)) zoneBackUptoCard

/-- THE SECOND FORM's CARD OF 'bellmanlaw06.ZoneSteady'. -/
def zoneSteadyUptoCard : Claim7 := { stood := { row := zoneSteadyUptoRow, standIns := [], harness := (true, "31108647718a0416178482fcfbfb96df6592223a0b30609b41b3b105b2b6007c"), looks := false }, kinds := [], alts := [], laidByText := true, laidKinds := [.data, .data], laidTests := true, laidLooks := .later }
def ZoneSteadyUptoCardSaid : Prop := Claim7.holds Tryd.pinned (.plain (OpenSpec.upto zoneSteadySpec)) zoneSteadyUptoCard

/-- THE SECOND FORM's CARD OF 'bellmanlaw06.ZonePlain'. -/
def zonePlainUptoCard : Claim7 := { stood := { row := zonePlainUptoRow, standIns := [], harness := (true, "31108647718a0416178482fcfbfb96df6592223a0b30609b41b3b105b2b6007c"), looks := false }, kinds := [], alts := [], laidByText := true, laidKinds := [.data, .data], laidTests := true, laidLooks := .later }
def ZonePlainUptoCardSaid : Prop := Claim7.holds Tryd.pinned (.plain (OpenSpec.upto zonePlainSpec)) zonePlainUptoCard

/-- THE SECOND FORM's CARD OF 'bellmantop.TopClocks'. -/
def topClocksUptoCard : Claim7 := { stood := { row := topClocksUptoRow, standIns := [], harness := (true, "31108647718a0416178482fcfbfb96df6592223a0b30609b41b3b105b2b6007c"), looks := false }, kinds := [], alts := [], laidByText := true, laidKinds := [.data], laidTests := true, laidLooks := .later }
def TopClocksUptoCardSaid : Prop := Claim7.holds Tryd.pinned (.plain (OpenSpec.upto topClocksSpec)) topClocksUptoCard
end Rows
end Go.Proofs.YtkpjkekaedecgaaDoor
