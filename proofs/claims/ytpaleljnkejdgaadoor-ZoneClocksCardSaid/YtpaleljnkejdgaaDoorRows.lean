/-
  NARROWER THAN 'FOR EVERY INPUT', by the rows' own cells (each row's printed sentence says how): TrailBack: laid · TrailTorn: laid · TrailWiped: laid · ZoneClocks: laid · ZoneTimes: laid · TopLogged: laid.
  DERIVED. THE GIVEN ROWS OF THIS SEAT. 6 by the template 'for every input the law returns true; each argument reads behind the call as it read before'; 0 by the template 'total and deterministic' (their statements: YtpaleljnkejdgaaDoorTotals.lean).
  GIVEN WITH THE SEED: the statements are not yours to turn. If you find one false, say at which input.
  Laid BY PROGRAM, IN A SANDBOX (cutbox-rows.mjs): the forced cells as the released guide's own fill.sh prints them over the translation 4eea0696cad821db… (all of the seat's roots in one cut). By AI agents, Wed Nov 11 2026. No macro, syntax, notation, axiom, sorry.
-/
import Derived.Test.YtpaleljnkejdgaaDoorChecked
import GoSem.Claim
import GoSem.ClaimJoined
import GoSem.ClaimMapViews
import Derived.JoinedTies
import Derived.KernelRfl
namespace Go.Proofs.YtpaleljnkejdgaaDoor
/- THE CELL 'sum', in the pinned program and in every row, IS THE sha256 OF THE DUMP (.gsa) THAT YtpaleljnkejdgaaDoorProg.lean LOADS. Nothing in Lean hashes anything: it is a label: what it is worth is what the hold of that sum in a sandbox is worth. -/
noncomputable def Tryd.pinned : Pinned := { name := "ytpaleljnkejdgaadoor", sum := "4eea0696cad821dbcc74d06e17ccc7ecbae75a81ee32d872a7c1071b1475aa6f", checked := Tryd.checked }
namespace Rows
def none {H : Type} : Left H := { results := [], args := [] }

/- WHAT THE LISTED PACKAGE-LEVEL VARIABLES READ AS WHEN THE CALL BEGINS. Each datum BY PROGRAM (the guide's laid-datum.mjs) off the statement by which the dump's own 'gosem.cut.vars' lays the variable. In a bare row this is a premise. The card (YtpaleljnkejdgaaDoorCards.lean) ties it to the program's text. -/
def laid_bellman_sum_fourBits {H : Type} : DataW H := .agg [.lit (.int .u32 0), .lit (.int .u32 274646895), .lit (.int .u32 549293790), .lit (.int .u32 820201905), .lit (.int .u32 1098587580), .lit (.int .u32 1361435347), .lit (.int .u32 1640403810), .lit (.int .u32 1905808397), .lit (.int .u32 2197175160), .lit (.int .u32 2460548119), .lit (.int .u32 2722870694), .lit (.int .u32 2987750089), .lit (.int .u32 3280807620), .lit (.int .u32 3553878443), .lit (.int .u32 3811616794), .lit (.int .u32 4084100981)]
def laid_bellman_civil_daysAhead {H : Type} : DataW H := .agg [.lit (.int .i64 0), .lit (.int .i64 31), .lit (.int .i64 59), .lit (.int .i64 90), .lit (.int .i64 120), .lit (.int .i64 151), .lit (.int .i64 181), .lit (.int .i64 212), .lit (.int .i64 243), .lit (.int .i64 273), .lit (.int .i64 304), .lit (.int .i64 334), .lit (.int .i64 365)]
def laid_bellman_zone_named {H : Type} : DataW H := .agg [.agg [.lit (.string [85, 84, 67]), .agg [.lit (.int .i64 0), .lit (.int .i64 0), .agg [.lit (.int .i64 0), .lit (.int .i64 0), .lit (.int .i64 0), .lit (.int .i64 0)], .agg [.lit (.int .i64 0), .lit (.int .i64 0), .lit (.int .i64 0), .lit (.int .i64 0)]]], .agg [.lit (.string [69, 117, 114, 111, 112, 101, 47, 76, 111, 110, 100, 111, 110]), .agg [.lit (.int .i64 0), .lit (.int .i64 60), .agg [.lit (.int .i64 3), .lit (.int .i64 5), .lit (.int .i64 0), .lit (.int .i64 60)], .agg [.lit (.int .i64 10), .lit (.int .i64 5), .lit (.int .i64 0), .lit (.int .i64 120)]]], .agg [.lit (.string [69, 117, 114, 111, 112, 101, 47, 66, 101, 114, 108, 105, 110]), .agg [.lit (.int .i64 60), .lit (.int .i64 60), .agg [.lit (.int .i64 3), .lit (.int .i64 5), .lit (.int .i64 0), .lit (.int .i64 120)], .agg [.lit (.int .i64 10), .lit (.int .i64 5), .lit (.int .i64 0), .lit (.int .i64 180)]]], .agg [.lit (.string [65, 109, 101, 114, 105, 99, 97, 47, 78, 101, 119, 95, 89, 111, 114, 107]), .agg [.lit (.int .i64 (-300)), .lit (.int .i64 60), .agg [.lit (.int .i64 3), .lit (.int .i64 2), .lit (.int .i64 0), .lit (.int .i64 120)], .agg [.lit (.int .i64 11), .lit (.int .i64 1), .lit (.int .i64 0), .lit (.int .i64 120)]]], .agg [.lit (.string [65, 109, 101, 114, 105, 99, 97, 47, 76, 111, 115, 95, 65, 110, 103, 101, 108, 101, 115]), .agg [.lit (.int .i64 (-480)), .lit (.int .i64 60), .agg [.lit (.int .i64 3), .lit (.int .i64 2), .lit (.int .i64 0), .lit (.int .i64 120)], .agg [.lit (.int .i64 11), .lit (.int .i64 1), .lit (.int .i64 0), .lit (.int .i64 120)]]], .agg [.lit (.string [65, 115, 105, 97, 47, 75, 111, 108, 107, 97, 116, 97]), .agg [.lit (.int .i64 330), .lit (.int .i64 0), .agg [.lit (.int .i64 0), .lit (.int .i64 0), .lit (.int .i64 0), .lit (.int .i64 0)], .agg [.lit (.int .i64 0), .lit (.int .i64 0), .lit (.int .i64 0), .lit (.int .i64 0)]]], .agg [.lit (.string [65, 115, 105, 97, 47, 84, 111, 107, 121, 111]), .agg [.lit (.int .i64 540), .lit (.int .i64 0), .agg [.lit (.int .i64 0), .lit (.int .i64 0), .lit (.int .i64 0), .lit (.int .i64 0)], .agg [.lit (.int .i64 0), .lit (.int .i64 0), .lit (.int .i64 0), .lit (.int .i64 0)]]], .agg [.lit (.string [65, 117, 115, 116, 114, 97, 108, 105, 97, 47, 83, 121, 100, 110, 101, 121]), .agg [.lit (.int .i64 600), .lit (.int .i64 60), .agg [.lit (.int .i64 10), .lit (.int .i64 1), .lit (.int .i64 0), .lit (.int .i64 120)], .agg [.lit (.int .i64 4), .lit (.int .i64 1), .lit (.int .i64 0), .lit (.int .i64 180)]]]]

/-- 'bellmanlaw04.TrailBack': WHATEVER THE INPUT: true; the input reads as it did. -/
def trailBackSpec : ChangeSpec := { name := "trailBack", fn := fun _ => fun
  | [d1, d2, d3, d4, d5] => { results := [.lit (.bool true)], args := [d1, d2, d3, d4, d5] }
  | _ => none }
def trailBackRow : OpenClaim := { program := "ytpaleljnkejdgaadoor", sum := "4eea0696cad821dbcc74d06e17ccc7ecbae75a81ee32d872a7c1071b1475aa6f", func := "bellman/bellmanlaw04.TrailBack", spec := "trailBack", inPlace := ["internal/abi.NoEscape", "internal/bytealg.MakeNoZero"], unfollowed := true, recurses := true, named := ["bellman/sum.fourBits"], apart := false, laid := [("bellman/sum.fourBits", laid_bellman_sum_fourBits)] }
def TrailBackSaid : Prop := trailBackRow.holds Tryd.pinned (OpenSpec.ofChange trailBackSpec)

/-- ITS FALSE NEIGHBOUR: 'it returns false'. Refute it at one input. -/
def trailBackWrong : ChangeSpec := { name := "trailBack", fn := fun _ => fun
  | [d1, d2, d3, d4, d5] => { results := [.lit (.bool false)], args := [d1, d2, d3, d4, d5] }
  | _ => none }
def TrailBackWrongFalsely : Prop := trailBackRow.holds Tryd.pinned (OpenSpec.ofChange trailBackWrong)

/-- 'bellmanlaw04.TrailTorn': WHATEVER THE INPUT: true; the input reads as it did. -/
def trailTornSpec : ChangeSpec := { name := "trailTorn", fn := fun _ => fun
  | [d1, d2, d3, d4] => { results := [.lit (.bool true)], args := [d1, d2, d3, d4] }
  | _ => none }
def trailTornRow : OpenClaim := { program := "ytpaleljnkejdgaadoor", sum := "4eea0696cad821dbcc74d06e17ccc7ecbae75a81ee32d872a7c1071b1475aa6f", func := "bellman/bellmanlaw04.TrailTorn", spec := "trailTorn", inPlace := ["internal/abi.NoEscape", "internal/bytealg.MakeNoZero"], unfollowed := true, recurses := true, named := ["bellman/sum.fourBits"], apart := false, laid := [("bellman/sum.fourBits", laid_bellman_sum_fourBits)] }
def TrailTornSaid : Prop := trailTornRow.holds Tryd.pinned (OpenSpec.ofChange trailTornSpec)

/-- ITS FALSE NEIGHBOUR: 'it returns false'. Refute it at one input. -/
def trailTornWrong : ChangeSpec := { name := "trailTorn", fn := fun _ => fun
  | [d1, d2, d3, d4] => { results := [.lit (.bool false)], args := [d1, d2, d3, d4] }
  | _ => none }
def TrailTornWrongFalsely : Prop := trailTornRow.holds Tryd.pinned (OpenSpec.ofChange trailTornWrong)

/-- 'bellmanlaw04.TrailWiped': WHATEVER THE INPUT: true; the input reads as it did. -/
def trailWipedSpec : ChangeSpec := { name := "trailWiped", fn := fun _ => fun
  | [d1, d2, d3] => { results := [.lit (.bool true)], args := [d1, d2, d3] }
  | _ => none }
def trailWipedRow : OpenClaim := { program := "ytpaleljnkejdgaadoor", sum := "4eea0696cad821dbcc74d06e17ccc7ecbae75a81ee32d872a7c1071b1475aa6f", func := "bellman/bellmanlaw04.TrailWiped", spec := "trailWiped", inPlace := ["internal/abi.NoEscape", "internal/bytealg.MakeNoZero"], unfollowed := true, recurses := true, named := ["bellman/sum.fourBits"], apart := false, laid := [("bellman/sum.fourBits", laid_bellman_sum_fourBits)] }
def TrailWipedSaid : Prop := trailWipedRow.holds Tryd.pinned (OpenSpec.ofChange trailWipedSpec)

/-- ITS FALSE NEIGHBOUR: 'it returns false'. Refute it at one input. -/
def trailWipedWrong : ChangeSpec := { name := "trailWiped", fn := fun _ => fun
  | [d1, d2, d3] => { results := [.lit (.bool false)], args := [d1, d2, d3] }
  | _ => none }
def TrailWipedWrongFalsely : Prop := trailWipedRow.holds Tryd.pinned (OpenSpec.ofChange trailWipedWrong)

/-- 'bellmanlaw06.ZoneClocks': WHATEVER THE INPUT: true; the input reads as it did. -/
def zoneClocksSpec : ChangeSpec := { name := "zoneClocks", fn := fun _ => fun
  | [d1, d2, d3] => { results := [.lit (.bool true)], args := [d1, d2, d3] }
  | _ => none }
def zoneClocksRow : OpenClaim := { program := "ytpaleljnkejdgaadoor", sum := "4eea0696cad821dbcc74d06e17ccc7ecbae75a81ee32d872a7c1071b1475aa6f", func := "bellman/bellmanlaw06.ZoneClocks", spec := "zoneClocks", unfollowed := true, recurses := true, named := ["bellman/civil.daysAhead", "bellman/zone.named"], apart := false, laid := [("bellman/civil.daysAhead", laid_bellman_civil_daysAhead), ("bellman/zone.named", laid_bellman_zone_named)] }
def ZoneClocksSaid : Prop := zoneClocksRow.holds Tryd.pinned (OpenSpec.ofChange zoneClocksSpec)

/-- ITS FALSE NEIGHBOUR: 'it returns false'. Refute it at one input. -/
def zoneClocksWrong : ChangeSpec := { name := "zoneClocks", fn := fun _ => fun
  | [d1, d2, d3] => { results := [.lit (.bool false)], args := [d1, d2, d3] }
  | _ => none }
def ZoneClocksWrongFalsely : Prop := zoneClocksRow.holds Tryd.pinned (OpenSpec.ofChange zoneClocksWrong)

/-- 'bellmanlaw06.ZoneTimes': WHATEVER THE INPUT: true; the input reads as it did. -/
def zoneTimesSpec : ChangeSpec := { name := "zoneTimes", fn := fun _ => fun
  | [d1, d2] => { results := [.lit (.bool true)], args := [d1, d2] }
  | _ => none }
def zoneTimesRow : OpenClaim := { program := "ytpaleljnkejdgaadoor", sum := "4eea0696cad821dbcc74d06e17ccc7ecbae75a81ee32d872a7c1071b1475aa6f", func := "bellman/bellmanlaw06.ZoneTimes", spec := "zoneTimes", unfollowed := true, recurses := true, named := ["bellman/civil.daysAhead", "bellman/zone.named"], apart := false, laid := [("bellman/civil.daysAhead", laid_bellman_civil_daysAhead), ("bellman/zone.named", laid_bellman_zone_named)] }
def ZoneTimesSaid : Prop := zoneTimesRow.holds Tryd.pinned (OpenSpec.ofChange zoneTimesSpec)

/-- ITS FALSE NEIGHBOUR: 'it returns false'. Refute it at one input. -/
def zoneTimesWrong : ChangeSpec := { name := "zoneTimes", fn := fun _ => fun
  | [d1, d2] => { results := [.lit (.bool false)], args := [d1, d2] }
  | _ => none }
def ZoneTimesWrongFalsely : Prop := zoneTimesRow.holds Tryd.pinned (OpenSpec.ofChange zoneTimesWrong)

/-- 'bellmantop.TopLogged': WHATEVER THE INPUT: true; the input reads as it did. -/
def topLoggedSpec : ChangeSpec := { name := "topLogged", fn := fun _ => fun
  | [d1, d2, d3] => { results := [.lit (.bool true)], args := [d1, d2, d3] }
  | _ => none }
def topLoggedRow : OpenClaim := { program := "ytpaleljnkejdgaadoor", sum := "4eea0696cad821dbcc74d06e17ccc7ecbae75a81ee32d872a7c1071b1475aa6f", func := "bellman/bellmantop.TopLogged", spec := "topLogged", inPlace := ["internal/abi.NoEscape", "internal/bytealg.MakeNoZero"], unfollowed := true, recurses := true, named := ["bellman/sum.fourBits"], apart := false, laid := [("bellman/sum.fourBits", laid_bellman_sum_fourBits)] }
def TopLoggedSaid : Prop := topLoggedRow.holds Tryd.pinned (OpenSpec.ofChange topLoggedSpec)

/-- ITS FALSE NEIGHBOUR: 'it returns false'. Refute it at one input. -/
def topLoggedWrong : ChangeSpec := { name := "topLogged", fn := fun _ => fun
  | [d1, d2, d3] => { results := [.lit (.bool false)], args := [d1, d2, d3] }
  | _ => none }
def TopLoggedWrongFalsely : Prop := topLoggedRow.holds Tryd.pinned (OpenSpec.ofChange topLoggedWrong)

/- THE SECOND FORM. 'bulk': how many values and letters a reading holds, each counted each time it is reached (what is shared counts as often as it is met; a slice's spare places count too). A statement '..UptoSaid' is the law's where the arguments, and the package variables that the reading takes, are together of bulk at most 1048576: NARROWER than '..Said'. Prove '..Said' where nothing that the law and all that it calls make is longer than what came in: it says more and counts as full. Else prove '..UptoSaid'. A law counts once. -/
mutual
def uptoBulk {H : Type} : DataW H → Nat
  | .lit (.string bytes) => bytes.length + 1
  | .lit _ => 1
  | .nil => 1
  | .ptr d => uptoBulk d + 1
  | .slice elems spare => uptoBulkAll elems + uptoBulkAll spare + 1
  | .agg parts => uptoBulkAll parts + 1
  | .iface _ d => uptoBulk d + 1
  | .map entries => uptoBulkEntries entries + 1
  | .held _ => 1
def uptoBulkAll {H : Type} : List (DataW H) → Nat
  | [] => 0
  | d :: r => uptoBulk d + uptoBulkAll r
def uptoBulkEntries {H : Type} : List (Lit × DataW H) → Nat
  | [] => 0
  | x :: r => uptoBulkEntry x + uptoBulkEntries r
def uptoBulkEntry {H : Type} : Lit × DataW H → Nat
  | (.string bytes, d) => bytes.length + uptoBulk d + 1
  | (_, d) => uptoBulk d + 1
 end
def uptoSmall : (H : Type) → List (DataW H) → Bool := fun _ ds => decide (uptoBulkAll ds ≤ 1048576)
def OpenSpec.upto (s : _root_.Go.ChangeSpec) : _root_.Go.OpenSpec := { _root_.Go.OpenSpec.ofChange s with cond := some uptoSmall }

/-- 'bellmanlaw04.TrailBack', WHERE WHAT IT READS IS OF BULK AT MOST 1048576: true; the input reads as it did. -/
def trailBackUptoRow : OpenClaim := { program := "ytpaleljnkejdgaadoor", sum := "4eea0696cad821dbcc74d06e17ccc7ecbae75a81ee32d872a7c1071b1475aa6f", func := "bellman/bellmanlaw04.TrailBack", spec := "trailBack", inPlace := ["internal/abi.NoEscape", "internal/bytealg.MakeNoZero"], unfollowed := true, recurses := true, named := ["bellman/sum.fourBits"], apart := false, laid := [("bellman/sum.fourBits", laid_bellman_sum_fourBits)], narrowed := true }
def TrailBackUptoSaid : Prop := trailBackUptoRow.holds Tryd.pinned (OpenSpec.upto trailBackSpec)

/-- 'bellmanlaw04.TrailTorn', WHERE WHAT IT READS IS OF BULK AT MOST 1048576: true; the input reads as it did. -/
def trailTornUptoRow : OpenClaim := { program := "ytpaleljnkejdgaadoor", sum := "4eea0696cad821dbcc74d06e17ccc7ecbae75a81ee32d872a7c1071b1475aa6f", func := "bellman/bellmanlaw04.TrailTorn", spec := "trailTorn", inPlace := ["internal/abi.NoEscape", "internal/bytealg.MakeNoZero"], unfollowed := true, recurses := true, named := ["bellman/sum.fourBits"], apart := false, laid := [("bellman/sum.fourBits", laid_bellman_sum_fourBits)], narrowed := true }
def TrailTornUptoSaid : Prop := trailTornUptoRow.holds Tryd.pinned (OpenSpec.upto trailTornSpec)

/-- 'bellmanlaw04.TrailWiped', WHERE WHAT IT READS IS OF BULK AT MOST 1048576: true; the input reads as it did. -/
def trailWipedUptoRow : OpenClaim := { program := "ytpaleljnkejdgaadoor", sum := "4eea0696cad821dbcc74d06e17ccc7ecbae75a81ee32d872a7c1071b1475aa6f", func := "bellman/bellmanlaw04.TrailWiped", spec := "trailWiped", inPlace := ["internal/abi.NoEscape", "internal/bytealg.MakeNoZero"], unfollowed := true, recurses := true, named := ["bellman/sum.fourBits"], apart := false, laid := [("bellman/sum.fourBits", laid_bellman_sum_fourBits)], narrowed := true }
def TrailWipedUptoSaid : Prop := trailWipedUptoRow.holds Tryd.pinned (OpenSpec.upto trailWipedSpec)

/-- 'bellmanlaw06.ZoneClocks', WHERE WHAT IT READS IS OF BULK AT MOST 1048576: true; the input reads as it did. -/
def zoneClocksUptoRow : OpenClaim := { program := "ytpaleljnkejdgaadoor", sum := "4eea0696cad821dbcc74d06e17ccc7ecbae75a81ee32d872a7c1071b1475aa6f", func := "bellman/bellmanlaw06.ZoneClocks", spec := "zoneClocks", unfollowed := true, recurses := true, named := ["bellman/civil.daysAhead", "bellman/zone.named"], apart := false, laid := [("bellman/civil.daysAhead", laid_bellman_civil_daysAhead), ("bellman/zone.named", laid_bellman_zone_named)], narrowed := true }
def ZoneClocksUptoSaid : Prop := zoneClocksUptoRow.holds Tryd.pinned (OpenSpec.upto zoneClocksSpec)

/-- 'bellmanlaw06.ZoneTimes', WHERE WHAT IT READS IS OF BULK AT MOST 1048576: true; the input reads as it did. -/
def zoneTimesUptoRow : OpenClaim := { program := "ytpaleljnkejdgaadoor", sum := "4eea0696cad821dbcc74d06e17ccc7ecbae75a81ee32d872a7c1071b1475aa6f", func := "bellman/bellmanlaw06.ZoneTimes", spec := "zoneTimes", unfollowed := true, recurses := true, named := ["bellman/civil.daysAhead", "bellman/zone.named"], apart := false, laid := [("bellman/civil.daysAhead", laid_bellman_civil_daysAhead), ("bellman/zone.named", laid_bellman_zone_named)], narrowed := true }
def ZoneTimesUptoSaid : Prop := zoneTimesUptoRow.holds Tryd.pinned (OpenSpec.upto zoneTimesSpec)

/-- 'bellmantop.TopLogged', WHERE WHAT IT READS IS OF BULK AT MOST 1048576: true; the input reads as it did. -/
def topLoggedUptoRow : OpenClaim := { program := "ytpaleljnkejdgaadoor", sum := "4eea0696cad821dbcc74d06e17ccc7ecbae75a81ee32d872a7c1071b1475aa6f", func := "bellman/bellmantop.TopLogged", spec := "topLogged", inPlace := ["internal/abi.NoEscape", "internal/bytealg.MakeNoZero"], unfollowed := true, recurses := true, named := ["bellman/sum.fourBits"], apart := false, laid := [("bellman/sum.fourBits", laid_bellman_sum_fourBits)], narrowed := true }
def TopLoggedUptoSaid : Prop := topLoggedUptoRow.holds Tryd.pinned (OpenSpec.upto topLoggedSpec)

end Rows
end Go.Proofs.YtpaleljnkejdgaaDoor
