/-
  NARROWER THAN 'FOR EVERY INPUT', by the rows' own cells (each row's printed sentence says how): CivilTimes: laid · CivilMonths: laid · CivilBack: laid · CivilOn: laid · CivilNth: laid · ZoneClocks: laid · ZoneTimes: laid · ZoneBack: laid · ZoneSteady: laid · ZonePlain: laid · TopClocks: laid.
  DERIVED. THE GIVEN ROWS OF THIS SEAT. 11 by the template 'for every input the law returns true; each argument reads behind the call as it read before'; 0 by the template 'total and deterministic' (their statements: YtkpjkekaedecgaaDoorTotals.lean).
  GIVEN WITH THE SEED: the statements are not yours to turn. If you find one false, say at which input.
  Laid BY PROGRAM, IN A SANDBOX (cutbox-rows.mjs): the forced cells as the released guide's own fill.sh prints them over the translation 5b79bc30ea002cf0… (all of the seat's roots in one cut). By AI agents, Wed Nov 11 2026. No macro, syntax, notation, axiom, sorry.
-/
import Derived.Test.YtkpjkekaedecgaaDoorChecked
import GoSem.Claim
import GoSem.ClaimJoined
import GoSem.ClaimMapViews
import Derived.JoinedTies
import Derived.KernelRfl
namespace Go.Proofs.YtkpjkekaedecgaaDoor
/- THE CELL 'sum', in the pinned program and in every row, IS THE sha256 OF THE DUMP (.gsa) THAT YtkpjkekaedecgaaDoorProg.lean LOADS. Nothing in Lean hashes anything: it is a label: what it is worth is what the hold of that sum in a sandbox is worth. -/
noncomputable def Tryd.pinned : Pinned := { name := "ytkpjkekaedecgaadoor", sum := "5b79bc30ea002cf0fc3e36d40258447a7ee9902bb57be60cd0f9c8656a14d79d", checked := Tryd.checked }
namespace Rows
def none {H : Type} : Left H := { results := [], args := [] }

/- WHAT THE LISTED PACKAGE-LEVEL VARIABLES READ AS WHEN THE CALL BEGINS. Each datum BY PROGRAM (the guide's laid-datum.mjs) off the statement by which the dump's own 'gosem.cut.vars' lays the variable. In a bare row this is a premise. The card (YtkpjkekaedecgaaDoorCards.lean) ties it to the program's text. -/
def laid_bellman_civil_daysAhead {H : Type} : DataW H := .agg [.lit (.int .i64 0), .lit (.int .i64 31), .lit (.int .i64 59), .lit (.int .i64 90), .lit (.int .i64 120), .lit (.int .i64 151), .lit (.int .i64 181), .lit (.int .i64 212), .lit (.int .i64 243), .lit (.int .i64 273), .lit (.int .i64 304), .lit (.int .i64 334), .lit (.int .i64 365)]
def laid_bellman_zone_named {H : Type} : DataW H := .agg [.agg [.lit (.string [85, 84, 67]), .agg [.lit (.int .i64 0), .lit (.int .i64 0), .agg [.lit (.int .i64 0), .lit (.int .i64 0), .lit (.int .i64 0), .lit (.int .i64 0)], .agg [.lit (.int .i64 0), .lit (.int .i64 0), .lit (.int .i64 0), .lit (.int .i64 0)]]], .agg [.lit (.string [69, 117, 114, 111, 112, 101, 47, 76, 111, 110, 100, 111, 110]), .agg [.lit (.int .i64 0), .lit (.int .i64 60), .agg [.lit (.int .i64 3), .lit (.int .i64 5), .lit (.int .i64 0), .lit (.int .i64 60)], .agg [.lit (.int .i64 10), .lit (.int .i64 5), .lit (.int .i64 0), .lit (.int .i64 120)]]], .agg [.lit (.string [69, 117, 114, 111, 112, 101, 47, 66, 101, 114, 108, 105, 110]), .agg [.lit (.int .i64 60), .lit (.int .i64 60), .agg [.lit (.int .i64 3), .lit (.int .i64 5), .lit (.int .i64 0), .lit (.int .i64 120)], .agg [.lit (.int .i64 10), .lit (.int .i64 5), .lit (.int .i64 0), .lit (.int .i64 180)]]], .agg [.lit (.string [65, 109, 101, 114, 105, 99, 97, 47, 78, 101, 119, 95, 89, 111, 114, 107]), .agg [.lit (.int .i64 (-300)), .lit (.int .i64 60), .agg [.lit (.int .i64 3), .lit (.int .i64 2), .lit (.int .i64 0), .lit (.int .i64 120)], .agg [.lit (.int .i64 11), .lit (.int .i64 1), .lit (.int .i64 0), .lit (.int .i64 120)]]], .agg [.lit (.string [65, 109, 101, 114, 105, 99, 97, 47, 76, 111, 115, 95, 65, 110, 103, 101, 108, 101, 115]), .agg [.lit (.int .i64 (-480)), .lit (.int .i64 60), .agg [.lit (.int .i64 3), .lit (.int .i64 2), .lit (.int .i64 0), .lit (.int .i64 120)], .agg [.lit (.int .i64 11), .lit (.int .i64 1), .lit (.int .i64 0), .lit (.int .i64 120)]]], .agg [.lit (.string [65, 115, 105, 97, 47, 75, 111, 108, 107, 97, 116, 97]), .agg [.lit (.int .i64 330), .lit (.int .i64 0), .agg [.lit (.int .i64 0), .lit (.int .i64 0), .lit (.int .i64 0), .lit (.int .i64 0)], .agg [.lit (.int .i64 0), .lit (.int .i64 0), .lit (.int .i64 0), .lit (.int .i64 0)]]], .agg [.lit (.string [65, 115, 105, 97, 47, 84, 111, 107, 121, 111]), .agg [.lit (.int .i64 540), .lit (.int .i64 0), .agg [.lit (.int .i64 0), .lit (.int .i64 0), .lit (.int .i64 0), .lit (.int .i64 0)], .agg [.lit (.int .i64 0), .lit (.int .i64 0), .lit (.int .i64 0), .lit (.int .i64 0)]]], .agg [.lit (.string [65, 117, 115, 116, 114, 97, 108, 105, 97, 47, 83, 121, 100, 110, 101, 121]), .agg [.lit (.int .i64 600), .lit (.int .i64 60), .agg [.lit (.int .i64 10), .lit (.int .i64 1), .lit (.int .i64 0), .lit (.int .i64 120)], .agg [.lit (.int .i64 4), .lit (.int .i64 1), .lit (.int .i64 0), .lit (.int .i64 180)]]]]

/-- 'bellmanlaw05.CivilTimes': WHATEVER THE INPUT: true; the input reads as it did. -/
def civilTimesSpec : ChangeSpec := { name := "civilTimes", fn := fun _ => fun
  | [d1, d2] => { results := [.lit (.bool true)], args := [d1, d2] }
  | _ => none }
def civilTimesRow : OpenClaim := { program := "ytkpjkekaedecgaadoor", sum := "5b79bc30ea002cf0fc3e36d40258447a7ee9902bb57be60cd0f9c8656a14d79d", func := "bellman/bellmanlaw05.CivilTimes", spec := "civilTimes", named := ["bellman/civil.daysAhead"], apart := false, laid := [("bellman/civil.daysAhead", laid_bellman_civil_daysAhead)] }
def CivilTimesSaid : Prop := civilTimesRow.holds Tryd.pinned (OpenSpec.ofChange civilTimesSpec)

/-- ITS FALSE NEIGHBOUR: 'it returns false'. Refute it at one input. -/
def civilTimesWrong : ChangeSpec := { name := "civilTimes", fn := fun _ => fun
  | [d1, d2] => { results := [.lit (.bool false)], args := [d1, d2] }
  | _ => none }
def CivilTimesWrongFalsely : Prop := civilTimesRow.holds Tryd.pinned (OpenSpec.ofChange civilTimesWrong)

/-- 'bellmanlaw05.CivilMonths': WHATEVER THE INPUT: true; the input reads as it did. -/
def civilMonthsSpec : ChangeSpec := { name := "civilMonths", fn := fun _ => fun
  | [d1, d2, d3, d4, d5] => { results := [.lit (.bool true)], args := [d1, d2, d3, d4, d5] }
  | _ => none }
def civilMonthsRow : OpenClaim := { program := "ytkpjkekaedecgaadoor", sum := "5b79bc30ea002cf0fc3e36d40258447a7ee9902bb57be60cd0f9c8656a14d79d", func := "bellman/bellmanlaw05.CivilMonths", spec := "civilMonths", named := ["bellman/civil.daysAhead"], apart := false, laid := [("bellman/civil.daysAhead", laid_bellman_civil_daysAhead)] }
def CivilMonthsSaid : Prop := civilMonthsRow.holds Tryd.pinned (OpenSpec.ofChange civilMonthsSpec)

/-- ITS FALSE NEIGHBOUR: 'it returns false'. Refute it at one input. -/
def civilMonthsWrong : ChangeSpec := { name := "civilMonths", fn := fun _ => fun
  | [d1, d2, d3, d4, d5] => { results := [.lit (.bool false)], args := [d1, d2, d3, d4, d5] }
  | _ => none }
def CivilMonthsWrongFalsely : Prop := civilMonthsRow.holds Tryd.pinned (OpenSpec.ofChange civilMonthsWrong)

/-- 'bellmanlaw05.CivilBack': WHATEVER THE INPUT: true; the input reads as it did. -/
def civilBackSpec : ChangeSpec := { name := "civilBack", fn := fun _ => fun
  | [d1, d2] => { results := [.lit (.bool true)], args := [d1, d2] }
  | _ => none }
def civilBackRow : OpenClaim := { program := "ytkpjkekaedecgaadoor", sum := "5b79bc30ea002cf0fc3e36d40258447a7ee9902bb57be60cd0f9c8656a14d79d", func := "bellman/bellmanlaw05.CivilBack", spec := "civilBack", named := ["bellman/civil.daysAhead"], apart := false, laid := [("bellman/civil.daysAhead", laid_bellman_civil_daysAhead)] }
def CivilBackSaid : Prop := civilBackRow.holds Tryd.pinned (OpenSpec.ofChange civilBackSpec)

/-- ITS FALSE NEIGHBOUR: 'it returns false'. Refute it at one input. -/
def civilBackWrong : ChangeSpec := { name := "civilBack", fn := fun _ => fun
  | [d1, d2] => { results := [.lit (.bool false)], args := [d1, d2] }
  | _ => none }
def CivilBackWrongFalsely : Prop := civilBackRow.holds Tryd.pinned (OpenSpec.ofChange civilBackWrong)

/-- 'bellmanlaw05.CivilOn': WHATEVER THE INPUT: true; the input reads as it did. -/
def civilOnSpec : ChangeSpec := { name := "civilOn", fn := fun _ => fun
  | [d] => { results := [.lit (.bool true)], args := [d] }
  | _ => none }
def civilOnRow : OpenClaim := { program := "ytkpjkekaedecgaadoor", sum := "5b79bc30ea002cf0fc3e36d40258447a7ee9902bb57be60cd0f9c8656a14d79d", func := "bellman/bellmanlaw05.CivilOn", spec := "civilOn", named := ["bellman/civil.daysAhead"], apart := false, laid := [("bellman/civil.daysAhead", laid_bellman_civil_daysAhead)] }
def CivilOnSaid : Prop := civilOnRow.holds Tryd.pinned (OpenSpec.ofChange civilOnSpec)

/-- ITS FALSE NEIGHBOUR: 'it returns false'. Refute it at one input. -/
def civilOnWrong : ChangeSpec := { name := "civilOn", fn := fun _ => fun
  | [d] => { results := [.lit (.bool false)], args := [d] }
  | _ => none }
def CivilOnWrongFalsely : Prop := civilOnRow.holds Tryd.pinned (OpenSpec.ofChange civilOnWrong)

/-- 'bellmanlaw05.CivilNth': WHATEVER THE INPUT: true; the input reads as it did. -/
def civilNthSpec : ChangeSpec := { name := "civilNth", fn := fun _ => fun
  | [d1, d2, d3, d4] => { results := [.lit (.bool true)], args := [d1, d2, d3, d4] }
  | _ => none }
def civilNthRow : OpenClaim := { program := "ytkpjkekaedecgaadoor", sum := "5b79bc30ea002cf0fc3e36d40258447a7ee9902bb57be60cd0f9c8656a14d79d", func := "bellman/bellmanlaw05.CivilNth", spec := "civilNth", named := ["bellman/civil.daysAhead"], apart := false, laid := [("bellman/civil.daysAhead", laid_bellman_civil_daysAhead)] }
def CivilNthSaid : Prop := civilNthRow.holds Tryd.pinned (OpenSpec.ofChange civilNthSpec)

/-- ITS FALSE NEIGHBOUR: 'it returns false'. Refute it at one input. -/
def civilNthWrong : ChangeSpec := { name := "civilNth", fn := fun _ => fun
  | [d1, d2, d3, d4] => { results := [.lit (.bool false)], args := [d1, d2, d3, d4] }
  | _ => none }
def CivilNthWrongFalsely : Prop := civilNthRow.holds Tryd.pinned (OpenSpec.ofChange civilNthWrong)

/-- 'bellmanlaw06.ZoneClocks': WHATEVER THE INPUT: true; the input reads as it did. -/
def zoneClocksSpec : ChangeSpec := { name := "zoneClocks", fn := fun _ => fun
  | [d1, d2, d3] => { results := [.lit (.bool true)], args := [d1, d2, d3] }
  | _ => none }
def zoneClocksRow : OpenClaim := { program := "ytkpjkekaedecgaadoor", sum := "5b79bc30ea002cf0fc3e36d40258447a7ee9902bb57be60cd0f9c8656a14d79d", func := "bellman/bellmanlaw06.ZoneClocks", spec := "zoneClocks", unfollowed := true, recurses := true, named := ["bellman/civil.daysAhead", "bellman/zone.named"], apart := false, laid := [("bellman/civil.daysAhead", laid_bellman_civil_daysAhead), ("bellman/zone.named", laid_bellman_zone_named)] }
def ZoneClocksSaid : Prop := zoneClocksRow.holds Tryd.pinned (OpenSpec.ofChange zoneClocksSpec)

/-- ITS FALSE NEIGHBOUR: 'it returns false'. Refute it at one input. -/
def zoneClocksWrong : ChangeSpec := { name := "zoneClocks", fn := fun _ => fun
  | [d1, d2, d3] => { results := [.lit (.bool false)], args := [d1, d2, d3] }
  | _ => none }
def ZoneClocksWrongFalsely : Prop := zoneClocksRow.holds Tryd.pinned (OpenSpec.ofChange zoneClocksWrong)

/-- 'bellmanlaw06.ZoneTimes': WHATEVER THE INPUT: true; the input reads as it did. -/
def zoneTimesSpec : ChangeSpec := { name := "zoneTimes", fn := fun _ => fun
  | [d1, d2] => { results := [.lit (.bool true)], args := [d1, d2] }
  | _ => none }
def zoneTimesRow : OpenClaim := { program := "ytkpjkekaedecgaadoor", sum := "5b79bc30ea002cf0fc3e36d40258447a7ee9902bb57be60cd0f9c8656a14d79d", func := "bellman/bellmanlaw06.ZoneTimes", spec := "zoneTimes", unfollowed := true, recurses := true, named := ["bellman/civil.daysAhead", "bellman/zone.named"], apart := false, laid := [("bellman/civil.daysAhead", laid_bellman_civil_daysAhead), ("bellman/zone.named", laid_bellman_zone_named)] }
def ZoneTimesSaid : Prop := zoneTimesRow.holds Tryd.pinned (OpenSpec.ofChange zoneTimesSpec)

/-- ITS FALSE NEIGHBOUR: 'it returns false'. Refute it at one input. -/
def zoneTimesWrong : ChangeSpec := { name := "zoneTimes", fn := fun _ => fun
  | [d1, d2] => { results := [.lit (.bool false)], args := [d1, d2] }
  | _ => none }
def ZoneTimesWrongFalsely : Prop := zoneTimesRow.holds Tryd.pinned (OpenSpec.ofChange zoneTimesWrong)

/-- 'bellmanlaw06.ZoneBack': WHATEVER THE INPUT: true; the input reads as it did. -/
def zoneBackSpec : ChangeSpec := { name := "zoneBack", fn := fun _ => fun
  | [d1, d2] => { results := [.lit (.bool true)], args := [d1, d2] }
  | _ => none }
def zoneBackRow : OpenClaim := { program := "ytkpjkekaedecgaadoor", sum := "5b79bc30ea002cf0fc3e36d40258447a7ee9902bb57be60cd0f9c8656a14d79d", func := "bellman/bellmanlaw06.ZoneBack", spec := "zoneBack", unfollowed := true, recurses := true, named := ["bellman/zone.named", "bellman/civil.daysAhead"], apart := false, laid := [("bellman/civil.daysAhead", laid_bellman_civil_daysAhead), ("bellman/zone.named", laid_bellman_zone_named)] }
def ZoneBackSaid : Prop := zoneBackRow.holds Tryd.pinned (OpenSpec.ofChange zoneBackSpec)

/-- ITS FALSE NEIGHBOUR: 'it returns false'. Refute it at one input. -/
def zoneBackWrong : ChangeSpec := { name := "zoneBack", fn := fun _ => fun
  | [d1, d2] => { results := [.lit (.bool false)], args := [d1, d2] }
  | _ => none }
def ZoneBackWrongFalsely : Prop := zoneBackRow.holds Tryd.pinned (OpenSpec.ofChange zoneBackWrong)

/-- 'bellmanlaw06.ZoneSteady': WHATEVER THE INPUT: true; the input reads as it did. -/
def zoneSteadySpec : ChangeSpec := { name := "zoneSteady", fn := fun _ => fun
  | [d1, d2, d3] => { results := [.lit (.bool true)], args := [d1, d2, d3] }
  | _ => none }
def zoneSteadyRow : OpenClaim := { program := "ytkpjkekaedecgaadoor", sum := "5b79bc30ea002cf0fc3e36d40258447a7ee9902bb57be60cd0f9c8656a14d79d", func := "bellman/bellmanlaw06.ZoneSteady", spec := "zoneSteady", unfollowed := true, recurses := true, named := ["bellman/zone.named", "bellman/civil.daysAhead"], apart := false, laid := [("bellman/civil.daysAhead", laid_bellman_civil_daysAhead), ("bellman/zone.named", laid_bellman_zone_named)] }
def ZoneSteadySaid : Prop := zoneSteadyRow.holds Tryd.pinned (OpenSpec.ofChange zoneSteadySpec)

/-- ITS FALSE NEIGHBOUR: 'it returns false'. Refute it at one input. -/
def zoneSteadyWrong : ChangeSpec := { name := "zoneSteady", fn := fun _ => fun
  | [d1, d2, d3] => { results := [.lit (.bool false)], args := [d1, d2, d3] }
  | _ => none }
def ZoneSteadyWrongFalsely : Prop := zoneSteadyRow.holds Tryd.pinned (OpenSpec.ofChange zoneSteadyWrong)

/-- 'bellmanlaw06.ZonePlain': WHATEVER THE INPUT: true; the input reads as it did. -/
def zonePlainSpec : ChangeSpec := { name := "zonePlain", fn := fun _ => fun
  | [d1, d2] => { results := [.lit (.bool true)], args := [d1, d2] }
  | _ => none }
def zonePlainRow : OpenClaim := { program := "ytkpjkekaedecgaadoor", sum := "5b79bc30ea002cf0fc3e36d40258447a7ee9902bb57be60cd0f9c8656a14d79d", func := "bellman/bellmanlaw06.ZonePlain", spec := "zonePlain", unfollowed := true, recurses := true, named := ["bellman/zone.named", "bellman/civil.daysAhead"], apart := false, laid := [("bellman/civil.daysAhead", laid_bellman_civil_daysAhead), ("bellman/zone.named", laid_bellman_zone_named)] }
def ZonePlainSaid : Prop := zonePlainRow.holds Tryd.pinned (OpenSpec.ofChange zonePlainSpec)

/-- ITS FALSE NEIGHBOUR: 'it returns false'. Refute it at one input. -/
def zonePlainWrong : ChangeSpec := { name := "zonePlain", fn := fun _ => fun
  | [d1, d2] => { results := [.lit (.bool false)], args := [d1, d2] }
  | _ => none }
def ZonePlainWrongFalsely : Prop := zonePlainRow.holds Tryd.pinned (OpenSpec.ofChange zonePlainWrong)

/-- 'bellmantop.TopClocks': WHATEVER THE INPUT: true; the input reads as it did. -/
def topClocksSpec : ChangeSpec := { name := "topClocks", fn := fun _ => fun
  | [d1, d2] => { results := [.lit (.bool true)], args := [d1, d2] }
  | _ => none }
def topClocksRow : OpenClaim := { program := "ytkpjkekaedecgaadoor", sum := "5b79bc30ea002cf0fc3e36d40258447a7ee9902bb57be60cd0f9c8656a14d79d", func := "bellman/bellmantop.TopClocks", spec := "topClocks", unfollowed := true, recurses := true, named := ["bellman/civil.daysAhead"], apart := false, laid := [("bellman/civil.daysAhead", laid_bellman_civil_daysAhead)] }
def TopClocksSaid : Prop := topClocksRow.holds Tryd.pinned (OpenSpec.ofChange topClocksSpec)

/-- ITS FALSE NEIGHBOUR: 'it returns false'. Refute it at one input. -/
def topClocksWrong : ChangeSpec := { name := "topClocks", fn := fun _ => fun
  | [d1, d2] => { results := [.lit (.bool false)], args := [d1, d2] }
  | _ => none }
def TopClocksWrongFalsely : Prop := topClocksRow.holds Tryd.pinned (OpenSpec.ofChange topClocksWrong)

/- THE SECOND FORM. 'bulk': how many values and letters a reading holds, each counted each time it is reached (what is shared counts as often as it is met; a slice's spare places count too). A statement '..UptoSaid' is the law's where the arguments, and the package variables that the reading takes, are together of bulk at most 1048576: NARROWER than '..Said'. Prove '..Said' where nothing that the law and all that it calls make is longer than what came in: it says more and counts as full. Else prove '..UptoSaid'. A law counts once. -/
mutual
def uptoBulk {H : Type} : DataW H → Nat
  | .lit (.string bytes) => bytes.length + 1
  | .lit _ => 1
  | .nil => 1
  | .ptr d => uptoBulk d + 1
  | .slice elems spare => uptoBulkAll elems + uptoBulkAll spare + 1
  | .agg parts => uptoBulkAll parts + 1
  | .iface _ d => uptoBulk d + 1
  | .map entries => uptoBulkEntries entries + 1
  | .held _ => 1
def uptoBulkAll {H : Type} : List (DataW H) → Nat
  | [] => 0
  | d :: r => uptoBulk d + uptoBulkAll r
def uptoBulkEntries {H : Type} : List (Lit × DataW H) → Nat
  | [] => 0
  | x :: r => uptoBulkEntry x + uptoBulkEntries r
def uptoBulkEntry {H : Type} : Lit × DataW H → Nat
  | (.string bytes, d) => bytes.length + uptoBulk d + 1
  | (_, d) => uptoBulk d + 1
 end
def uptoSmall : (H : Type) → List (DataW H) → Bool := fun _ ds => decide (uptoBulkAll ds ≤ 1048576)
def OpenSpec.upto (s : _root_.Go.ChangeSpec) : _root_.Go.OpenSpec := { _root_.Go.OpenSpec.ofChange s with cond := some uptoSmall }

/-- 'bellmanlaw05.CivilTimes', WHERE WHAT IT READS IS OF BULK AT MOST 1048576: true; the input reads as it did. -/
def civilTimesUptoRow : OpenClaim := { program := "ytkpjkekaedecgaadoor", sum := "5b79bc30ea002cf0fc3e36d40258447a7ee9902bb57be60cd0f9c8656a14d79d", func := "bellman/bellmanlaw05.CivilTimes", spec := "civilTimes", named := ["bellman/civil.daysAhead"], apart := false, laid := [("bellman/civil.daysAhead", laid_bellman_civil_daysAhead)], narrowed := true }
def CivilTimesUptoSaid : Prop := civilTimesUptoRow.holds Tryd.pinned (OpenSpec.upto civilTimesSpec)

/-- 'bellmanlaw05.CivilMonths', WHERE WHAT IT READS IS OF BULK AT MOST 1048576: true; the input reads as it did. -/
def civilMonthsUptoRow : OpenClaim := { program := "ytkpjkekaedecgaadoor", sum := "5b79bc30ea002cf0fc3e36d40258447a7ee9902bb57be60cd0f9c8656a14d79d", func := "bellman/bellmanlaw05.CivilMonths", spec := "civilMonths", named := ["bellman/civil.daysAhead"], apart := false, laid := [("bellman/civil.daysAhead", laid_bellman_civil_daysAhead)], narrowed := true }
def CivilMonthsUptoSaid : Prop := civilMonthsUptoRow.holds Tryd.pinned (OpenSpec.upto civilMonthsSpec)

/-- 'bellmanlaw05.CivilBack', WHERE WHAT IT READS IS OF BULK AT MOST 1048576: true; the input reads as it did. -/
def civilBackUptoRow : OpenClaim := { program := "ytkpjkekaedecgaadoor", sum := "5b79bc30ea002cf0fc3e36d40258447a7ee9902bb57be60cd0f9c8656a14d79d", func := "bellman/bellmanlaw05.CivilBack", spec := "civilBack", named := ["bellman/civil.daysAhead"], apart := false, laid := [("bellman/civil.daysAhead", laid_bellman_civil_daysAhead)], narrowed := true }
def CivilBackUptoSaid : Prop := civilBackUptoRow.holds Tryd.pinned (OpenSpec.upto civilBackSpec)

/-- 'bellmanlaw05.CivilOn', WHERE WHAT IT READS IS OF BULK AT MOST 1048576: true; the input reads as it did. -/
def civilOnUptoRow : OpenClaim := { program := "ytkpjkekaedecgaadoor", sum := "5b79bc30ea002cf0fc3e36d40258447a7ee9902bb57be60cd0f9c8656a14d79d", func := "bellman/bellmanlaw05.CivilOn", spec := "civilOn", named := ["bellman/civil.daysAhead"], apart := false, laid := [("bellman/civil.daysAhead", laid_bellman_civil_daysAhead)], narrowed := true }
def CivilOnUptoSaid : Prop := civilOnUptoRow.holds Tryd.pinned (OpenSpec.upto civilOnSpec)

/-- 'bellmanlaw05.CivilNth', WHERE WHAT IT READS IS OF BULK AT MOST 1048576: true; the input reads as it did. -/
def civilNthUptoRow : OpenClaim := { program := "ytkpjkekaedecgaadoor", sum := "5b79bc30ea002cf0fc3e36d40258447a7ee9902bb57be60cd0f9c8656a14d79d", func := "bellman/bellmanlaw05.CivilNth", spec := "civilNth", named := ["bellman/civil.daysAhead"], apart := false, laid := [("bellman/civil.daysAhead", laid_bellman_civil_daysAhead)], narrowed := true }
def CivilNthUptoSaid : Prop := civilNthUptoRow.holds Tryd.pinned (OpenSpec.upto civilNthSpec)

/-- 'bellmanlaw06.ZoneClocks', WHERE WHAT IT READS IS OF BULK AT MOST 1048576: true; the input reads as it did. -/
def zoneClocksUptoRow : OpenClaim := { program := "ytkpjkekaedecgaadoor", sum := "5b79bc30ea002cf0fc3e36d40258447a7ee9902bb57be60cd0f9c8656a14d79d", func := "bellman/bellmanlaw06.ZoneClocks", spec := "zoneClocks", unfollowed := true, recurses := true, named := ["bellman/civil.daysAhead", "bellman/zone.named"], apart := false, laid := [("bellman/civil.daysAhead", laid_bellman_civil_daysAhead), ("bellman/zone.named", laid_bellman_zone_named)], narrowed := true }
def ZoneClocksUptoSaid : Prop := zoneClocksUptoRow.holds Tryd.pinned (OpenSpec.upto zoneClocksSpec)

/-- 'bellmanlaw06.ZoneTimes', WHERE WHAT IT READS IS OF BULK AT MOST 1048576: true; the input reads as it did. -/
def zoneTimesUptoRow : OpenClaim := { program := "ytkpjkekaedecgaadoor", sum := "5b79bc30ea002cf0fc3e36d40258447a7ee9902bb57be60cd0f9c8656a14d79d", func := "bellman/bellmanlaw06.ZoneTimes", spec := "zoneTimes", unfollowed := true, recurses := true, named := ["bellman/civil.daysAhead", "bellman/zone.named"], apart := false, laid := [("bellman/civil.daysAhead", laid_bellman_civil_daysAhead), ("bellman/zone.named", laid_bellman_zone_named)], narrowed := true }
def ZoneTimesUptoSaid : Prop := zoneTimesUptoRow.holds Tryd.pinned (OpenSpec.upto zoneTimesSpec)

/-- 'bellmanlaw06.ZoneBack', WHERE WHAT IT READS IS OF BULK AT MOST 1048576: true; the input reads as it did. -/
def zoneBackUptoRow : OpenClaim := { program := "ytkpjkekaedecgaadoor", sum := "5b79bc30ea002cf0fc3e36d40258447a7ee9902bb57be60cd0f9c8656a14d79d", func := "bellman/bellmanlaw06.ZoneBack", spec := "zoneBack", unfollowed := true, recurses := true, named := ["bellman/zone.named", "bellman/civil.daysAhead"], apart := false, laid := [("bellman/civil.daysAhead", laid_bellman_civil_daysAhead), ("bellman/zone.named", laid_bellman_zone_named)], narrowed := true }
def ZoneBackUptoSaid : Prop := zoneBackUptoRow.holds Tryd.pinned (OpenSpec.upto zoneBackSpec)

/-- 'bellmanlaw06.ZoneSteady', WHERE WHAT IT READS IS OF BULK AT MOST 1048576: true; the input reads as it did. -/
def zoneSteadyUptoRow : OpenClaim := { program := "ytkpjkekaedecgaadoor", sum := "5b79bc30ea002cf0fc3e36d40258447a7ee9902bb57be60cd0f9c8656a14d79d", func := "bellman/bellmanlaw06.ZoneSteady", spec := "zoneSteady", unfollowed := true, recurses := true, named := ["bellman/zone.named", "bellman/civil.daysAhead"], apart := false, laid := [("bellman/civil.daysAhead", laid_bellman_civil_daysAhead), ("bellman/zone.named", laid_bellman_zone_named)], narrowed := true }
def ZoneSteadyUptoSaid : Prop := zoneSteadyUptoRow.holds Tryd.pinned (OpenSpec.upto zoneSteadySpec)

/-- 'bellmanlaw06.ZonePlain', WHERE WHAT IT READS IS OF BULK AT MOST 1048576: true; the input reads as it did. -/
def zonePlainUptoRow : OpenClaim := { program := "ytkpjkekaedecgaadoor", sum := "5b79bc30ea002cf0fc3e36d40258447a7ee9902bb57be60cd0f9c8656a14d79d", func := "bellman/bellmanlaw06.ZonePlain", spec := "zonePlain", unfollowed := true, recurses := true, named := ["bellman/zone.named", "bellman/civil.daysAhead"], apart := false, laid := [("bellman/civil.daysAhead", laid_bellman_civil_daysAhead), ("bellman/zone.named", laid_bellman_zone_named)], narrowed := true }
def ZonePlainUptoSaid : Prop := zonePlainUptoRow.holds Tryd.pinned (OpenSpec.upto zonePlainSpec)

/-- 'bellmantop.TopClocks', WHERE WHAT IT READS IS OF BULK AT MOST 1048576: true; the input reads as it did. -/
def topClocksUptoRow : OpenClaim := { program := "ytkpjkekaedecgaadoor", sum := "5b79bc30ea002cf0fc3e36d40258447a7ee9902bb57be60cd0f9c8656a14d79d", func := "bellman/bellmantop.TopClocks", spec := "topClocks", unfollowed := true, recurses := true, named := ["bellman/civil.daysAhead"], apart := false, laid := [("bellman/civil.daysAhead", laid_bellman_civil_daysAhead)], narrowed := true }
def TopClocksUptoSaid : Prop := topClocksUptoRow.holds Tryd.pinned (OpenSpec.upto topClocksSpec)

end Rows
end Go.Proofs.YtkpjkekaedecgaaDoor
