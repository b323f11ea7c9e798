/-
  NARROWER THAN 'FOR EVERY INPUT', by the rows' own cells (each row's printed sentence says how): QuietTells: laid · QuietNever: laid · TopHushed: laid.
  DERIVED. THE GIVEN ROWS OF THIS SEAT. 3 by the template 'for every input the law returns true; each argument reads behind the call as it read before'; 0 by the template 'total and deterministic' (their statements: YtpaleljnkejdgaaGreatDoorTotals.lean).
  GIVEN WITH THE SEED: the statements are not yours to turn. If you find one false, say at which input.
  Laid BY PROGRAM, IN A SANDBOX (cutbox-rows.mjs): the forced cells as the released guide's own fill.sh prints them over the translation 272ff224913ef754… (all of the seat's roots in one cut). By AI agents, Wed Nov 11 2026. No macro, syntax, notation, axiom, sorry.
-/
import Derived.Test.YtpaleljnkejdgaaGreatDoorChecked
import GoSem.Claim
import GoSem.ClaimJoined
import GoSem.ClaimMapViews
import Derived.JoinedTies
import Derived.KernelRfl
namespace Go.Proofs.YtpaleljnkejdgaaGreatDoor
/- THE CELL 'sum', in the pinned program and in every row, IS THE sha256 OF THE DUMP (.gsa) THAT YtpaleljnkejdgaaGreatDoorProg.lean LOADS. Nothing in Lean hashes anything: it is a label: what it is worth is what the hold of that sum in a sandbox is worth. -/
noncomputable def Tryz.pinned : Pinned := { name := "ytpaleljnkejdgaagreatdoor", sum := "272ff224913ef75475525954dd631964e48c3600cc6523c8b550ca0d60999917", checked := Tryz.checked }
namespace Rows
def none {H : Type} : Left H := { results := [], args := [] }

/- WHAT THE LISTED PACKAGE-LEVEL VARIABLES READ AS WHEN THE CALL BEGINS. Each datum BY PROGRAM (the guide's laid-datum.mjs) off the statement by which the dump's own 'gosem.cut.vars' lays the variable. In a bare row this is a premise. The card (YtpaleljnkejdgaaGreatDoorCards.lean) ties it to the program's text. -/
def laid_bellman_civil_daysAhead {H : Type} : DataW H := .agg [.lit (.int .i64 0), .lit (.int .i64 31), .lit (.int .i64 59), .lit (.int .i64 90), .lit (.int .i64 120), .lit (.int .i64 151), .lit (.int .i64 181), .lit (.int .i64 212), .lit (.int .i64 243), .lit (.int .i64 273), .lit (.int .i64 304), .lit (.int .i64 334), .lit (.int .i64 365)]

/-- 'bellmanlaw08.QuietTells': WHATEVER THE INPUT: true; the input reads as it did. -/
def quietTellsSpec : ChangeSpec := { name := "quietTells", fn := fun _ => fun
  | [d1, d2] => { results := [.lit (.bool true)], args := [d1, d2] }
  | _ => none }
def quietTellsRow : OpenClaim := { program := "ytpaleljnkejdgaagreatdoor", sum := "272ff224913ef75475525954dd631964e48c3600cc6523c8b550ca0d60999917", func := "bellman/bellmanlaw08.QuietTells", spec := "quietTells", unfollowed := true, recurses := true, named := ["bellman/civil.daysAhead"], apart := false, laid := [("bellman/civil.daysAhead", laid_bellman_civil_daysAhead)] }
def QuietTellsSaid : Prop := quietTellsRow.holds Tryz.pinned (OpenSpec.ofChange quietTellsSpec)

/-- ITS FALSE NEIGHBOUR: 'it returns false'. Refute it at one input. -/
def quietTellsWrong : ChangeSpec := { name := "quietTells", fn := fun _ => fun
  | [d1, d2] => { results := [.lit (.bool false)], args := [d1, d2] }
  | _ => none }
def QuietTellsWrongFalsely : Prop := quietTellsRow.holds Tryz.pinned (OpenSpec.ofChange quietTellsWrong)

/-- 'bellmanlaw08.QuietNever': WHATEVER THE INPUT: true; the input reads as it did. -/
def quietNeverSpec : ChangeSpec := { name := "quietNever", fn := fun _ => fun
  | [d1, d2, d3] => { results := [.lit (.bool true)], args := [d1, d2, d3] }
  | _ => none }
def quietNeverRow : OpenClaim := { program := "ytpaleljnkejdgaagreatdoor", sum := "272ff224913ef75475525954dd631964e48c3600cc6523c8b550ca0d60999917", func := "bellman/bellmanlaw08.QuietNever", spec := "quietNever", unfollowed := true, recurses := true, named := ["bellman/civil.daysAhead"], apart := false, laid := [("bellman/civil.daysAhead", laid_bellman_civil_daysAhead)] }
def QuietNeverSaid : Prop := quietNeverRow.holds Tryz.pinned (OpenSpec.ofChange quietNeverSpec)

/-- ITS FALSE NEIGHBOUR: 'it returns false'. Refute it at one input. -/
def quietNeverWrong : ChangeSpec := { name := "quietNever", fn := fun _ => fun
  | [d1, d2, d3] => { results := [.lit (.bool false)], args := [d1, d2, d3] }
  | _ => none }
def QuietNeverWrongFalsely : Prop := quietNeverRow.holds Tryz.pinned (OpenSpec.ofChange quietNeverWrong)

/-- 'bellmantop.TopHushed': WHATEVER THE INPUT: true; the input reads as it did. -/
def topHushedSpec : ChangeSpec := { name := "topHushed", fn := fun _ => fun
  | [d1, d2, d3, d4] => { results := [.lit (.bool true)], args := [d1, d2, d3, d4] }
  | _ => none }
def topHushedRow : OpenClaim := { program := "ytpaleljnkejdgaagreatdoor", sum := "272ff224913ef75475525954dd631964e48c3600cc6523c8b550ca0d60999917", func := "bellman/bellmantop.TopHushed", spec := "topHushed", unfollowed := true, recurses := true, named := ["bellman/civil.daysAhead"], apart := false, laid := [("bellman/civil.daysAhead", laid_bellman_civil_daysAhead)] }
def TopHushedSaid : Prop := topHushedRow.holds Tryz.pinned (OpenSpec.ofChange topHushedSpec)

/-- ITS FALSE NEIGHBOUR: 'it returns false'. Refute it at one input. -/
def topHushedWrong : ChangeSpec := { name := "topHushed", fn := fun _ => fun
  | [d1, d2, d3, d4] => { results := [.lit (.bool false)], args := [d1, d2, d3, d4] }
  | _ => none }
def TopHushedWrongFalsely : Prop := topHushedRow.holds Tryz.pinned (OpenSpec.ofChange topHushedWrong)

/- THE SECOND FORM. 'bulk': how many values and letters a reading holds, each counted each time it is reached (what is shared counts as often as it is met; a slice's spare places count too). A statement '..UptoSaid' is the law's where the arguments, and the package variables that the reading takes, are together of bulk at most 1048576: NARROWER than '..Said'. Prove '..Said' where nothing that the law and all that it calls make is longer than what came in: it says more and counts as full. Else prove '..UptoSaid'. A law counts once. -/
mutual
def uptoBulk {H : Type} : DataW H → Nat
  | .lit (.string bytes) => bytes.length + 1
  | .lit _ => 1
  | .nil => 1
  | .ptr d => uptoBulk d + 1
  | .slice elems spare => uptoBulkAll elems + uptoBulkAll spare + 1
  | .agg parts => uptoBulkAll parts + 1
  | .iface _ d => uptoBulk d + 1
  | .map entries => uptoBulkEntries entries + 1
  | .held _ => 1
def uptoBulkAll {H : Type} : List (DataW H) → Nat
  | [] => 0
  | d :: r => uptoBulk d + uptoBulkAll r
def uptoBulkEntries {H : Type} : List (Lit × DataW H) → Nat
  | [] => 0
  | x :: r => uptoBulkEntry x + uptoBulkEntries r
def uptoBulkEntry {H : Type} : Lit × DataW H → Nat
  | (.string bytes, d) => bytes.length + uptoBulk d + 1
  | (_, d) => uptoBulk d + 1
 end
def uptoSmall : (H : Type) → List (DataW H) → Bool := fun _ ds => decide (uptoBulkAll ds ≤ 1048576)
def OpenSpec.upto (s : _root_.Go.ChangeSpec) : _root_.Go.OpenSpec := { _root_.Go.OpenSpec.ofChange s with cond := some uptoSmall }

/-- 'bellmanlaw08.QuietTells', WHERE WHAT IT READS IS OF BULK AT MOST 1048576: true; the input reads as it did. -/
def quietTellsUptoRow : OpenClaim := { program := "ytpaleljnkejdgaagreatdoor", sum := "272ff224913ef75475525954dd631964e48c3600cc6523c8b550ca0d60999917", func := "bellman/bellmanlaw08.QuietTells", spec := "quietTells", unfollowed := true, recurses := true, named := ["bellman/civil.daysAhead"], apart := false, laid := [("bellman/civil.daysAhead", laid_bellman_civil_daysAhead)], narrowed := true }
def QuietTellsUptoSaid : Prop := quietTellsUptoRow.holds Tryz.pinned (OpenSpec.upto quietTellsSpec)

/-- 'bellmanlaw08.QuietNever', WHERE WHAT IT READS IS OF BULK AT MOST 1048576: true; the input reads as it did. -/
def quietNeverUptoRow : OpenClaim := { program := "ytpaleljnkejdgaagreatdoor", sum := "272ff224913ef75475525954dd631964e48c3600cc6523c8b550ca0d60999917", func := "bellman/bellmanlaw08.QuietNever", spec := "quietNever", unfollowed := true, recurses := true, named := ["bellman/civil.daysAhead"], apart := false, laid := [("bellman/civil.daysAhead", laid_bellman_civil_daysAhead)], narrowed := true }
def QuietNeverUptoSaid : Prop := quietNeverUptoRow.holds Tryz.pinned (OpenSpec.upto quietNeverSpec)

/-- 'bellmantop.TopHushed', WHERE WHAT IT READS IS OF BULK AT MOST 1048576: true; the input reads as it did. -/
def topHushedUptoRow : OpenClaim := { program := "ytpaleljnkejdgaagreatdoor", sum := "272ff224913ef75475525954dd631964e48c3600cc6523c8b550ca0d60999917", func := "bellman/bellmantop.TopHushed", spec := "topHushed", unfollowed := true, recurses := true, named := ["bellman/civil.daysAhead"], apart := false, laid := [("bellman/civil.daysAhead", laid_bellman_civil_daysAhead)], narrowed := true }
def TopHushedUptoSaid : Prop := topHushedUptoRow.holds Tryz.pinned (OpenSpec.upto topHushedSpec)

end Rows
end Go.Proofs.YtpaleljnkejdgaaGreatDoor
