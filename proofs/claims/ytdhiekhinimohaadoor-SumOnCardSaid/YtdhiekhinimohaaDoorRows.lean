/-
  NARROWER THAN 'FOR EVERY INPUT', by the rows' own cells (each row's printed sentence says how): SumFrames: laid · SumPieces: laid · SumBack: laid · SumOn: laid · SumTurned: laid · TopFramed: laid.
  DERIVED. THE GIVEN ROWS OF THIS SEAT. 6 by the template 'for every input the law returns true; each argument reads behind the call as it read before'; 0 by the template 'total and deterministic' (their statements: YtdhiekhinimohaaDoorTotals.lean).
  GIVEN WITH THE SEED: the statements are not yours to turn. If you find one false, say at which input.
  Laid BY PROGRAM, IN A SANDBOX (cutbox-rows.mjs): the forced cells as the released guide's own fill.sh prints them over the translation 079ad25e90474c83… (all of the seat's roots in one cut). By AI agents, Wed Nov 11 2026. No macro, syntax, notation, axiom, sorry.
-/
import Derived.Test.YtdhiekhinimohaaDoorChecked
import GoSem.Claim
import GoSem.ClaimJoined
import GoSem.ClaimMapViews
import Derived.JoinedTies
import Derived.KernelRfl
namespace Go.Proofs.YtdhiekhinimohaaDoor
/- THE CELL 'sum', in the pinned program and in every row, IS THE sha256 OF THE DUMP (.gsa) THAT YtdhiekhinimohaaDoorProg.lean LOADS. Nothing in Lean hashes anything: it is a label: what it is worth is what the hold of that sum in a sandbox is worth. -/
noncomputable def Tryd.pinned : Pinned := { name := "ytdhiekhinimohaadoor", sum := "079ad25e90474c83aae865b757312c3888638c7f0c51426b70e54dc07854d95f", checked := Tryd.checked }
namespace Rows
def none {H : Type} : Left H := { results := [], args := [] }

/- WHAT THE LISTED PACKAGE-LEVEL VARIABLES READ AS WHEN THE CALL BEGINS. Each datum BY PROGRAM (the guide's laid-datum.mjs) off the statement by which the dump's own 'gosem.cut.vars' lays the variable. In a bare row this is a premise. The card (YtdhiekhinimohaaDoorCards.lean) ties it to the program's text. -/
def laid_bellman_sum_fourBits {H : Type} : DataW H := .agg [.lit (.int .u32 0), .lit (.int .u32 274646895), .lit (.int .u32 549293790), .lit (.int .u32 820201905), .lit (.int .u32 1098587580), .lit (.int .u32 1361435347), .lit (.int .u32 1640403810), .lit (.int .u32 1905808397), .lit (.int .u32 2197175160), .lit (.int .u32 2460548119), .lit (.int .u32 2722870694), .lit (.int .u32 2987750089), .lit (.int .u32 3280807620), .lit (.int .u32 3553878443), .lit (.int .u32 3811616794), .lit (.int .u32 4084100981)]

/-- 'bellmanlaw02.SumFrames': WHATEVER THE INPUT: true; the input reads as it did. -/
def sumFramesSpec : ChangeSpec := { name := "sumFrames", fn := fun _ => fun
  | [d1, d2] => { results := [.lit (.bool true)], args := [d1, d2] }
  | _ => none }
def sumFramesRow : OpenClaim := { program := "ytdhiekhinimohaadoor", sum := "079ad25e90474c83aae865b757312c3888638c7f0c51426b70e54dc07854d95f", func := "bellman/bellmanlaw02.SumFrames", spec := "sumFrames", named := ["bellman/sum.fourBits"], apart := false, laid := [("bellman/sum.fourBits", laid_bellman_sum_fourBits)] }
def SumFramesSaid : Prop := sumFramesRow.holds Tryd.pinned (OpenSpec.ofChange sumFramesSpec)

/-- ITS FALSE NEIGHBOUR: 'it returns false'. Refute it at one input. -/
def sumFramesWrong : ChangeSpec := { name := "sumFrames", fn := fun _ => fun
  | [d1, d2] => { results := [.lit (.bool false)], args := [d1, d2] }
  | _ => none }
def SumFramesWrongFalsely : Prop := sumFramesRow.holds Tryd.pinned (OpenSpec.ofChange sumFramesWrong)

/-- 'bellmanlaw02.SumPieces': WHATEVER THE INPUT: true; the input reads as it did. -/
def sumPiecesSpec : ChangeSpec := { name := "sumPieces", fn := fun _ => fun
  | [d1, d2, d3] => { results := [.lit (.bool true)], args := [d1, d2, d3] }
  | _ => none }
def sumPiecesRow : OpenClaim := { program := "ytdhiekhinimohaadoor", sum := "079ad25e90474c83aae865b757312c3888638c7f0c51426b70e54dc07854d95f", func := "bellman/bellmanlaw02.SumPieces", spec := "sumPieces", named := ["bellman/sum.fourBits"], apart := false, laid := [("bellman/sum.fourBits", laid_bellman_sum_fourBits)] }
def SumPiecesSaid : Prop := sumPiecesRow.holds Tryd.pinned (OpenSpec.ofChange sumPiecesSpec)

/-- ITS FALSE NEIGHBOUR: 'it returns false'. Refute it at one input. -/
def sumPiecesWrong : ChangeSpec := { name := "sumPieces", fn := fun _ => fun
  | [d1, d2, d3] => { results := [.lit (.bool false)], args := [d1, d2, d3] }
  | _ => none }
def SumPiecesWrongFalsely : Prop := sumPiecesRow.holds Tryd.pinned (OpenSpec.ofChange sumPiecesWrong)

/-- 'bellmanlaw02.SumBack': WHATEVER THE INPUT: true; the input reads as it did. -/
def sumBackSpec : ChangeSpec := { name := "sumBack", fn := fun _ => fun
  | [d1, d2] => { results := [.lit (.bool true)], args := [d1, d2] }
  | _ => none }
def sumBackRow : OpenClaim := { program := "ytdhiekhinimohaadoor", sum := "079ad25e90474c83aae865b757312c3888638c7f0c51426b70e54dc07854d95f", func := "bellman/bellmanlaw02.SumBack", spec := "sumBack", named := ["bellman/sum.fourBits"], apart := false, laid := [("bellman/sum.fourBits", laid_bellman_sum_fourBits)] }
def SumBackSaid : Prop := sumBackRow.holds Tryd.pinned (OpenSpec.ofChange sumBackSpec)

/-- ITS FALSE NEIGHBOUR: 'it returns false'. Refute it at one input. -/
def sumBackWrong : ChangeSpec := { name := "sumBack", fn := fun _ => fun
  | [d1, d2] => { results := [.lit (.bool false)], args := [d1, d2] }
  | _ => none }
def SumBackWrongFalsely : Prop := sumBackRow.holds Tryd.pinned (OpenSpec.ofChange sumBackWrong)

/-- 'bellmanlaw02.SumOn': WHATEVER THE INPUT: true; the input reads as it did. -/
def sumOnSpec : ChangeSpec := { name := "sumOn", fn := fun _ => fun
  | [d1, d2, d3, d4] => { results := [.lit (.bool true)], args := [d1, d2, d3, d4] }
  | _ => none }
def sumOnRow : OpenClaim := { program := "ytdhiekhinimohaadoor", sum := "079ad25e90474c83aae865b757312c3888638c7f0c51426b70e54dc07854d95f", func := "bellman/bellmanlaw02.SumOn", spec := "sumOn", named := ["bellman/sum.fourBits"], apart := false, laid := [("bellman/sum.fourBits", laid_bellman_sum_fourBits)] }
def SumOnSaid : Prop := sumOnRow.holds Tryd.pinned (OpenSpec.ofChange sumOnSpec)

/-- ITS FALSE NEIGHBOUR: 'it returns false'. Refute it at one input. -/
def sumOnWrong : ChangeSpec := { name := "sumOn", fn := fun _ => fun
  | [d1, d2, d3, d4] => { results := [.lit (.bool false)], args := [d1, d2, d3, d4] }
  | _ => none }
def SumOnWrongFalsely : Prop := sumOnRow.holds Tryd.pinned (OpenSpec.ofChange sumOnWrong)

/-- 'bellmanlaw02.SumTurned': WHATEVER THE INPUT: true; the input reads as it did. -/
def sumTurnedSpec : ChangeSpec := { name := "sumTurned", fn := fun _ => fun
  | [d1, d2, d3] => { results := [.lit (.bool true)], args := [d1, d2, d3] }
  | _ => none }
def sumTurnedRow : OpenClaim := { program := "ytdhiekhinimohaadoor", sum := "079ad25e90474c83aae865b757312c3888638c7f0c51426b70e54dc07854d95f", func := "bellman/bellmanlaw02.SumTurned", spec := "sumTurned", named := ["bellman/sum.fourBits"], apart := false, laid := [("bellman/sum.fourBits", laid_bellman_sum_fourBits)] }
def SumTurnedSaid : Prop := sumTurnedRow.holds Tryd.pinned (OpenSpec.ofChange sumTurnedSpec)

/-- ITS FALSE NEIGHBOUR: 'it returns false'. Refute it at one input. -/
def sumTurnedWrong : ChangeSpec := { name := "sumTurned", fn := fun _ => fun
  | [d1, d2, d3] => { results := [.lit (.bool false)], args := [d1, d2, d3] }
  | _ => none }
def SumTurnedWrongFalsely : Prop := sumTurnedRow.holds Tryd.pinned (OpenSpec.ofChange sumTurnedWrong)

/-- 'bellmantop.TopFramed': WHATEVER THE INPUT: true; the input reads as it did. -/
def topFramedSpec : ChangeSpec := { name := "topFramed", fn := fun _ => fun
  | [d1, d2, d3] => { results := [.lit (.bool true)], args := [d1, d2, d3] }
  | _ => none }
def topFramedRow : OpenClaim := { program := "ytdhiekhinimohaadoor", sum := "079ad25e90474c83aae865b757312c3888638c7f0c51426b70e54dc07854d95f", func := "bellman/bellmantop.TopFramed", spec := "topFramed", inPlace := ["internal/abi.NoEscape"], unfollowed := true, recurses := true, named := ["bellman/sum.fourBits"], apart := false, laid := [("bellman/sum.fourBits", laid_bellman_sum_fourBits)] }
def TopFramedSaid : Prop := topFramedRow.holds Tryd.pinned (OpenSpec.ofChange topFramedSpec)

/-- ITS FALSE NEIGHBOUR: 'it returns false'. Refute it at one input. -/
def topFramedWrong : ChangeSpec := { name := "topFramed", fn := fun _ => fun
  | [d1, d2, d3] => { results := [.lit (.bool false)], args := [d1, d2, d3] }
  | _ => none }
def TopFramedWrongFalsely : Prop := topFramedRow.holds Tryd.pinned (OpenSpec.ofChange topFramedWrong)

/- THE SECOND FORM. 'bulk': how many values and letters a reading holds, each counted each time it is reached (what is shared counts as often as it is met; a slice's spare places count too). A statement '..UptoSaid' is the law's where the arguments, and the package variables that the reading takes, are together of bulk at most 1048576: NARROWER than '..Said'. Prove '..Said' where nothing that the law and all that it calls make is longer than what came in: it says more and counts as full. Else prove '..UptoSaid'. A law counts once. -/
mutual
def uptoBulk {H : Type} : DataW H → Nat
  | .lit (.string bytes) => bytes.length + 1
  | .lit _ => 1
  | .nil => 1
  | .ptr d => uptoBulk d + 1
  | .slice elems spare => uptoBulkAll elems + uptoBulkAll spare + 1
  | .agg parts => uptoBulkAll parts + 1
  | .iface _ d => uptoBulk d + 1
  | .map entries => uptoBulkEntries entries + 1
  | .held _ => 1
def uptoBulkAll {H : Type} : List (DataW H) → Nat
  | [] => 0
  | d :: r => uptoBulk d + uptoBulkAll r
def uptoBulkEntries {H : Type} : List (Lit × DataW H) → Nat
  | [] => 0
  | x :: r => uptoBulkEntry x + uptoBulkEntries r
def uptoBulkEntry {H : Type} : Lit × DataW H → Nat
  | (.string bytes, d) => bytes.length + uptoBulk d + 1
  | (_, d) => uptoBulk d + 1
 end
def uptoSmall : (H : Type) → List (DataW H) → Bool := fun _ ds => decide (uptoBulkAll ds ≤ 1048576)
def OpenSpec.upto (s : _root_.Go.ChangeSpec) : _root_.Go.OpenSpec := { _root_.Go.OpenSpec.ofChange s with cond := some uptoSmall }

/-- 'bellmanlaw02.SumFrames', WHERE WHAT IT READS IS OF BULK AT MOST 1048576: true; the input reads as it did. -/
def sumFramesUptoRow : OpenClaim := { program := "ytdhiekhinimohaadoor", sum := "079ad25e90474c83aae865b757312c3888638c7f0c51426b70e54dc07854d95f", func := "bellman/bellmanlaw02.SumFrames", spec := "sumFrames", named := ["bellman/sum.fourBits"], apart := false, laid := [("bellman/sum.fourBits", laid_bellman_sum_fourBits)], narrowed := true }
def SumFramesUptoSaid : Prop := sumFramesUptoRow.holds Tryd.pinned (OpenSpec.upto sumFramesSpec)

/-- 'bellmanlaw02.SumPieces', WHERE WHAT IT READS IS OF BULK AT MOST 1048576: true; the input reads as it did. -/
def sumPiecesUptoRow : OpenClaim := { program := "ytdhiekhinimohaadoor", sum := "079ad25e90474c83aae865b757312c3888638c7f0c51426b70e54dc07854d95f", func := "bellman/bellmanlaw02.SumPieces", spec := "sumPieces", named := ["bellman/sum.fourBits"], apart := false, laid := [("bellman/sum.fourBits", laid_bellman_sum_fourBits)], narrowed := true }
def SumPiecesUptoSaid : Prop := sumPiecesUptoRow.holds Tryd.pinned (OpenSpec.upto sumPiecesSpec)

/-- 'bellmanlaw02.SumBack', WHERE WHAT IT READS IS OF BULK AT MOST 1048576: true; the input reads as it did. -/
def sumBackUptoRow : OpenClaim := { program := "ytdhiekhinimohaadoor", sum := "079ad25e90474c83aae865b757312c3888638c7f0c51426b70e54dc07854d95f", func := "bellman/bellmanlaw02.SumBack", spec := "sumBack", named := ["bellman/sum.fourBits"], apart := false, laid := [("bellman/sum.fourBits", laid_bellman_sum_fourBits)], narrowed := true }
def SumBackUptoSaid : Prop := sumBackUptoRow.holds Tryd.pinned (OpenSpec.upto sumBackSpec)

/-- 'bellmanlaw02.SumOn', WHERE WHAT IT READS IS OF BULK AT MOST 1048576: true; the input reads as it did. -/
def sumOnUptoRow : OpenClaim := { program := "ytdhiekhinimohaadoor", sum := "079ad25e90474c83aae865b757312c3888638c7f0c51426b70e54dc07854d95f", func := "bellman/bellmanlaw02.SumOn", spec := "sumOn", named := ["bellman/sum.fourBits"], apart := false, laid := [("bellman/sum.fourBits", laid_bellman_sum_fourBits)], narrowed := true }
def SumOnUptoSaid : Prop := sumOnUptoRow.holds Tryd.pinned (OpenSpec.upto sumOnSpec)

/-- 'bellmanlaw02.SumTurned', WHERE WHAT IT READS IS OF BULK AT MOST 1048576: true; the input reads as it did. -/
def sumTurnedUptoRow : OpenClaim := { program := "ytdhiekhinimohaadoor", sum := "079ad25e90474c83aae865b757312c3888638c7f0c51426b70e54dc07854d95f", func := "bellman/bellmanlaw02.SumTurned", spec := "sumTurned", named := ["bellman/sum.fourBits"], apart := false, laid := [("bellman/sum.fourBits", laid_bellman_sum_fourBits)], narrowed := true }
def SumTurnedUptoSaid : Prop := sumTurnedUptoRow.holds Tryd.pinned (OpenSpec.upto sumTurnedSpec)

/-- 'bellmantop.TopFramed', WHERE WHAT IT READS IS OF BULK AT MOST 1048576: true; the input reads as it did. -/
def topFramedUptoRow : OpenClaim := { program := "ytdhiekhinimohaadoor", sum := "079ad25e90474c83aae865b757312c3888638c7f0c51426b70e54dc07854d95f", func := "bellman/bellmantop.TopFramed", spec := "topFramed", inPlace := ["internal/abi.NoEscape"], unfollowed := true, recurses := true, named := ["bellman/sum.fourBits"], apart := false, laid := [("bellman/sum.fourBits", laid_bellman_sum_fourBits)], narrowed := true }
def TopFramedUptoSaid : Prop := topFramedUptoRow.holds Tryd.pinned (OpenSpec.upto topFramedSpec)

end Rows
end Go.Proofs.YtdhiekhinimohaaDoor
