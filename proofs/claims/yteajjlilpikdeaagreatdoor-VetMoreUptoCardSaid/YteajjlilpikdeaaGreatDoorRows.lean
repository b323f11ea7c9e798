/-
  NARROWER THAN 'FOR EVERY INPUT', by the rows' own cells (each row's printed sentence says how): TreeParses: laid · TreeTells: loops, laid · TreeBeside: loops, laid · VetTells: loops, laid · VetMore: loops, laid · VetSizes: loops, laid · VetWithin: loops, laid · TopGrown: laid.
  DERIVED. THE GIVEN ROWS OF THIS SEAT. 8 by the template 'for every input the law returns true; each argument reads behind the call as it read before'; 0 by the template 'total and deterministic' (their statements: YteajjlilpikdeaaGreatDoorTotals.lean).
  GIVEN WITH THE SEED: the statements are not yours to turn. If you find one false, say at which input.
  Laid BY PROGRAM, IN A SANDBOX (cutbox-rows.mjs): the forced cells as the released guide's own fill.sh prints them over the translation 3a9597f0c7fed51d… (all of the seat's roots in one cut). By AI agents, Wed Nov 11 2026. No macro, syntax, notation, axiom, sorry.
-/
import Derived.Test.YteajjlilpikdeaaGreatDoorChecked
import GoSem.PinnedTables
import GoSem.Claim
import GoSem.ClaimJoined
import GoSem.ClaimMapViews
import Derived.JoinedTies
import Derived.KernelRfl
namespace Go.Proofs.YteajjlilpikdeaaGreatDoor
/- THE CELL 'sum', in the pinned program and in every row, IS THE sha256 OF THE DUMP (.gsa) THAT YteajjlilpikdeaaGreatDoorProg.lean LOADS. Nothing in Lean hashes anything: it is a label: what it is worth is what the hold of that sum in a sandbox is worth. -/
noncomputable def Tryz.pinned : Pinned := { name := "yteajjlilpikdeaagreatdoor", sum := "3a9597f0c7fed51d3f9def4bf5d8169b91f4af402e798a4033dea738a31ac10a", checked := Tryz.checked }
namespace Rows
def none {H : Type} : Left H := { results := [], args := [] }

/- WHAT THE LISTED PACKAGE-LEVEL VARIABLES READ AS WHEN THE CALL BEGINS. Each datum BY PROGRAM (the guide's laid-datum.mjs) off the statement by which the dump's own 'gosem.cut.vars' lays the variable. In a bare row this is a premise. The card (YteajjlilpikdeaaGreatDoorCards.lean) ties it to the program's text. -/
def laid_unicode_utf8_acceptRanges {H : Type} : DataW H := .agg [.agg [.lit (.int .u8 128), .lit (.int .u8 191)], .agg [.lit (.int .u8 160), .lit (.int .u8 191)], .agg [.lit (.int .u8 128), .lit (.int .u8 159)], .agg [.lit (.int .u8 144), .lit (.int .u8 191)], .agg [.lit (.int .u8 128), .lit (.int .u8 143)], .agg [.lit (.int .u8 0), .lit (.int .u8 0)], .agg [.lit (.int .u8 0), .lit (.int .u8 0)], .agg [.lit (.int .u8 0), .lit (.int .u8 0)], .agg [.lit (.int .u8 0), .lit (.int .u8 0)], .agg [.lit (.int .u8 0), .lit (.int .u8 0)], .agg [.lit (.int .u8 0), .lit (.int .u8 0)], .agg [.lit (.int .u8 0), .lit (.int .u8 0)], .agg [.lit (.int .u8 0), .lit (.int .u8 0)], .agg [.lit (.int .u8 0), .lit (.int .u8 0)], .agg [.lit (.int .u8 0), .lit (.int .u8 0)], .agg [.lit (.int .u8 0), .lit (.int .u8 0)]]
def laid_bellman_scan_keywords {H : Type} : DataW H := .agg [.lit (.string []), .lit (.string []), .lit (.string []), .lit (.string [105, 102]), .lit (.string [101, 108, 115, 101]), .lit (.string [101, 97, 99, 104]), .lit (.string [101, 110, 100])]
def laid_bellman_tree_errStray {H : Type} : DataW H := .iface "*errors.errorString" (.ptr (.agg [.lit (.string [97, 32, 116, 97, 103, 32, 105, 115, 32, 119, 105, 116, 104, 111, 117, 116, 32, 116, 104, 101, 32, 111, 110, 101, 32, 116, 104, 97, 116, 32, 105, 116, 32, 98, 101, 108, 111, 110, 103, 115, 32, 119, 105, 116, 104])]))
def laid_bellman_tree_errDeep {H : Type} : DataW H := .iface "*errors.errorString" (.ptr (.agg [.lit (.string [116, 104, 101, 114, 101, 32, 97, 114, 101, 32, 116, 111, 111, 32, 109, 97, 110, 121, 32, 108, 101, 118, 101, 108, 115, 44, 32, 111, 114, 32, 110, 111, 100, 101, 115])]))
/-- One of Go's own tables, pinned by name: the form's constant. -/
def laid_unicode_utf8_first : DataW Unit := Go.Pinned.utf8First

/-- 'bellmanlaw11.TreeParses': WHATEVER THE INPUT: true; the input reads as it did. -/
def treeParsesSpec : ChangeSpec := { name := "treeParses", fn := fun _ => fun
  | [d1, d2] => { results := [.lit (.bool true)], args := [d1, d2] }
  | _ => none }
def treeParsesRow : OpenClaim := { program := "yteajjlilpikdeaagreatdoor", sum := "3a9597f0c7fed51d3f9def4bf5d8169b91f4af402e798a4033dea738a31ac10a", func := "bellman/bellmanlaw11.TreeParses", spec := "treeParses", inPlace := ["internal/bytealg.IndexByteString", "internal/bytealg.IndexString", "internal/bytealg.CountString", "internal/reflectlite.TypeOf", "internal/abi.NoEscape", "internal/bytealg.MakeNoZero"], unfollowed := true, recurses := true, named := ["internal/bytealg.MaxLen", "bellman/scan.keywords", "unicode/utf8.first", "unicode/utf8.acceptRanges", "bellman/tree.errStray", "bellman/tree.errDeep"], apart := false, laid := [("unicode/utf8.acceptRanges", laid_unicode_utf8_acceptRanges), ("bellman/scan.keywords", laid_bellman_scan_keywords), ("bellman/tree.errStray", laid_bellman_tree_errStray), ("bellman/tree.errDeep", laid_bellman_tree_errDeep), ("unicode/utf8.first", laid_unicode_utf8_first)] }
def TreeParsesSaid : Prop := treeParsesRow.holds Tryz.pinned (OpenSpec.ofChange treeParsesSpec)

/-- ITS FALSE NEIGHBOUR: 'it returns false'. Refute it at one input. -/
def treeParsesWrong : ChangeSpec := { name := "treeParses", fn := fun _ => fun
  | [d1, d2] => { results := [.lit (.bool false)], args := [d1, d2] }
  | _ => none }
def TreeParsesWrongFalsely : Prop := treeParsesRow.holds Tryz.pinned (OpenSpec.ofChange treeParsesWrong)

/-- 'bellmanlaw11.TreeTells': WHATEVER THE INPUT: true; the input reads as it did. -/
def treeTellsSpec : ChangeSpec := { name := "treeTells", fn := fun _ => fun
  | [d] => { results := [.lit (.bool true)], args := [d] }
  | _ => none }
def treeTellsRow : OpenClaim := { program := "yteajjlilpikdeaagreatdoor", sum := "3a9597f0c7fed51d3f9def4bf5d8169b91f4af402e798a4033dea738a31ac10a", func := "bellman/bellmanlaw11.TreeTells", spec := "treeTells", inPlace := ["internal/bytealg.IndexByteString", "internal/bytealg.IndexString", "internal/abi.NoEscape", "internal/bytealg.MakeNoZero", "internal/bytealg.CountString", "internal/reflectlite.TypeOf"], unfollowed := true, recurses := true, named := ["internal/bytealg.MaxLen", "bellman/scan.keywords", "unicode/utf8.first", "unicode/utf8.acceptRanges", "bellman/tree.errStray", "bellman/tree.errDeep"], loops := true, apart := false, laid := [("unicode/utf8.acceptRanges", laid_unicode_utf8_acceptRanges), ("bellman/scan.keywords", laid_bellman_scan_keywords), ("bellman/tree.errStray", laid_bellman_tree_errStray), ("bellman/tree.errDeep", laid_bellman_tree_errDeep), ("unicode/utf8.first", laid_unicode_utf8_first)] }
def TreeTellsSaid : Prop := treeTellsRow.holds Tryz.pinned (OpenSpec.ofChange treeTellsSpec)

/-- ITS FALSE NEIGHBOUR: 'it returns false'. Refute it at one input. -/
def treeTellsWrong : ChangeSpec := { name := "treeTells", fn := fun _ => fun
  | [d] => { results := [.lit (.bool false)], args := [d] }
  | _ => none }
def TreeTellsWrongFalsely : Prop := treeTellsRow.holds Tryz.pinned (OpenSpec.ofChange treeTellsWrong)

/-- 'bellmanlaw11.TreeBeside': WHATEVER THE INPUT: true; the input reads as it did. -/
def treeBesideSpec : ChangeSpec := { name := "treeBeside", fn := fun _ => fun
  | [d1, d2] => { results := [.lit (.bool true)], args := [d1, d2] }
  | _ => none }
def treeBesideRow : OpenClaim := { program := "yteajjlilpikdeaagreatdoor", sum := "3a9597f0c7fed51d3f9def4bf5d8169b91f4af402e798a4033dea738a31ac10a", func := "bellman/bellmanlaw11.TreeBeside", spec := "treeBeside", inPlace := ["internal/bytealg.IndexByteString", "internal/bytealg.IndexString", "internal/bytealg.CountString", "internal/reflectlite.TypeOf", "internal/abi.NoEscape", "internal/bytealg.MakeNoZero"], unfollowed := true, recurses := true, named := ["internal/bytealg.MaxLen", "bellman/scan.keywords", "unicode/utf8.first", "unicode/utf8.acceptRanges", "bellman/tree.errStray", "bellman/tree.errDeep"], loops := true, apart := false, laid := [("unicode/utf8.acceptRanges", laid_unicode_utf8_acceptRanges), ("bellman/scan.keywords", laid_bellman_scan_keywords), ("bellman/tree.errStray", laid_bellman_tree_errStray), ("bellman/tree.errDeep", laid_bellman_tree_errDeep), ("unicode/utf8.first", laid_unicode_utf8_first)] }
def TreeBesideSaid : Prop := treeBesideRow.holds Tryz.pinned (OpenSpec.ofChange treeBesideSpec)

/-- ITS FALSE NEIGHBOUR: 'it returns false'. Refute it at one input. -/
def treeBesideWrong : ChangeSpec := { name := "treeBeside", fn := fun _ => fun
  | [d1, d2] => { results := [.lit (.bool false)], args := [d1, d2] }
  | _ => none }
def TreeBesideWrongFalsely : Prop := treeBesideRow.holds Tryz.pinned (OpenSpec.ofChange treeBesideWrong)

/-- 'bellmanlaw12.VetTells': WHATEVER THE INPUT: true; the input reads as it did. -/
def vetTellsSpec : ChangeSpec := { name := "vetTells", fn := fun _ => fun
  | [d1, d2] => { results := [.lit (.bool true)], args := [d1, d2] }
  | _ => none }
def vetTellsRow : OpenClaim := { program := "yteajjlilpikdeaagreatdoor", sum := "3a9597f0c7fed51d3f9def4bf5d8169b91f4af402e798a4033dea738a31ac10a", func := "bellman/bellmanlaw12.VetTells", spec := "vetTells", inPlace := ["internal/bytealg.IndexByteString", "internal/bytealg.IndexString", "internal/bytealg.CountString", "internal/reflectlite.TypeOf"], unfollowed := true, recurses := true, named := ["internal/bytealg.MaxLen", "bellman/scan.keywords", "unicode/utf8.first", "unicode/utf8.acceptRanges", "bellman/tree.errStray", "bellman/tree.errDeep"], loops := true, apart := false, laid := [("unicode/utf8.acceptRanges", laid_unicode_utf8_acceptRanges), ("bellman/scan.keywords", laid_bellman_scan_keywords), ("bellman/tree.errStray", laid_bellman_tree_errStray), ("bellman/tree.errDeep", laid_bellman_tree_errDeep), ("unicode/utf8.first", laid_unicode_utf8_first)] }
def VetTellsSaid : Prop := vetTellsRow.holds Tryz.pinned (OpenSpec.ofChange vetTellsSpec)

/-- ITS FALSE NEIGHBOUR: 'it returns false'. Refute it at one input. -/
def vetTellsWrong : ChangeSpec := { name := "vetTells", fn := fun _ => fun
  | [d1, d2] => { results := [.lit (.bool false)], args := [d1, d2] }
  | _ => none }
def VetTellsWrongFalsely : Prop := vetTellsRow.holds Tryz.pinned (OpenSpec.ofChange vetTellsWrong)

/-- 'bellmanlaw12.VetMore': WHATEVER THE INPUT: true; the input reads as it did. -/
def vetMoreSpec : ChangeSpec := { name := "vetMore", fn := fun _ => fun
  | [d1, d2, d3] => { results := [.lit (.bool true)], args := [d1, d2, d3] }
  | _ => none }
def vetMoreRow : OpenClaim := { program := "yteajjlilpikdeaagreatdoor", sum := "3a9597f0c7fed51d3f9def4bf5d8169b91f4af402e798a4033dea738a31ac10a", func := "bellman/bellmanlaw12.VetMore", spec := "vetMore", inPlace := ["internal/bytealg.IndexByteString", "internal/bytealg.IndexString", "internal/bytealg.CountString", "internal/reflectlite.TypeOf"], unfollowed := true, recurses := true, named := ["internal/bytealg.MaxLen", "bellman/scan.keywords", "unicode/utf8.first", "unicode/utf8.acceptRanges", "bellman/tree.errStray", "bellman/tree.errDeep"], loops := true, apart := false, laid := [("unicode/utf8.acceptRanges", laid_unicode_utf8_acceptRanges), ("bellman/scan.keywords", laid_bellman_scan_keywords), ("bellman/tree.errStray", laid_bellman_tree_errStray), ("bellman/tree.errDeep", laid_bellman_tree_errDeep), ("unicode/utf8.first", laid_unicode_utf8_first)] }
def VetMoreSaid : Prop := vetMoreRow.holds Tryz.pinned (OpenSpec.ofChange vetMoreSpec)

/-- ITS FALSE NEIGHBOUR: 'it returns false'. Refute it at one input. -/
def vetMoreWrong : ChangeSpec := { name := "vetMore", fn := fun _ => fun
  | [d1, d2, d3] => { results := [.lit (.bool false)], args := [d1, d2, d3] }
  | _ => none }
def VetMoreWrongFalsely : Prop := vetMoreRow.holds Tryz.pinned (OpenSpec.ofChange vetMoreWrong)

/-- 'bellmanlaw12.VetSizes': WHATEVER THE INPUT: true; the input reads as it did. -/
def vetSizesSpec : ChangeSpec := { name := "vetSizes", fn := fun _ => fun
  | [d1, d2] => { results := [.lit (.bool true)], args := [d1, d2] }
  | _ => none }
def vetSizesRow : OpenClaim := { program := "yteajjlilpikdeaagreatdoor", sum := "3a9597f0c7fed51d3f9def4bf5d8169b91f4af402e798a4033dea738a31ac10a", func := "bellman/bellmanlaw12.VetSizes", spec := "vetSizes", inPlace := ["internal/bytealg.IndexByteString", "internal/bytealg.IndexString", "internal/bytealg.CountString", "internal/reflectlite.TypeOf"], unfollowed := true, recurses := true, named := ["internal/bytealg.MaxLen", "bellman/scan.keywords", "unicode/utf8.first", "unicode/utf8.acceptRanges", "bellman/tree.errStray", "bellman/tree.errDeep"], loops := true, apart := false, laid := [("unicode/utf8.acceptRanges", laid_unicode_utf8_acceptRanges), ("bellman/scan.keywords", laid_bellman_scan_keywords), ("bellman/tree.errStray", laid_bellman_tree_errStray), ("bellman/tree.errDeep", laid_bellman_tree_errDeep), ("unicode/utf8.first", laid_unicode_utf8_first)] }
def VetSizesSaid : Prop := vetSizesRow.holds Tryz.pinned (OpenSpec.ofChange vetSizesSpec)

/-- ITS FALSE NEIGHBOUR: 'it returns false'. Refute it at one input. -/
def vetSizesWrong : ChangeSpec := { name := "vetSizes", fn := fun _ => fun
  | [d1, d2] => { results := [.lit (.bool false)], args := [d1, d2] }
  | _ => none }
def VetSizesWrongFalsely : Prop := vetSizesRow.holds Tryz.pinned (OpenSpec.ofChange vetSizesWrong)

/-- 'bellmanlaw12.VetWithin': WHATEVER THE INPUT: true; the input reads as it did. -/
def vetWithinSpec : ChangeSpec := { name := "vetWithin", fn := fun _ => fun
  | [d] => { results := [.lit (.bool true)], args := [d] }
  | _ => none }
def vetWithinRow : OpenClaim := { program := "yteajjlilpikdeaagreatdoor", sum := "3a9597f0c7fed51d3f9def4bf5d8169b91f4af402e798a4033dea738a31ac10a", func := "bellman/bellmanlaw12.VetWithin", spec := "vetWithin", inPlace := ["internal/bytealg.IndexByteString", "internal/bytealg.IndexString", "internal/bytealg.CountString", "internal/reflectlite.TypeOf"], unfollowed := true, recurses := true, named := ["internal/bytealg.MaxLen", "bellman/scan.keywords", "unicode/utf8.first", "unicode/utf8.acceptRanges", "bellman/tree.errStray", "bellman/tree.errDeep"], loops := true, apart := false, laid := [("unicode/utf8.acceptRanges", laid_unicode_utf8_acceptRanges), ("bellman/scan.keywords", laid_bellman_scan_keywords), ("bellman/tree.errStray", laid_bellman_tree_errStray), ("bellman/tree.errDeep", laid_bellman_tree_errDeep), ("unicode/utf8.first", laid_unicode_utf8_first)] }
def VetWithinSaid : Prop := vetWithinRow.holds Tryz.pinned (OpenSpec.ofChange vetWithinSpec)

/-- ITS FALSE NEIGHBOUR: 'it returns false'. Refute it at one input. -/
def vetWithinWrong : ChangeSpec := { name := "vetWithin", fn := fun _ => fun
  | [d] => { results := [.lit (.bool false)], args := [d] }
  | _ => none }
def VetWithinWrongFalsely : Prop := vetWithinRow.holds Tryz.pinned (OpenSpec.ofChange vetWithinWrong)

/-- 'bellmantop.TopGrown': WHATEVER THE INPUT: true; the input reads as it did. -/
def topGrownSpec : ChangeSpec := { name := "topGrown", fn := fun _ => fun
  | [d] => { results := [.lit (.bool true)], args := [d] }
  | _ => none }
def topGrownRow : OpenClaim := { program := "yteajjlilpikdeaagreatdoor", sum := "3a9597f0c7fed51d3f9def4bf5d8169b91f4af402e798a4033dea738a31ac10a", func := "bellman/bellmantop.TopGrown", spec := "topGrown", inPlace := ["internal/bytealg.IndexByteString", "internal/bytealg.IndexString", "internal/bytealg.CountString", "internal/reflectlite.TypeOf", "internal/abi.NoEscape", "internal/bytealg.MakeNoZero"], unfollowed := true, recurses := true, named := ["internal/bytealg.MaxLen", "bellman/scan.keywords", "unicode/utf8.first", "unicode/utf8.acceptRanges", "bellman/tree.errStray", "bellman/tree.errDeep"], apart := false, laid := [("unicode/utf8.acceptRanges", laid_unicode_utf8_acceptRanges), ("bellman/scan.keywords", laid_bellman_scan_keywords), ("bellman/tree.errStray", laid_bellman_tree_errStray), ("bellman/tree.errDeep", laid_bellman_tree_errDeep), ("unicode/utf8.first", laid_unicode_utf8_first)] }
def TopGrownSaid : Prop := topGrownRow.holds Tryz.pinned (OpenSpec.ofChange topGrownSpec)

/-- ITS FALSE NEIGHBOUR: 'it returns false'. Refute it at one input. -/
def topGrownWrong : ChangeSpec := { name := "topGrown", fn := fun _ => fun
  | [d] => { results := [.lit (.bool false)], args := [d] }
  | _ => none }
def TopGrownWrongFalsely : Prop := topGrownRow.holds Tryz.pinned (OpenSpec.ofChange topGrownWrong)

/- THE SECOND FORM. 'bulk': how many values and letters a reading holds, each counted each time it is reached (what is shared counts as often as it is met; a slice's spare places count too). A statement '..UptoSaid' is the law's where the arguments, and the package variables that the reading takes, are together of bulk at most 1048576: NARROWER than '..Said'. Prove '..Said' where nothing that the law and all that it calls make is longer than what came in: it says more and counts as full. Else prove '..UptoSaid'. A law counts once. -/
mutual
def uptoBulk {H : Type} : DataW H → Nat
  | .lit (.string bytes) => bytes.length + 1
  | .lit _ => 1
  | .nil => 1
  | .ptr d => uptoBulk d + 1
  | .slice elems spare => uptoBulkAll elems + uptoBulkAll spare + 1
  | .agg parts => uptoBulkAll parts + 1
  | .iface _ d => uptoBulk d + 1
  | .map entries => uptoBulkEntries entries + 1
  | .held _ => 1
def uptoBulkAll {H : Type} : List (DataW H) → Nat
  | [] => 0
  | d :: r => uptoBulk d + uptoBulkAll r
def uptoBulkEntries {H : Type} : List (Lit × DataW H) → Nat
  | [] => 0
  | x :: r => uptoBulkEntry x + uptoBulkEntries r
def uptoBulkEntry {H : Type} : Lit × DataW H → Nat
  | (.string bytes, d) => bytes.length + uptoBulk d + 1
  | (_, d) => uptoBulk d + 1
 end
def uptoSmall : (H : Type) → List (DataW H) → Bool := fun _ ds => decide (uptoBulkAll ds ≤ 1048576)
def OpenSpec.upto (s : _root_.Go.ChangeSpec) : _root_.Go.OpenSpec := { _root_.Go.OpenSpec.ofChange s with cond := some uptoSmall }

/-- 'bellmanlaw11.TreeParses', WHERE WHAT IT READS IS OF BULK AT MOST 1048576: true; the input reads as it did. -/
def treeParsesUptoRow : OpenClaim := { program := "yteajjlilpikdeaagreatdoor", sum := "3a9597f0c7fed51d3f9def4bf5d8169b91f4af402e798a4033dea738a31ac10a", func := "bellman/bellmanlaw11.TreeParses", spec := "treeParses", inPlace := ["internal/bytealg.IndexByteString", "internal/bytealg.IndexString", "internal/bytealg.CountString", "internal/reflectlite.TypeOf", "internal/abi.NoEscape", "internal/bytealg.MakeNoZero"], unfollowed := true, recurses := true, named := ["internal/bytealg.MaxLen", "bellman/scan.keywords", "unicode/utf8.first", "unicode/utf8.acceptRanges", "bellman/tree.errStray", "bellman/tree.errDeep"], apart := false, laid := [("unicode/utf8.acceptRanges", laid_unicode_utf8_acceptRanges), ("bellman/scan.keywords", laid_bellman_scan_keywords), ("bellman/tree.errStray", laid_bellman_tree_errStray), ("bellman/tree.errDeep", laid_bellman_tree_errDeep), ("unicode/utf8.first", laid_unicode_utf8_first)], narrowed := true }
def TreeParsesUptoSaid : Prop := treeParsesUptoRow.holds Tryz.pinned (OpenSpec.upto treeParsesSpec)

/-- 'bellmanlaw11.TreeTells', WHERE WHAT IT READS IS OF BULK AT MOST 1048576: true; the input reads as it did. -/
def treeTellsUptoRow : OpenClaim := { program := "yteajjlilpikdeaagreatdoor", sum := "3a9597f0c7fed51d3f9def4bf5d8169b91f4af402e798a4033dea738a31ac10a", func := "bellman/bellmanlaw11.TreeTells", spec := "treeTells", inPlace := ["internal/bytealg.IndexByteString", "internal/bytealg.IndexString", "internal/abi.NoEscape", "internal/bytealg.MakeNoZero", "internal/bytealg.CountString", "internal/reflectlite.TypeOf"], unfollowed := true, recurses := true, named := ["internal/bytealg.MaxLen", "bellman/scan.keywords", "unicode/utf8.first", "unicode/utf8.acceptRanges", "bellman/tree.errStray", "bellman/tree.errDeep"], loops := true, apart := false, laid := [("unicode/utf8.acceptRanges", laid_unicode_utf8_acceptRanges), ("bellman/scan.keywords", laid_bellman_scan_keywords), ("bellman/tree.errStray", laid_bellman_tree_errStray), ("bellman/tree.errDeep", laid_bellman_tree_errDeep), ("unicode/utf8.first", laid_unicode_utf8_first)], narrowed := true }
def TreeTellsUptoSaid : Prop := treeTellsUptoRow.holds Tryz.pinned (OpenSpec.upto treeTellsSpec)

/-- 'bellmanlaw11.TreeBeside', WHERE WHAT IT READS IS OF BULK AT MOST 1048576: true; the input reads as it did. -/
def treeBesideUptoRow : OpenClaim := { program := "yteajjlilpikdeaagreatdoor", sum := "3a9597f0c7fed51d3f9def4bf5d8169b91f4af402e798a4033dea738a31ac10a", func := "bellman/bellmanlaw11.TreeBeside", spec := "treeBeside", inPlace := ["internal/bytealg.IndexByteString", "internal/bytealg.IndexString", "internal/bytealg.CountString", "internal/reflectlite.TypeOf", "internal/abi.NoEscape", "internal/bytealg.MakeNoZero"], unfollowed := true, recurses := true, named := ["internal/bytealg.MaxLen", "bellman/scan.keywords", "unicode/utf8.first", "unicode/utf8.acceptRanges", "bellman/tree.errStray", "bellman/tree.errDeep"], loops := true, apart := false, laid := [("unicode/utf8.acceptRanges", laid_unicode_utf8_acceptRanges), ("bellman/scan.keywords", laid_bellman_scan_keywords), ("bellman/tree.errStray", laid_bellman_tree_errStray), ("bellman/tree.errDeep", laid_bellman_tree_errDeep), ("unicode/utf8.first", laid_unicode_utf8_first)], narrowed := true }
def TreeBesideUptoSaid : Prop := treeBesideUptoRow.holds Tryz.pinned (OpenSpec.upto treeBesideSpec)

/-- 'bellmanlaw12.VetTells', WHERE WHAT IT READS IS OF BULK AT MOST 1048576: true; the input reads as it did. -/
def vetTellsUptoRow : OpenClaim := { program := "yteajjlilpikdeaagreatdoor", sum := "3a9597f0c7fed51d3f9def4bf5d8169b91f4af402e798a4033dea738a31ac10a", func := "bellman/bellmanlaw12.VetTells", spec := "vetTells", inPlace := ["internal/bytealg.IndexByteString", "internal/bytealg.IndexString", "internal/bytealg.CountString", "internal/reflectlite.TypeOf"], unfollowed := true, recurses := true, named := ["internal/bytealg.MaxLen", "bellman/scan.keywords", "unicode/utf8.first", "unicode/utf8.acceptRanges", "bellman/tree.errStray", "bellman/tree.errDeep"], loops := true, apart := false, laid := [("unicode/utf8.acceptRanges", laid_unicode_utf8_acceptRanges), ("bellman/scan.keywords", laid_bellman_scan_keywords), ("bellman/tree.errStray", laid_bellman_tree_errStray), ("bellman/tree.errDeep", laid_bellman_tree_errDeep), ("unicode/utf8.first", laid_unicode_utf8_first)], narrowed := true }
def VetTellsUptoSaid : Prop := vetTellsUptoRow.holds Tryz.pinned (OpenSpec.upto vetTellsSpec)

/-- 'bellmanlaw12.VetMore', WHERE WHAT IT READS IS OF BULK AT MOST 1048576: true; the input reads as it did. -/
def vetMoreUptoRow : OpenClaim := { program := "yteajjlilpikdeaagreatdoor", sum := "3a9597f0c7fed51d3f9def4bf5d8169b91f4af402e798a4033dea738a31ac10a", func := "bellman/bellmanlaw12.VetMore", spec := "vetMore", inPlace := ["internal/bytealg.IndexByteString", "internal/bytealg.IndexString", "internal/bytealg.CountString", "internal/reflectlite.TypeOf"], unfollowed := true, recurses := true, named := ["internal/bytealg.MaxLen", "bellman/scan.keywords", "unicode/utf8.first", "unicode/utf8.acceptRanges", "bellman/tree.errStray", "bellman/tree.errDeep"], loops := true, apart := false, laid := [("unicode/utf8.acceptRanges", laid_unicode_utf8_acceptRanges), ("bellman/scan.keywords", laid_bellman_scan_keywords), ("bellman/tree.errStray", laid_bellman_tree_errStray), ("bellman/tree.errDeep", laid_bellman_tree_errDeep), ("unicode/utf8.first", laid_unicode_utf8_first)], narrowed := true }
def VetMoreUptoSaid : Prop := vetMoreUptoRow.holds Tryz.pinned (OpenSpec.upto vetMoreSpec)

/-- 'bellmanlaw12.VetSizes', WHERE WHAT IT READS IS OF BULK AT MOST 1048576: true; the input reads as it did. -/
def vetSizesUptoRow : OpenClaim := { program := "yteajjlilpikdeaagreatdoor", sum := "3a9597f0c7fed51d3f9def4bf5d8169b91f4af402e798a4033dea738a31ac10a", func := "bellman/bellmanlaw12.VetSizes", spec := "vetSizes", inPlace := ["internal/bytealg.IndexByteString", "internal/bytealg.IndexString", "internal/bytealg.CountString", "internal/reflectlite.TypeOf"], unfollowed := true, recurses := true, named := ["internal/bytealg.MaxLen", "bellman/scan.keywords", "unicode/utf8.first", "unicode/utf8.acceptRanges", "bellman/tree.errStray", "bellman/tree.errDeep"], loops := true, apart := false, laid := [("unicode/utf8.acceptRanges", laid_unicode_utf8_acceptRanges), ("bellman/scan.keywords", laid_bellman_scan_keywords), ("bellman/tree.errStray", laid_bellman_tree_errStray), ("bellman/tree.errDeep", laid_bellman_tree_errDeep), ("unicode/utf8.first", laid_unicode_utf8_first)], narrowed := true }
def VetSizesUptoSaid : Prop := vetSizesUptoRow.holds Tryz.pinned (OpenSpec.upto vetSizesSpec)

/-- 'bellmanlaw12.VetWithin', WHERE WHAT IT READS IS OF BULK AT MOST 1048576: true; the input reads as it did. -/
def vetWithinUptoRow : OpenClaim := { program := "yteajjlilpikdeaagreatdoor", sum := "3a9597f0c7fed51d3f9def4bf5d8169b91f4af402e798a4033dea738a31ac10a", func := "bellman/bellmanlaw12.VetWithin", spec := "vetWithin", inPlace := ["internal/bytealg.IndexByteString", "internal/bytealg.IndexString", "internal/bytealg.CountString", "internal/reflectlite.TypeOf"], unfollowed := true, recurses := true, named := ["internal/bytealg.MaxLen", "bellman/scan.keywords", "unicode/utf8.first", "unicode/utf8.acceptRanges", "bellman/tree.errStray", "bellman/tree.errDeep"], loops := true, apart := false, laid := [("unicode/utf8.acceptRanges", laid_unicode_utf8_acceptRanges), ("bellman/scan.keywords", laid_bellman_scan_keywords), ("bellman/tree.errStray", laid_bellman_tree_errStray), ("bellman/tree.errDeep", laid_bellman_tree_errDeep), ("unicode/utf8.first", laid_unicode_utf8_first)], narrowed := true }
def VetWithinUptoSaid : Prop := vetWithinUptoRow.holds Tryz.pinned (OpenSpec.upto vetWithinSpec)

/-- 'bellmantop.TopGrown', WHERE WHAT IT READS IS OF BULK AT MOST 1048576: true; the input reads as it did. -/
def topGrownUptoRow : OpenClaim := { program := "yteajjlilpikdeaagreatdoor", sum := "3a9597f0c7fed51d3f9def4bf5d8169b91f4af402e798a4033dea738a31ac10a", func := "bellman/bellmantop.TopGrown", spec := "topGrown", inPlace := ["internal/bytealg.IndexByteString", "internal/bytealg.IndexString", "internal/bytealg.CountString", "internal/reflectlite.TypeOf", "internal/abi.NoEscape", "internal/bytealg.MakeNoZero"], unfollowed := true, recurses := true, named := ["internal/bytealg.MaxLen", "bellman/scan.keywords", "unicode/utf8.first", "unicode/utf8.acceptRanges", "bellman/tree.errStray", "bellman/tree.errDeep"], apart := false, laid := [("unicode/utf8.acceptRanges", laid_unicode_utf8_acceptRanges), ("bellman/scan.keywords", laid_bellman_scan_keywords), ("bellman/tree.errStray", laid_bellman_tree_errStray), ("bellman/tree.errDeep", laid_bellman_tree_errDeep), ("unicode/utf8.first", laid_unicode_utf8_first)], narrowed := true }
def TopGrownUptoSaid : Prop := topGrownUptoRow.holds Tryz.pinned (OpenSpec.upto topGrownSpec)

end Rows
end Go.Proofs.YteajjlilpikdeaaGreatDoor
