
/-
  The walks of the document's Is, Make and Sorted for timers, and of the law's small. Condition: the list is of a size that a machine holds; Make's has at most 100000 timers.
-/
import Derived.Test.YtlbifinkjghgaaaHpRSort
namespace Go.Proofs.Ytlbifinkjghgaaa
open Go.RowKit Go.Lib Go.Sort Go.Shelf

noncomputable def Hp.mkS (l : List (Int × Int × Int × Int)) : List (Int × Int × Int × Int) := if Hp.tw l = true then [] else if 4096 < l.length then [] else Hp.srt l
/-- Few enough timers to be looked at. -/
def Hp.few (n : Nat) : Prop := n ≤ 100 ∨ (4096 < n ∧ n < 4100)
end Go.Proofs.Ytlbifinkjghgaaa
