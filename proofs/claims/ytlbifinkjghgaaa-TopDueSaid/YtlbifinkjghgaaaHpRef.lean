
/-
  The walks of the document's twice, Check, Find and Make for timers. Condition: the list is of a size that a machine holds.
-/
import Derived.Test.YtlbifinkjghgaaaHpSame
import Derived.IntWalk
namespace Go.Proofs.Ytlbifinkjghgaaa
open Go.RowKit Go.Lib Go.Sort Go.Shelf

theorem Hp.tw_yes {l : List (Int × Int × Int × Int)} {a b : Nat} (ha : a < l.length) (hb : b < l.length) (hab : a < b) (h : l[a].2.1 = l[b].2.1) : Hp.tw l = true := by
  rw [Hp.tw_true]
  intro hn
  have := List.pairwise_iff_getElem.1 (List.pairwise_map.1 hn) a b ha hb hab
  exact this h
theorem Hp.tw_no {l : List (Int × Int × Int × Int)} (h : ∀ a b (ha : a < l.length) (hb : b < l.length), a < b → l[a].2.1 ≠ l[b].2.1) : Hp.tw l = false := by
  rw [Hp.tw_false]
  exact List.pairwise_map.2 (List.pairwise_iff_getElem.2 fun a b ha hb hab => h a b ha hb hab)
end Go.Proofs.Ytlbifinkjghgaaa
