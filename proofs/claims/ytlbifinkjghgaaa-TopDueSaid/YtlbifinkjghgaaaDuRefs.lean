
/-
  The walks of the document's Next, Drain, Count, Move, Of and Clear for timers. Condition: the list is of a size that a machine holds.
-/
import Derived.Test.YtlbifinkjghgaaaDueLeftLaw
namespace Go.Proofs.Ytlbifinkjghgaaa
open Go.RowKit Go.Lib Go.Sort Go.Shelf

/-- A timer more, of those that are taken. -/
theorem Du.take_filter {l : List (Int × Int × Int × Int)} (P : (Int × Int × Int × Int) → Bool) {j : Nat} (hj : j < l.length) : (l.take (j + 1)).filter P = (l.take j).filter P ++ (if P l[j] = true then [l[j]] else []) := by
  rw [List.take_succ_eq_append_getElem hj, List.filter_append]
  cases h : P l[j] <;> simp [h]
theorem Du.own_grown {A B : World} {base : Nat} {v u : Value} {l : List (Int × Int × Int × Int)} (h : Hp.Own A base v l) (hg : A.grownBy B u.ownBlock) (hne : ∀ g, v.ownBlock = some g → u.ownBlock ≠ some g) : Hp.Own B base v l := by
  rcases h.blk with ⟨rfl, rfl⟩ | ⟨g, cap, rest, rfl, hb, hB, hc, hm⟩
  · exact Hp.Own.nil _ _
  · exact (hB.grown hg (fun e => hne g rfl e.symm)).own hb hc hm
end Go.Proofs.Ytlbifinkjghgaaa
