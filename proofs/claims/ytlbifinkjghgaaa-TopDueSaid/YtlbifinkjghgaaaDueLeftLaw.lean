
/-
  The walk of DueLeft: whatever timers and a time are, the law answers true. Condition: a list is of a size that a machine holds.
-/
import Derived.Test.YtlbifinkjghgaaaDuePiecesLaw
namespace Go.Proofs.Ytlbifinkjghgaaa
open Go.RowKit Go.Lib Go.Sort Go.Shelf

theorem Du.due_mem {S : List (Int × Int × Int × Int)} {now : Int} {x : Int × Int × Int × Int} (h : x ∈ Du.due S now) : x.1 ≤ now := by
  unfold Du.due at h
  have := List.all_takeWhile (l := S) (p := fun x : Int × Int × Int × Int => decide (x.1 ≤ now))
  rw [List.all_eq_true] at this
  simpa using this x h
theorem Du.left_after {now : Int} : ∀ S : List (Int × Int × Int × Int), Hp.Asc S → ∀ x ∈ S.drop (Du.due S now).length, now < x.1
  | [], _, x, h => by simp at h
  | y :: S, ha, x, h => by
    have hp := List.pairwise_cons.1 ha
    unfold Du.due at h
    by_cases hy : y.1 ≤ now
    · rw [List.takeWhile_cons_of_pos (by simpa using hy), List.length_cons, List.drop_succ_cons] at h
      exact Du.left_after S hp.2 x h
    · rw [List.takeWhile_cons_of_neg (by simpa using hy)] at h
      simp only [List.length_nil, List.drop_zero, List.mem_cons] at h
      rcases h with rfl | h
      · omega
      · have := Hp.lt_iff.1 (hp.1 x h)
        omega
end Go.Proofs.Ytlbifinkjghgaaa
