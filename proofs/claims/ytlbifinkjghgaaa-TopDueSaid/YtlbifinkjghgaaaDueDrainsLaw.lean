
/-
  The walk of DueDrains: whatever timers and a time are, the law answers true. Condition: a list is of a size that a machine holds.
-/
import Derived.Test.YtlbifinkjghgaaaDuRefNext
namespace Go.Proofs.Ytlbifinkjghgaaa
open Go.RowKit Go.Lib Go.Sort Go.Shelf

theorem Du.rest_ok (l : List (Int × Int × Int × Int)) (k : Nat) : Hp.Ok ((Hp.soL l).drop k) ∧ Hp.srt ((Hp.soL l).drop k) = (Hp.soL l).drop k := by
  by_cases h : Hp.Ok l
  · rw [show Hp.soL l = Hp.srt l from if_pos h]
    exact Du.list_ok h (List.drop_sublist _ _)
  · rw [show Hp.soL l = [] from if_neg h, List.drop_nil]
    exact ⟨⟨by simp, List.nodup_nil, fun j hj => by simp at hj⟩, rfl⟩
end Go.Proofs.Ytlbifinkjghgaaa
