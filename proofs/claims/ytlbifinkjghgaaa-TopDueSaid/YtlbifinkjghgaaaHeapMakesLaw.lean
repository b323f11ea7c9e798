
/-
  The walk of HeapMakes: whatever two lists of timers are, the law answers true. Condition: a list is of a size that a machine holds.
-/
import Derived.Test.YtlbifinkjghgaaaHpLives
namespace Go.Proofs.Ytlbifinkjghgaaa
open Go.RowKit Go.Lib Go.Sort Go.Shelf

theorem Hp.mk_ok (l : List (Int × Int × Int × Int)) : Hp.Ok (Hp.mkL l) ∧ Hp.srt (Hp.mkL l) = Hp.mkS l := by
  have h0 : Hp.Ok [] := ⟨by simp, List.nodup_nil, fun j hj => by simp at hj⟩
  unfold Hp.mkL Hp.mkS
  by_cases ht : Hp.tw l = true
  · rw [if_pos ht, if_pos ht]; exact ⟨h0, rfl⟩
  · rw [if_neg ht, if_neg ht]
    have hn := Hp.tw_false.1 (by simpa using ht : Hp.tw l = false)
    by_cases hl : 4096 < l.length
    · rw [if_pos hl, if_pos hl]; exact ⟨h0, rfl⟩
    · rw [if_neg hl, if_neg hl]
      exact ⟨Hp.ok_make hn (by omega), Hp.srt_eq (Hp.makeF_perm l) hn⟩
theorem Hp.mkS_len (l : List (Int × Int × Int × Int)) : (Hp.mkS l).length ≤ 4096 := by
  unfold Hp.mkS
  split
  · simp
  · split
    · simp
    · rw [Hp.srt_len]; omega
theorem Hp.soL_len (l : List (Int × Int × Int × Int)) : (Hp.soL l).length ≤ 4096 := by
  by_cases h : Hp.Ok l
  · rw [show Hp.soL l = Hp.srt l from if_pos h, Hp.srt_len]; exact h.1
  · rw [show Hp.soL l = [] from if_neg h]; simp
end Go.Proofs.Ytlbifinkjghgaaa
