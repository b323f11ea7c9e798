
/-
  The walk of bellmantop.begins: what is asked of wire ahead of each of the stages' theorems is answered as the document says. No condition.
-/
import Derived.Test.YtlbifinkjghgaaaWireGet
namespace Go.Proofs.Ytlbifinkjghgaaa
open Go.RowKit

theorem begins_any (w : World) : Calls Try.prog 4 #[] w fun e w' => e = .returned (.bool true) ∧ Below w.heap.size w w' := by
  have c1 : ∀ w, Calls Try.prog 9 #[.int .i64 300] w fun e w' => e = .returned (.string ⟨#[2, 1, 44]⟩) ∧ Below w.heap.size w w' := fun w => by
    have h := num_any 300 w (by omega) (by omega)
    rw [show Wp.numB 300 = [2, 1, 44] by decide +kernel] at h
    exact h
  have c2 : ∀ w, Calls Try.prog 8 #[.string ⟨#[2, 1, 44, 120]⟩] w fun e w' => e = .returned (.tuple #[.int .i64 300, .string ⟨#[120]⟩, .int .i64 0]) ∧ Below w.heap.size w w' := fun w => by
    have h := getNum_any ⟨#[2, 1, 44, 120]⟩ w (by decide)
    rw [show Wp.gn ⟨#[2, 1, 44, 120]⟩ = (300, [120], 0) by decide +kernel] at h
    exact h
  go_enter Try.func4, Try.ntmps4
  go_wp2_with fail
  refine (c1 _).mono ?_
  rintro e w1 ⟨rfl, b1⟩
  go_wp2_with fail
  refine (c2 _).mono ?_
  rintro e w2 ⟨rfl, b2⟩
  go_wp2_with fail
  go_ret
  exact ⟨rfl, below_then b1 b2 b1.size⟩
end Go.Proofs.Ytlbifinkjghgaaa
