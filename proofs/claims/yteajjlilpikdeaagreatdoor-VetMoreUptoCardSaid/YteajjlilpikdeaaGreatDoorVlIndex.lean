
/-
  The walks of slices.IndexFunc and slices.ContainsFunc at values, with whatever closure: one that writes a variable of its own too. Condition: what each call of the closure hands back, and keeps.
-/
import Derived.Test.YteajjlilpikdeaaGreatDoorVlAt
import Derived.Deep.LoopGhost
import Derived.Lib.Walk
import Derived.Shelf.Abstract
namespace Go.Proofs.YteajjlilpikdeaaGreatDoor
open Go.RowKit Go.Lib Go.Shelf

/-- The five cells of each value of a row, and what is known of it. -/
def Vl.RowIs (W : World) (p : Option Addr) (n : Nat) (G : Nat → Value → Prop) : Prop :=
  ∀ i, i < n → ∃ b off c0 c1 c2 c3 c4, p = some ⟨b, off, none⟩ ∧ Vl.Five W b (off + i * 5) c0 c1 c2 c3 c4 ∧ G i (.agg #[c0, c1, c2, c3, c4])
/-- How a search ends: at the first place at which the closure says yes, or behind the last one. -/
def Vl.Idx (n : Nat) (P : Nat → Bool) (I : Nat → World → Prop) (e : Ending) (w' : World) : Prop :=
  (∃ k, k < n ∧ P k = true ∧ (∀ j, j < k → P j = false) ∧ e = .returned (.int .i64 k) ∧ I (k + 1) w') ∨ ((∀ j, j < n → P j = false) ∧ e = .returned (.int .i64 (-1)) ∧ I n w')
def Vl.Any (n : Nat) (P : Nat → Bool) (I : Nat → World → Prop) (e : Ending) (w' : World) : Prop :=
  (∃ k, k < n ∧ P k = true ∧ (∀ j, j < k → P j = false) ∧ e = .returned (.bool true) ∧ I (k + 1) w') ∨ ((∀ j, j < n → P j = false) ∧ e = .returned (.bool false) ∧ I n w')
end Go.Proofs.YteajjlilpikdeaaGreatDoor
