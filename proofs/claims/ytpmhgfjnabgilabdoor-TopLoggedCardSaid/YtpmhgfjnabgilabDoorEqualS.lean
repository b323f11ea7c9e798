
/-
  slices.Equal at texts, whatever the two lists are. Conditions: each has at most 4096 texts.
-/
import Derived.Test.YtpmhgfjnabgilabDoorDevAt
import Derived.Test.YtpmhgfjnabgilabDoorShelf
namespace Go.Proofs.YtpmhgfjnabgilabDoor
open Go.RowKit

theorem Wp.below_drews {B : Nat} {a w : World} (h : Below B a w) (q : Nat) : Below B a (w.drewN q) := by
  induction q with
  | zero => exact h
  | succ q ih => exact ih.drew
theorem equal_any (p1 p2 : Option Addr) (c1 c2 : Nat) (l m : List ByteArray) (w : World) (hl : l.length ≤ 4096) (hm : m.length ≤ 4096) (h1 : Wp.At Wp.mkT w p1 l) (h2 : Wp.At Wp.mkT w p2 m) :
    Calls Tryd.prog 101 #[.slice p1 l.length c1, .slice p2 m.length c2] w fun e w' => e = .returned (.bool (decide (l = m))) ∧ Below w.heap.size w w' := by
  by_cases hlm : l.length = m.length
  · rcases h1 with rfl | ⟨b1, o1, rfl, hc1⟩
    · have hm0 : m = [] := List.length_eq_zero_iff.1 hlm.symm
      subst hm0
      refine (Tryd.slices_Equal_string_empty p1 p2 c1 0 c2 w (by omega)).mono ?_
      rintro e w' ⟨rfl, rfl⟩
      exact ⟨rfl, Below.refl _ _⟩
    · rcases h2 with rfl | ⟨b2, o2, rfl, hc2⟩
      · have hl0 : l = [] := List.length_eq_zero_iff.1 hlm
        subst hl0
        refine (Tryd.slices_Equal_string_empty (some ⟨b1, o1, none⟩) p2 c1 0 c2 w (by omega)).mono ?_
        rintro e w' ⟨rfl, rfl⟩
        exact ⟨rfl, Below.refl _ _⟩
      · refine (Tryd.slices_Equal_string b1 o1 l.length c1 b2 o2 m.length c2 l m w (Nat.le_refl _) (Nat.le_refl _) (by omega) (by omega) (fun j hj => by rw [hc1 j hj]; simp [List.getD, List.getElem?_eq_getElem hj, Wp.mkT]) (fun j hj => by rw [hc2 j hj]; simp [List.getD, List.getElem?_eq_getElem hj, Wp.mkT])).mono ?_
        rintro e w' ⟨rfl, q, rfl⟩
        rw [List.take_length, List.take_length]
        exact ⟨rfl, Wp.below_drews (Below.refl _ _) _⟩
  · refine (Tryd.slices_Equal_string_lens p1 p2 l.length c1 m.length c2 w hlm).mono ?_
    rintro e w' ⟨rfl, rfl⟩
    exact ⟨by rw [decide_eq_false (fun e => hlm (by rw [e]))], Below.refl _ _⟩

end Go.Proofs.YtpmhgfjnabgilabDoor
