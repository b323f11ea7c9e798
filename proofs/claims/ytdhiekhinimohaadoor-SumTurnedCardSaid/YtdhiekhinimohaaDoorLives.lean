/-
  The walk of the law's own examples of sums and frames: they are as the document says. Condition: the table reads as it is laid.
-/
import Derived.Test.YtdhiekhinimohaaDoorSumNext
namespace Go.Proofs.YtdhiekhinimohaaDoor
open Go.RowKit

theorem Wp.at_newT {α : Type} (mk : α → Value) (w : World) (l : List α) (T : TypeId) : Wp.At mk (w.alloc (.cells (l.map mk).toArray T)) (some ⟨w.heap.size, 0, none⟩) l :=
  Or.inr ⟨_, _, rfl, fun i hi => by
    rw [World.cell?_alloc_at _ _ _ _ rfl, Nat.zero_add]
    simp [List.getElem?_map, List.getElem?_eq_getElem hi]⟩

set_option maxHeartbeats 2000000 in
theorem lives_any (w : World) (hL : Sp.Laid w) : Calls Tryd.prog 13 #[] w fun e w' => e = .returned (.bool true) ∧ Below w.heap.size w w' := by
  have c1 : ∀ w, Sp.Laid w → Calls Tryd.prog 9 #[.string ⟨#[97, 98]⟩] w fun e w' => e = .returned (.tuple #[.string ⟨#[1, 2, 54, 41, 162, 226, 97, 98]⟩, .int .i64 0]) ∧ Below w.heap.size w w' := fun w hL => by
    have h := frame_any ⟨#[97, 98]⟩ w hL (by decide)
    rw [show Sp.frameR ⟨#[97, 98]⟩ = ([1, 2, 54, 41, 162, 226, 97, 98], 0) by decide +kernel] at h
    exact h
  have c2 : ∀ w, Sp.Laid w → Calls Tryd.prog 11 #[.string ⟨#[1, 2, 54, 41, 162, 226, 97, 98, 122]⟩] w fun e w' => e = .returned (.tuple #[.string ⟨#[97, 98]⟩, .string ⟨#[122]⟩, .int .i64 0]) ∧ Below w.heap.size w w' := fun w hL => by
    have h := next_any ⟨#[1, 2, 54, 41, 162, 226, 97, 98, 122]⟩ w hL (by decide)
    rw [show Sp.nx ⟨#[1, 2, 54, 41, 162, 226, 97, 98, 122]⟩ = ([97, 98], [122], 0) by decide +kernel] at h
    exact h
  have c3 : ∀ w, Sp.Laid w → Calls Tryd.prog 11 #[.string ⟨#[1, 1, 0, 0, 0, 0, 97]⟩] w fun e w' => e = .returned (.tuple #[.string ⟨#[]⟩, .string ⟨#[]⟩, .int .i64 6]) ∧ Below w.heap.size w w' := fun w hL => by
    have h := next_any ⟨#[1, 1, 0, 0, 0, 0, 97]⟩ w hL (by decide)
    rw [show Sp.nx ⟨#[1, 1, 0, 0, 0, 0, 97]⟩ = ([], [], 6) by decide +kernel] at h
    exact h
  have c4 : ∀ w, Sp.Laid w → Calls Tryd.prog 11 #[.string ⟨#[]⟩] w fun e w' => e = .returned (.tuple #[.string ⟨#[]⟩, .string ⟨#[]⟩, .int .i64 5]) ∧ Below w.heap.size w w' := fun w hL => by
    have h := next_any ⟨#[]⟩ w hL (by decide)
    rw [show Sp.nx ⟨#[]⟩ = ([], [], 5) by decide +kernel] at h
    exact h
  have c5 : ∀ w, Sp.Laid w → Calls Tryd.prog 14 #[.string ⟨#[49, 50, 51, 52, 53, 54, 55, 56, 57]⟩] w fun e w' => e = .returned (.int .u32 3808858755) ∧ w = w' := fun w hL => by
    have h := of_any ⟨#[49, 50, 51, 52, 53, 54, 55, 56, 57]⟩ w hL (by decide)
    rw [show Sp.on 0 (ByteArray.mk #[49, 50, 51, 52, 53, 54, 55, 56, 57]).data.toList = 3808858755 by decide +kernel] at h
    exact h
  have c6 : ∀ w, Sp.Laid w → Calls Tryd.prog 14 #[.string ⟨#[]⟩] w fun e w' => e = .returned (.int .u32 0) ∧ w = w' := fun w hL => by
    have h := of_any ⟨#[]⟩ w hL (by decide)
    rw [show Sp.on 0 (ByteArray.mk #[]).data.toList = 0 by decide +kernel] at h
    exact h
  have c7 : ∀ w, Sp.Laid w → Calls Tryd.prog 14 #[.string ⟨#[49, 50, 51, 52]⟩] w fun e w' => e = .returned (.int .u32 4131058926) ∧ w = w' := fun w hL => by
    have h := of_any ⟨#[49, 50, 51, 52]⟩ w hL (by decide)
    rw [show Sp.on 0 (ByteArray.mk #[49, 50, 51, 52]).data.toList = 4131058926 by decide +kernel] at h
    exact h
  have c8 : ∀ w, Sp.Laid w → Calls Tryd.prog 16 #[.int .u32 4131058926, .string ⟨#[53, 54, 55, 56, 57]⟩] w fun e w' => e = .returned (.int .u32 3808858755) ∧ w = w' := fun w hL => by
    have h := on_any 4131058926 ⟨#[53, 54, 55, 56, 57]⟩ w hL (by decide) (by decide)
    rw [show Sp.on 4131058926 (ByteArray.mk #[53, 54, 55, 56, 57]).data.toList = 3808858755 by decide +kernel] at h
    exact h
  have c9 : ∀ (p : Option Addr) w, Sp.Laid w → Wp.At Wp.mkT w p [⟨#[49, 50]⟩, ⟨#[]⟩, ⟨#[51, 52, 53, 54, 55, 56, 57]⟩] → Calls Tryd.prog 18 #[.slice p 3 3] w fun e w' => e = .returned (.int .u32 3808858755) ∧ w = w' := fun p w hL ha => by
    have h := fold_any p 3 [⟨#[49, 50]⟩, ⟨#[]⟩, ⟨#[51, 52, 53, 54, 55, 56, 57]⟩] w hL (by decide) ha (by intro x hx; simp at hx; rcases hx with rfl | rfl | rfl <;> decide)
    rw [show Sp.on 0 (Wp.flat Sp.bytes [⟨#[49, 50]⟩, ⟨#[]⟩, ⟨#[51, 52, 53, 54, 55, 56, 57]⟩]) = 3808858755 by decide +kernel] at h
    exact h
  have a9 := fun w : World => Wp.at_newT Wp.mkT w [⟨#[49, 50]⟩, ⟨#[]⟩, ⟨#[51, 52, 53, 54, 55, 56, 57]⟩] 9
  have A9 := Lib.hid (show ∀ w : World, Wp.At Wp.mkT (w.alloc (.cells #[.string ⟨#[49, 50]⟩, .string ⟨#[]⟩, .string ⟨#[51, 52, 53, 54, 55, 56, 57]⟩] 9)) (some ⟨w.heap.size, 0, none⟩) [⟨#[49, 50]⟩, ⟨#[]⟩, ⟨#[51, 52, 53, 54, 55, 56, 57]⟩] from a9)
  have C1 := Lib.hid c1
  have C2 := Lib.hid c2
  have C3 := Lib.hid c3
  have C4 := Lib.hid c4
  have C5 := Lib.hid c5
  have C6 := Lib.hid c6
  have C7 := Lib.hid c7
  have C8 := Lib.hid c8
  have C9 := Lib.hid c9
  have HL := Lib.hid hL
  clear c1 c2 c3 c4 c5 c6 c7 c8 c9 hL a9
  go_enter Tryd.func13, Tryd.ntmps13
  go_wp2_with fail
  refine (C1.out _ HL.out).mono ?_
  rintro e w1 ⟨rfl, b1⟩
  go_wp2_with fail
  refine (C2.out _ (HL.out.below b1)).mono ?_
  rintro e w2 ⟨rfl, b2⟩
  have a2 := below_then b1 b2 b1.size
  go_wp2_with fail
  refine (C3.out _ (HL.out.below a2)).mono ?_
  rintro e w3 ⟨rfl, b3⟩
  have a3 := below_then a2 b3 a2.size
  go_wp2_with fail
  refine (C4.out _ (HL.out.below a3)).mono ?_
  rintro e w4 ⟨rfl, b4⟩
  have a4 := below_then a3 b4 a3.size
  have HL4 := Lib.hid (HL.out.below a4)
  go_wp2_with fail
  refine (C5.out _ HL4.out).mono ?_
  rintro e w5 ⟨rfl, rfl⟩
  go_wp2_with fail
  refine (C6.out _ HL4.out).mono ?_
  rintro e w6 ⟨rfl, rfl⟩
  go_wp2_with fail
  refine (C7.out _ HL4.out).mono ?_
  rintro e w7 ⟨rfl, rfl⟩
  go_wp2_with fail
  refine (C8.out _ HL4.out).mono ?_
  rintro e w8 ⟨rfl, rfl⟩
  go_wp2_with fail
  refine (C9.out _ _ (HL4.out.below ((Below.refl _ _).alloc (Nat.le_refl _) _)) (A9.out _)).mono ?_
  rintro e w9 ⟨rfl, rfl⟩
  go_wp2_with fail
  go_ret
  exact ⟨rfl, a4.alloc a4.size _⟩
end Go.Proofs.YtdhiekhinimohaaDoor
