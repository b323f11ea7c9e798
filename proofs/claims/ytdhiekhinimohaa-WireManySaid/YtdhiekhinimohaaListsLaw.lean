/-
  The walk of the law's own examples of lists: they are as the document says. No condition.
-/
import Derived.Test.YtdhiekhinimohaaRefFour
import Derived.Test.YtdhiekhinimohaaBack
import Derived.Test.YtdhiekhinimohaaPlainFour
namespace Go.Proofs.Ytdhiekhinimohaa
open Go.RowKit

theorem Wp.getAll_rest (n : Nat) (s : List UInt8) : (Wp.getAll Wp.getT n s).2.1.length ≤ s.length := by
  induction n generalizing s with
  | zero => simp [Wp.getAll]
  | succ n ih =>
    rcases hg : Wp.getT s with ⟨x, r, e⟩
    have h1 := rest_texts s x r e hg
    have h2 := ih r
    simp only [Wp.getAll, hg]
    split
    · simp
    · split
      · simp
      · simp only []; omega
theorem Wp.got_rest (s : ByteArray) (T : List ByteArray) (r : List UInt8) (e : Int) (h : Wp.getList Wp.getT s.data.toList = (T, r, e)) : (Wp.B r).size ≤ s.size := by
  rcases hc : Wp.gl s 1024 with ⟨n, q, e1⟩
  have hb := (Wp.gl_bounds2 s 1024 n q e1 (by omega) hc).2.2
  have hc' : Wp.cutLen s.data.toList 1024 = (n, q, e1) := hc
  unfold Wp.getList at h
  rw [hc'] at h
  simp only [] at h
  rw [Wp.B_size]
  split at h
  · simp only [Prod.mk.injEq] at h
    rw [← h.2.1]; simp
  · have h2 := Wp.getAll_rest n.toNat q
    rw [h] at h2
    simp only [] at h2
    omega
theorem Wp.at_new {α : Type} (mk : α → Value) (w : World) (l : List α) (T : TypeId) : Wp.At mk (w.alloc (.cells (l.map mk).toArray T)) (some ⟨w.heap.size, 0, none⟩) l :=
  Or.inr ⟨_, _, rfl, fun i hi => by
    rw [World.cell?_alloc_at _ _ _ _ rfl, Nat.zero_add]
    simp [List.getElem?_map, List.getElem?_eq_getElem hi]⟩
theorem Wp.at_new_nums (w : World) : Wp.At Wp.mkN (w.alloc (.cells #[.int .i64 1, .int .i64 (-1)] 2)) (some ⟨w.heap.size, 0, none⟩) [1, -1] := Wp.at_new Wp.mkN w [1, -1] _
theorem Wp.at_new_texts (w : World) : Wp.At Wp.mkT (w.alloc (.cells #[.string ⟨#[97]⟩, .string ⟨#[]⟩] 9)) (some ⟨w.heap.size, 0, none⟩) [⟨#[97]⟩, ⟨#[]⟩] := Wp.at_new Wp.mkT w [⟨#[97]⟩, ⟨#[]⟩] _

set_option maxHeartbeats 2000000 in
theorem lists_any (w : World) : Calls Try.prog 25 #[] w fun e w' => e = .returned (.bool true) ∧ Below w.heap.size w w' := by
  have c1 : ∀ (p : Option Addr) (w : World), Wp.At Wp.mkN w p [1, -1] → Calls Try.prog 17 #[.slice p 2 2] w fun e w' => e = .returned (.tuple #[.string ⟨#[1, 2, 1, 1, 129, 1]⟩, .int .i64 0]) ∧ Below w.heap.size w w' := fun p w h => by
    have h := nums_any p 2 [1, -1] w (by decide) h (by intro x hx; unfold Wp.I64; simp at hx; omega)
    rw [show Wp.numsR [1, -1] = ([1, 2, 1, 1, 129, 1], 0) by decide +kernel] at h
    exact h
  have c2 : ∀ (w : World), Calls Try.prog 19 #[.string ⟨#[1, 2, 1, 1, 129, 1, 122]⟩] w fun e w' => ∃ p c, e = .returned (.tuple #[.slice p 2 c, .string ⟨#[122]⟩, .int .i64 0]) ∧ Wp.At Wp.mkN w' p [1, -1] ∧ Below w.heap.size w w' := fun w => by
    have h := getnums_any ⟨#[1, 2, 1, 1, 129, 1, 122]⟩ w (by decide)
    rw [show Wp.getList Wp.getNum (ByteArray.mk #[1, 2, 1, 1, 129, 1, 122]).data.toList = ([1, -1], [122], 0) by decide +kernel] at h
    exact h
  have c3 : ∀ (p : Option Addr) (w : World), Wp.At Wp.mkT w p [⟨#[97]⟩, ⟨#[]⟩] → Calls Try.prog 21 #[.slice p 2 2] w fun e w' => e = .returned (.tuple #[.string ⟨#[1, 2, 1, 1, 97, 0]⟩, .int .i64 0]) ∧ Below w.heap.size w w' := fun p w h => by
    have h := texts_any p 2 [⟨#[97]⟩, ⟨#[]⟩] w (by decide) h (by intro x hx; simp at hx; rcases hx with rfl | rfl <;> decide)
    rw [show Wp.textsR [⟨#[97]⟩, ⟨#[]⟩] = ([1, 2, 1, 1, 97, 0], 0) by decide +kernel] at h
    exact h
  have c4 : ∀ (w : World), Calls Try.prog 23 #[.string ⟨#[1, 2, 1, 1, 97, 0]⟩] w fun e w' => ∃ p c, e = .returned (.tuple #[.slice p 2 c, .string ⟨#[]⟩, .int .i64 0]) ∧ Wp.At Wp.mkT w' p [⟨#[97]⟩, ⟨#[]⟩] ∧ Below w.heap.size w w' := fun w => by
    have h := gettexts_any ⟨#[1, 2, 1, 1, 97, 0]⟩ w (by decide)
    rw [show Wp.getList Wp.getT (ByteArray.mk #[1, 2, 1, 1, 97, 0]).data.toList = ([⟨#[97]⟩, ⟨#[]⟩], [], 0) by decide +kernel] at h
    exact h
  have c5 : ∀ (w : World), Calls Try.prog 23 #[.string ⟨#[129, 1]⟩] w fun e w' => ∃ p c, e = .returned (.tuple #[.slice p 0 c, .string ⟨#[]⟩, .int .i64 7]) ∧ Wp.At Wp.mkT w' p [] ∧ Below w.heap.size w w' := fun w => by
    have h := gettexts_any ⟨#[129, 1]⟩ w (by decide)
    rw [show Wp.getList Wp.getT (ByteArray.mk #[129, 1]).data.toList = ([], [], 7) by decide +kernel] at h
    exact h
  have s1 : ∀ (p1 p2 : Option Addr) (c1 c2 : Nat) (w : World), Wp.At Wp.mkN w p1 [1, -1] → Wp.At Wp.mkN w p2 [1, -1] → Calls Try.prog 26 #[.slice p1 2 c1, .slice p2 2 c2] w fun e w' => e = .returned (.bool true) ∧ Below w.heap.size w w' := fun p1 p2 c1 c2 w h1 h2 => same_nums p1 p2 c1 c2 [1, -1] w (by decide) h1 h2
  have s2 : ∀ (p1 p2 : Option Addr) (c1 c2 : Nat) (w : World), Wp.At Wp.mkT w p1 [⟨#[97]⟩, ⟨#[]⟩] → Wp.At Wp.mkT w p2 [⟨#[97]⟩, ⟨#[]⟩] → Calls Try.prog 27 #[.slice p1 2 c1, .slice p2 2 c2] w fun e w' => e = .returned (.bool true) ∧ Below w.heap.size w w' := fun p1 p2 c1 c2 w h1 h2 => same_texts p1 p2 c1 c2 [⟨#[97]⟩, ⟨#[]⟩] w (by decide) h1 h2
  have C1 := Lib.hid c1
  have C2 := Lib.hid c2
  have C3 := Lib.hid c3
  have C4 := Lib.hid c4
  have C5 := Lib.hid c5
  have S1 := Lib.hid s1
  have S2 := Lib.hid s2
  clear c1 c2 c3 c4 c5 s1 s2
  go_enter Try.func25, Try.ntmps25
  go_wp2_with fail
  refine (C1.out _ _ (Wp.at_new_nums _)).mono ?_
  rintro e w1 ⟨rfl, b1⟩
  have a1 := ((Below.refl w.heap.size w).alloc (Nat.le_refl _) _).trans (b1.mono (by simp))
  go_wp2_with fail
  refine (C2.out _).mono ?_
  rintro e w2 ⟨p2, k2, rfl, hat2, b2⟩
  have H2 := Lib.hid hat2
  clear hat2
  have a2 := below_then a1 b2 a1.size
  go_wp2_with fail
  refine (C3.out _ _ (Wp.at_new_texts _)).mono ?_
  rintro e w3 ⟨rfl, b3⟩
  have a3 := (a2.alloc a2.size _).trans (b3.mono (by have := a2.size; simp; omega))
  have H3 := Lib.hid (H2.out.below (((Below.refl w2.heap.size w2).alloc (Nat.le_refl _) _).trans (b3.mono (by simp))))
  go_wp2_with fail
  refine (C4.out _).mono ?_
  rintro e w4 ⟨p4, k4, rfl, hat4, b4⟩
  have G4 := Lib.hid hat4
  have H4 := Lib.hid (H3.out.below b4)
  clear hat4
  have a4 := below_then a3 b4 a3.size
  go_wp2_with fail
  refine (C5.out _).mono ?_
  rintro e w5 ⟨p5, k5, rfl, _, b5⟩
  have G5 := Lib.hid (G4.out.below b5)
  have H5 := Lib.hid (H4.out.below b5)
  have a5 := below_then a4 b5 a4.size
  go_wp2_with fail
  refine (S1.out _ _ _ _ _ (H5.out.below ((Below.refl _ _).alloc (Nat.le_refl _) _)) (Wp.at_new_nums _)).mono ?_
  rintro e w6 ⟨rfl, b6⟩
  have a6 := (a5.alloc a5.size _).trans (b6.mono (by have := a5.size; simp; omega))
  have G6 := Lib.hid (G5.out.below (((Below.refl w5.heap.size w5).alloc (Nat.le_refl _) _).trans (b6.mono (by simp))))
  go_wp2_with fail
  refine (S2.out _ _ _ _ _ (G6.out.below ((Below.refl _ _).alloc (Nat.le_refl _) _)) (Wp.at_new_texts _)).mono ?_
  rintro e w7 ⟨rfl, b7⟩
  have a7 := (a6.alloc a6.size _).trans (b7.mono (by have := a6.size; simp; omega))
  go_wp2_with fail
  go_ret
  exact ⟨rfl, a7⟩
end Go.Proofs.Ytdhiekhinimohaa
