
/-
  The law EscBack: whatever the channel and the texts, it hands back true. Conditions: texts of at most 2^20 bytes; the table of the channels reads as it is laid; the library's ErrSyntax is an error.
-/
import Derived.Test.YtlhmbmnjajbbaaaDoorEsLives
import Derived.Test.YtlhmbmnjajbbaaaDoorEsMath
namespace Go.Proofs.YtlhmbmnjajbbaaaDoor
open Go.RowKit

set_option maxRecDepth 100000 in
set_option maxHeartbeats 1000000 in
/-- The law where From tells what it tells of the first text, and of the second one. -/
theorem escBack_in (c : Nat) (s t a b d e : ByteArray) (w3 w4 : Int) (w : World) (hL : Es.Laid w) (hb : c ≠ 3 → b = s)
    (hA : ∀ W, Calls Tryd.prog 8 #[.int .u8 (c : Int), .string s] W fun e w' => e = .returned (.tuple #[.string a, .int .i64 0]) ∧ Below W.heap.size W w')
    (hB : ∀ W, Es.Laid W → Calls Tryd.prog 10 #[.int .u8 (c : Int), .string a] W fun e w' => e = .returned (.tuple #[.string b, .int .i64 0]) ∧ Below W.heap.size W w')
    (hD : ∀ W, Es.Laid W → Calls Tryd.prog 10 #[.int .u8 (c : Int), .string t] W fun e w' => e = .returned (.tuple #[.string d, .int .i64 w3]) ∧ Below W.heap.size W w')
    (hE : ∀ W, Calls Tryd.prog 8 #[.int .u8 (c : Int), .string d] W fun f w' => f = .returned (.tuple #[.string e, .int .i64 w4]) ∧ Below W.heap.size W w')
    (hr : (w3 = 7 ∧ d = ⟨#[]⟩) ∨ (w3 = 0 ∧ w4 = 0 ∧ e = t)) :
    Calls Tryd.prog 5 #[.int .u8 (c : Int), .string s, .string t] w fun e w' => e = .returned (.bool true) ∧ Below w.heap.size w w' := by
  have HLv := Lib.hid (lives13_any w hL)
  have HL := Lib.hid hL
  have HA := Lib.hid hA
  have HB := Lib.hid hB
  have HD := Lib.hid hD
  have HE := Lib.hid hE
  have e3 : (((c : Int) != 3) = true ∧ b = s) ∨ ((c : Int) != 3) = false := by
    by_cases h : c = 3
    · exact Or.inr (by rw [h]; rfl)
    · exact Or.inl ⟨by rw [bne_iff_ne]; omega, hb h⟩
  clear hL hA hB hD hE hb
  rcases hr with ⟨rfl, rfl⟩ | ⟨rfl, rfl, rfl⟩
  all_goals
    rcases e3 with ⟨e3, rfl⟩ | e3
    all_goals
      go_enter Tryd.func5, Tryd.ntmps5
      go_wp2_with fail
      refine HLv.out.mono ?_
      rintro e w1 ⟨rfl, b1⟩
      have B1 := Lib.hid b1
      clear b1 HLv
      go_wp2_with fail
      refine (HA.out _).mono ?_
      rintro e w2 ⟨rfl, b2⟩
      have B2 := Lib.hid (B1.out.trans (b2.mono B1.out.size))
      clear b2 HA
      go_wp2_with fail
      refine (HB.out _ (HL.out.below B2.out)).mono ?_
      rintro e w3 ⟨rfl, b3⟩
      have B3 := Lib.hid (B2.out.trans (b3.mono B2.out.size))
      clear b3 HB
      go_wp2_with fail
      refine (HD.out _ (HL.out.below B3.out)).mono ?_
      rintro e w4 ⟨rfl, b4⟩
      have B4 := Lib.hid (B3.out.trans (b4.mono B3.out.size))
      clear b4 HD
      go_wp2_with fail
      refine (HE.out _).mono ?_
      rintro e w5 ⟨rfl, b5⟩
      have B5 := Lib.hid (B4.out.trans (b5.mono B4.out.size))
      clear b5 HE
      go_wp2_with fail
      go_ret
      exact ⟨rfl, B5.out⟩
set_option maxRecDepth 100000 in
theorem escBack_law (c : Nat) (s t : ByteArray) (w : World) (hs : s.size ≤ 1048576) (ht : t.size ≤ 1048576) (hL : Es.Laid w) :
    Calls Tryd.prog 5 #[.int .u8 (c : Int), .string s, .string t] w fun e w' => e = .returned (.bool true) ∧ Below w.heap.size w w' := by
  by_cases hc : c = 1 ∨ c = 2 ∨ c = 3
  · have hz : (Es.toR c s.data.toList).2 = 0 := by rcases hc with rfl | rfl | rfl <;> rfl
    have hlen := Es.toR_len c s.data.toList
    rw [← Wp.size_len] at hlen
    have hA := fun W => esTo_any c s W (by omega)
    rw [hz] at hA
    have hfc : ∃ b, Es.fromC c (Es.toR c s.data.toList).1 = (b, 0) ∧ (c ≠ 3 → b = s.data.toList) := by
      by_cases h3 : c = 3
      · subst h3
        exact ⟨_, Es.from_to3 _, fun h => absurd rfl h⟩
      · exact ⟨_, Es.from_to c _ (by omega), fun _ => rfl⟩
    obtain ⟨b, hb1, hb2⟩ := hfc
    have hB := fun W (h : Es.Laid W) => esFrom_any c (Wp.B (Es.toR c s.data.toList).1) W (by rw [Wp.B_size]; omega) h.syn
    rw [Wp.B_data, hb1] at hB
    have hD := fun W (h : Es.Laid W) => esFrom_any c t W (by omega) h.syn
    rcases Es.from_cases c hc t.data.toList with ⟨u, hu1, hu2, hu3⟩ | hu
    · rw [hu1] at hD
      have hE := fun W => esTo_any c (Wp.B u) W (by rw [Wp.B_size]; rw [← Wp.size_len] at hu3; omega)
      rw [Wp.B_data, hu2] at hE
      exact escBack_in c s t _ (Wp.B b) _ _ 0 0 w hL (fun h => by rw [hb2 h, Wp.B_of]) hA hB hD hE (Or.inr ⟨rfl, rfl, Wp.B_of t⟩)
    · rw [hu] at hD
      have hE := fun W => esTo_any c (Wp.B []) W (by rw [Wp.B_size]; simp)
      exact escBack_in c s t _ (Wp.B b) _ _ 7 _ w hL (fun h => by rw [hb2 h, Wp.B_of]) hA hB hD hE (Or.inl ⟨rfl, rfl⟩)
  · have h1 : ¬ c = 1 := fun h => hc (Or.inl h)
    have h2 : ¬ c = 2 := fun h => hc (Or.inr (Or.inl h))
    have h3 : ¬ c = 3 := fun h => hc (Or.inr (Or.inr h))
    have HLv := Lib.hid (lives13_any w hL)
    have HA := Lib.hid (fun W => esTo_any c s W (by omega))
    have HB := Lib.hid (fun W (h : Es.Laid W) => esFrom_any c (Wp.B []) W (by rw [Wp.B_size]; simp) h.syn)
    rw [show Es.toR c s.data.toList = ([], 1) by unfold Es.toR; rw [if_neg h1, if_neg h2, if_neg h3]] at HA
    rw [show Es.fromC c (Wp.B []).data.toList = ([], 1) by unfold Es.fromC; rw [if_neg h1, if_neg h2, if_neg h3]] at HB
    have HL := Lib.hid hL
    clear hL hc h1 h2 h3
    generalize Wp.B [] = x at *
    go_enter Tryd.func5, Tryd.ntmps5
    go_wp2_with fail
    refine HLv.out.mono ?_
    rintro e w1 ⟨rfl, b1⟩
    have B1 := Lib.hid b1
    clear b1 HLv
    go_wp2_with fail
    refine (HA.out _).mono ?_
    rintro e w2 ⟨rfl, b2⟩
    have B2 := Lib.hid (B1.out.trans (b2.mono B1.out.size))
    clear b2 HA
    go_wp2_with fail
    refine (HB.out _ (HL.out.below B2.out)).mono ?_
    rintro e w3 ⟨rfl, b3⟩
    have B3 := Lib.hid (B2.out.trans (b3.mono B2.out.size))
    clear b3 HB
    go_wp2_with fail
    go_ret
    exact ⟨rfl, B3.out⟩
end Go.Proofs.YtlhmbmnjajbbaaaDoor
