/-
  The law WireApart, proved: for any two numbers neither one's bytes begin the other's, but their own. No condition.
-/
import Derived.Test.YtdhiekhinimohaaWire
import Derived.ProofKit
import Derived.OpenShut
import Derived.JoinedCond
namespace Go.Proofs.Ytdhiekhinimohaa
open Go.RowKit

set_option maxHeartbeats 1000000 in
theorem numbers_any (w : World) : Calls Try.prog 14 #[] w fun e w' => e = .returned (.bool true) ∧ Below w.heap.size w w' := by
  have c1 : ∀ w, Calls Try.prog 8 #[.string ⟨#[129, 1, 120]⟩] w fun e w' => e = .returned (.tuple #[.int .i64 (-1), .string ⟨#[120]⟩, .int .i64 0]) ∧ Below w.heap.size w w' := fun w => by
    have h := getNum_any ⟨#[129, 1, 120]⟩ w (by decide)
    rw [show Wp.gn ⟨#[129, 1, 120]⟩ = (-1, [120], 0) by decide +kernel] at h
    exact h
  have c2 : ∀ w, Calls Try.prog 8 #[.string ⟨#[128]⟩] w fun e w' => e = .returned (.tuple #[.int .i64 0, .string ⟨#[]⟩, .int .i64 7]) ∧ Below w.heap.size w w' := fun w => by
    have h := getNum_any ⟨#[128]⟩ w (by decide)
    rw [show Wp.gn ⟨#[128]⟩ = (0, [], 7) by decide +kernel] at h
    exact h
  have c3 : ∀ w, Calls Try.prog 8 #[.string ⟨#[2, 1]⟩] w fun e w' => e = .returned (.tuple #[.int .i64 0, .string ⟨#[]⟩, .int .i64 5]) ∧ Below w.heap.size w w' := fun w => by
    have h := getNum_any ⟨#[2, 1]⟩ w (by decide)
    rw [show Wp.gn ⟨#[2, 1]⟩ = (0, [], 5) by decide +kernel] at h
    exact h
  have c4 : ∀ w, Calls Try.prog 10 #[.string ⟨#[97, 98]⟩] w fun e w' => e = .returned (.tuple #[.string ⟨#[1, 2, 97, 98]⟩, .int .i64 0]) ∧ Below w.heap.size w w' := fun w => by
    have h := text_any ⟨#[97, 98]⟩ w (by decide)
    rw [if_neg (by decide), show Wp.textB (ByteArray.mk #[97, 98]).data.toList = [1, 2, 97, 98] by decide +kernel] at h
    exact h
  have c5 : ∀ w, Calls Try.prog 12 #[.string ⟨#[1, 2, 97, 98, 121]⟩] w fun e w' => e = .returned (.tuple #[.string ⟨#[97, 98]⟩, .string ⟨#[121]⟩, .int .i64 0]) ∧ Below w.heap.size w w' := fun w => by
    have h := getText_any ⟨#[1, 2, 97, 98, 121]⟩ w (by decide)
    rw [show Wp.gt ⟨#[1, 2, 97, 98, 121]⟩ = ([97, 98], [121], 0) by decide +kernel] at h
    exact h
  have c6 : ∀ w, Calls Try.prog 15 #[.int .i64 300] w fun e w' => e = .returned (.string ⟨#[2, 1, 44]⟩) ∧ Below w.heap.size w w' := fun w => by
    have h := num_any 300 w (by omega) (by omega)
    rw [show Wp.numB 300 = [2, 1, 44] by decide +kernel] at h
    exact h
  have c7 : ∀ w, Calls Try.prog 15 #[.int .i64 0] w fun e w' => e = .returned (.string ⟨#[0]⟩) ∧ Below w.heap.size w w' := fun w => by
    have h := num_any 0 w (by omega) (by omega)
    rw [show Wp.numB 0 = [0] by decide +kernel] at h
    exact h
  go_enter Try.func14, Try.ntmps14
  go_wp2_with fail
  refine (c1 _).mono ?_
  rintro e w1 ⟨rfl, b1⟩
  go_wp2_with fail
  refine (c2 _).mono ?_
  rintro e w2 ⟨rfl, b2⟩
  go_wp2_with fail
  refine (c3 _).mono ?_
  rintro e w3 ⟨rfl, b3⟩
  go_wp2_with fail
  refine (c4 _).mono ?_
  rintro e w4 ⟨rfl, b4⟩
  go_wp2_with fail
  refine (c5 _).mono ?_
  rintro e w5 ⟨rfl, b5⟩
  go_wp2_with fail
  refine (c6 _).mono ?_
  rintro e w6 ⟨rfl, b6⟩
  go_wp2_with fail
  refine (c7 _).mono ?_
  rintro e w7 ⟨rfl, b7⟩
  go_wp2_with fail
  go_ret
  have a2 := b1.trans (b2.mono b1.size)
  have a3 := a2.trans (b3.mono a2.size)
  have a4 := a3.trans (b4.mono a3.size)
  have a5 := a4.trans (b5.mono a4.size)
  have a6 := a5.trans (b6.mono a5.size)
  exact ⟨rfl, a6.trans (b7.mono a6.size)⟩

set_option maxHeartbeats 1000000 in
theorem apart_any (a b : Int) (ha : Wp.I64 a) (hb : Wp.I64 b) (w : World) :
    Calls Try.prog 7 #[.int .i64 a, .int .i64 b] w fun e w' => e = .returned (.bool true) ∧ Below w.heap.size w w' := by
  have la := Wp.numB_len a
  have lb := Wp.numB_len b
  have pa := Wp.numB_pos a
  have pb := Wp.numB_pos b
  rw [← Wp.B_size] at la lb pa pb
  have hbg := Lib.hid (Wp.begins a b ha hb)
  have hmono := fun h0 h => Wp.numB_mono a b h0 h
  rw [← Wp.B_size, ← Wp.B_size] at hmono
  have Hmono := Lib.hid hmono
  clear hmono
  have a1 := ha.1
  have a2 := ha.2
  have c1 := hb.1
  have c2 := hb.2
  by_cases hle : (Wp.B (Wp.numB a)).size ≤ (Wp.B (Wp.numB b)).size
  · clear ha hb
    go_enter Try.func7, Try.ntmps7
    go_wp2_with fail
    refine (numbers_any _).mono ?_
    rintro e w1 ⟨rfl, b1⟩
    go_wp2_with fail
    refine (num_any _ _ a1 a2).mono ?_
    rintro e w2 ⟨rfl, b2⟩
    go_wp2_with fail
    refine (num_any _ _ c1 c2).mono ?_
    rintro e w3 ⟨rfl, b3⟩
    go_wp2_with fail
    all_goals go_ret
    all_goals refine ⟨?_, (b1.trans (b2.mono b1.size)).trans (b3.mono (b1.trans (b2.mono b1.size)).size)⟩
    all_goals show Ending.returned (.bool ((((Wp.B (Wp.numB b)).extract 0 (Wp.B (Wp.numB a)).size).toList == (Wp.B (Wp.numB a)).toList) == (a == b))) = _
    all_goals rw [hbg.out]
    all_goals simp
  · have hab : ¬ (0 ≤ a ∧ a ≤ b) := fun c => hle (Hmono.out c.1 c.2)
    have hne : (a == b) = false := by
      rw [beq_eq_false_iff_ne]
      rintro rfl
      exact hle (Nat.le_refl _)
    have hlt : (Wp.B (Wp.numB b)).size < (Wp.B (Wp.numB a)).size := by omega
    clear ha hb hle
    by_cases h0 : 0 ≤ a
    · have hba : b < a := by omega
      clear hab
      go_enter Try.func7, Try.ntmps7
      go_wp2_with fail
      refine (numbers_any _).mono ?_
      rintro e w1 ⟨rfl, b1⟩
      go_wp2_with fail
      refine (num_any _ _ a1 a2).mono ?_
      rintro e w2 ⟨rfl, b2⟩
      go_wp2_with fail
      refine (num_any _ _ c1 c2).mono ?_
      rintro e w3 ⟨rfl, b3⟩
      go_wp2_with fail
      all_goals go_ret
      all_goals refine ⟨?_, (b1.trans (b2.mono b1.size)).trans (b3.mono (b1.trans (b2.mono b1.size)).size)⟩
      all_goals first | rfl | simp
    · clear hab
      go_enter Try.func7, Try.ntmps7
      go_wp2_with fail
      refine (numbers_any _).mono ?_
      rintro e w1 ⟨rfl, b1⟩
      go_wp2_with fail
      refine (num_any _ _ a1 a2).mono ?_
      rintro e w2 ⟨rfl, b2⟩
      go_wp2_with fail
      refine (num_any _ _ c1 c2).mono ?_
      rintro e w3 ⟨rfl, b3⟩
      go_wp2_with fail
      all_goals go_ret
      all_goals refine ⟨?_, (b1.trans (b2.mono b1.size)).trans (b3.mono (b1.trans (b2.mono b1.size)).size)⟩
      all_goals first | rfl | simp
end Go.Proofs.Ytdhiekhinimohaa
