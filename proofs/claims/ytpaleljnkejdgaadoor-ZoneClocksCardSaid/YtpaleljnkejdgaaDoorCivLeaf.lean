/-
  The walks of civil's smallest calls: is a year long, the days ahead of a year and of a month, the days of a month, the number of a day. Conditions: the table reads as it is laid; years and months are those of the calendar.
-/
import Derived.Test.YtpaleljnkejdgaaDoorRows
import Derived.Test.YtpaleljnkejdgaaDoorCivPlain
import Derived.WalkKit
import Derived.WalkSpells
import Derived.WalkLawsBesides
import Derived.Lib.Hide
import Derived.Deep.QuietTactic
import Derived.BigQuiet
namespace Go.Proofs.YtpaleljnkejdgaaDoor
open Go.RowKit

/-- The table of the days ahead of each month, in its block. -/
def Cv.Laid (w : World) : Prop := ∀ i, i < 13 → w.cell? ⟨1, i, none⟩ = some (.int .i64 (Wp.cum ((i : Int) + 1)))
theorem Cv.Laid.below {w w' : World} (h : Cv.Laid w) (hb : Below w.heap.size w w') : Cv.Laid w' := fun i hi => (hb.cell (World.block_lt_of_cell? w _ (h i hi))).trans (h i hi)

theorem Wp.lg_cases (y : Int) : (((y % 4 == 0) = false) ∧ Wp.lg y = false) ∨ ((y % 4 == 0) = true ∧ (y % 100 != 0) = true ∧ Wp.lg y = true) ∨ ((y % 4 == 0) = true ∧ (y % 100 != 0) = false ∧ (y % 400 == 0) = true ∧ Wp.lg y = true) ∨ ((y % 4 == 0) = true ∧ (y % 100 != 0) = false ∧ (y % 400 == 0) = false ∧ Wp.lg y = false) := by
  by_cases h4 : y % 4 = 0
  · by_cases h100 : y % 100 = 0
    · by_cases h400 : y % 400 = 0
      · simp [Wp.lg, h4, h100, h400]
      · simp [Wp.lg, h4, h100, h400]
    · simp [Wp.lg, h4, h100]
  · simp [Wp.lg, h4]
set_option maxHeartbeats 400000 in
theorem civ_long (y : Int) (w : World) (h1 : 0 ≤ y) (h2 : y ≤ 10000) :
    Calls Tryd.prog 118 #[.int .i64 y] w fun e w' => e = .returned (.bool (Wp.lg y)) ∧ w = w' := by
  rcases Wp.lg_cases y with ⟨q1, hl⟩ | ⟨q1, q2, hl⟩ | ⟨q1, q2, q3, hl⟩ | ⟨q1, q2, q3, hl⟩
  all_goals
    rw [hl]
    clear hl
    go_enter Tryd.func118, Tryd.ntmps118
    go_wp2_with fail
    go_ret
    exact ⟨rfl, rfl⟩
set_option maxHeartbeats 400000 in
theorem civ_begin (y : Int) (w : World) (h1 : 1 ≤ y) (h2 : y ≤ 10000) :
    Calls Tryd.prog 83 #[.int .i64 y] w fun e w' => e = .returned (.int .i64 (Wp.bg y)) ∧ w = w' := by
  go_enter Tryd.func83, Tryd.ntmps83
  go_wp2_with fail
  go_ret
  exact ⟨rfl, rfl⟩
set_option maxHeartbeats 400000 in
theorem civ_ahead (y m : Int) (w : World) (hL : Cv.Laid w) (h1 : 1 ≤ y) (h2 : y ≤ 10000) (h3 : 1 ≤ m) (h4 : m ≤ 13) :
    Calls Tryd.prog 84 #[.int .i64 y, .int .i64 m] w fun e w' => e = .returned (.int .i64 (Wp.ah y m)) ∧ w = w' := by
  have hc := hL (m - 1).toNat (by omega)
  rw [show (((m - 1).toNat : Nat) : Int) + 1 = m by omega] at hc
  have hcum : 0 ≤ Wp.cum m ∧ Wp.cum m ≤ 365 := by unfold Wp.cum; repeat' split
                                                  all_goals omega
  have hah : Wp.ah y m = if 2 < m then (if Wp.lg y = true then Wp.cum m + 1 else Wp.cum m) else Wp.cum m := by
    unfold Wp.ah Wp.lp; repeat' split
    all_goals omega
  obtain ⟨cm, hcm⟩ : ∃ cm, cm = Wp.cum m := ⟨_, rfl⟩
  obtain ⟨i, hi⟩ : ∃ i : Nat, m = (i : Int) + 1 := ⟨(m - 1).toNat, by omega⟩
  subst hi
  rw [show ((i : Int) + 1 - 1).toNat = i by omega] at hc
  rw [← hcm] at hc hcum hah
  have c1 := hcum.1
  have c2 := hcum.2
  have i1 : i < 13 := by omega
  have Hah := Lib.hid hah
  clear hL hah hcm hcum
  by_cases hm : 2 < (i : Int) + 1
  · cases hl : Wp.lg y with
    | true =>
      have Hl := Lib.hid hl
      clear hl
      go_enter Tryd.func84, Tryd.ntmps84
      go_wp2_with fail
      refine (civ_long _ _ (by omega) h2).mono ?_
      rintro e w1 ⟨rfl, rfl⟩
      rw [Hl.out]
      go_wp2_with fail
      go_ret
      rw [Hah.out, if_pos hm, if_pos Hl.out]
      exact ⟨rfl, rfl⟩
    | false =>
      have Hl := Lib.hid hl
      clear hl
      go_enter Tryd.func84, Tryd.ntmps84
      go_wp2_with fail
      refine (civ_long _ _ (by omega) h2).mono ?_
      rintro e w1 ⟨rfl, rfl⟩
      rw [Hl.out]
      go_wp2_with fail
      go_ret
      rw [Hah.out, if_pos hm, if_neg (by rw [Hl.out]; simp)]
      exact ⟨rfl, rfl⟩
  · go_enter Tryd.func84, Tryd.ntmps84
    go_wp2_with fail
    go_ret
    rw [Hah.out, if_neg (by omega)]
    exact ⟨rfl, rfl⟩
end Go.Proofs.YtpaleljnkejdgaaDoor
