/-
  The laws CivilMonths, CivilOn and CivilNth. Conditions: the table reads as it is laid, numbers fit 64 bits.
-/
import Derived.Test.YtkpjkekaedecgaaDoorCivLives
namespace Go.Proofs.YtkpjkekaedecgaaDoor
open Go.RowKit

set_option maxHeartbeats 1000000 in
theorem civMonths_any (y m d k n : Int) (w : World) (hL : Cv.Laid w) : Calls Tryd.prog 4 #[.int .i64 y, .int .i64 m, .int .i64 d, .int .i64 k, .int .i64 n] w fun e w' => e = .returned (.bool true) ∧ Below w.heap.size w w' := by
  have A1 := Lib.hid (fun w hL => civ_Days y m w hL)
  have A2 := Lib.hid (fun w => rciv_Days y m w)
  have A3 := Lib.hid (fun w hL => civ_Weekday y m d w hL)
  have A4 := Lib.hid (fun w => rciv_Weekday y m d w)
  have A5 := Lib.hid (fun w hL => civ_Nth y m k n w hL)
  have A6 := Lib.hid (fun w => rciv_Nth y m k n w)
  generalize Wp.daysR y m = r1 at *
  generalize Wp.weekdayR y m d = r2 at *
  generalize Wp.nthR y m k n = r3 at *
  obtain ⟨a1, e1⟩ := r1
  obtain ⟨a2, e2⟩ := r2
  obtain ⟨a3, e3⟩ := r3
  simp only [] at A1 A2 A3 A4 A5 A6
  have HL := Lib.hid hL
  clear hL
  go_enter Tryd.func4, Tryd.ntmps4
  go_wp2_with fail
  refine (A1.out _ HL.out).mono ?_
  rintro e w1 ⟨rfl, rfl⟩
  go_wp2_with fail
  refine (A2.out _).mono ?_
  rintro e w1 ⟨rfl, b1⟩
  go_wp2_with fail
  refine (A3.out _ (HL.out.below b1)).mono ?_
  rintro e w2 ⟨rfl, rfl⟩
  go_wp2_with fail
  refine (A4.out _).mono ?_
  rintro e w2 ⟨rfl, b2⟩
  have c2 := cv_then b1 b2 b1.size
  go_wp2_with fail
  refine (A5.out _ (HL.out.below c2)).mono ?_
  rintro e w3 ⟨rfl, rfl⟩
  go_wp2_with fail
  refine (A6.out _).mono ?_
  rintro e w3 ⟨rfl, b3⟩
  have c3 := cv_then c2 b3 c2.size
  go_wp2_with fail
  refine (civLives_any _ (HL.out.below c3)).mono ?_
  rintro e w4 ⟨rfl, b4⟩
  have c4 := cv_then c3 b4 c3.size
  go_wp2_with fail
  go_ret
  exact ⟨rfl, c4⟩

theorem Wp.weekR_in {t : Int} (h1 : -62135596800 ≤ t) (h2 : t ≤ 253402300799) : Wp.weekR t = (Wp.weekD t, 0) := if_pos (Wp.isT_mk h1 h2)
set_option maxHeartbeats 1000000 in
theorem civOn_any (t : Int) (w : World) (ht : -9223372036854775808 ≤ t ∧ t ≤ 9223372036854775807) (hL : Cv.Laid w) : Calls Tryd.prog 6 #[.int .i64 t] w fun e w' => e = .returned (.bool true) ∧ Below w.heap.size w w' := by
  obtain ⟨t1, t2⟩ := ht
  have HL := Lib.hid hL
  clear hL
  by_cases h1 : t < -62135596800
  · go_enter Tryd.func6, Tryd.ntmps6
    go_wp2_with fail
    refine (civLives_any _ HL.out).mono ?_
    rintro e w1 ⟨rfl, b1⟩
    go_wp2_with fail
    go_ret
    exact ⟨rfl, b1⟩
  · have h1' : -62135596800 ≤ t := by omega
    clear h1
    by_cases h2 : 253402300799 - 604800 < t
    · have h2' : 253401695999 < t := by omega
      go_enter Tryd.func6, Tryd.ntmps6
      go_wp2_with fail
      refine (civLives_any _ HL.out).mono ?_
      rintro e w1 ⟨rfl, b1⟩
      go_wp2_with fail
      go_ret
      exact ⟨rfl, b1⟩
    · have h2' : t ≤ 253401695999 := by omega
      clear h2
      have A1 := Lib.hid (fun w => civ_Week t w)
      have A2 := Lib.hid (fun w => civ_Week (t + 60) w)
      have A3 := Lib.hid (fun w => civ_Week (t + 604800) w)
      have A4 := Lib.hid (fun w => civ_Week (t + 1) w)
      rw [Wp.weekR_in h1' (by omega)] at A1
      rw [Wp.weekR_in (by omega) (by omega)] at A2
      rw [Wp.weekR_in (by omega) (by omega)] at A3
      rw [Wp.weekR_in (by omega) (by omega)] at A4
      have q1 : 0 ≤ Wp.weekD t ∧ Wp.weekD t < 10080 := by unfold Wp.weekD; omega
      have q2 : Wp.weekD (t + 60) = (Wp.weekD t + 1) % 10080 := by unfold Wp.weekD; omega
      have q3 : Wp.weekD (t + 604800) = Wp.weekD t := by unfold Wp.weekD; omega
      have q4 : Wp.weekD (t + 1) = Wp.weekD t ∨ Wp.weekD (t + 1) = (Wp.weekD t + 1) % 10080 := by unfold Wp.weekD; omega
      rw [q2] at A2
      rw [q3] at A3
      clear q2 q3
      generalize Wp.weekD t = a at *
      obtain ⟨q0, q1⟩ := q1
      rcases q4 with q4 | q4
      · rw [q4] at A4
        clear q4
        go_enter Tryd.func6, Tryd.ntmps6
        go_wp2_with fail
        refine (civLives_any _ HL.out).mono ?_
        rintro e w1 ⟨rfl, b1⟩
        go_wp2_with fail
        refine (A1.out _).mono ?_
        rintro e w2 ⟨rfl, rfl⟩
        go_wp2_with fail
        refine (A2.out _).mono ?_
        rintro e w2 ⟨rfl, rfl⟩
        go_wp2_with fail
        refine (A3.out _).mono ?_
        rintro e w2 ⟨rfl, rfl⟩
        go_wp2_with fail
        refine (A4.out _).mono ?_
        rintro e w2 ⟨rfl, rfl⟩
        go_wp2_with fail
        go_ret
        exact ⟨rfl, b1⟩
      · rw [q4] at A4
        clear q4
        have q5 : ((a + 1) % 10080 == a) = false := by
          have : (a + 1) % 10080 ≠ a := by omega
          simpa using this
        go_enter Tryd.func6, Tryd.ntmps6
        go_wp2_with fail
        refine (civLives_any _ HL.out).mono ?_
        rintro e w1 ⟨rfl, b1⟩
        go_wp2_with fail
        refine (A1.out _).mono ?_
        rintro e w2 ⟨rfl, rfl⟩
        go_wp2_with fail
        refine (A2.out _).mono ?_
        rintro e w2 ⟨rfl, rfl⟩
        go_wp2_with fail
        refine (A3.out _).mono ?_
        rintro e w2 ⟨rfl, rfl⟩
        go_wp2_with fail
        refine (A4.out _).mono ?_
        rintro e w2 ⟨rfl, rfl⟩
        go_wp2_with fail
        go_ret
        exact ⟨rfl, b1⟩

theorem Wp.nthR_cases (y m k n : Int) : ((Wp.nthR y m k n).2 = 1 ∧ (Wp.nthR y m k n).1 = 0) ∨ (Wp.monB y m = true ∧ 0 ≤ k ∧ k < 7 ∧ 1 ≤ n ∧ n ≤ 5 ∧ Wp.nthR y m k n = (Wp.nthD y m k n, 0)) := by
  unfold Wp.nthR
  split
  · next h => exact Or.inr ⟨h.1, h.2.1, h.2.2.1, h.2.2.2.1, h.2.2.2.2, rfl⟩
  · exact Or.inl ⟨rfl, rfl⟩
theorem Wp.nthD_facts {y m k n : Int} (hm : Wp.monB y m = true) (k1 : 0 ≤ k) (k2 : k < 7) (n1 : 1 ≤ n) (n2 : n ≤ 5) :
    1 ≤ Wp.nthD y m k n ∧ Wp.nthD y m k n ≤ Wp.dy y m ∧ Wp.wd (Wp.num y m (Wp.nthD y m k n)) = k ∧ Wp.nthD y m k 1 = Wp.firstOf y m k ∧ (n < 5 → Wp.nthD y m k n = Wp.firstOf y m k + 7 * (n - 1)) ∧ (n = 5 → Wp.dy y m < Wp.nthD y m k n + 7) := by
  obtain ⟨h1, h2, h3, h4⟩ := Wp.monB_iff.1 hm
  have hb := Wp.dy_bd (y := y) h3 h4
  have hf := Wp.first_bd y m k
  rw [Wp.match_iff k1 k2]
  have e1 : Wp.nthD y m k 1 = Wp.firstOf y m k := by unfold Wp.nthD; rw [if_neg (by omega)]; omega
  rw [e1]
  unfold Wp.nthD
  generalize Wp.firstOf y m k = f at *
  generalize Wp.dy y m = b at *
  split <;> omega
theorem Wp.weekdayR_in {y m d : Int} (hm : Wp.monB y m = true) (h1 : 1 ≤ d) (h2 : d ≤ Wp.dy y m) : Wp.weekdayR y m d = (Wp.wd (Wp.num y m d), 0) := by
  obtain ⟨a, b, c, e⟩ := Wp.monB_iff.1 hm
  exact if_pos (Wp.dayB_iff.2 ⟨a, b, c, e, h1, h2⟩)
set_option maxHeartbeats 1000000 in
theorem civNth_any (y m k n : Int) (w : World) (hL : Cv.Laid w) : Calls Tryd.prog 7 #[.int .i64 y, .int .i64 m, .int .i64 k, .int .i64 n] w fun e w' => e = .returned (.bool true) ∧ Below w.heap.size w w' := by
  have HL := Lib.hid hL
  clear hL
  have A1 := Lib.hid (fun w hL => civ_Nth y m k n w hL)
  rcases Wp.nthR_cases y m k n with ⟨h1, h2⟩ | ⟨hm, k1, k2, n1, n2, hr⟩
  · rw [h1, h2] at A1
    clear h1 h2
    go_enter Tryd.func7, Tryd.ntmps7
    go_wp2_with fail
    refine (civLives_any _ HL.out).mono ?_
    rintro e w1 ⟨rfl, b1⟩
    go_wp2_with fail
    refine (A1.out _ (HL.out.below b1)).mono ?_
    rintro e w2 ⟨rfl, rfl⟩
    go_wp2_with fail
    go_ret
    exact ⟨rfl, b1⟩
  · obtain ⟨d1, d2, d3, d4, d5, d6⟩ := Wp.nthD_facts (n := n) hm k1 k2 n1 n2
    rw [hr] at A1
    have A2 := Lib.hid (fun w hL => civ_Weekday y m (Wp.nthD y m k n) w hL)
    rw [Wp.weekdayR_in hm d1 d2, d3] at A2
    have A3 := Lib.hid (fun w hL => civ_Days y m w hL)
    rw [show Wp.daysR y m = (Wp.dy y m, 0) from if_pos hm] at A3
    have A4 := Lib.hid (fun w hL => civ_Nth y m k 1 w hL)
    rw [show Wp.nthR y m k 1 = (Wp.nthD y m k 1, 0) from if_pos ⟨hm, k1, k2, by omega, by omega⟩, d4] at A4
    simp only [] at A1 A2 A3 A4
    obtain ⟨h1, h2, h3, h4⟩ := Wp.monB_iff.1 hm
    have hb := Wp.dy_bd (y := y) h3 h4
    obtain ⟨f1, f2⟩ := Wp.first_bd y m k
    clear hr d3 d4 hm
    generalize Wp.nthD y m k n = r at *
    generalize Wp.firstOf y m k = f at *
    generalize Wp.dy y m = b at *
    by_cases h5 : n = 5
    · have q1 := d6 h5
      have q2 : (n == 5) = true := by simpa using h5
      clear d5 d6
      have q3 : r + 7 > b := q1
      have H5 := Lib.hid h5
      clear h5
      go_enter Tryd.func7, Tryd.ntmps7
      go_wp2_with fail
      refine (civLives_any _ HL.out).mono ?_
      rintro e w1 ⟨rfl, b1⟩
      go_wp2_with fail
      refine (A1.out _ (HL.out.below b1)).mono ?_
      rintro e w2 ⟨rfl, rfl⟩
      go_wp2_with fail
      refine (A2.out _ (HL.out.below b1)).mono ?_
      rintro e w2 ⟨rfl, rfl⟩
      go_wp2_with fail
      refine (A3.out _ (HL.out.below b1)).mono ?_
      rintro e w2 ⟨rfl, rfl⟩
      go_wp2_with fail
      refine (A4.out _ (HL.out.below b1)).mono ?_
      rintro e w2 ⟨rfl, rfl⟩
      go_wp2_with fail
      go_ret
      exact ⟨rfl, b1⟩
    · have q1 := Lib.hid (d5 (by omega))
      have q2 : (n == 5) = false := by simpa using h5
      clear d5 d6
      go_enter Tryd.func7, Tryd.ntmps7
      go_wp2_with fail
      refine (civLives_any _ HL.out).mono ?_
      rintro e w1 ⟨rfl, b1⟩
      go_wp2_with fail
      refine (A1.out _ (HL.out.below b1)).mono ?_
      rintro e w2 ⟨rfl, rfl⟩
      go_wp2_with fail
      refine (A2.out _ (HL.out.below b1)).mono ?_
      rintro e w2 ⟨rfl, rfl⟩
      go_wp2_with fail
      refine (A3.out _ (HL.out.below b1)).mono ?_
      rintro e w2 ⟨rfl, rfl⟩
      go_wp2_with fail
      refine (A4.out _ (HL.out.below b1)).mono ?_
      rintro e w2 ⟨rfl, rfl⟩
      rw [q1.out]
      go_wp2_with fail
      go_ret
      exact ⟨rfl, b1⟩
end Go.Proofs.YtkpjkekaedecgaaDoor
