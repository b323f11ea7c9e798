/-
  The walks of civil's own small calls: which numbers are a time, a month, a day; the days of a month, the number of a day, the year and the month of a number. Conditions: the table reads as it is laid; numbers fit 64 bits.
-/
import Derived.Test.YtpaleljnkejdgaaDoorCivLeaf
namespace Go.Proofs.YtpaleljnkejdgaaDoor
open Go.RowKit

set_option maxHeartbeats 400000 in
theorem civ_below (n k : Int) (w : World) : Calls Tryd.prog 95 #[.int .i64 n, .int .i64 k] w fun e w' => e = .returned (.bool (decide (0 ≤ n) && decide (n < k))) ∧ w = w' := by
  by_cases h : 0 ≤ n
  · rw [decide_eq_true h, Bool.true_and]
    go_enter Tryd.func95, Tryd.ntmps95
    go_wp2_with fail
    go_ret
    exact ⟨rfl, rfl⟩
  · rw [decide_eq_false h, Bool.false_and]
    have h2 : n < 0 := by omega
    go_enter Tryd.func95, Tryd.ntmps95
    go_wp2_with fail
    go_ret
    exact ⟨rfl, rfl⟩
theorem civ_below_yes (n k : Int) (w : World) (h1 : 0 ≤ n) (h2 : n < k) : Calls Tryd.prog 95 #[.int .i64 n, .int .i64 k] w fun e w' => e = .returned (.bool true) ∧ w = w' := by
  have h := civ_below n k w
  rw [decide_eq_true h1, decide_eq_true h2] at h
  exact h
theorem civ_below_no (n k : Int) (w : World) (h : ¬ (0 ≤ n ∧ n < k)) : Calls Tryd.prog 95 #[.int .i64 n, .int .i64 k] w fun e w' => e = .returned (.bool false) ∧ w = w' := by
  have h0 := civ_below n k w
  have e : (decide (0 ≤ n) && decide (n < k)) = false := by
    by_cases h1 : 0 ≤ n
    · rw [decide_eq_false (show ¬ n < k by omega), Bool.and_false]
    · rw [decide_eq_false h1, Bool.false_and]
  rw [e] at h0
  exact h0
/-- Is the number a time? -/
def Wp.isT (t : Int) : Bool := decide (-62135596800 ≤ t) && decide (t ≤ 253402300799)
theorem Wp.isT_yes {t : Int} (h : Wp.isT t = true) : -62135596800 ≤ t ∧ t ≤ 253402300799 := by
  unfold Wp.isT at h; simpa using h
theorem Wp.isT_mk {t : Int} (h1 : -62135596800 ≤ t) (h2 : t ≤ 253402300799) : Wp.isT t = true := by
  unfold Wp.isT; simp [h1, h2]
theorem Wp.isT_no {t : Int} (h : Wp.isT t = false) : t < -62135596800 ∨ 253402300799 < t := by
  by_cases h1 : -62135596800 ≤ t
  · by_cases h2 : t ≤ 253402300799
    · rw [Wp.isT_mk h1 h2] at h; cases h
    · omega
  · omega
set_option maxHeartbeats 400000 in
theorem civ_isTime (t : Int) (w : World) : Calls Tryd.prog 80 #[.int .i64 t] w fun e w' => e = .returned (.bool (Wp.isT t)) ∧ w = w' := by
  unfold Wp.isT
  by_cases h : -62135596800 ≤ t
  · rw [decide_eq_true h, Bool.true_and]
    go_enter Tryd.func80, Tryd.ntmps80
    go_wp2_with fail
    go_ret
    exact ⟨rfl, rfl⟩
  · rw [decide_eq_false h, Bool.false_and]
    have h2 : t < -62135596800 := by omega
    go_enter Tryd.func80, Tryd.ntmps80
    go_wp2_with fail
    go_ret
    exact ⟨rfl, rfl⟩
set_option maxHeartbeats 400000 in
theorem civ_isMonth_yes (y m : Int) (w : World) (h1 : 1 ≤ y) (h2 : y ≤ 9999) (h3 : 1 ≤ m) (h4 : m ≤ 12) : Calls Tryd.prog 124 #[.int .i64 y, .int .i64 m] w fun e w' => e = .returned (.bool true) ∧ w = w' := by
  go_enter Tryd.func124, Tryd.ntmps124
  go_wp2_with fail
  go_ret
  exact ⟨rfl, rfl⟩
set_option maxHeartbeats 400000 in
theorem civ_isMonth_no (y m : Int) (w : World) (h : ¬ (1 ≤ y ∧ y ≤ 9999 ∧ 1 ≤ m ∧ m ≤ 12)) : Calls Tryd.prog 124 #[.int .i64 y, .int .i64 m] w fun e w' => e = .returned (.bool false) ∧ w = w' := by
  have h' : y < 1 ∨ (1 ≤ y ∧ 9999 < y) ∨ (1 ≤ y ∧ y ≤ 9999 ∧ m < 1) ∨ (1 ≤ y ∧ y ≤ 9999 ∧ 1 ≤ m ∧ 12 < m) := by omega
  clear h
  rcases h' with h | ⟨h1, h⟩ | ⟨h1, h2, h⟩ | ⟨h1, h2, h3, h⟩
  case inr.inr.inr =>
    have q : decide (m ≤ 12) = false := decide_eq_false (by omega)
    go_enter Tryd.func124, Tryd.ntmps124
    go_wp2_with fail
    go_ret
    exact ⟨rfl, rfl⟩
  all_goals
    go_enter Tryd.func124, Tryd.ntmps124
    go_wp2_with fail
    go_ret
    exact ⟨rfl, rfl⟩
set_option maxHeartbeats 400000 in
theorem civ_days (y m : Int) (w : World) (hL : Cv.Laid w) (h1 : 1 ≤ y) (h2 : y ≤ 10000) (h3 : 1 ≤ m) (h4 : m ≤ 12) :
    Calls Tryd.prog 125 #[.int .i64 y, .int .i64 m] w fun e w' => e = .returned (.int .i64 (Wp.dy y m)) ∧ w = w' := by
  have HL := Lib.hid hL
  have a1 := Wp.ah_bd (y := y) h3 (by omega)
  have a2 := Wp.ah_bd (y := y) (m := m + 1) (by omega) (by omega)
  have Hd := Lib.hid (show Wp.dy y m = Wp.ah y (m + 1) - Wp.ah y m from rfl)
  have A1 := Lib.hid (fun w hL => civ_ahead y m w hL h1 h2 h3 (by omega))
  have A2 := Lib.hid (fun w hL => civ_ahead y (m + 1) w hL h1 h2 (by omega) (by omega))
  obtain ⟨b1, hb1⟩ : ∃ b, b = Wp.ah y m := ⟨_, rfl⟩
  obtain ⟨b2, hb2⟩ : ∃ b, b = Wp.ah y (m + 1) := ⟨_, rfl⟩
  rw [← hb1] at a1 Hd A1
  rw [← hb2] at a2 Hd A2
  clear hL hb1 hb2
  go_enter Tryd.func125, Tryd.ntmps125
  go_wp2_with fail
  refine (A2.out _ HL.out).mono ?_
  rintro e w1 ⟨rfl, rfl⟩
  go_wp2_with fail
  refine (A1.out _ HL.out).mono ?_
  rintro e w1 ⟨rfl, rfl⟩
  go_wp2_with fail
  go_ret
  rw [Hd.out]
  exact ⟨rfl, rfl⟩
set_option maxHeartbeats 400000 in
theorem civ_number (y m d : Int) (w : World) (hL : Cv.Laid w) (h1 : 1 ≤ y) (h2 : y ≤ 10000) (h3 : 1 ≤ m) (h4 : m ≤ 12) (h5 : 1 ≤ d) (h6 : d ≤ 31) :
    Calls Tryd.prog 96 #[.int .i64 y, .int .i64 m, .int .i64 d] w fun e w' => e = .returned (.int .i64 (Wp.num y m d)) ∧ w = w' := by
  have HL := Lib.hid hL
  have a1 := Wp.ah_bd (y := y) h3 (by omega)
  have a2 := Wp.bg_mono (a := 1) (b := y) h1
  have a3 := Wp.bg_mono (a := y) (b := 10000) h2
  rw [Wp.bg_one] at a2
  rw [Wp.bg_end] at a3
  have Hd := Lib.hid (show Wp.num y m d = Wp.bg y + Wp.ah y m + d - 1 from rfl)
  have A1 := Lib.hid (fun w hL => civ_ahead y m w hL h1 h2 h3 (by omega))
  have A2 := Lib.hid (fun w => civ_begin y w h1 h2)
  obtain ⟨b1, hb1⟩ : ∃ b, b = Wp.ah y m := ⟨_, rfl⟩
  obtain ⟨b2, hb2⟩ : ∃ b, b = Wp.bg y := ⟨_, rfl⟩
  rw [← hb1] at a1 Hd A1
  rw [← hb2] at a2 a3 Hd A2
  clear hL hb1 hb2
  go_enter Tryd.func96, Tryd.ntmps96
  go_wp2_with fail
  refine (A2.out _).mono ?_
  rintro e w1 ⟨rfl, rfl⟩
  go_wp2_with fail
  refine (A1.out _ HL.out).mono ?_
  rintro e w1 ⟨rfl, rfl⟩
  go_wp2_with fail
  go_ret
  rw [Hd.out]
  exact ⟨rfl, rfl⟩
/-- The day of the week of the day of that number. -/
def Wp.wd (n : Int) : Int := (1 + n) % 7
set_option maxHeartbeats 400000 in
theorem civ_weekdayOf (n : Int) (w : World) (h1 : 0 ≤ n) (h2 : n ≤ 3652058) :
    Calls Tryd.prog 85 #[.int .i64 n] w fun e w' => e = .returned (.int .i64 (Wp.wd n)) ∧ w = w' := by
  go_enter Tryd.func85, Tryd.ntmps85
  go_wp2_with fail
  go_ret
  exact ⟨rfl, rfl⟩
set_option maxHeartbeats 400000 in
theorem civ_isDay_yes (y m d : Int) (w : World) (hL : Cv.Laid w) (h : Wp.Day y m d) :
    Calls Tryd.prog 94 #[.int .i64 y, .int .i64 m, .int .i64 d] w fun e w' => e = .returned (.bool true) ∧ w = w' := by
  have HL := Lib.hid hL
  obtain ⟨h1, h2, h3, h4, h5, h6⟩ := h
  have A2 := Lib.hid (fun w hL => civ_days y m w hL h1 (by omega) h3 h4)
  obtain ⟨b2, hb2⟩ : ∃ b, b = Wp.dy y m := ⟨_, rfl⟩
  rw [← hb2] at h6 A2
  clear hL hb2
  go_enter Tryd.func94, Tryd.ntmps94
  go_wp2_with fail
  refine (civ_isMonth_yes _ _ _ h1 h2 h3 h4).mono ?_
  rintro e w1 ⟨rfl, rfl⟩
  go_wp2_with fail
  refine (A2.out _ HL.out).mono ?_
  rintro e w1 ⟨rfl, rfl⟩
  go_wp2_with fail
  go_ret
  exact ⟨rfl, rfl⟩
set_option maxHeartbeats 400000 in
theorem civ_isDay_no (y m d : Int) (w : World) (hL : Cv.Laid w) (h : ¬ Wp.Day y m d) :
    Calls Tryd.prog 94 #[.int .i64 y, .int .i64 m, .int .i64 d] w fun e w' => e = .returned (.bool false) ∧ w = w' := by
  have HL := Lib.hid hL
  by_cases hm : 1 ≤ y ∧ y ≤ 9999 ∧ 1 ≤ m ∧ m ≤ 12
  · obtain ⟨h1, h2, h3, h4⟩ := hm
    by_cases h5 : 1 ≤ d
    · have h6 : Wp.dy y m < d := by
        refine Int.not_le.1 fun h6 => h ⟨h1, h2, h3, h4, h5, h6⟩
      have A2 := Lib.hid (fun w hL => civ_days y m w hL h1 (by omega) h3 h4)
      obtain ⟨b2, hb2⟩ : ∃ b, b = Wp.dy y m := ⟨_, rfl⟩
      rw [← hb2] at h6 A2
      have q : decide (d ≤ b2) = false := decide_eq_false (by omega)
      clear hL hb2 h
      go_enter Tryd.func94, Tryd.ntmps94
      go_wp2_with fail
      refine (civ_isMonth_yes _ _ _ h1 h2 h3 h4).mono ?_
      rintro e w1 ⟨rfl, rfl⟩
      go_wp2_with fail
      refine (A2.out _ HL.out).mono ?_
      rintro e w1 ⟨rfl, rfl⟩
      go_wp2_with fail
      go_ret
      exact ⟨rfl, rfl⟩
    · have h6 : d < 1 := by omega
      clear hL h h5
      go_enter Tryd.func94, Tryd.ntmps94
      go_wp2_with fail
      refine (civ_isMonth_yes _ _ _ h1 h2 h3 h4).mono ?_
      rintro e w1 ⟨rfl, rfl⟩
      go_wp2_with fail
      go_ret
      exact ⟨rfl, rfl⟩
  · have A2 := Lib.hid (fun w => civ_isMonth_no y m w hm)
    clear hL h hm
    go_enter Tryd.func94, Tryd.ntmps94
    go_wp2_with fail
    refine (A2.out _).mono ?_
    rintro e w1 ⟨rfl, rfl⟩
    go_wp2_with fail
    go_ret
    exact ⟨rfl, rfl⟩
set_option maxHeartbeats 400000 in
theorem civ_yearOf (n y : Int) (w : World) (h0 : 0 ≤ n) (h1 : n ≤ 3652058) (hy1 : 1 ≤ y) (hy2 : y ≤ 9999) (h2 : Wp.bg y ≤ n) (h3 : n < Wp.bg (y + 1)) :
    Calls Tryd.prog 81 #[.int .i64 n] w fun e w' => e = .returned (.int .i64 y) ∧ w = w' := by
  have g0 := Wp.bg_guess h3
  have Hg := Lib.hid (show ∀ k : Int, k + 1 ≤ y → Wp.bg (k + 1) ≤ n from fun k hk => Int.le_trans (Wp.bg_mono hk) h2)
  have H3 := Lib.hid h3
  clear h2 h3
  have g1 : 0 ≤ n * 400 / 146097 := by omega
  go_enter Tryd.func81, Tryd.ntmps81
  go_wp2_with fail
  go_loop [3] (fun t => ∃ k : Int, 0 ≤ k ∧ k ≤ y ∧ t = .int .i64 k) (fun t => (y - intOf t).toNat)
  case atStart => exact ⟨_, g1, g0, rfl⟩
  case round =>
    obtain ⟨k, hk1, hk2, rfl⟩ := hrel
    clear g0 g1
    by_cases hlt : k + 1 ≤ y
    · have hc := Hg.out k hlt
      have A1 := Lib.hid (fun w => civ_begin (k + 1) w (by omega) (by omega))
      generalize Wp.bg (k + 1) = b at *
      go_wp2_with fail
      refine (A1.out _).mono ?_
      rintro e w1 ⟨rfl, rfl⟩
      go_wp2_with fail
      exact ⟨⟨k + 1, by omega, by omega, rfl⟩, by simp [intOf]; omega⟩
    · obtain rfl : k = y := by omega
      have hc := H3.out
      have A1 := Lib.hid (fun w => civ_begin (k + 1) w (by omega) (by omega))
      generalize Wp.bg (k + 1) = b at *
      go_wp2_with fail
      refine (A1.out _).mono ?_
      rintro e w1 ⟨rfl, rfl⟩
      go_wp2_with fail
      go_ret
      exact ⟨rfl, rfl⟩
set_option maxHeartbeats 400000 in
theorem civ_monthOf (y n m : Int) (w : World) (hL : Cv.Laid w) (hy1 : 1 ≤ y) (hy2 : y ≤ 9999) (h0 : 0 ≤ n) (h1 : n ≤ 365) (hm1 : 1 ≤ m) (hm2 : m ≤ 12) (h2 : Wp.ah y m ≤ n) (h3 : n < Wp.ah y (m + 1)) :
    Calls Tryd.prog 82 #[.int .i64 y, .int .i64 n] w fun e w' => e = .returned (.int .i64 m) ∧ w = w' := by
  have HL := Lib.hid hL
  have g0 : 1 + n / 31 ≤ m := by
    have := (Wp.ah_bd (y := y) (m := m + 1) (by omega) (by omega)).2
    omega
  have Hg := Lib.hid (show ∀ k : Int, 1 ≤ k → k + 1 ≤ m → Wp.ah y (k + 1) ≤ n from fun k hk0 hk => Int.le_trans (Wp.ah_mono (by omega) hk (by omega)) h2)
  have H3 := Lib.hid h3
  clear h2 h3 hL
  have g1 : 0 ≤ n / 31 := by omega
  go_enter Tryd.func82, Tryd.ntmps82
  go_wp2_with fail
  go_loop [5] (fun t => ∃ k : Int, 1 ≤ k ∧ k ≤ m ∧ t = .int .i64 k) (fun t => (m - intOf t).toNat)
  case atStart => exact ⟨_, by omega, g0, rfl⟩
  case round =>
    obtain ⟨k, hk1, hk2, rfl⟩ := hrel
    clear g0 g1
    by_cases hlt : k + 1 ≤ m
    · have hc := Hg.out k hk1 hlt
      have A1 := Lib.hid (fun w hL => civ_ahead y (k + 1) w hL hy1 (by omega) (by omega) (by omega))
      generalize Wp.ah y (k + 1) = b at *
      go_wp2_with fail
      refine (A1.out _ HL.out).mono ?_
      rintro e w1 ⟨rfl, rfl⟩
      go_wp2_with fail
      exact ⟨⟨k + 1, by omega, by omega, rfl⟩, by simp [intOf]; omega⟩
    · obtain rfl : k = m := by omega
      have hc := H3.out
      have A1 := Lib.hid (fun w hL => civ_ahead y (k + 1) w hL hy1 (by omega) (by omega) (by omega))
      generalize Wp.ah y (k + 1) = b at *
      go_wp2_with fail
      refine (A1.out _ HL.out).mono ?_
      rintro e w1 ⟨rfl, rfl⟩
      go_wp2_with fail
      go_ret
      exact ⟨rfl, rfl⟩
end Go.Proofs.YtpaleljnkejdgaaDoor
