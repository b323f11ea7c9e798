/-
  The walks of the document's own answer for the calendar (bellmanref05), the smaller calls: long, month, ahead, day, Is, there, Days, Weekday, Time. Conditions: years and months are those of the calendar where a call asks for it.
-/
import Derived.Test.YtpaleljnkejdgaaDoorCivCalls
namespace Go.Proofs.YtpaleljnkejdgaaDoor
open Go.RowKit

theorem cv_then {w0 w1 w2 : World} {B : Nat} (h1 : Below B w0 w1) (h2 : Below w1.heap.size w1 w2) (hB : B ≤ w1.heap.size) : Below B w0 w2 := h1.trans (h2.mono hB)
theorem Wp.rlg_cases (y : Int) : ((y % 400 == 0) = true ∧ Wp.lg y = true) ∨ ((y % 400 == 0) = false ∧ (y % 4 == 0) = false ∧ Wp.lg y = false) ∨ ((y % 400 == 0) = false ∧ (y % 4 == 0) = true ∧ (y % 100 != 0) = true ∧ Wp.lg y = true) ∨ ((y % 400 == 0) = false ∧ (y % 4 == 0) = true ∧ (y % 100 != 0) = false ∧ Wp.lg y = false) := by
  by_cases h400 : y % 400 = 0
  · have h4 : y % 4 = 0 := by omega
    simp [Wp.lg, h4, h400]
  · by_cases h4 : y % 4 = 0
    · by_cases h100 : y % 100 = 0
      · simp [Wp.lg, h4, h100, h400]
      · simp [Wp.lg, h4, h100, h400]
    · simp [Wp.lg, h4, h400]
set_option maxHeartbeats 400000 in
theorem rciv_long (y : Int) (w : World) (h1 : 0 ≤ y) (h2 : y ≤ 10000) :
    Calls Tryd.prog 119 #[.int .i64 y] w fun e w' => e = .returned (.bool (Wp.lg y)) ∧ w = w' := by
  rcases Wp.rlg_cases y with ⟨q1, hl⟩ | ⟨q1, q2, hl⟩ | ⟨q1, q2, q3, hl⟩ | ⟨q1, q2, q3, hl⟩
  all_goals
    rw [hl]
    clear hl
    go_enter Tryd.func119, Tryd.ntmps119
    go_wp2_with fail
    go_ret
    exact ⟨rfl, rfl⟩
theorem Wp.dy_plain {y m : Int} (h1 : 1 ≤ m) (h2 : m ≤ 12) (h : m = 2 → Wp.lg y = false) : Wp.dy y m = if m = 2 then 28 else if m = 4 ∨ m = 6 ∨ m = 9 ∨ m = 11 then 30 else 31 := by
  rw [Wp.dy_eq h1 h2]
  by_cases c : m = 2
  · rw [if_pos c, if_pos c]; unfold Wp.lp; rw [h c]; rfl
  · rw [if_neg c, if_neg c]
set_option maxHeartbeats 1000000 in
theorem rciv_month_plain (y m : Int) (w : World) (h1 : 1 ≤ m) (h2 : m ≤ 12) (h : m ≠ 2) :
    Calls Tryd.prog 87 #[.int .i64 y, .int .i64 m] w fun e w' => e = .returned (.int .i64 (Wp.dy y m)) ∧ Below w.heap.size w w' := by
  rw [Wp.dy_plain h1 h2 (fun e => absurd e h)]
  rcases Wp.m12 h1 h2 with e | e | e | e | e | e | e | e | e | e | e | e
  case inr.inl => exact absurd e h
  all_goals
    subst e
    clear h1 h2 h
    go_enter Tryd.func87, Tryd.ntmps87
    go_wp2_with fail
    go_ret
    exact ⟨rfl, (Below.refl _ _).alloc (Nat.le_refl _) _⟩
set_option maxHeartbeats 1000000 in
theorem rciv_month (y m : Int) (w : World) (hy1 : 0 ≤ y) (hy2 : y ≤ 10000) (h1 : 1 ≤ m) (h2 : m ≤ 12) :
    Calls Tryd.prog 87 #[.int .i64 y, .int .i64 m] w fun e w' => e = .returned (.int .i64 (Wp.dy y m)) ∧ Below w.heap.size w w' := by
  by_cases h : m = 2
  · subst h
    cases hl : Wp.lg y with
    | true =>
      rw [show Wp.dy y 2 = 29 by rw [Wp.dy_eq h1 h2]; unfold Wp.lp; rw [hl]; rfl]
      have Hl := Lib.hid hl
      clear hl
      go_enter Tryd.func87, Tryd.ntmps87
      go_wp2_with fail
      refine (rciv_long _ _ hy1 hy2).mono ?_
      rintro e w1 ⟨rfl, rfl⟩
      rw [Hl.out]
      go_wp2_with fail
      go_ret
      exact ⟨rfl, Below.refl _ _⟩
    | false =>
      rw [Wp.dy_plain h1 h2 (fun _ => hl)]
      have Hl := Lib.hid hl
      clear hl
      go_enter Tryd.func87, Tryd.ntmps87
      go_wp2_with fail
      refine (rciv_long _ _ hy1 hy2).mono ?_
      rintro e w1 ⟨rfl, rfl⟩
      rw [Hl.out]
      go_wp2_with fail
      go_ret
      exact ⟨rfl, (Below.refl _ _).alloc (Nat.le_refl _) _⟩
  · exact rciv_month_plain y m w h1 h2 h
set_option maxHeartbeats 400000 in
theorem rciv_ahead (y : Int) (w : World) (h1 : 1 ≤ y) (h2 : y ≤ 10000) :
    Calls Tryd.prog 86 #[.int .i64 y] w fun e w' => e = .returned (.int .i64 (Wp.bg y)) ∧ w = w' := by
  have Hb := Lib.hid (show Wp.bg y = 365 * (y - 1) + (y - 1) / 4 - (y - 1) / 100 + (y - 1) / 400 by unfold Wp.bg; rw [Int.mul_comm])
  go_enter Tryd.func86, Tryd.ntmps86
  go_wp2_with fail
  go_ret
  rw [Hb.out]
  exact ⟨rfl, rfl⟩
theorem Wp.bg_bd {y : Int} (h1 : 1 ≤ y) (h2 : y ≤ 10000) : 0 ≤ Wp.bg y ∧ Wp.bg y ≤ 3652059 := by
  have a2 := Wp.bg_mono (a := 1) (b := y) h1
  have a3 := Wp.bg_mono (a := y) (b := 10000) h2
  rw [Wp.bg_one] at a2
  rw [Wp.bg_end] at a3
  exact ⟨a2, a3⟩
set_option maxHeartbeats 1000000 in
theorem rciv_day (y m d : Int) (w : World) (h1 : 1 ≤ y) (h2 : y ≤ 9999) (h3 : 1 ≤ m) (h4 : m ≤ 12) (h5 : 1 ≤ d) (h6 : d ≤ 31) :
    Calls Tryd.prog 99 #[.int .i64 y, .int .i64 m, .int .i64 d] w fun e w' => e = .returned (.int .i64 (Wp.num y m d)) ∧ Below w.heap.size w w' := by
  have Hn := Lib.hid (show ∀ k, Wp.num y k d = Wp.bg y + (d - 1) + Wp.ah y k from fun k => by unfold Wp.num; omega)
  have hb := Wp.bg_bd h1 (show y ≤ 10000 by omega)
  have H1 := Lib.hid (Wp.ah_one y)
  have A1 := Lib.hid (fun w => rciv_ahead y w h1 (by omega))
  generalize Wp.bg y = b at *
  go_enter Tryd.func99, Tryd.ntmps99
  go_wp2_with fail
  refine (A1.out _).mono ?_
  rintro e w1 ⟨rfl, rfl⟩
  go_wp2_with fail
  go_loopw [7, 8] (fun t i wr => ∃ k : Int, 1 ≤ k ∧ k ≤ m ∧ i = .int .i64 k ∧ t = .int .i64 (b + (d - 1) + Wp.ah y k) ∧ Below w.heap.size w wr) (fun _ i _ => (m - intOf i).toNat)
  case atStart => exact ⟨1, by omega, h3, rfl, by rw [H1.out, Int.add_zero], Below.refl _ _⟩
  case round =>
    obtain ⟨k, hk1, hk2, rfl, rfl, hB⟩ := hrel
    have hab := Wp.ah_bd (y := y) hk1 (by omega)
    by_cases hlt : k < m
    · have hdb := Wp.dy_bd (y := y) (m := k) hk1 (by omega)
      have Hs := Lib.hid (Wp.ah_succ y k)
      have A2 := Lib.hid (fun w => rciv_month y k w (by omega) (by omega) hk1 (by omega))
      generalize Wp.ah y k = a at *
      generalize Wp.dy y k = q at *
      go_wp2_with fail
      refine (A2.out _).mono ?_
      rintro e w1 ⟨rfl, b1⟩
      go_wp2_with fail
      refine ⟨⟨k + 1, by omega, by omega, rfl, ?_, cv_then hB b1 hB.size⟩, by simp [intOf]; omega⟩
      congr 1
      have := Hs.out
      omega
    · obtain rfl : k = m := by omega
      have HN := Lib.hid (Hn.out k)
      generalize Wp.ah y k = a at *
      go_wp2_with fail
      go_ret
      rw [HN.out]
      exact ⟨rfl, hB⟩
set_option maxHeartbeats 400000 in
theorem rciv_Is (t : Int) (w : World) : Calls Tryd.prog 52 #[.int .i64 t] w fun e w' => e = .returned (.bool (Wp.isT t)) ∧ w = w' := by
  unfold Wp.isT
  by_cases h : -62135596800 ≤ t
  · rw [decide_eq_true h, Bool.true_and]
    go_enter Tryd.func52, Tryd.ntmps52
    go_wp2_with fail
    go_ret
    exact ⟨rfl, rfl⟩
  · rw [decide_eq_false h, Bool.false_and]
    have h2 : t < -62135596800 := by omega
    go_enter Tryd.func52, Tryd.ntmps52
    go_wp2_with fail
    go_ret
    exact ⟨rfl, rfl⟩
set_option maxHeartbeats 400000 in
theorem rciv_there_yes (y m d : Int) (w : World) (h : Wp.Day y m d) :
    Calls Tryd.prog 98 #[.int .i64 y, .int .i64 m, .int .i64 d] w fun e w' => e = .returned (.bool true) ∧ Below w.heap.size w w' := by
  obtain ⟨h1, h2, h3, h4, h5, h6⟩ := h
  have A2 := Lib.hid (fun w => rciv_month y m w (by omega) (by omega) h3 h4)
  generalize Wp.dy y m = b at *
  go_enter Tryd.func98, Tryd.ntmps98
  go_wp2_with fail
  refine (A2.out _).mono ?_
  rintro e w1 ⟨rfl, b1⟩
  go_wp2_with fail
  go_ret
  exact ⟨rfl, b1⟩
set_option maxHeartbeats 1000000 in
theorem rciv_there_no (y m d : Int) (w : World) (h : ¬ Wp.Day y m d) :
    Calls Tryd.prog 98 #[.int .i64 y, .int .i64 m, .int .i64 d] w fun e w' => e = .returned (.bool false) ∧ Below w.heap.size w w' := by
  have h' : y < 1 ∨ (1 ≤ y ∧ 9999 < y) ∨ (1 ≤ y ∧ y ≤ 9999 ∧ m < 1) ∨ (1 ≤ y ∧ y ≤ 9999 ∧ 1 ≤ m ∧ 12 < m) ∨ (1 ≤ y ∧ y ≤ 9999 ∧ 1 ≤ m ∧ m ≤ 12 ∧ d < 1) ∨ (1 ≤ y ∧ y ≤ 9999 ∧ 1 ≤ m ∧ m ≤ 12 ∧ 1 ≤ d ∧ Wp.dy y m < d) := by
    by_cases g : 1 ≤ y ∧ y ≤ 9999 ∧ 1 ≤ m ∧ m ≤ 12 ∧ 1 ≤ d ∧ d ≤ Wp.dy y m
    · exact absurd ⟨g.1, g.2.1, g.2.2.1, g.2.2.2.1, g.2.2.2.2.1, g.2.2.2.2.2⟩ h
    · omega
  clear h
  rcases h' with h | ⟨h1, h⟩ | ⟨h1, h2, h⟩ | ⟨h1, h2, h3, h⟩ | ⟨h1, h2, h3, h4, h⟩ | ⟨h1, h2, h3, h4, h5, h⟩
  case inr.inr.inr.inr.inr =>
    have A2 := Lib.hid (fun w => rciv_month y m w (by omega) (by omega) h3 h4)
    generalize Wp.dy y m = b at *
    have q : decide (d ≤ b) = false := decide_eq_false (by omega)
    go_enter Tryd.func98, Tryd.ntmps98
    go_wp2_with fail
    refine (A2.out _).mono ?_
    rintro e w1 ⟨rfl, b1⟩
    go_wp2_with fail
    go_ret
    exact ⟨rfl, b1⟩
  all_goals
    go_enter Tryd.func98, Tryd.ntmps98
    go_wp2_with fail
    go_ret
    exact ⟨rfl, Below.refl _ _⟩
theorem rciv_there_mon (y m : Int) (w : World) (h : Wp.monB y m = true) :
    Calls Tryd.prog 98 #[.int .i64 y, .int .i64 m, .int .i64 1] w fun e w' => e = .returned (.bool true) ∧ Below w.heap.size w w' := rciv_there_yes y m 1 w (Wp.day_first h)
theorem rciv_there_mono (y m : Int) (w : World) (h : Wp.monB y m = false) :
    Calls Tryd.prog 98 #[.int .i64 y, .int .i64 m, .int .i64 1] w fun e w' => e = .returned (.bool false) ∧ Below w.heap.size w w' := rciv_there_no y m 1 w (fun hd => by
  rw [Wp.monB_iff.2 ⟨hd.y1, hd.y2, hd.m1, hd.m2⟩] at h; cases h)
theorem Wp.wd_comm (n : Int) : Wp.wd n = (n + 1) % 7 := by unfold Wp.wd; rw [Int.add_comm]
set_option maxHeartbeats 400000 in
theorem rciv_Weekday (y m d : Int) (w : World) :
    Calls Tryd.prog 133 #[.int .i64 y, .int .i64 m, .int .i64 d] w fun e w' => e = .returned (.tuple #[.int .i64 (Wp.weekdayR y m d).1, .int .i64 (Wp.weekdayR y m d).2]) ∧ Below w.heap.size w w' := by
  cases hm : Wp.dayB y m d with
  | true =>
    rw [show Wp.weekdayR y m d = (Wp.wd (Wp.num y m d), 0) from if_pos hm]
    have hd := Wp.dayB_iff.1 hm
    have hr := hd.range
    have hb := (Wp.dy_bd (y := y) hd.m1 hd.m2).2
    have h5 := hd.d2
    have A1 := Lib.hid (fun w => rciv_there_yes y m d w hd)
    have A2 := Lib.hid (fun w => rciv_day y m d w hd.y1 hd.y2 hd.m1 hd.m2 hd.d1 (by omega))
    have Hw := Lib.hid (Wp.wd_comm (Wp.num y m d))
    generalize Wp.wd (Wp.num y m d) = r at *
    generalize Wp.num y m d = b at *
    obtain ⟨r1, r2⟩ := hr
    clear hm hd hb h5
    go_enter Tryd.func133, Tryd.ntmps133
    go_wp2_with fail
    refine (A1.out _).mono ?_
    rintro e w1 ⟨rfl, b1⟩
    go_wp2_with fail
    refine (A2.out _).mono ?_
    rintro e w2 ⟨rfl, b2⟩
    go_wp2_with fail
    go_ret2
    rw [Hw.out]
    exact ⟨rfl, cv_then b1 b2 b1.size⟩
  | false =>
    rw [show Wp.weekdayR y m d = (0, 1) from if_neg (by rw [hm]; simp)]
    have A2 := Lib.hid (fun w => rciv_there_no y m d w (fun h => by rw [Wp.dayB_iff.2 h] at hm; cases hm))
    clear hm
    go_enter Tryd.func133, Tryd.ntmps133
    go_wp2_with fail
    refine (A2.out _).mono ?_
    rintro e w1 ⟨rfl, b1⟩
    go_wp2_with fail
    go_ret2
    exact ⟨rfl, b1⟩
end Go.Proofs.YtpaleljnkejdgaaDoor
