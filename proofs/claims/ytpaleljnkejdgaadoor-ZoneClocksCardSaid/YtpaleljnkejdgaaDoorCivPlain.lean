/-
  Plain mathematics of the calendar: days ahead of a year and of a month, the number of a day, and that each number has its day, and one alone. No condition but those that the theorems state.
-/
import GoSem.ClaimJoined
namespace Go.Proofs.YtpaleljnkejdgaaDoor
def Cv.I64 (n : Int) : Prop := -9223372036854775808 ≤ n ∧ n ≤ 9223372036854775807
end Go.Proofs.YtpaleljnkejdgaaDoor
namespace Go.Proofs.YtpaleljnkejdgaaDoor.Wp

/-- Has the year a day more? -/
def lg (y : Int) : Bool := decide (y % 4 = 0) && (decide (y % 100 ≠ 0) || decide (y % 400 = 0))
def lp (y : Int) : Int := if lg y = true then 1 else 0
/-- Days ahead of the year. -/
def bg (y : Int) : Int := (y - 1) * 365 + (y - 1) / 4 - (y - 1) / 100 + (y - 1) / 400
def cum (m : Int) : Int :=
  if m = 1 then 0 else if m = 2 then 31 else if m = 3 then 59 else if m = 4 then 90 else if m = 5 then 120 else if m = 6 then 151 else if m = 7 then 181
  else if m = 8 then 212 else if m = 9 then 243 else if m = 10 then 273 else if m = 11 then 304 else if m = 12 then 334 else 365
def ah (y m : Int) : Int := cum m + if 2 < m then lp y else 0
def dy (y m : Int) : Int := ah y (m + 1) - ah y m
def num (y m d : Int) : Int := bg y + ah y m + d - 1

theorem lp_01 (y : Int) : 0 ≤ lp y ∧ lp y ≤ 1 := by unfold lp; split <;> omega
theorem bg_succ (y : Int) : bg (y + 1) = bg y + 365 + lp y := by
  unfold bg lp lg
  by_cases h4 : y % 4 = 0
  · by_cases h100 : y % 100 = 0
    · by_cases h400 : y % 400 = 0
      · simp [h4, h100, h400]; omega
      · simp [h4, h100, h400]; omega
    · have h400 : ¬ y % 400 = 0 := by omega
      simp [h4, h100, h400]; omega
  · simp [h4]; omega
theorem bg_one : bg 1 = 0 := by decide
theorem bg_end : bg 10000 = 3652059 := by decide
theorem bg_mono {a b : Int} (h : a ≤ b) : bg a ≤ bg b := by unfold bg; omega
theorem bg_lt {a b : Int} (h : a < b) : bg a + 365 ≤ bg b := by
  have h1 := bg_succ a
  have h2 := lp_01 a
  have h3 := bg_mono (show a + 1 ≤ b by omega)
  omega
theorem bg_guess {y n : Int} (h : n < bg (y + 1)) : n * 400 / 146097 ≤ y := by
  unfold bg at h; omega
theorem bg_guess_low {y n : Int} (h : bg y ≤ n) : y - 2 ≤ n * 400 / 146097 := by
  unfold bg at h; omega

theorem ah_one (y : Int) : ah y 1 = 0 := by simp [ah, cum]
theorem ah_end (y : Int) : ah y 13 = 365 + lp y := by simp [ah, cum]
theorem m12 {m : Int} (h1 : 1 ≤ m) (h2 : m ≤ 12) : m = 1 ∨ m = 2 ∨ m = 3 ∨ m = 4 ∨ m = 5 ∨ m = 6 ∨ m = 7 ∨ m = 8 ∨ m = 9 ∨ m = 10 ∨ m = 11 ∨ m = 12 := by omega
theorem dy_eq {y m : Int} (h1 : 1 ≤ m) (h2 : m ≤ 12) : dy y m = if m = 2 then 28 + lp y else if m = 4 ∨ m = 6 ∨ m = 9 ∨ m = 11 then 30 else 31 := by
  rcases m12 h1 h2 with h | h | h | h | h | h | h | h | h | h | h | h <;> subst h <;> simp [dy, ah, cum] <;> omega
theorem dy_bd {y m : Int} (h1 : 1 ≤ m) (h2 : m ≤ 12) : 28 ≤ dy y m ∧ dy y m ≤ 31 := by
  rw [dy_eq h1 h2]; have := lp_01 y; repeat' split
  all_goals omega
theorem ah_succ (y m : Int) : ah y (m + 1) = ah y m + dy y m := by unfold dy; omega
theorem ah_bd {y m : Int} (h1 : 1 ≤ m) (h2 : m ≤ 13) : 28 * (m - 1) ≤ ah y m ∧ ah y m ≤ 31 * (m - 1) := by
  have hl := lp_01 y
  by_cases h13 : m = 13
  · subst h13; rw [ah_end]; omega
  · rcases m12 h1 (by omega) with h | h | h | h | h | h | h | h | h | h | h | h <;> subst h <;> simp [ah, cum] <;> omega
theorem ah_mono {y a b : Int} (h1 : 1 ≤ a) (h : a ≤ b) (h2 : b ≤ 13) : ah y a ≤ ah y b := by
  obtain ⟨k, rfl⟩ : ∃ k : Nat, b = a + k := ⟨(b - a).toNat, by omega⟩
  clear h
  induction k with
  | zero => simp
  | succ k ih =>
    have h3 := ih (by omega)
    have h4 := ah_succ y (a + k)
    have h5 := dy_bd (y := y) (m := a + k) (by omega) (by omega)
    have h6 : a + ((k + 1 : Nat) : Int) = a + k + 1 := by omega
    rw [h6]; omega

/-- There is such a day. -/
structure Day (y m d : Int) : Prop where
  y1 : 1 ≤ y
  y2 : y ≤ 9999
  m1 : 1 ≤ m
  m2 : m ≤ 12
  d1 : 1 ≤ d
  d2 : d ≤ dy y m

theorem Day.in_year {y m d : Int} (h : Day y m d) : 0 ≤ ah y m + d - 1 ∧ ah y m + d - 1 < 365 + lp y := by
  have h1 := ah_mono (y := y) (a := m + 1) (b := 13) (by have := h.m1; omega) (by have := h.m2; omega) (by omega)
  have h2 := ah_bd (y := y) h.m1 (by have := h.m2; omega)
  rw [ah_succ, ah_end] at h1
  have h3 := h.d1; have h4 := h.d2; have h5 := h.m1
  omega
theorem Day.lo {y m d : Int} (h : Day y m d) : bg y ≤ num y m d := by have := h.in_year; unfold num; omega
theorem Day.hi {y m d : Int} (h : Day y m d) : num y m d < bg (y + 1) := by have := h.in_year; rw [bg_succ]; unfold num; omega
theorem Day.range {y m d : Int} (h : Day y m d) : 0 ≤ num y m d ∧ num y m d ≤ 3652058 := by
  have h1 := h.lo; have h2 := h.hi
  have h3 := bg_mono h.y1
  have h4 := bg_mono (show y + 1 ≤ 10000 by have := h.y2; omega)
  rw [bg_one] at h3; rw [bg_end] at h4; omega

/-- Each number has its day. -/
theorem year_of (n : Nat) (h : (n : Int) ≤ 3652058) : ∃ y, 1 ≤ y ∧ y ≤ 9999 ∧ bg y ≤ n ∧ n < bg (y + 1) := by
  induction n with
  | zero => exact ⟨1, by omega, by omega, by decide, by decide⟩
  | succ n ih =>
    obtain ⟨y, h1, h2, h3, h4⟩ := ih (by omega)
    by_cases hc : ((n + 1 : Nat) : Int) < bg (y + 1)
    · exact ⟨y, h1, h2, by omega, hc⟩
    · have hy : y ≠ 9999 := by rintro rfl; have : bg (9999 + 1) = 3652059 := by decide
                               omega
      have := bg_lt (show y + 1 < y + 1 + 1 by omega)
      exact ⟨y + 1, by omega, by omega, by omega, by omega⟩
theorem month_of (y : Int) (n : Nat) (h : (n : Int) < 365 + lp y) : ∃ m, 1 ≤ m ∧ m ≤ 12 ∧ ah y m ≤ n ∧ n < ah y (m + 1) := by
  induction n with
  | zero => exact ⟨1, by omega, by omega, by simp [ah, cum], by simp [ah, cum]⟩
  | succ n ih =>
    obtain ⟨m, h1, h2, h3, h4⟩ := ih (by omega)
    by_cases hc : ((n + 1 : Nat) : Int) < ah y (m + 1)
    · exact ⟨m, h1, h2, by omega, hc⟩
    · have hm : m ≠ 12 := by rintro rfl; have := ah_end y; have h5 : ah y (12 + 1) = ah y 13 := rfl; omega
      have h6 := ah_succ y (m + 1)
      have h7 := dy_bd (y := y) (m := m + 1) (by omega) (by omega)
      exact ⟨m + 1, by omega, by omega, by omega, by omega⟩
theorem day_of (n : Int) (h0 : 0 ≤ n) (h : n ≤ 3652058) : ∃ y m d, Day y m d ∧ num y m d = n := by
  obtain ⟨k, rfl⟩ := Int.eq_ofNat_of_zero_le h0
  obtain ⟨y, h1, h2, h3, h4⟩ := year_of k h
  rw [bg_succ] at h4
  obtain ⟨j, hj⟩ := Int.eq_ofNat_of_zero_le (show 0 ≤ (k : Int) - bg y by omega)
  obtain ⟨m, g1, g2, g3, g4⟩ := month_of y j (by omega)
  rw [ah_succ] at g4
  exact ⟨y, m, k - bg y - ah y m + 1, ⟨h1, h2, g1, g2, by omega, by omega⟩, by unfold num; omega⟩
/-- A number's day is one. -/
theorem day_one {y m d y' m' d' : Int} (h : Day y m d) (h' : Day y' m' d') (he : num y m d = num y' m' d') : y = y' ∧ m = m' ∧ d = d' := by
  have a1 := h.lo; have a2 := h.hi; have b1 := h'.lo; have b2 := h'.hi
  have hy : y = y' := by
    rcases Int.lt_trichotomy y y' with c | c | c
    · have := bg_mono (show y + 1 ≤ y' by omega); omega
    · exact c
    · have := bg_mono (show y' + 1 ≤ y by omega); omega
  subst hy
  have c1 := h.d1; have c2 := h.d2; have c3 := h'.d1; have c4 := h'.d2
  have s1 := ah_succ y m; have s2 := ah_succ y m'
  unfold num at he
  have hm : m = m' := by
    rcases Int.lt_trichotomy m m' with c | c | c
    · have := ah_mono (y := y) (a := m + 1) (b := m') (by have := h.m1; omega) (by omega) (by have := h'.m2; omega); omega
    · exact c
    · have := ah_mono (y := y) (a := m' + 1) (b := m) (by have := h'.m1; omega) (by omega) (by have := h.m2; omega); omega
  subst hm
  exact ⟨rfl, rfl, by omega⟩
end Go.Proofs.YtpaleljnkejdgaaDoor.Wp
