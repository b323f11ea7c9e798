/-
  The walks of civil's exported calls: Days, Weekday, Nth, Week, Time and Of. Conditions: the table reads as it is laid; numbers fit 64 bits.
-/
import Derived.Test.YtpaleljnkejdgaaDoorCivCal
import Derived.Laws.Rows
import Derived.Outline
namespace Go.Proofs.YtpaleljnkejdgaaDoor
open Go.RowKit

theorem cv_new (w : World) (o : Obj) : (w.alloc o).heap[w.heap.size]? = some o := by
  show (w.heap.push o)[w.heap.size]? = _
  simp
theorem cv_past (w : World) (o : Obj) (n : Nat) (h : n < w.heap.size) : (w.alloc o).heap[n]? = w.heap[n]? := by
  show (w.heap.push o)[n]? = _
  rw [Array.getElem?_push, if_neg (by omega)]
/-- Two results, the first of a struct's type and in a box. -/
theorem cv_ret {P : Program} {fn : Func} {p u : Tmp} {ty : TypeId} (h : fn.results = #[.cell p ty, .tmp u]) (tmps : Array Value) (w : World) (g : Nat) (t : TypeId) (cs : Array Value) (d : TypeDesc) (hp : tmps.getD p undef = .pointer (some ⟨g, 0, none⟩))
    (hg : w.heap[g]? = some (.cells cs t (0, 0))) (hu : P.underlying ty = some d) (hd : (match d with | .struct _ | .array _ _ => true | _ => false) = true) (hi : (P.info? ty).map (·.size) = some cs.size) :
    (results fn tmps).run P w = .ok (.tuple #[.agg cs, tmps.getD u undef]) w := by
  have hl := run_loadVar_row w g t ty cs (0, 0) d hg hu hd hi
  have ha : (asAddr (tmps.getD p undef)).run P w = .ok ⟨g, 0, none⟩ w := by rw [hp]; rfl
  rw [results_cell_tmp h, ha, Result.andThen_ok, hl, Result.andThen_ok]

/-- A moment, and its value. -/
structure Wp.Mom where
  y : Int
  mo : Int
  d : Int
  h : Int
  mi : Int
  s : Int
  k : Int
def Wp.momC (m : Wp.Mom) : Array Value := #[.int .i64 m.y, .int .i64 m.mo, .int .i64 m.d, .int .i64 m.h, .int .i64 m.mi, .int .i64 m.s, .int .i64 m.k]
def Wp.Mom.zero : Wp.Mom := ⟨0, 0, 0, 0, 0, 0, 0⟩

def Wp.monB (y m : Int) : Bool := decide (1 ≤ y ∧ y ≤ 9999 ∧ 1 ≤ m ∧ m ≤ 12)
def Wp.dayB (y m d : Int) : Bool := Wp.monB y m && decide (1 ≤ d ∧ d ≤ Wp.dy y m)
theorem Wp.monB_iff {y m : Int} : Wp.monB y m = true ↔ 1 ≤ y ∧ y ≤ 9999 ∧ 1 ≤ m ∧ m ≤ 12 := by unfold Wp.monB; exact decide_eq_true_iff
theorem Wp.dayB_iff {y m d : Int} : Wp.dayB y m d = true ↔ Wp.Day y m d := by
  unfold Wp.dayB
  rw [Bool.and_eq_true, Wp.monB_iff, decide_eq_true_iff]
  exact ⟨fun ⟨⟨a, b, c, d⟩, e, f⟩ => ⟨a, b, c, d, e, f⟩, fun ⟨a, b, c, d, e, f⟩ => ⟨⟨a, b, c, d⟩, e, f⟩⟩
/-- What Days, Weekday, Nth and Week tell. -/
def Wp.daysR (y m : Int) : Int × Int := if Wp.monB y m = true then (Wp.dy y m, 0) else (0, 1)
def Wp.weekdayR (y m d : Int) : Int × Int := if Wp.dayB y m d = true then (Wp.wd (Wp.num y m d), 0) else (0, 1)
def Wp.firstOf (y m k : Int) : Int := 1 + (k - Wp.wd (Wp.num y m 1)) % 7
def Wp.nthD (y m k n : Int) : Int := if Wp.dy y m < Wp.firstOf y m k + (n - 1) * 7 then Wp.firstOf y m k + (n - 1) * 7 - 7 else Wp.firstOf y m k + (n - 1) * 7
def Wp.nthR (y m k n : Int) : Int × Int := if Wp.monB y m = true ∧ 0 ≤ k ∧ k < 7 ∧ 1 ≤ n ∧ n ≤ 5 then (Wp.nthD y m k n, 0) else (0, 1)
def Wp.weekD (t : Int) : Int := ((t + 62135596800) / 60 + 1440) % 10080
def Wp.weekR (t : Int) : Int × Int := if Wp.isT t = true then (Wp.weekD t, 0) else (0, 1)
def Wp.momOk (m : Wp.Mom) : Bool := Wp.dayB m.y m.mo m.d && decide (0 ≤ m.h ∧ m.h < 24 ∧ 0 ≤ m.mi ∧ m.mi < 60 ∧ 0 ≤ m.s ∧ m.s < 60)
def Wp.timeD (m : Wp.Mom) : Int := -62135596800 + Wp.num m.y m.mo m.d * 86400 + (m.h * 3600 + m.mi * 60 + m.s)
def Wp.timeR (m : Wp.Mom) : Int × Int := if Wp.momOk m = true then (Wp.timeD m, 0) else (0, 2)
theorem Wp.momOk_iff {m : Wp.Mom} : Wp.momOk m = true ↔ Wp.Day m.y m.mo m.d ∧ 0 ≤ m.h ∧ m.h < 24 ∧ 0 ≤ m.mi ∧ m.mi < 60 ∧ 0 ≤ m.s ∧ m.s < 60 := by
  unfold Wp.momOk
  rw [Bool.and_eq_true, Wp.dayB_iff, decide_eq_true_iff]
/-- The moment of a time. -/
structure Wp.IsOf (t : Int) (m : Wp.Mom) : Prop where
  ok : Wp.momOk m = true
  time : Wp.timeD m = t
  k : m.k = Wp.wd (Wp.num m.y m.mo m.d)
theorem Wp.isOf_ex {t : Int} (h : Wp.isT t = true) : ∃ m, Wp.IsOf t m := by
  obtain ⟨h1, h2⟩ := Wp.isT_yes h
  obtain ⟨y, mo, d, hd, hn⟩ := Wp.day_of ((t + 62135596800) / 86400) (by omega) (by omega)
  refine ⟨⟨y, mo, d, (t + 62135596800) % 86400 / 3600, (t + 62135596800) % 86400 % 3600 / 60, (t + 62135596800) % 86400 % 60, Wp.wd (Wp.num y mo d)⟩, Wp.momOk_iff.2 ⟨hd, ?_⟩, ?_, rfl⟩
  · simp only []; omega
  · unfold Wp.timeD; simp only []; rw [hn]; omega
theorem Wp.IsOf.isT {t : Int} {m : Wp.Mom} (h : Wp.IsOf t m) : Wp.isT t = true := by
  obtain ⟨hd, h1, h2, h3, h4, h5, h6⟩ := Wp.momOk_iff.1 h.ok
  have hr := hd.range
  have ht := h.time
  unfold Wp.timeD at ht
  exact Wp.isT_mk (by omega) (by omega)
/-- The parts of a time's moment. -/
theorem Wp.IsOf.parts {t : Int} {m : Wp.Mom} (h : Wp.IsOf t m) : Wp.num m.y m.mo m.d = (t + 62135596800) / 86400 ∧ m.h = (t + 62135596800) % 86400 / 3600 ∧ m.mi = (t + 62135596800) % 86400 % 3600 / 60 ∧ m.s = (t + 62135596800) % 86400 % 60 := by
  obtain ⟨hd, h1, h2, h3, h4, h5, h6⟩ := Wp.momOk_iff.1 h.ok
  have ht := h.time
  unfold Wp.timeD at ht
  omega
theorem Wp.IsOf.one {t : Int} {m n : Wp.Mom} (h : Wp.IsOf t m) (h' : Wp.IsOf t n) : m = n := by
  obtain ⟨a1, a2, a3, a4⟩ := h.parts
  obtain ⟨b1, b2, b3, b4⟩ := h'.parts
  have c1 := (Wp.momOk_iff.1 h.ok).1
  have c2 := (Wp.momOk_iff.1 h'.ok).1
  obtain ⟨e1, e2, e3⟩ := Wp.day_one c1 c2 (by rw [a1, b1])
  have k1 := h.k
  have k2 := h'.k
  cases m; cases n
  simp only [] at *
  subst e1 e2 e3 a2 a3 a4 b2 b3 b4 k1 k2
  rfl
theorem Wp.wd_bd (n : Int) : 0 ≤ Wp.wd n ∧ Wp.wd n ≤ 6 := by unfold Wp.wd; omega
theorem Wp.day_first {y m : Int} (h : Wp.monB y m = true) : Wp.Day y m 1 := by
  obtain ⟨h1, h2, h3, h4⟩ := Wp.monB_iff.1 h
  exact ⟨h1, h2, h3, h4, by omega, by have := (Wp.dy_bd (y := y) h3 h4).1; omega⟩

set_option maxHeartbeats 1000000 in
theorem civ_Nth (y m k n : Int) (w : World) (hL : Cv.Laid w) :
    Calls Tryd.prog 120 #[.int .i64 y, .int .i64 m, .int .i64 k, .int .i64 n] w fun e w' => e = .returned (.tuple #[.int .i64 (Wp.nthR y m k n).1, .int .i64 (Wp.nthR y m k n).2]) ∧ w = w' := by
  have HL := Lib.hid hL
  clear hL
  cases hm : Wp.monB y m with
  | true =>
    obtain ⟨h1, h2, h3, h4⟩ := Wp.monB_iff.1 hm
    by_cases hk : 0 ≤ k ∧ k < 7
    · by_cases hn : 1 ≤ n ∧ n ≤ 5
      · rw [show Wp.nthR y m k n = (Wp.nthD y m k n, 0) from if_pos ⟨hm, hk.1, hk.2, hn.1, hn.2⟩]
        obtain ⟨k1, k2⟩ := hk
        obtain ⟨n1, n2⟩ := hn
        have hd := Wp.day_first hm
        have hr := hd.range
        have hw := Wp.wd_bd (Wp.num y m 1)
        have hb := Wp.dy_bd (y := y) h3 h4
        have A2 := Lib.hid (fun w hL => civ_days y m w hL h1 (by omega) h3 h4)
        have A3 := Lib.hid (fun w hL => civ_number y m 1 w hL h1 (by omega) h3 h4 (by omega) (by omega))
        have A4 := Lib.hid (fun w => civ_weekdayOf (Wp.num y m 1) w hr.1 hr.2)
        have Hn := Lib.hid (show Wp.nthD y m k n = if Wp.dy y m < 1 + (k - Wp.wd (Wp.num y m 1)) % 7 + (n - 1) * 7 then 1 + (k - Wp.wd (Wp.num y m 1)) % 7 + (n - 1) * 7 - 7 else 1 + (k - Wp.wd (Wp.num y m 1)) % 7 + (n - 1) * 7 from rfl)
        generalize Wp.nthD y m k n = r at *
        generalize Wp.wd (Wp.num y m 1) = f at *
        generalize Wp.num y m 1 = q at *
        generalize Wp.dy y m = b at *
        clear hm hd
        obtain ⟨f1, f2⟩ := hw
        by_cases hg : b < 1 + (k - f) % 7 + (n - 1) * 7
        · rw [if_pos hg] at Hn
          go_enter Tryd.func120, Tryd.ntmps120
          go_wp2_with fail
          refine (civ_isMonth_yes _ _ _ h1 h2 h3 h4).mono ?_
          rintro e w1 ⟨rfl, rfl⟩
          go_wp2_with fail
          refine (civ_below_yes _ _ _ k1 k2).mono ?_
          rintro e w1 ⟨rfl, rfl⟩
          go_wp2_with fail
          refine (A3.out _ HL.out).mono ?_
          rintro e w1 ⟨rfl, rfl⟩
          go_wp2_with fail
          refine (A4.out _).mono ?_
          rintro e w1 ⟨rfl, rfl⟩
          go_wp2_with fail
          refine (A2.out _ HL.out).mono ?_
          rintro e w1 ⟨rfl, rfl⟩
          go_wp2_with fail
          go_ret2
          rw [Hn.out]
          exact ⟨rfl, rfl⟩
        · rw [if_neg hg] at Hn
          go_enter Tryd.func120, Tryd.ntmps120
          go_wp2_with fail
          refine (civ_isMonth_yes _ _ _ h1 h2 h3 h4).mono ?_
          rintro e w1 ⟨rfl, rfl⟩
          go_wp2_with fail
          refine (civ_below_yes _ _ _ k1 k2).mono ?_
          rintro e w1 ⟨rfl, rfl⟩
          go_wp2_with fail
          refine (A3.out _ HL.out).mono ?_
          rintro e w1 ⟨rfl, rfl⟩
          go_wp2_with fail
          refine (A4.out _).mono ?_
          rintro e w1 ⟨rfl, rfl⟩
          go_wp2_with fail
          refine (A2.out _ HL.out).mono ?_
          rintro e w1 ⟨rfl, rfl⟩
          go_wp2_with fail
          go_ret2
          rw [Hn.out]
          exact ⟨rfl, rfl⟩
      · rw [show Wp.nthR y m k n = (0, 1) from if_neg fun h => hn ⟨h.2.2.2.1, h.2.2.2.2⟩]
        obtain ⟨k1, k2⟩ := hk
        clear hm
        by_cases n1 : n < 1
        · clear hn
          go_enter Tryd.func120, Tryd.ntmps120
          go_wp2_with fail
          refine (civ_isMonth_yes _ _ _ h1 h2 h3 h4).mono ?_
          rintro e w1 ⟨rfl, rfl⟩
          go_wp2_with fail
          refine (civ_below_yes _ _ _ k1 k2).mono ?_
          rintro e w1 ⟨rfl, rfl⟩
          go_wp2_with fail
          go_ret2
          exact ⟨rfl, rfl⟩
        · have n2 : 5 < n := by omega
          clear hn
          go_enter Tryd.func120, Tryd.ntmps120
          go_wp2_with fail
          refine (civ_isMonth_yes _ _ _ h1 h2 h3 h4).mono ?_
          rintro e w1 ⟨rfl, rfl⟩
          go_wp2_with fail
          refine (civ_below_yes _ _ _ k1 k2).mono ?_
          rintro e w1 ⟨rfl, rfl⟩
          go_wp2_with fail
          go_ret2
          exact ⟨rfl, rfl⟩
    · rw [show Wp.nthR y m k n = (0, 1) from if_neg fun h => hk ⟨h.2.1, h.2.2.1⟩]
      have A2 := Lib.hid (fun w => civ_below_no k 7 w hk)
      clear hm hk
      go_enter Tryd.func120, Tryd.ntmps120
      go_wp2_with fail
      refine (civ_isMonth_yes _ _ _ h1 h2 h3 h4).mono ?_
      rintro e w1 ⟨rfl, rfl⟩
      go_wp2_with fail
      refine (A2.out _).mono ?_
      rintro e w1 ⟨rfl, rfl⟩
      go_wp2_with fail
      go_ret2
      exact ⟨rfl, rfl⟩
  | false =>
    rw [show Wp.nthR y m k n = (0, 1) from if_neg fun h => by rw [hm] at h; cases h.1]
    have A2 := Lib.hid (fun w => civ_isMonth_no y m w (fun h => by rw [Wp.monB_iff.2 h] at hm; cases hm))
    clear hm
    go_enter Tryd.func120, Tryd.ntmps120
    go_wp2_with fail
    refine (A2.out _).mono ?_
    rintro e w1 ⟨rfl, rfl⟩
    go_wp2_with fail
    go_ret2
    exact ⟨rfl, rfl⟩
end Go.Proofs.YtpaleljnkejdgaaDoor
