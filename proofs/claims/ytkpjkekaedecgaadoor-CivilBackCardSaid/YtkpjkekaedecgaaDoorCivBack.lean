/-
  The law CivilBack: a time's moment has that time; a right moment is that of its time, but for a Weekday that is told otherwise. Conditions: the table reads as it is laid.
-/
import Derived.Test.YtkpjkekaedecgaaDoorCivBoth
namespace Go.Proofs.YtkpjkekaedecgaaDoor
open Go.RowKit

theorem Wp.IsOf.timeR {t : Int} {m : Wp.Mom} (h : Wp.IsOf t m) : Wp.timeR m = (t, 0) := by
  unfold Wp.timeR
  rw [if_pos h.ok, h.time]
theorem Wp.IsOf.weekdayR {t : Int} {m : Wp.Mom} (h : Wp.IsOf t m) : Wp.weekdayR m.y m.mo m.d = (m.k, 0) := by
  unfold Wp.weekdayR
  rw [if_pos (Wp.dayB_iff.2 (Wp.momOk_iff.1 h.ok).1), h.k]
theorem Wp.isOf_timeD {m : Wp.Mom} (h : Wp.momOk m = true) : Wp.IsOf (Wp.timeD m) ⟨m.y, m.mo, m.d, m.h, m.mi, m.s, Wp.wd (Wp.num m.y m.mo m.d)⟩ := ⟨h, rfl, rfl⟩
set_option maxRecDepth 10000 in
set_option maxHeartbeats 2000000 in
theorem civBack_aa (t y mo d ho mi s k Y MO D HO MI SS K : Int) (w : World) (hL : Cv.Laid w) (A1 : Hid (∀ w, Cv.Laid w → Calls Tryd.prog 14 #[.int .i64 t] w fun r w' => r = .returned (.tuple #[.agg #[.int .i64 Y, .int .i64 MO, .int .i64 D, .int .i64 HO, .int .i64 MI, .int .i64 SS, .int .i64 K], .int .i64 1]) ∧ Below w.heap.size w w'))
    
    (A4 : Hid (∀ w, Cv.Laid w → Calls Tryd.prog 16 #[.agg #[.int .i64 y, .int .i64 mo, .int .i64 d, .int .i64 ho, .int .i64 mi, .int .i64 s, .int .i64 k]] w fun r w' => r = .returned (.tuple #[.int .i64 0, .int .i64 2]) ∧ Below w.heap.size w w'))  :
    Calls Tryd.prog 5 #[.int .i64 t, .agg #[.int .i64 y, .int .i64 mo, .int .i64 d, .int .i64 ho, .int .i64 mi, .int .i64 s, .int .i64 k]] w fun e w' => e = .returned (.bool true) ∧ Below w.heap.size w w' := by
  have HL := Lib.hid hL
  clear hL
  have X0 := Lib.hid (cv_new w (.cells #[.int .i64 y, .int .i64 mo, .int .i64 d, .int .i64 ho, .int .i64 mi, .int .i64 s, .int .i64 k] 23))
  have B0 := Lib.hid ((Below.refl w.heap.size w).alloc (Nat.le_refl _) (.cells #[.int .i64 y, .int .i64 mo, .int .i64 d, .int .i64 ho, .int .i64 mi, .int .i64 s, .int .i64 k] 23))
  have H0 := Lib.hid (HL.out.box (.cells #[.int .i64 y, .int .i64 mo, .int .i64 d, .int .i64 ho, .int .i64 mi, .int .i64 s, .int .i64 k] 23))
  go_enter Tryd.func5, Tryd.ntmps5
  go_wp2_with fail
  refine (civLives_any _ H0.out).mono ?_
  rintro e w1 ⟨rfl, b1⟩
  rw [World.size_alloc] at b1
  have s1 : w.heap.size < w1.heap.size := by have := b1.size; rw [World.size_alloc] at this; omega
  have X1 := Lib.hid ((b1.block w.heap.size (by omega)).trans X0.out)
  have B1 := Lib.hid (B0.out.trans (b1.mono (by omega)))
  go_wp2_with fail
  refine (A1.out _ (HL.out.below B1.out)).mono ?_
  rintro e w2 ⟨rfl, b2⟩
  have s2 : w.heap.size < w2.heap.size := Nat.lt_of_lt_of_le s1 b2.size
  have x2 := (b2.block w.heap.size s1).trans X1.out
  have X2 := Lib.hid ((cv_past w2 (.cells #[.int .i64 Y, .int .i64 MO, .int .i64 D, .int .i64 HO, .int .i64 MI, .int .i64 SS, .int .i64 K] 23) w.heap.size s2).trans x2)
  have Y2 := Lib.hid (cv_new w2 (.cells #[.int .i64 Y, .int .i64 MO, .int .i64 D, .int .i64 HO, .int .i64 MI, .int .i64 SS, .int .i64 K] 23))
  have B2 := Lib.hid ((cv_then B1.out b2 B1.out.size).alloc (Nat.le_of_lt s2) (.cells #[.int .i64 Y, .int .i64 MO, .int .i64 D, .int .i64 HO, .int .i64 MI, .int .i64 SS, .int .i64 K] 23))
  have Z2 : (w2.alloc (.cells #[.int .i64 Y, .int .i64 MO, .int .i64 D, .int .i64 HO, .int .i64 MI, .int .i64 SS, .int .i64 K] 23)).heap.size = w2.heap.size + 1 := World.size_alloc _ _
  obtain ⟨c0, c1, c2, c3, c4, c5, c6⟩ := Wp.seven_of x2
  clear x2
  go_wp2_with fail
  refine (A4.out _ (HL.out.below B2.out)).mono ?_
  rintro e w4 ⟨rfl, b4⟩
  have s4 : w.heap.size < w4.heap.size := by have := b4.size; omega
  have x4 := (b4.block w.heap.size (by omega)).trans X2.out
  have B4 := Lib.hid (cv_then B2.out b4 B2.out.size)
  clear c0 c1 c2 c3 c4 c5 c6
  clear x4
  go_wp2_with fail
  go_ret
  exact ⟨rfl, B4.out⟩
set_option maxRecDepth 10000 in
set_option maxHeartbeats 2000000 in
theorem civBack_ab (t u k2 y mo d ho mi s k Y MO D HO MI SS K : Int) (w : World) (hL : Cv.Laid w) (A1 : Hid (∀ w, Cv.Laid w → Calls Tryd.prog 14 #[.int .i64 t] w fun r w' => r = .returned (.tuple #[.agg #[.int .i64 Y, .int .i64 MO, .int .i64 D, .int .i64 HO, .int .i64 MI, .int .i64 SS, .int .i64 K], .int .i64 1]) ∧ Below w.heap.size w w'))
    
    (A4 : Hid (∀ w, Cv.Laid w → Calls Tryd.prog 16 #[.agg #[.int .i64 y, .int .i64 mo, .int .i64 d, .int .i64 ho, .int .i64 mi, .int .i64 s, .int .i64 k]] w fun r w' => r = .returned (.tuple #[.int .i64 u, .int .i64 0]) ∧ Below w.heap.size w w')) (A5 : Hid (∀ w, Cv.Laid w → Calls Tryd.prog 14 #[.int .i64 u] w fun r w' => r = .returned (.tuple #[.agg #[.int .i64 y, .int .i64 mo, .int .i64 d, .int .i64 ho, .int .i64 mi, .int .i64 s, .int .i64 k2], .int .i64 0]) ∧ Below w.heap.size w w')) :
    Calls Tryd.prog 5 #[.int .i64 t, .agg #[.int .i64 y, .int .i64 mo, .int .i64 d, .int .i64 ho, .int .i64 mi, .int .i64 s, .int .i64 k]] w fun e w' => e = .returned (.bool true) ∧ Below w.heap.size w w' := by
  have HL := Lib.hid hL
  clear hL
  have X0 := Lib.hid (cv_new w (.cells #[.int .i64 y, .int .i64 mo, .int .i64 d, .int .i64 ho, .int .i64 mi, .int .i64 s, .int .i64 k] 23))
  have B0 := Lib.hid ((Below.refl w.heap.size w).alloc (Nat.le_refl _) (.cells #[.int .i64 y, .int .i64 mo, .int .i64 d, .int .i64 ho, .int .i64 mi, .int .i64 s, .int .i64 k] 23))
  have H0 := Lib.hid (HL.out.box (.cells #[.int .i64 y, .int .i64 mo, .int .i64 d, .int .i64 ho, .int .i64 mi, .int .i64 s, .int .i64 k] 23))
  go_enter Tryd.func5, Tryd.ntmps5
  go_wp2_with fail
  refine (civLives_any _ H0.out).mono ?_
  rintro e w1 ⟨rfl, b1⟩
  rw [World.size_alloc] at b1
  have s1 : w.heap.size < w1.heap.size := by have := b1.size; rw [World.size_alloc] at this; omega
  have X1 := Lib.hid ((b1.block w.heap.size (by omega)).trans X0.out)
  have B1 := Lib.hid (B0.out.trans (b1.mono (by omega)))
  go_wp2_with fail
  refine (A1.out _ (HL.out.below B1.out)).mono ?_
  rintro e w2 ⟨rfl, b2⟩
  have s2 : w.heap.size < w2.heap.size := Nat.lt_of_lt_of_le s1 b2.size
  have x2 := (b2.block w.heap.size s1).trans X1.out
  have X2 := Lib.hid ((cv_past w2 (.cells #[.int .i64 Y, .int .i64 MO, .int .i64 D, .int .i64 HO, .int .i64 MI, .int .i64 SS, .int .i64 K] 23) w.heap.size s2).trans x2)
  have Y2 := Lib.hid (cv_new w2 (.cells #[.int .i64 Y, .int .i64 MO, .int .i64 D, .int .i64 HO, .int .i64 MI, .int .i64 SS, .int .i64 K] 23))
  have B2 := Lib.hid ((cv_then B1.out b2 B1.out.size).alloc (Nat.le_of_lt s2) (.cells #[.int .i64 Y, .int .i64 MO, .int .i64 D, .int .i64 HO, .int .i64 MI, .int .i64 SS, .int .i64 K] 23))
  have Z2 : (w2.alloc (.cells #[.int .i64 Y, .int .i64 MO, .int .i64 D, .int .i64 HO, .int .i64 MI, .int .i64 SS, .int .i64 K] 23)).heap.size = w2.heap.size + 1 := World.size_alloc _ _
  obtain ⟨c0, c1, c2, c3, c4, c5, c6⟩ := Wp.seven_of x2
  clear x2
  go_wp2_with fail
  refine (A4.out _ (HL.out.below B2.out)).mono ?_
  rintro e w4 ⟨rfl, b4⟩
  have s4 : w.heap.size < w4.heap.size := by have := b4.size; omega
  have x4 := (b4.block w.heap.size (by omega)).trans X2.out
  have B4 := Lib.hid (cv_then B2.out b4 B2.out.size)
  clear c0 c1 c2 c3 c4 c5 c6
  have X4 := Lib.hid x4
  clear x4
  go_wp2_with fail
  refine (A5.out _ (HL.out.below B4.out)).mono ?_
  rintro e w5 ⟨rfl, b5⟩
  have s5 : w.heap.size < w5.heap.size := Nat.lt_of_lt_of_le s4 b5.size
  have x5 := (b5.block w.heap.size s4).trans X4.out
  have B5 := Lib.hid (cv_then B4.out b5 B4.out.size)
  obtain ⟨c0, c1, c2, c3, c4, c5, c6⟩ := Wp.seven_of x5
  clear x5
  go_wp2_with fail
  go_ret
  exact ⟨rfl, B5.out.alloc (Nat.le_of_lt s5) _⟩
set_option maxRecDepth 10000 in
set_option maxHeartbeats 2000000 in
theorem civBack_ba (t y mo d ho mi s k Y MO D HO MI SS K : Int) (w : World) (hL : Cv.Laid w) (A1 : Hid (∀ w, Cv.Laid w → Calls Tryd.prog 14 #[.int .i64 t] w fun r w' => r = .returned (.tuple #[.agg #[.int .i64 Y, .int .i64 MO, .int .i64 D, .int .i64 HO, .int .i64 MI, .int .i64 SS, .int .i64 K], .int .i64 0]) ∧ Below w.heap.size w w'))
    (A2 : Hid (∀ w, Cv.Laid w → Calls Tryd.prog 16 #[.agg #[.int .i64 Y, .int .i64 MO, .int .i64 D, .int .i64 HO, .int .i64 MI, .int .i64 SS, .int .i64 K]] w fun r w' => r = .returned (.tuple #[.int .i64 t, .int .i64 0]) ∧ Below w.heap.size w w'))
    (A3 : Hid (∀ w, Cv.Laid w → Calls Tryd.prog 23 #[.int .i64 Y, .int .i64 MO, .int .i64 D] w fun r w' => r = .returned (.tuple #[.int .i64 K, .int .i64 0]) ∧ w = w'))
    (A4 : Hid (∀ w, Cv.Laid w → Calls Tryd.prog 16 #[.agg #[.int .i64 y, .int .i64 mo, .int .i64 d, .int .i64 ho, .int .i64 mi, .int .i64 s, .int .i64 k]] w fun r w' => r = .returned (.tuple #[.int .i64 0, .int .i64 2]) ∧ Below w.heap.size w w'))  :
    Calls Tryd.prog 5 #[.int .i64 t, .agg #[.int .i64 y, .int .i64 mo, .int .i64 d, .int .i64 ho, .int .i64 mi, .int .i64 s, .int .i64 k]] w fun e w' => e = .returned (.bool true) ∧ Below w.heap.size w w' := by
  have HL := Lib.hid hL
  clear hL
  have X0 := Lib.hid (cv_new w (.cells #[.int .i64 y, .int .i64 mo, .int .i64 d, .int .i64 ho, .int .i64 mi, .int .i64 s, .int .i64 k] 23))
  have B0 := Lib.hid ((Below.refl w.heap.size w).alloc (Nat.le_refl _) (.cells #[.int .i64 y, .int .i64 mo, .int .i64 d, .int .i64 ho, .int .i64 mi, .int .i64 s, .int .i64 k] 23))
  have H0 := Lib.hid (HL.out.box (.cells #[.int .i64 y, .int .i64 mo, .int .i64 d, .int .i64 ho, .int .i64 mi, .int .i64 s, .int .i64 k] 23))
  go_enter Tryd.func5, Tryd.ntmps5
  go_wp2_with fail
  refine (civLives_any _ H0.out).mono ?_
  rintro e w1 ⟨rfl, b1⟩
  rw [World.size_alloc] at b1
  have s1 : w.heap.size < w1.heap.size := by have := b1.size; rw [World.size_alloc] at this; omega
  have X1 := Lib.hid ((b1.block w.heap.size (by omega)).trans X0.out)
  have B1 := Lib.hid (B0.out.trans (b1.mono (by omega)))
  go_wp2_with fail
  refine (A1.out _ (HL.out.below B1.out)).mono ?_
  rintro e w2 ⟨rfl, b2⟩
  have s2 : w.heap.size < w2.heap.size := Nat.lt_of_lt_of_le s1 b2.size
  have x2 := (b2.block w.heap.size s1).trans X1.out
  have X2 := Lib.hid ((cv_past w2 (.cells #[.int .i64 Y, .int .i64 MO, .int .i64 D, .int .i64 HO, .int .i64 MI, .int .i64 SS, .int .i64 K] 23) w.heap.size s2).trans x2)
  have Y2 := Lib.hid (cv_new w2 (.cells #[.int .i64 Y, .int .i64 MO, .int .i64 D, .int .i64 HO, .int .i64 MI, .int .i64 SS, .int .i64 K] 23))
  have B2 := Lib.hid ((cv_then B1.out b2 B1.out.size).alloc (Nat.le_of_lt s2) (.cells #[.int .i64 Y, .int .i64 MO, .int .i64 D, .int .i64 HO, .int .i64 MI, .int .i64 SS, .int .i64 K] 23))
  have Z2 : (w2.alloc (.cells #[.int .i64 Y, .int .i64 MO, .int .i64 D, .int .i64 HO, .int .i64 MI, .int .i64 SS, .int .i64 K] 23)).heap.size = w2.heap.size + 1 := World.size_alloc _ _
  obtain ⟨c0, c1, c2, c3, c4, c5, c6⟩ := Wp.seven_of x2
  clear x2
  go_wp2_with fail
  refine (A2.out _ (HL.out.below B2.out)).mono ?_
  rintro e w3 ⟨rfl, b3⟩
  have s3 : w.heap.size < w3.heap.size := by have := b3.size; omega
  have x3 := (b3.block w.heap.size (by omega)).trans X2.out
  have X3 := Lib.hid x3
  have y3 := (b3.block w2.heap.size (by omega)).trans Y2.out
  have B3 := Lib.hid (cv_then B2.out b3 B2.out.size)
  clear c0 c1 c2 c3 c4 c5 c6
  obtain ⟨c0, c1, c2, c3, c4, c5, c6⟩ := Wp.seven_of x3
  obtain ⟨d0, d1, d2, d3, d4, d5, d6⟩ := Wp.seven_of y3
  clear x3 y3
  go_wp2_with fail
  refine (A3.out _ (HL.out.below B3.out)).mono ?_
  rintro e w4 ⟨rfl, rfl⟩
  go_wp2_with fail
  refine (A4.out _ (HL.out.below B3.out)).mono ?_
  rintro e w4 ⟨rfl, b4⟩
  have s4 : w.heap.size < w4.heap.size := Nat.lt_of_lt_of_le s3 b4.size
  have x4 := (b4.block w.heap.size s3).trans X3.out
  have B4 := Lib.hid (cv_then B3.out b4 B3.out.size)
  clear c0 c1 c2 c3 c4 c5 c6 d0 d1 d2 d3 d4 d5 d6
  clear x4
  go_wp2_with fail
  go_ret
  exact ⟨rfl, B4.out⟩
set_option maxRecDepth 10000 in
set_option maxHeartbeats 2000000 in
theorem civBack_bb (t u k2 y mo d ho mi s k Y MO D HO MI SS K : Int) (w : World) (hL : Cv.Laid w) (A1 : Hid (∀ w, Cv.Laid w → Calls Tryd.prog 14 #[.int .i64 t] w fun r w' => r = .returned (.tuple #[.agg #[.int .i64 Y, .int .i64 MO, .int .i64 D, .int .i64 HO, .int .i64 MI, .int .i64 SS, .int .i64 K], .int .i64 0]) ∧ Below w.heap.size w w'))
    (A2 : Hid (∀ w, Cv.Laid w → Calls Tryd.prog 16 #[.agg #[.int .i64 Y, .int .i64 MO, .int .i64 D, .int .i64 HO, .int .i64 MI, .int .i64 SS, .int .i64 K]] w fun r w' => r = .returned (.tuple #[.int .i64 t, .int .i64 0]) ∧ Below w.heap.size w w'))
    (A3 : Hid (∀ w, Cv.Laid w → Calls Tryd.prog 23 #[.int .i64 Y, .int .i64 MO, .int .i64 D] w fun r w' => r = .returned (.tuple #[.int .i64 K, .int .i64 0]) ∧ w = w'))
    (A4 : Hid (∀ w, Cv.Laid w → Calls Tryd.prog 16 #[.agg #[.int .i64 y, .int .i64 mo, .int .i64 d, .int .i64 ho, .int .i64 mi, .int .i64 s, .int .i64 k]] w fun r w' => r = .returned (.tuple #[.int .i64 u, .int .i64 0]) ∧ Below w.heap.size w w')) (A5 : Hid (∀ w, Cv.Laid w → Calls Tryd.prog 14 #[.int .i64 u] w fun r w' => r = .returned (.tuple #[.agg #[.int .i64 y, .int .i64 mo, .int .i64 d, .int .i64 ho, .int .i64 mi, .int .i64 s, .int .i64 k2], .int .i64 0]) ∧ Below w.heap.size w w')) :
    Calls Tryd.prog 5 #[.int .i64 t, .agg #[.int .i64 y, .int .i64 mo, .int .i64 d, .int .i64 ho, .int .i64 mi, .int .i64 s, .int .i64 k]] w fun e w' => e = .returned (.bool true) ∧ Below w.heap.size w w' := by
  have HL := Lib.hid hL
  clear hL
  have X0 := Lib.hid (cv_new w (.cells #[.int .i64 y, .int .i64 mo, .int .i64 d, .int .i64 ho, .int .i64 mi, .int .i64 s, .int .i64 k] 23))
  have B0 := Lib.hid ((Below.refl w.heap.size w).alloc (Nat.le_refl _) (.cells #[.int .i64 y, .int .i64 mo, .int .i64 d, .int .i64 ho, .int .i64 mi, .int .i64 s, .int .i64 k] 23))
  have H0 := Lib.hid (HL.out.box (.cells #[.int .i64 y, .int .i64 mo, .int .i64 d, .int .i64 ho, .int .i64 mi, .int .i64 s, .int .i64 k] 23))
  go_enter Tryd.func5, Tryd.ntmps5
  go_wp2_with fail
  refine (civLives_any _ H0.out).mono ?_
  rintro e w1 ⟨rfl, b1⟩
  rw [World.size_alloc] at b1
  have s1 : w.heap.size < w1.heap.size := by have := b1.size; rw [World.size_alloc] at this; omega
  have X1 := Lib.hid ((b1.block w.heap.size (by omega)).trans X0.out)
  have B1 := Lib.hid (B0.out.trans (b1.mono (by omega)))
  go_wp2_with fail
  refine (A1.out _ (HL.out.below B1.out)).mono ?_
  rintro e w2 ⟨rfl, b2⟩
  have s2 : w.heap.size < w2.heap.size := Nat.lt_of_lt_of_le s1 b2.size
  have x2 := (b2.block w.heap.size s1).trans X1.out
  have X2 := Lib.hid ((cv_past w2 (.cells #[.int .i64 Y, .int .i64 MO, .int .i64 D, .int .i64 HO, .int .i64 MI, .int .i64 SS, .int .i64 K] 23) w.heap.size s2).trans x2)
  have Y2 := Lib.hid (cv_new w2 (.cells #[.int .i64 Y, .int .i64 MO, .int .i64 D, .int .i64 HO, .int .i64 MI, .int .i64 SS, .int .i64 K] 23))
  have B2 := Lib.hid ((cv_then B1.out b2 B1.out.size).alloc (Nat.le_of_lt s2) (.cells #[.int .i64 Y, .int .i64 MO, .int .i64 D, .int .i64 HO, .int .i64 MI, .int .i64 SS, .int .i64 K] 23))
  have Z2 : (w2.alloc (.cells #[.int .i64 Y, .int .i64 MO, .int .i64 D, .int .i64 HO, .int .i64 MI, .int .i64 SS, .int .i64 K] 23)).heap.size = w2.heap.size + 1 := World.size_alloc _ _
  obtain ⟨c0, c1, c2, c3, c4, c5, c6⟩ := Wp.seven_of x2
  clear x2
  go_wp2_with fail
  refine (A2.out _ (HL.out.below B2.out)).mono ?_
  rintro e w3 ⟨rfl, b3⟩
  have s3 : w.heap.size < w3.heap.size := by have := b3.size; omega
  have x3 := (b3.block w.heap.size (by omega)).trans X2.out
  have X3 := Lib.hid x3
  have y3 := (b3.block w2.heap.size (by omega)).trans Y2.out
  have B3 := Lib.hid (cv_then B2.out b3 B2.out.size)
  clear c0 c1 c2 c3 c4 c5 c6
  obtain ⟨c0, c1, c2, c3, c4, c5, c6⟩ := Wp.seven_of x3
  obtain ⟨d0, d1, d2, d3, d4, d5, d6⟩ := Wp.seven_of y3
  clear x3 y3
  go_wp2_with fail
  refine (A3.out _ (HL.out.below B3.out)).mono ?_
  rintro e w4 ⟨rfl, rfl⟩
  go_wp2_with fail
  refine (A4.out _ (HL.out.below B3.out)).mono ?_
  rintro e w4 ⟨rfl, b4⟩
  have s4 : w.heap.size < w4.heap.size := Nat.lt_of_lt_of_le s3 b4.size
  have x4 := (b4.block w.heap.size s3).trans X3.out
  have B4 := Lib.hid (cv_then B3.out b4 B3.out.size)
  clear c0 c1 c2 c3 c4 c5 c6 d0 d1 d2 d3 d4 d5 d6
  have X4 := Lib.hid x4
  clear x4
  go_wp2_with fail
  refine (A5.out _ (HL.out.below B4.out)).mono ?_
  rintro e w5 ⟨rfl, b5⟩
  have s5 : w.heap.size < w5.heap.size := Nat.lt_of_lt_of_le s4 b5.size
  have x5 := (b5.block w.heap.size s4).trans X4.out
  have B5 := Lib.hid (cv_then B4.out b5 B4.out.size)
  obtain ⟨c0, c1, c2, c3, c4, c5, c6⟩ := Wp.seven_of x5
  clear x5
  go_wp2_with fail
  go_ret
  exact ⟨rfl, B5.out.alloc (Nat.le_of_lt s5) _⟩
theorem civBack_any (t : Int) (m : Wp.Mom) (w : World) (hL : Cv.Laid w) : Calls Tryd.prog 5 #[.int .i64 t, .agg (Wp.momC m)] w fun e w' => e = .returned (.bool true) ∧ Below w.heap.size w w' := by
  obtain ⟨M, er, hO, _, hc⟩ := Cv.of_both t
  rcases hc with ⟨rfl, _, _⟩ | ⟨rfl, hM⟩
  · cases hm : Wp.momOk m with
    | false => exact civBack_aa t m.y m.mo m.d m.h m.mi m.s m.k M.y M.mo M.d M.h M.mi M.s M.k w hL (Lib.hid hO) (Lib.hid fun w hL => civ_Time_no m w hL hm)
    | true => exact civBack_ab t (Wp.timeD m) (Wp.wd (Wp.num m.y m.mo m.d)) m.y m.mo m.d m.h m.mi m.s m.k M.y M.mo M.d M.h M.mi M.s M.k w hL (Lib.hid hO) (Lib.hid fun w hL => civ_Time_yes m w hL hm) (Lib.hid fun w hL => civ_Of_yes _ _ w hL (Wp.isOf_timeD hm))
  · have h2 : ∀ w, Cv.Laid w → Calls Tryd.prog 16 #[.agg (Wp.momC M)] w fun r w' => r = .returned (.tuple #[.int .i64 t, .int .i64 0]) ∧ Below w.heap.size w w' := fun w hL => by
      have := civ_Time M w hL
      rw [hM.timeR] at this
      exact this
    have h3 : ∀ w, Cv.Laid w → Calls Tryd.prog 23 #[.int .i64 M.y, .int .i64 M.mo, .int .i64 M.d] w fun r w' => r = .returned (.tuple #[.int .i64 M.k, .int .i64 0]) ∧ w = w' := fun w hL => by
      have := civ_Weekday M.y M.mo M.d w hL
      rw [hM.weekdayR] at this
      exact this
    cases hm : Wp.momOk m with
    | false => exact civBack_ba t m.y m.mo m.d m.h m.mi m.s m.k M.y M.mo M.d M.h M.mi M.s M.k w hL (Lib.hid hO) (Lib.hid h2) (Lib.hid h3) (Lib.hid fun w hL => civ_Time_no m w hL hm)
    | true => exact civBack_bb t (Wp.timeD m) (Wp.wd (Wp.num m.y m.mo m.d)) m.y m.mo m.d m.h m.mi m.s m.k M.y M.mo M.d M.h M.mi M.s M.k w hL (Lib.hid hO) (Lib.hid h2) (Lib.hid h3) (Lib.hid fun w hL => civ_Time_yes m w hL hm) (Lib.hid fun w hL => civ_Of_yes _ _ w hL (Wp.isOf_timeD hm))
end Go.Proofs.YtkpjkekaedecgaaDoor
