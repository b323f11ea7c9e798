/-
  The laws CivilTimes and CivilBack. Conditions: the table reads as it is laid, numbers fit 64 bits.
-/
import Derived.Test.YtkpjkekaedecgaaDoorCivLives
namespace Go.Proofs.YtkpjkekaedecgaaDoor
open Go.RowKit

/-- The cells of a box of a moment, each later world. -/
theorem Wp.seven_mom {w : World} {g : Nat} {m : Wp.Mom} {t : TypeId} (h : w.heap[g]? = some (.cells (Wp.momC m) t (0, 0))) : Wp.Seven w g (.int .i64 m.y) (.int .i64 m.mo) (.int .i64 m.d) (.int .i64 m.h) (.int .i64 m.mi) (.int .i64 m.s) (.int .i64 m.k) := Wp.seven_of h
/-- What Of tells, at a time or not. -/
theorem Cv.of_both (t : Int) : ∃ (m : Wp.Mom) (e : Int), (∀ w, Cv.Laid w → Calls Tryd.prog 14 #[.int .i64 t] w fun r w' => r = .returned (.tuple #[.agg (Wp.momC m), .int .i64 e]) ∧ Below w.heap.size w w') ∧
    (∀ w, Calls Tryd.prog 15 #[.int .i64 t] w fun r w' => r = .returned (.tuple #[.agg (Wp.momC m), .int .i64 e]) ∧ Below w.heap.size w w') ∧ ((e = 1 ∧ Wp.isT t = false ∧ m = Wp.Mom.zero) ∨ (e = 0 ∧ Wp.IsOf t m)) := by
  cases ht : Wp.isT t with
  | false => exact ⟨_, 1, fun w _ => civ_Of_no t w ht, fun w => rciv_Of_no t w ht, Or.inl ⟨rfl, rfl, rfl⟩⟩
  | true =>
    obtain ⟨m, hm⟩ := Wp.isOf_ex ht
    exact ⟨m, 0, fun w hL => civ_Of_yes t m w hL hm, fun w => rciv_Of_yes t m w hm, Or.inr ⟨rfl, hm⟩⟩
set_option maxRecDepth 10000 in
set_option maxHeartbeats 2000000 in
theorem civTimes_any (t : Int) (m : Wp.Mom) (w : World) (hL : Cv.Laid w) : Calls Tryd.prog 3 #[.int .i64 t, .agg (Wp.momC m)] w fun e w' => e = .returned (.bool true) ∧ Below w.heap.size w w' := by
  obtain ⟨M, er, hO, hR, _⟩ := Cv.of_both t
  have A1 := Lib.hid hO
  have A2 := Lib.hid hR
  have A3 := Lib.hid (fun w hL => civ_Time m w hL)
  have A4 := Lib.hid (fun w => rciv_Time m w)
  have A5 := Lib.hid (fun w => civ_Week t w)
  have A6 := Lib.hid (fun w => rciv_Week t w)
  generalize Wp.timeR m = r1 at *
  generalize Wp.weekR t = r2 at *
  obtain ⟨a1, e1⟩ := r1
  obtain ⟨a2, e2⟩ := r2
  simp only [] at A3 A4 A5 A6
  have HL := Lib.hid hL
  clear hL hO hR
  obtain ⟨y, mo, d, ho, mi, s, k⟩ := m
  obtain ⟨Y, MO, D, HO, MI, SS, K⟩ := M
  unfold Wp.momC at A1 A2 A3 A4 ⊢
  simp only [] at A1 A2 A3 A4 ⊢
  have X0 := Lib.hid (cv_new w (.cells #[.int .i64 y, .int .i64 mo, .int .i64 d, .int .i64 ho, .int .i64 mi, .int .i64 s, .int .i64 k] 23))
  have B0 := Lib.hid ((Below.refl w.heap.size w).alloc (Nat.le_refl _) (.cells #[.int .i64 y, .int .i64 mo, .int .i64 d, .int .i64 ho, .int .i64 mi, .int .i64 s, .int .i64 k] 23))
  have H0 := Lib.hid (HL.out.box (.cells #[.int .i64 y, .int .i64 mo, .int .i64 d, .int .i64 ho, .int .i64 mi, .int .i64 s, .int .i64 k] 23))
  go_enter Tryd.func3, Tryd.ntmps3
  go_wp2_with fail
  refine (A1.out _ H0.out).mono ?_
  rintro e w1 ⟨rfl, b1⟩
  rw [World.size_alloc] at b1
  have s1 : w.heap.size < w1.heap.size := by have := b1.size; rw [World.size_alloc] at this; omega
  have X1 := Lib.hid ((cv_past w1 (.cells #[.int .i64 Y, .int .i64 MO, .int .i64 D, .int .i64 HO, .int .i64 MI, .int .i64 SS, .int .i64 K] 23) w.heap.size s1).trans ((b1.block w.heap.size (by omega)).trans X0.out))
  have Y1 := Lib.hid (cv_new w1 (.cells #[.int .i64 Y, .int .i64 MO, .int .i64 D, .int .i64 HO, .int .i64 MI, .int .i64 SS, .int .i64 K] 23))
  have B1 := Lib.hid ((B0.out.trans (b1.mono (by omega))).alloc (by omega) (.cells #[.int .i64 Y, .int .i64 MO, .int .i64 D, .int .i64 HO, .int .i64 MI, .int .i64 SS, .int .i64 K] 23))
  go_wp2_with fail
  refine (A2.out _).mono ?_
  rintro e w2 ⟨rfl, b2⟩
  rw [World.size_alloc] at b2
  have s2 : w1.heap.size < w2.heap.size := by have := b2.size; rw [World.size_alloc] at this; omega
  have x2 := (cv_past w2 (.cells #[.int .i64 Y, .int .i64 MO, .int .i64 D, .int .i64 HO, .int .i64 MI, .int .i64 SS, .int .i64 K] 23) w.heap.size (by omega)).trans ((b2.block w.heap.size (by omega)).trans X1.out)
  have X2 := Lib.hid x2
  have Y2 := Lib.hid ((cv_past w2 (.cells #[.int .i64 Y, .int .i64 MO, .int .i64 D, .int .i64 HO, .int .i64 MI, .int .i64 SS, .int .i64 K] 23) w1.heap.size s2).trans ((b2.block w1.heap.size (by omega)).trans Y1.out))
  have Z2 := Lib.hid (cv_new w2 (.cells #[.int .i64 Y, .int .i64 MO, .int .i64 D, .int .i64 HO, .int .i64 MI, .int .i64 SS, .int .i64 K] 23))
  have B2 := Lib.hid ((B1.out.trans (b2.mono (by omega))).alloc (by omega) (.cells #[.int .i64 Y, .int .i64 MO, .int .i64 D, .int .i64 HO, .int .i64 MI, .int .i64 SS, .int .i64 K] 23))
  obtain ⟨w3, hw3⟩ : ∃ w3, w2.alloc (.cells #[.int .i64 Y, .int .i64 MO, .int .i64 D, .int .i64 HO, .int .i64 MI, .int .i64 SS, .int .i64 K] 23) = w3 := ⟨_, rfl⟩
  have s3 : w2.heap.size < w3.heap.size := by rw [← hw3, World.size_alloc]; omega
  rw [hw3] at x2 X2 Y2 Z2 B2
  have Hw3 := Lib.hid hw3
  clear hw3
  clear x2
  obtain ⟨c0, c1, c2, c3, c4, c5, c6⟩ := Wp.seven_of ((b2.block w.heap.size (by omega)).trans X1.out)
  have s2' : w.heap.size < w2.heap.size := by omega
  go_wp2_with fail
  rw [Hw3.out]
  refine (A3.out _ (HL.out.below B2.out)).mono ?_
  rintro e w4 ⟨rfl, b4⟩
  have x4 := (b4.block w.heap.size (by omega)).trans X2.out
  have Y4 := Lib.hid ((b4.block w1.heap.size (by omega)).trans Y2.out)
  have Z4 := Lib.hid ((b4.block w2.heap.size s3).trans Z2.out)
  have B4 := Lib.hid (cv_then B2.out b4 B2.out.size)
  have s4 : w2.heap.size < w4.heap.size := Nat.lt_of_lt_of_le s3 b4.size
  clear c0 c1 c2 c3 c4 c5 c6
  obtain ⟨c0, c1, c2, c3, c4, c5, c6⟩ := Wp.seven_of x4
  clear x4
  go_wp2_with fail
  refine (A4.out _).mono ?_
  rintro e w5 ⟨rfl, b5⟩
  have Y5 := Lib.hid ((b5.block w1.heap.size (by omega)).trans Y4.out)
  have Z5 := Lib.hid ((b5.block w2.heap.size s4).trans Z4.out)
  have B5 := Lib.hid (cv_then B4.out b5 B4.out.size)
  have s5 : w2.heap.size < w5.heap.size := Nat.lt_of_lt_of_le s4 b5.size
  clear c0 c1 c2 c3 c4 c5 c6
  go_wp2_with fail
  refine (A5.out _).mono ?_
  rintro e w6 ⟨rfl, rfl⟩
  go_wp2_with fail
  refine (A6.out _).mono ?_
  rintro e w6 ⟨rfl, b6⟩
  have Y6 := Lib.hid ((b6.block w1.heap.size (by omega)).trans Y5.out)
  have Z6 := Lib.hid ((b6.block w2.heap.size s5).trans Z5.out)
  have B6 := Lib.hid (cv_then B5.out b6 B5.out.size)
  have s6 : w2.heap.size < w6.heap.size := Nat.lt_of_lt_of_le s5 b6.size
  go_wp2_with fail
  refine (civLives_any _ (HL.out.below B6.out)).mono ?_
  rintro e w7 ⟨rfl, b7⟩
  have y7 := (b7.block w1.heap.size (by omega)).trans Y6.out
  have z7 := (b7.block w2.heap.size s6).trans Z6.out
  have B7 := Lib.hid (cv_then B6.out b7 B6.out.size)
  obtain ⟨c0, c1, c2, c3, c4, c5, c6⟩ := Wp.seven_of y7
  obtain ⟨d0, d1, d2, d3, d4, d5, d6⟩ := Wp.seven_of z7
  clear y7 z7
  go_wp2_with fail
  go_ret
  exact ⟨rfl, B7.out⟩
end Go.Proofs.YtkpjkekaedecgaaDoor
