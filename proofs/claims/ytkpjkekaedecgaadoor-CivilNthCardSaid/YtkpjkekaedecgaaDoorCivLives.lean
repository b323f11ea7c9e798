/-
  The walk of layer 5's examples (bellmanlaw05.lives): they are answered as the document says. Condition: the table reads as it is laid.
-/
import Derived.Test.YtkpjkekaedecgaaDoorCivTime
import Derived.Test.YtkpjkekaedecgaaDoorCivRefWeek
namespace Go.Proofs.YtkpjkekaedecgaaDoor
open Go.RowKit

theorem Cv.of_neg : Wp.IsOf (-1) ⟨1969, 12, 31, 23, 59, 59, 3⟩ := ⟨by decide, by decide, by decide⟩
theorem Cv.Laid.drew {w : World} (h : Cv.Laid w) : Cv.Laid w.drew := h.below (Below.refl _ _).drew
set_option maxRecDepth 10000 in
set_option maxHeartbeats 2000000 in
theorem civLives_any (w : World) (hL : Cv.Laid w) : Calls Tryd.prog 20 #[] w fun e w' => e = .returned (.bool true) ∧ Below w.heap.size w w' := by
  have A1 := Lib.hid (fun w hL => civ_Of_yes (-1) _ w hL Cv.of_neg)
  have A2 := Lib.hid (fun w hL => (civ_Time_yes ⟨2000, 3, 1, 0, 0, 0, 0⟩ w hL (by decide) : Calls Tryd.prog 16 #[.agg #[.int .i64 2000, .int .i64 3, .int .i64 1, .int .i64 0, .int .i64 0, .int .i64 0, .int .i64 0]] w fun e w' => e = .returned (.tuple #[.int .i64 951868800, .int .i64 0]) ∧ Below w.heap.size w w'))
  have A3 := Lib.hid (fun w hL => (civ_Days 1900 2 w hL : Calls Tryd.prog 21 #[.int .i64 1900, .int .i64 2] w fun e w' => e = .returned (.tuple #[.int .i64 28, .int .i64 0]) ∧ w = w'))
  have A4 := Lib.hid (fun w hL => (civ_Weekday 2026 11 15 w hL : Calls Tryd.prog 23 #[.int .i64 2026, .int .i64 11, .int .i64 15] w fun e w' => e = .returned (.tuple #[.int .i64 0, .int .i64 0]) ∧ w = w'))
  have A5 := Lib.hid (fun w hL => (civ_Nth 2026 3 0 5 w hL : Calls Tryd.prog 25 #[.int .i64 2026, .int .i64 3, .int .i64 0, .int .i64 5] w fun e w' => e = .returned (.tuple #[.int .i64 29, .int .i64 0]) ∧ w = w'))
  have A6 := Lib.hid (fun w => (civ_Week 0 w : Calls Tryd.prog 18 #[.int .i64 0] w fun e w' => e = .returned (.tuple #[.int .i64 5760, .int .i64 0]) ∧ w = w'))
  have A7 := Lib.hid (fun w => civ_Of_no 253402300800 w (by decide))
  have A8 := Lib.hid (fun w hL => (civ_Time_no ⟨1900, 2, 29, 0, 0, 0, 0⟩ w hL (by decide) : Calls Tryd.prog 16 #[.agg #[.int .i64 1900, .int .i64 2, .int .i64 29, .int .i64 0, .int .i64 0, .int .i64 0, .int .i64 0]] w fun e w' => e = .returned (.tuple #[.int .i64 0, .int .i64 2]) ∧ Below w.heap.size w w'))
  unfold Wp.momC Wp.Mom.zero at A7
  unfold Wp.momC at A1
  simp only [] at A1 A7
  have HL := Lib.hid hL
  clear hL
  go_enter Tryd.func20, Tryd.ntmps20
  go_wp2_with fail
  refine (A1.out _ HL.out).mono ?_
  rintro e w1 ⟨rfl, b1⟩
  have H1 := Lib.hid ((HL.out.below b1).box (.cells #[.int .i64 1969, .int .i64 12, .int .i64 31, .int .i64 23, .int .i64 59, .int .i64 59, .int .i64 3] 23))
  have X1 := Lib.hid (cv_new w1 (.cells #[.int .i64 1969, .int .i64 12, .int .i64 31, .int .i64 23, .int .i64 59, .int .i64 59, .int .i64 3] 23))
  have B1 := Lib.hid (b1.alloc b1.size (.cells #[.int .i64 1969, .int .i64 12, .int .i64 31, .int .i64 23, .int .i64 59, .int .i64 59, .int .i64 3] 23))
  have s1 := b1.size
  go_wp2_with fail
  refine (A2.out _ H1.out).mono ?_
  rintro e w2 ⟨rfl, b2⟩
  rw [World.size_alloc] at b2
  have H2 := Lib.hid (H1.out.below (by rw [World.size_alloc]; exact b2))
  have X2 := Lib.hid ((b2.block w1.heap.size (by omega)).trans X1.out)
  have B2 := Lib.hid (B1.out.trans (b2.mono (by omega)))
  have s2 : w1.heap.size < w2.heap.size := by have := b2.size; rw [World.size_alloc] at this; omega
  go_wp2_with fail
  refine (A3.out _ H2.out).mono ?_
  rintro e w3 ⟨rfl, rfl⟩
  go_wp2_with fail
  refine (A4.out _ H2.out).mono ?_
  rintro e w3 ⟨rfl, rfl⟩
  go_wp2_with fail
  refine (A5.out _ H2.out).mono ?_
  rintro e w3 ⟨rfl, rfl⟩
  go_wp2_with fail
  refine (A6.out _).mono ?_
  rintro e w3 ⟨rfl, rfl⟩
  go_wp2_with fail
  refine (A7.out _).mono ?_
  rintro e w3 ⟨rfl, b3⟩
  have H3 := Lib.hid ((H2.out.below b3).box (.cells #[.int .i64 0, .int .i64 0, .int .i64 0, .int .i64 0, .int .i64 0, .int .i64 0, .int .i64 0] 23))
  have X3 := Lib.hid ((cv_past w3 (.cells #[.int .i64 0, .int .i64 0, .int .i64 0, .int .i64 0, .int .i64 0, .int .i64 0, .int .i64 0] 23) w1.heap.size (by have := b3.size; omega)).trans ((b3.block w1.heap.size s2).trans X2.out))
  have B3 := Lib.hid ((cv_then B2.out b3 B2.out.size).alloc (Nat.le_trans B2.out.size b3.size) (.cells #[.int .i64 0, .int .i64 0, .int .i64 0, .int .i64 0, .int .i64 0, .int .i64 0, .int .i64 0] 23))
  have s3 := b3.size
  go_wp2_with fail
  refine (A8.out _ H3.out).mono ?_
  rintro e w4 ⟨rfl, b4⟩
  rw [World.size_alloc] at b4
  have x4 := (b4.block w1.heap.size (by omega)).trans X3.out
  have B4 := Lib.hid (B3.out.trans (b4.mono (by omega)))
  obtain ⟨c0, c1, c2, c3, c4, c5, c6⟩ := Wp.seven_of x4
  clear x4
  go_wp2_with fail
  go_ret
  exact ⟨rfl, B4.out⟩
end Go.Proofs.YtkpjkekaedecgaaDoor
