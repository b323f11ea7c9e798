/-
  The walk of ZonePlain: whatever minutes and a time are, the law answers true. Condition: the two tables read as they are laid.
-/
import Derived.Test.YtkpjkekaedecgaaDoorZonLives
import Derived.BigQuiet
namespace Go.Proofs.YtkpjkekaedecgaaDoor
open Go.RowKit

set_option maxHeartbeats 1000000 in
theorem same_one (g h c1 c2 : Nat) (t : Int) (w : World) (h1 : w.cell? ⟨g, 0, none⟩ = some (.int .i64 t)) (h2 : w.cell? ⟨h, 0, none⟩ = some (.int .i64 t)) :
    Calls Tryd.prog 40 #[.slice (some ⟨g, 0, none⟩) 1 c1, .slice (some ⟨h, 0, none⟩) 1 c2] w fun e w' => e = .returned (.bool true) ∧ Below w.heap.size w w' := by
  have l1 := Lib.hid (World.block_lt_of_cell? w _ h1)
  have l2 := Lib.hid (World.block_lt_of_cell? w _ h2)
  have H1 := Lib.hid h1
  have H2 := Lib.hid h2
  clear h1 h2
  go_enter Tryd.func40, Tryd.ntmps40
  go_wp2_with fail
  go_loopw [5, 13] (fun _ t wr => ∃ k : Nat, k ≤ 1 ∧ t = .int .i64 k ∧ Below w.heap.size w wr) (fun _ t _ => 1 - (intOf t).toNat)
  case atStart => exact ⟨0, by omega, rfl, Below.refl _ _⟩
  case round =>
    obtain ⟨k, hk, rfl, hB⟩ := hrel
    by_cases hlt : k < 1
    · obtain rfl : k = 0 := by omega
      have hc1 := (hB.cell l1.out).trans H1.out
      have hc2 := (hB.cell l2.out).trans H2.out
      go_wp2_with fail
      go_quiet (fail)
      go_wp2_with fail
      refine ⟨⟨1, by omega, by go_num, below_drewN hB _⟩, by simp [intOf]⟩
    · obtain rfl : k = 1 := by omega
      go_wp2_with fail
      go_ret
      exact ⟨rfl, hB⟩
set_option maxHeartbeats 2000000 in
theorem zonePlain_no (base t q : Int) (w : World) (hL : Zt.Both w) (hq : (q != 0) = true)
    (A1 : Hid (∀ w, Zt.Both w → Calls Tryd.prog 27 #[.agg #[.int .i64 base, .int .i64 0, .int .i64 0, .int .i64 0, .int .i64 0, .int .i64 0, .int .i64 0, .int .i64 0, .int .i64 0, .int .i64 0], .int .i64 t] w fun e w' => e = .returned (.tuple #[.int .i64 0, .int .i64 q]) ∧ Below w.heap.size w w')) : Calls Tryd.prog 12 #[.int .i64 base, .int .i64 t] w fun e w' => e = .returned (.bool true) ∧ Below w.heap.size w w' := by
  have A0 := Lib.hid (fun w hL => zonLives_any w hL)
  have HL := Lib.hid hL
  clear hL
  go_enter Tryd.func12, Tryd.ntmps12
  go_wp2_with fail
  refine (A0.out _ HL.out).mono ?_
  rintro e w1 ⟨rfl, B1'⟩
  have B1 := Lib.hid B1'
  have H1 := Lib.hid (HL.out.below B1')
  clear B1'
  go_wp2_with fail
  refine (A1.out _ (H1.out.box _)).mono ?_
  rintro e w2 ⟨rfl, B2'⟩
  rw [World.size_alloc] at B2'
  have B2 := Lib.hid ((B1.out.alloc B1.out.size _).trans (B2'.mono (by have := B1.out.size; omega)))
  clear B2'
  go_wp2_with fail
  go_ret
  exact ⟨rfl, B2.out⟩
set_option maxHeartbeats 2000000 in
theorem zonePlain_end (base t : Int) (w : World) (hL : Zt.Both w) (b1 : -900 ≤ base) (b2 : base ≤ 900) (t1 : -62135596800 ≤ t) (t2 : t ≤ 253402300799)
    (A1 : Hid (∀ w, Zt.Both w → Calls Tryd.prog 27 #[.agg #[.int .i64 base, .int .i64 0, .int .i64 0, .int .i64 0, .int .i64 0, .int .i64 0, .int .i64 0, .int .i64 0, .int .i64 0, .int .i64 0], .int .i64 t] w fun e w' => e = .returned (.tuple #[.int .i64 base, .int .i64 0]) ∧ Below w.heap.size w w'))
    (A2 : Hid (∀ w, Zt.Both w → Calls Tryd.prog 29 #[.agg #[.int .i64 base, .int .i64 0, .int .i64 0, .int .i64 0, .int .i64 0, .int .i64 0, .int .i64 0, .int .i64 0, .int .i64 0, .int .i64 0], .int .i64 t] w fun e w' => e = .returned (.tuple #[.agg #[.int .i64 0, .int .i64 0, .int .i64 0, .int .i64 0, .int .i64 0, .int .i64 0, .int .i64 0], .int .i64 1]) ∧ Below w.heap.size w w'))
    (A3 : Hid (∀ w, Zt.Both w → Calls Tryd.prog 29 #[.agg #[.int .i64 0, .int .i64 0, .int .i64 0, .int .i64 0, .int .i64 0, .int .i64 0, .int .i64 0, .int .i64 0, .int .i64 0, .int .i64 0], .int .i64 (t + 60 * base)] w fun e w' => e = .returned (.tuple #[.agg #[.int .i64 0, .int .i64 0, .int .i64 0, .int .i64 0, .int .i64 0, .int .i64 0, .int .i64 0], .int .i64 1]) ∧ Below w.heap.size w w')) : Calls Tryd.prog 12 #[.int .i64 base, .int .i64 t] w fun e w' => e = .returned (.bool true) ∧ Below w.heap.size w w' := by
  have A0 := Lib.hid (fun w hL => zonLives_any w hL)
  have HL := Lib.hid hL
  clear hL
  go_enter Tryd.func12, Tryd.ntmps12
  go_wp2_with fail
  refine (A0.out _ HL.out).mono ?_
  rintro e w1 ⟨rfl, B1'⟩
  have B1 := Lib.hid B1'
  have H1 := Lib.hid (HL.out.below B1')
  clear B1'
  go_wp2_with fail
  have X1 := Lib.hid (cv_new w1 (.cells #[.int .i64 base, .int .i64 0, .int .i64 0, .int .i64 0, .int .i64 0, .int .i64 0, .int .i64 0, .int .i64 0, .int .i64 0, .int .i64 0] 42))
  have S1 : w1.heap.size < (w1.alloc (.cells #[.int .i64 base, .int .i64 0, .int .i64 0, .int .i64 0, .int .i64 0, .int .i64 0, .int .i64 0, .int .i64 0, .int .i64 0, .int .i64 0] 42)).heap.size := by rw [World.size_alloc]; omega
  have K1 := Lib.hid (B1.out.alloc B1.out.size (.cells #[.int .i64 base, .int .i64 0, .int .i64 0, .int .i64 0, .int .i64 0, .int .i64 0, .int .i64 0, .int .i64 0, .int .i64 0, .int .i64 0] 42))
  refine (A1.out _ (H1.out.box (.cells #[.int .i64 base, .int .i64 0, .int .i64 0, .int .i64 0, .int .i64 0, .int .i64 0, .int .i64 0, .int .i64 0, .int .i64 0, .int .i64 0] 42))).mono ?_
  rintro e w2 ⟨rfl, b2'⟩
  have H2 := Lib.hid ((H1.out.box (.cells #[.int .i64 base, .int .i64 0, .int .i64 0, .int .i64 0, .int .i64 0, .int .i64 0, .int .i64 0, .int .i64 0, .int .i64 0, .int .i64 0] 42)).below b2')
  have X2 := Lib.hid ((b2'.block w1.heap.size S1).trans X1.out)
  have B2 := Lib.hid (cv_then K1.out b2' K1.out.size)
  have S2 : w1.heap.size < w2.heap.size := Nat.lt_of_lt_of_le S1 b2'.size
  clear b2'
  obtain ⟨c0, c1, c2, c3, c4, c5, c6, c7, c8, c9⟩ := Wp.ten_of X2.out
  go_wp2_with fail
  refine (A2.out _ H2.out).mono ?_
  rintro e w3 ⟨rfl, b3'⟩
  clear c0 c1 c2 c3 c4 c5 c6 c7 c8 c9
  have H3 := Lib.hid ((H2.out.below b3').box (.cells #[.int .i64 0, .int .i64 0, .int .i64 0, .int .i64 0, .int .i64 0, .int .i64 0, .int .i64 0] 23))
  have X3 := Lib.hid ((cv_past w3 (.cells #[.int .i64 0, .int .i64 0, .int .i64 0, .int .i64 0, .int .i64 0, .int .i64 0, .int .i64 0] 23) w1.heap.size (Nat.lt_of_lt_of_le S2 b3'.size)).trans ((b3'.block w1.heap.size S2).trans X2.out))
  have Y3 := Lib.hid (cv_new w3 (.cells #[.int .i64 0, .int .i64 0, .int .i64 0, .int .i64 0, .int .i64 0, .int .i64 0, .int .i64 0] 23))
  have B3 := Lib.hid ((cv_then B2.out b3' B2.out.size).alloc (Nat.le_trans B2.out.size b3'.size) (.cells #[.int .i64 0, .int .i64 0, .int .i64 0, .int .i64 0, .int .i64 0, .int .i64 0, .int .i64 0] 23))
  have S3 : w1.heap.size < (w3.alloc (.cells #[.int .i64 0, .int .i64 0, .int .i64 0, .int .i64 0, .int .i64 0, .int .i64 0, .int .i64 0] 23)).heap.size := by rw [World.size_alloc]; have := b3'.size; omega
  have T3 : w3.heap.size < (w3.alloc (.cells #[.int .i64 0, .int .i64 0, .int .i64 0, .int .i64 0, .int .i64 0, .int .i64 0, .int .i64 0] 23)).heap.size := by rw [World.size_alloc]; omega
  clear b3'
  go_wp2_with fail
  refine (A3.out _ H3.out).mono ?_
  rintro e w4 ⟨rfl, b4'⟩
  have H4 := Lib.hid ((H3.out.below b4').box (.cells #[.int .i64 0, .int .i64 0, .int .i64 0, .int .i64 0, .int .i64 0, .int .i64 0, .int .i64 0] 23))
  have B4 := Lib.hid ((cv_then B3.out b4' B3.out.size).alloc (Nat.le_trans B3.out.size b4'.size) (.cells #[.int .i64 0, .int .i64 0, .int .i64 0, .int .i64 0, .int .i64 0, .int .i64 0, .int .i64 0] 23))
  go_wp2_with fail
  go_ret
  exact ⟨rfl, B4.out⟩
set_option maxHeartbeats 4000000 in
theorem zonePlain_yes (base t Y MO D HO MI SS K : Int) (w : World) (hL : Zt.Both w) (b1 : -900 ≤ base) (b2 : base ≤ 900) (t1 : -62135596800 ≤ t) (t2 : t ≤ 253402300799)
    (A1 : Hid (∀ w, Zt.Both w → Calls Tryd.prog 27 #[.agg #[.int .i64 base, .int .i64 0, .int .i64 0, .int .i64 0, .int .i64 0, .int .i64 0, .int .i64 0, .int .i64 0, .int .i64 0, .int .i64 0], .int .i64 t] w fun e w' => e = .returned (.tuple #[.int .i64 base, .int .i64 0]) ∧ Below w.heap.size w w'))
    (A2 : Hid (∀ w, Zt.Both w → Calls Tryd.prog 29 #[.agg #[.int .i64 base, .int .i64 0, .int .i64 0, .int .i64 0, .int .i64 0, .int .i64 0, .int .i64 0, .int .i64 0, .int .i64 0, .int .i64 0], .int .i64 t] w fun e w' => e = .returned (.tuple #[.agg #[.int .i64 Y, .int .i64 MO, .int .i64 D, .int .i64 HO, .int .i64 MI, .int .i64 SS, .int .i64 K], .int .i64 0]) ∧ Below w.heap.size w w'))
    (A3 : Hid (∀ w, Zt.Both w → Calls Tryd.prog 29 #[.agg #[.int .i64 0, .int .i64 0, .int .i64 0, .int .i64 0, .int .i64 0, .int .i64 0, .int .i64 0, .int .i64 0, .int .i64 0, .int .i64 0], .int .i64 (t + 60 * base)] w fun e w' => e = .returned (.tuple #[.agg #[.int .i64 Y, .int .i64 MO, .int .i64 D, .int .i64 HO, .int .i64 MI, .int .i64 SS, .int .i64 K], .int .i64 0]) ∧ Below w.heap.size w w'))
    (A4 : Hid (∀ w, Zt.Both w → Calls Tryd.prog 38 #[.agg #[.int .i64 base, .int .i64 0, .int .i64 0, .int .i64 0, .int .i64 0, .int .i64 0, .int .i64 0, .int .i64 0, .int .i64 0, .int .i64 0], .agg #[.int .i64 Y, .int .i64 MO, .int .i64 D, .int .i64 HO, .int .i64 MI, .int .i64 SS, .int .i64 K]] w (Wp.TimesPost [t] 0 w))) : Calls Tryd.prog 12 #[.int .i64 base, .int .i64 t] w fun e w' => e = .returned (.bool true) ∧ Below w.heap.size w w' := by
  have A0 := Lib.hid (fun w hL => zonLives_any w hL)
  have HL := Lib.hid hL
  clear hL
  go_enter Tryd.func12, Tryd.ntmps12
  go_wp2_with fail
  refine (A0.out _ HL.out).mono ?_
  rintro e w1 ⟨rfl, B1'⟩
  have B1 := Lib.hid B1'
  have H1 := Lib.hid (HL.out.below B1')
  clear B1'
  go_wp2_with fail
  have X1 := Lib.hid (cv_new w1 (.cells #[.int .i64 base, .int .i64 0, .int .i64 0, .int .i64 0, .int .i64 0, .int .i64 0, .int .i64 0, .int .i64 0, .int .i64 0, .int .i64 0] 42))
  have S1 : w1.heap.size < (w1.alloc (.cells #[.int .i64 base, .int .i64 0, .int .i64 0, .int .i64 0, .int .i64 0, .int .i64 0, .int .i64 0, .int .i64 0, .int .i64 0, .int .i64 0] 42)).heap.size := by rw [World.size_alloc]; omega
  have K1 := Lib.hid (B1.out.alloc B1.out.size (.cells #[.int .i64 base, .int .i64 0, .int .i64 0, .int .i64 0, .int .i64 0, .int .i64 0, .int .i64 0, .int .i64 0, .int .i64 0, .int .i64 0] 42))
  refine (A1.out _ (H1.out.box (.cells #[.int .i64 base, .int .i64 0, .int .i64 0, .int .i64 0, .int .i64 0, .int .i64 0, .int .i64 0, .int .i64 0, .int .i64 0, .int .i64 0] 42))).mono ?_
  rintro e w2 ⟨rfl, b2'⟩
  have H2 := Lib.hid ((H1.out.box (.cells #[.int .i64 base, .int .i64 0, .int .i64 0, .int .i64 0, .int .i64 0, .int .i64 0, .int .i64 0, .int .i64 0, .int .i64 0, .int .i64 0] 42)).below b2')
  have X2 := Lib.hid ((b2'.block w1.heap.size S1).trans X1.out)
  have B2 := Lib.hid (cv_then K1.out b2' K1.out.size)
  have S2 : w1.heap.size < w2.heap.size := Nat.lt_of_lt_of_le S1 b2'.size
  clear b2'
  obtain ⟨c0, c1, c2, c3, c4, c5, c6, c7, c8, c9⟩ := Wp.ten_of X2.out
  go_wp2_with fail
  refine (A2.out _ H2.out).mono ?_
  rintro e w3 ⟨rfl, b3'⟩
  clear c0 c1 c2 c3 c4 c5 c6 c7 c8 c9
  have H3 := Lib.hid ((H2.out.below b3').box (.cells #[.int .i64 Y, .int .i64 MO, .int .i64 D, .int .i64 HO, .int .i64 MI, .int .i64 SS, .int .i64 K] 23))
  have X3 := Lib.hid ((cv_past w3 (.cells #[.int .i64 Y, .int .i64 MO, .int .i64 D, .int .i64 HO, .int .i64 MI, .int .i64 SS, .int .i64 K] 23) w1.heap.size (Nat.lt_of_lt_of_le S2 b3'.size)).trans ((b3'.block w1.heap.size S2).trans X2.out))
  have Y3 := Lib.hid (cv_new w3 (.cells #[.int .i64 Y, .int .i64 MO, .int .i64 D, .int .i64 HO, .int .i64 MI, .int .i64 SS, .int .i64 K] 23))
  have B3 := Lib.hid ((cv_then B2.out b3' B2.out.size).alloc (Nat.le_trans B2.out.size b3'.size) (.cells #[.int .i64 Y, .int .i64 MO, .int .i64 D, .int .i64 HO, .int .i64 MI, .int .i64 SS, .int .i64 K] 23))
  have S3 : w1.heap.size < (w3.alloc (.cells #[.int .i64 Y, .int .i64 MO, .int .i64 D, .int .i64 HO, .int .i64 MI, .int .i64 SS, .int .i64 K] 23)).heap.size := by rw [World.size_alloc]; have := b3'.size; omega
  have T3 : w3.heap.size < (w3.alloc (.cells #[.int .i64 Y, .int .i64 MO, .int .i64 D, .int .i64 HO, .int .i64 MI, .int .i64 SS, .int .i64 K] 23)).heap.size := by rw [World.size_alloc]; omega
  clear b3'
  go_wp2_with fail
  refine (A3.out _ H3.out).mono ?_
  rintro e w4 ⟨rfl, b4'⟩
  have H4 := Lib.hid ((H3.out.below b4').box (.cells #[.int .i64 Y, .int .i64 MO, .int .i64 D, .int .i64 HO, .int .i64 MI, .int .i64 SS, .int .i64 K] 23))
  have B4 := Lib.hid ((cv_then B3.out b4' B3.out.size).alloc (Nat.le_trans B3.out.size b4'.size) (.cells #[.int .i64 Y, .int .i64 MO, .int .i64 D, .int .i64 HO, .int .i64 MI, .int .i64 SS, .int .i64 K] 23))
  have X4 := Lib.hid ((cv_past w4 (.cells #[.int .i64 Y, .int .i64 MO, .int .i64 D, .int .i64 HO, .int .i64 MI, .int .i64 SS, .int .i64 K] 23) w1.heap.size (Nat.lt_of_lt_of_le S3 b4'.size)).trans ((b4'.block w1.heap.size S3).trans X3.out))
  have Y4 := Lib.hid ((cv_past w4 (.cells #[.int .i64 Y, .int .i64 MO, .int .i64 D, .int .i64 HO, .int .i64 MI, .int .i64 SS, .int .i64 K] 23) w3.heap.size (Nat.lt_of_lt_of_le T3 b4'.size)).trans ((b4'.block w3.heap.size T3).trans Y3.out))
  have V4 := Lib.hid (cv_new w4 (.cells #[.int .i64 Y, .int .i64 MO, .int .i64 D, .int .i64 HO, .int .i64 MI, .int .i64 SS, .int .i64 K] 23))
  have S4 : w1.heap.size < w4.heap.size := Nat.lt_of_lt_of_le S3 b4'.size
  have T4 : w3.heap.size < w4.heap.size := Nat.lt_of_lt_of_le T3 b4'.size
  clear b4'
  obtain ⟨c0, c1, c2, c3, c4, c5, c6, c7, c8, c9⟩ := Wp.ten_of X4.out
  obtain ⟨d0, d1, d2, d3, d4, d5, d6⟩ := Wp.seven_of Y4.out
  go_wp2_with fail
  refine (A4.out _ H4.out).mono ?_
  rintro e w5 ⟨y5, rfl, o5, b5'⟩
  clear c0 c1 c2 c3 c4 c5 c6 c7 c8 c9 d0 d1 d2 d3 d4 d5 d6
  obtain ⟨g5, cap5, rfl⟩ : ∃ g cap, y5 = .slice (some ⟨g, 0, none⟩) 1 cap := by
    rcases o5.2 with ⟨_, h⟩ | ⟨g', cap, cur, h, _⟩
    · cases h
    · exact ⟨_, _, h⟩
  have z0 : w5.cell? ⟨g5, 0, none⟩ = some (.int .i64 t) := o5.cells (g := g5) rfl 0 _ rfl
  have B5 := Lib.hid (cv_then B4.out b5' B4.out.size)
  obtain ⟨d0, d1, d2, d3, d4, d5, d6⟩ := Wp.seven_of ((b5'.block w3.heap.size (by rw [World.size_alloc]; omega)).trans Y4.out)
  obtain ⟨e0, e1, e2, e3, e4, e5, e6⟩ := Wp.seven_of ((b5'.block w4.heap.size (by rw [World.size_alloc]; omega)).trans V4.out)
  have Z0 := Lib.hid z0
  clear o5 b5' z0
  go_wp2_with fail
  have q0 := ((Wp.below_box w5 (.cells #[.int .i64 t] 2)).cell (p := ⟨g5, 0, none⟩) (World.block_lt_of_cell? w5 _ Z0.out)).trans Z0.out
  refine (same_one g5 w5.heap.size cap5 1 t _ q0 (cell_one_new _ _ _ 0 _ rfl)).mono ?_
  rintro e w6 ⟨rfl, b6'⟩
  have B6 := Lib.hid (cv_then (B5.out.alloc B5.out.size (.cells #[.int .i64 t] 2)) b6' (Nat.le_trans B5.out.size (by rw [World.size_alloc]; omega)))
  clear b6' q0 d0 d1 d2 d3 d4 d5 d6 e0 e1 e2 e3 e4 e5 e6
  go_wp2_with fail
  go_ret
  exact ⟨rfl, B6.out⟩
/-- A zone without a summer. -/
def Pz (base : Int) : Wp.Zn := ⟨base, 0, ⟨0, 0, 0, 0⟩, ⟨0, 0, 0, 0⟩⟩
theorem Pz.ok {base : Int} (b1 : -900 ≤ base) (b2 : base ≤ 900) : Wp.ZnOk (Pz base) := ⟨⟨b1, b2, Int.le_refl 0, (by decide : (0 : Int) ≤ 120)⟩, Or.inl ⟨rfl, rfl, rfl⟩⟩
theorem zonePlain_any (base t : Int) (w : World) (hL : Zt.Both w) : Calls Tryd.prog 12 #[.int .i64 base, .int .i64 t] w fun e w' => e = .returned (.bool true) ∧ Below w.heap.size w w' := by
  have hO := fun w hL => zon_Offset (Pz base) t w hL
  have hLo := fun w hL => zon_Local (Pz base) t w hL
  by_cases hc : Wp.chk2R (Pz base) t = 0
  · obtain ⟨hz, ht⟩ := Wp.chk2R_ok hc
    have b1 : -900 ≤ base := hz.1.b1
    have b2 : base ≤ 900 := hz.1.b2
    obtain ⟨t1, t2⟩ := Wp.isT_yes ht
    have e : Wp.ofs (Pz base) t = base := Wp.ofs_plain rfl t
    rw [show Wp.offR (Pz base) t = (base, 0) from (if_pos hc).trans (by rw [e])] at hO
    have er : Wp.locR (Pz base) t = Wp.ofR (t + 60 * base) := (if_pos hc).trans (by rw [e, Int.mul_comm])
    rw [er] at hLo
    have hLz := fun w hL => zon_Local (Pz 0) (t + 60 * base) w hL
    have z0 : Wp.ofs (Pz 0) (t + 60 * base) = 0 := Wp.ofs_plain rfl _
    cases hT : Wp.isT (t + 60 * base) with
    | false =>
      rw [Wp.ofR_no hT] at hLo
      have e2 : Wp.chk2R (Pz 0) (t + 60 * base) = 1 := by
        unfold Wp.chk2R
        rw [if_pos (Wp.chkR_ok (Pz.ok (by decide) (by decide))), if_neg (by rw [hT]; simp)]
      rw [show Wp.locR (Pz 0) (t + 60 * base) = (Wp.Mom.zero, 1) from (if_neg (by rw [e2]; decide)).trans (by rw [e2])] at hLz
      exact zonePlain_end base t w hL b1 b2 t1 t2 (Lib.hid fun w h => hO w h.cv) (Lib.hid fun w h => hLo w h.cv) (Lib.hid fun w h => hLz w h.cv)
    | true =>
      obtain ⟨m, hm⟩ := Wp.isOf_ex hT
      rw [Wp.ofR_eq hm] at hLo
      have e2 : Wp.chk2R (Pz 0) (t + 60 * base) = 0 := Wp.chk2R_mk (Pz.ok (by decide) (by decide)) hT
      rw [show Wp.locR (Pz 0) (t + 60 * base) = (m, 0) from (if_pos e2).trans (by rw [z0, Int.zero_mul, Int.add_zero]; exact Wp.ofR_eq hm)] at hLz
      have hTi := fun w hL => zon_Times (Pz base) m w hL
      have hok := hm.ok
      have hd := hm.time
      have hl : Wp.timesL (Pz base) (Wp.timeD m) = [t] := by
        have e3 : Cv.two ((Pz base).base + (Pz base).save) (Pz base).base = [base] := by
          show Cv.two (base + 0) base = [base]
          unfold Cv.two
          rw [if_pos (by simp)]
          simp
        unfold Wp.timesL
        rw [e3, hd]
        have e4 : t + 60 * base - base * 60 = t := by omega
        simp [Wp.timeOne, e4, ht, e]
      rw [show Wp.timesR (Pz base) m = ([t], 0) from (if_pos (Wp.chkR_ok hz)).trans ((if_pos hok).trans (by rw [hl]))] at hTi
      exact zonePlain_yes base t m.y m.mo m.d m.h m.mi m.s m.k w hL b1 b2 t1 t2 (Lib.hid fun w h => hO w h.cv) (Lib.hid fun w h => hLo w h.cv) (Lib.hid fun w h => hLz w h.cv) (Lib.hid fun w h => hTi w h.cv)
  · rw [show Wp.offR (Pz base) t = (0, Wp.chk2R (Pz base) t) from if_neg hc] at hO
    exact zonePlain_no base t (Wp.chk2R (Pz base) t) w hL (by simpa using hc) (Lib.hid fun w h => hO w h.cv)
end Go.Proofs.YtkpjkekaedecgaaDoor
