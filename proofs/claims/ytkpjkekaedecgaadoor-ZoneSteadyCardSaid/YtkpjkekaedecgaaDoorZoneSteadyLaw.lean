/-
  The walk of ZoneSteady: whatever a zone is, a time and a span, the law answers true. Conditions: the two tables read as they are laid; the span fits 32 bits.
-/
import Derived.Test.YtkpjkekaedecgaaDoorZonLives
import Derived.Test.YtkpjkekaedecgaaDoorZonSteadyMath
namespace Go.Proofs.YtkpjkekaedecgaaDoor
open Go.RowKit

set_option maxHeartbeats 2000000 in
theorem zoneSteady_no (z : Wp.Zn) (t : Int) (on : Nat) (w : World) (hL : Zt.Both w) (hc : Wp.chk2R z t ≠ 0) : Calls Tryd.prog 11 #[.agg (Wp.zoneC z), .int .i64 t, .int .u32 on] w fun e w' => e = .returned (.bool true) ∧ Below w.heap.size w w' := by
  have A0 := Lib.hid (fun w hL => zonLives_any w hL)
  have A1 := Lib.hid (fun w hL => zon_Offset z t w hL)
  have A2 := Lib.hid (fun w hL => zon_Next z t w hL)
  rw [show Wp.offR z t = (0, Wp.chk2R z t) from if_neg hc] at A1
  have hN := Lib.hid (show ∀ n r, Wp.NextIs z t n r → n = 0 ∧ r = Wp.chk2R z t from fun n r h => by
    rcases h with ⟨_, h1, h2⟩ | ⟨h, _⟩ | ⟨h, _⟩
    · exact ⟨h1, h2⟩
    · exact absurd h hc
    · exact absurd h hc)
  have hq : (Wp.chk2R z t != 0) = true := by simpa using hc
  have A3 : ∀ w, Zt.Both w → Calls Tryd.prog 31 #[.agg (Wp.zoneC z), .int .i64 t] w fun e w' => e = .returned (.tuple #[.int .i64 0, .int .i64 (Wp.chk2R z t)]) ∧ Below w.heap.size w w' := fun w hL => (A2.out w hL.cv).mono (by
    rintro e w' ⟨n, r, rfl, h, hb⟩
    obtain ⟨rfl, rfl⟩ := hN.out n r h
    exact ⟨rfl, hb⟩)
  have A4 := Lib.hid A3
  clear A2 A3 hN hc
  generalize Wp.chk2R z t = q at *
  obtain ⟨base, save, ⟨fm, fn, fw, fi⟩, ⟨tm, tn, tw, ti⟩⟩ := z
  unfold Wp.zoneC at A1 A4 ⊢
  simp only [] at A1 A4 ⊢
  have HL := Lib.hid hL
  clear hL
  have X0 := Lib.hid (cv_new w (.cells #[.int .i64 base, .int .i64 save, .int .i64 fm, .int .i64 fn, .int .i64 fw, .int .i64 fi, .int .i64 tm, .int .i64 tn, .int .i64 tw, .int .i64 ti] 42))
  have B0 := Lib.hid (Wp.below_box w (.cells #[.int .i64 base, .int .i64 save, .int .i64 fm, .int .i64 fn, .int .i64 fw, .int .i64 fi, .int .i64 tm, .int .i64 tn, .int .i64 tw, .int .i64 ti] 42))
  go_enter Tryd.func11, Tryd.ntmps11
  go_wp2_with fail
  refine (A0.out _ (HL.out.below B0.out)).mono ?_
  rintro e w1 ⟨rfl, b1⟩
  rw [World.size_alloc] at b1
  have S1 : w.heap.size < w1.heap.size := by have := b1.size; rw [World.size_alloc] at this; omega
  have B1 := Lib.hid (B0.out.trans (b1.mono (by omega)))
  have X1 := Lib.hid ((b1.block w.heap.size (by omega)).trans X0.out)
  obtain ⟨c0, c1, c2, c3, c4, c5, c6, c7, c8, c9⟩ := Wp.ten_of X1.out
  clear b1
  go_wp2_with fail
  refine (A1.out _ (HL.out.below B1.out).cv).mono ?_
  rintro e w2 ⟨rfl, b2⟩
  have B2 := Lib.hid (cv_then B1.out b2 B1.out.size)
  have X2 := Lib.hid ((b2.block w.heap.size S1).trans X1.out)
  clear c0 c1 c2 c3 c4 c5 c6 c7 c8 c9 b2
  obtain ⟨c0, c1, c2, c3, c4, c5, c6, c7, c8, c9⟩ := Wp.ten_of X2.out
  go_wp2_with fail
  refine (A4.out _ (HL.out.below B2.out)).mono ?_
  rintro e w3 ⟨rfl, b3⟩
  have B3 := Lib.hid (cv_then B2.out b3 B2.out.size)
  clear c0 c1 c2 c3 c4 c5 c6 c7 c8 c9 b3
  go_wp2_with fail
  go_ret
  exact ⟨rfl, B3.out⟩
set_option maxHeartbeats 2000000 in
theorem zoneSteady_none (base save fm fn fw fi tm tn tw ti : Int) (t : Int) (on : Nat) (r : Int) (w : World) (hL : Zt.Both w) (b1 : -900 ≤ base) (b2 : base ≤ 900) (b3 : 0 ≤ save) (b4 : save ≤ 120) (hr : base = r ∨ (save ≠ 0 ∧ base + save = r))
    (A1 : Hid (∀ w, Cv.Laid w → Calls Tryd.prog 27 #[.agg #[.int .i64 base, .int .i64 save, .int .i64 fm, .int .i64 fn, .int .i64 fw, .int .i64 fi, .int .i64 tm, .int .i64 tn, .int .i64 tw, .int .i64 ti], .int .i64 t] w fun e w' => e = .returned (.tuple #[.int .i64 r, .int .i64 0]) ∧ Below w.heap.size w w')) (A2 : Hid (∀ w, Zt.Both w → Calls Tryd.prog 31 #[.agg #[.int .i64 base, .int .i64 save, .int .i64 fm, .int .i64 fn, .int .i64 fw, .int .i64 fi, .int .i64 tm, .int .i64 tn, .int .i64 tw, .int .i64 ti], .int .i64 t] w fun e w' => e = .returned (.tuple #[.int .i64 0, .int .i64 3]) ∧ Below w.heap.size w w')) : Calls Tryd.prog 11 #[.agg #[.int .i64 base, .int .i64 save, .int .i64 fm, .int .i64 fn, .int .i64 fw, .int .i64 fi, .int .i64 tm, .int .i64 tn, .int .i64 tw, .int .i64 ti], .int .i64 t, .int .u32 on] w fun e w' => e = .returned (.bool true) ∧ Below w.heap.size w w' := by
  have HL := Lib.hid hL
  clear hL
  rcases hr with rfl | ⟨hne, rfl⟩
  · have A0 := Lib.hid (fun w hL => zonLives_any w hL)
    have X0 := Lib.hid (cv_new w (.cells #[.int .i64 base, .int .i64 save, .int .i64 fm, .int .i64 fn, .int .i64 fw, .int .i64 fi, .int .i64 tm, .int .i64 tn, .int .i64 tw, .int .i64 ti] 42))
    have B0 := Lib.hid (Wp.below_box w (.cells #[.int .i64 base, .int .i64 save, .int .i64 fm, .int .i64 fn, .int .i64 fw, .int .i64 fi, .int .i64 tm, .int .i64 tn, .int .i64 tw, .int .i64 ti] 42))
    go_enter Tryd.func11, Tryd.ntmps11
    go_wp2_with fail
    refine (A0.out _ (HL.out.below B0.out)).mono ?_
    rintro e w1 ⟨rfl, b1'⟩
    rw [World.size_alloc] at b1'
    have S1 : w.heap.size < w1.heap.size := by have := b1'.size; rw [World.size_alloc] at this; omega
    have B1 := Lib.hid (B0.out.trans (b1'.mono (by omega)))
    have X1 := Lib.hid ((b1'.block w.heap.size (by omega)).trans X0.out)
    obtain ⟨c0, c1, c2, c3, c4, c5, c6, c7, c8, c9⟩ := Wp.ten_of X1.out
    clear b1'
    go_wp2_with fail
    refine (A1.out _ (HL.out.below B1.out).cv).mono ?_
    rintro e w2 ⟨rfl, b2'⟩
    have B2 := Lib.hid (cv_then B1.out b2' B1.out.size)
    have X2 := Lib.hid ((b2'.block w.heap.size S1).trans X1.out)
    have S2 : w.heap.size < w2.heap.size := Nat.lt_of_lt_of_le S1 b2'.size
    clear c0 c1 c2 c3 c4 c5 c6 c7 c8 c9 b2'
    obtain ⟨c0, c1, c2, c3, c4, c5, c6, c7, c8, c9⟩ := Wp.ten_of X2.out
    go_wp2_with fail
    refine (A2.out _ (HL.out.below B2.out)).mono ?_
    rintro e w3 ⟨rfl, b3'⟩
    have B3 := Lib.hid (cv_then B2.out b3' B2.out.size)
    have X3 := Lib.hid ((b3'.block w.heap.size S2).trans X2.out)
    have S3 : w.heap.size < w3.heap.size := Nat.lt_of_lt_of_le S2 b3'.size
    clear c0 c1 c2 c3 c4 c5 c6 c7 c8 c9 b3'
    obtain ⟨c0, c1, c2, c3, c4, c5, c6, c7, c8, c9⟩ := Wp.ten_of X3.out
    go_wp2_with fail
    go_ret
    exact ⟨rfl, B3.out⟩
  · have hq : (base + save != base) = true := bne_iff_ne.2 (by omega)
    clear hne
    have A0 := Lib.hid (fun w hL => zonLives_any w hL)
    have X0 := Lib.hid (cv_new w (.cells #[.int .i64 base, .int .i64 save, .int .i64 fm, .int .i64 fn, .int .i64 fw, .int .i64 fi, .int .i64 tm, .int .i64 tn, .int .i64 tw, .int .i64 ti] 42))
    have B0 := Lib.hid (Wp.below_box w (.cells #[.int .i64 base, .int .i64 save, .int .i64 fm, .int .i64 fn, .int .i64 fw, .int .i64 fi, .int .i64 tm, .int .i64 tn, .int .i64 tw, .int .i64 ti] 42))
    go_enter Tryd.func11, Tryd.ntmps11
    go_wp2_with fail
    refine (A0.out _ (HL.out.below B0.out)).mono ?_
    rintro e w1 ⟨rfl, b1'⟩
    rw [World.size_alloc] at b1'
    have S1 : w.heap.size < w1.heap.size := by have := b1'.size; rw [World.size_alloc] at this; omega
    have B1 := Lib.hid (B0.out.trans (b1'.mono (by omega)))
    have X1 := Lib.hid ((b1'.block w.heap.size (by omega)).trans X0.out)
    obtain ⟨c0, c1, c2, c3, c4, c5, c6, c7, c8, c9⟩ := Wp.ten_of X1.out
    clear b1'
    go_wp2_with fail
    refine (A1.out _ (HL.out.below B1.out).cv).mono ?_
    rintro e w2 ⟨rfl, b2'⟩
    have B2 := Lib.hid (cv_then B1.out b2' B1.out.size)
    have X2 := Lib.hid ((b2'.block w.heap.size S1).trans X1.out)
    have S2 : w.heap.size < w2.heap.size := Nat.lt_of_lt_of_le S1 b2'.size
    clear c0 c1 c2 c3 c4 c5 c6 c7 c8 c9 b2'
    obtain ⟨c0, c1, c2, c3, c4, c5, c6, c7, c8, c9⟩ := Wp.ten_of X2.out
    go_wp2_with fail
    refine (A2.out _ (HL.out.below B2.out)).mono ?_
    rintro e w3 ⟨rfl, b3'⟩
    have B3 := Lib.hid (cv_then B2.out b3' B2.out.size)
    have X3 := Lib.hid ((b3'.block w.heap.size S2).trans X2.out)
    have S3 : w.heap.size < w3.heap.size := Nat.lt_of_lt_of_le S2 b3'.size
    clear c0 c1 c2 c3 c4 c5 c6 c7 c8 c9 b3'
    obtain ⟨c0, c1, c2, c3, c4, c5, c6, c7, c8, c9⟩ := Wp.ten_of X3.out
    go_wp2_with fail
    go_ret
    exact ⟨rfl, B3.out⟩
-- THE REST
set_option maxHeartbeats 4000000 in
theorem zoneSteady_far (base save fm fn fw fi tm tn tw ti : Int) (t : Int) (on : Nat) (r k n : Int) (w : World) (hL : Zt.Both w) (b1 : -900 ≤ base) (b2 : base ≤ 900) (b3 : 0 ≤ save) (b4 : save ≤ 120) (hr : base = r ∨ (save ≠ 0 ∧ base + save = r)) (hk : base = k ∨ (save ≠ 0 ∧ base + save = k))
    (t1 : -62135596800 ≤ t) (t2 : t ≤ 253402300799) (hon : on < 4294967296) (hn : t < n) (hu : n ≤ t + on)
    (A1 : Hid (∀ w, Cv.Laid w → Calls Tryd.prog 27 #[.agg #[.int .i64 base, .int .i64 save, .int .i64 fm, .int .i64 fn, .int .i64 fw, .int .i64 fi, .int .i64 tm, .int .i64 tn, .int .i64 tw, .int .i64 ti], .int .i64 t] w fun e w' => e = .returned (.tuple #[.int .i64 r, .int .i64 0]) ∧ Below w.heap.size w w')) (A2 : Hid (∀ w, Zt.Both w → Calls Tryd.prog 31 #[.agg #[.int .i64 base, .int .i64 save, .int .i64 fm, .int .i64 fn, .int .i64 fw, .int .i64 fi, .int .i64 tm, .int .i64 tn, .int .i64 tw, .int .i64 ti], .int .i64 t] w fun e w' => e = .returned (.tuple #[.int .i64 n, .int .i64 0]) ∧ Below w.heap.size w w')) (A3 : Hid (∀ w, Cv.Laid w → Calls Tryd.prog 27 #[.agg #[.int .i64 base, .int .i64 save, .int .i64 fm, .int .i64 fn, .int .i64 fw, .int .i64 fi, .int .i64 tm, .int .i64 tn, .int .i64 tw, .int .i64 ti], .int .i64 n] w fun e w' => e = .returned (.tuple #[.int .i64 k, .int .i64 0]) ∧ Below w.heap.size w w')) : Calls Tryd.prog 11 #[.agg #[.int .i64 base, .int .i64 save, .int .i64 fm, .int .i64 fn, .int .i64 fw, .int .i64 fi, .int .i64 tm, .int .i64 tn, .int .i64 tw, .int .i64 ti], .int .i64 t, .int .u32 on] w fun e w' => e = .returned (.bool true) ∧ Below w.heap.size w w' := by
  have HL := Lib.hid hL
  clear hL
  rcases hr with rfl | ⟨hne, rfl⟩ <;> rcases hk with rfl | ⟨hne2, rfl⟩
  · have A0 := Lib.hid (fun w hL => zonLives_any w hL)
    have X0 := Lib.hid (cv_new w (.cells #[.int .i64 base, .int .i64 save, .int .i64 fm, .int .i64 fn, .int .i64 fw, .int .i64 fi, .int .i64 tm, .int .i64 tn, .int .i64 tw, .int .i64 ti] 42))
    have B0 := Lib.hid (Wp.below_box w (.cells #[.int .i64 base, .int .i64 save, .int .i64 fm, .int .i64 fn, .int .i64 fw, .int .i64 fi, .int .i64 tm, .int .i64 tn, .int .i64 tw, .int .i64 ti] 42))
    go_enter Tryd.func11, Tryd.ntmps11
    go_wp2_with fail
    refine (A0.out _ (HL.out.below B0.out)).mono ?_
    rintro e w1 ⟨rfl, b1'⟩
    rw [World.size_alloc] at b1'
    have S1 : w.heap.size < w1.heap.size := by have := b1'.size; rw [World.size_alloc] at this; omega
    have B1 := Lib.hid (B0.out.trans (b1'.mono (by omega)))
    have X1 := Lib.hid ((b1'.block w.heap.size (by omega)).trans X0.out)
    obtain ⟨c0, c1, c2, c3, c4, c5, c6, c7, c8, c9⟩ := Wp.ten_of X1.out
    clear b1'
    go_wp2_with fail
    refine (A1.out _ (HL.out.below B1.out).cv).mono ?_
    rintro e w2 ⟨rfl, b2'⟩
    have B2 := Lib.hid (cv_then B1.out b2' B1.out.size)
    have X2 := Lib.hid ((b2'.block w.heap.size S1).trans X1.out)
    have S2 : w.heap.size < w2.heap.size := Nat.lt_of_lt_of_le S1 b2'.size
    clear c0 c1 c2 c3 c4 c5 c6 c7 c8 c9 b2'
    obtain ⟨c0, c1, c2, c3, c4, c5, c6, c7, c8, c9⟩ := Wp.ten_of X2.out
    go_wp2_with fail
    refine (A2.out _ (HL.out.below B2.out)).mono ?_
    rintro e w3 ⟨rfl, b3'⟩
    have B3 := Lib.hid (cv_then B2.out b3' B2.out.size)
    have X3 := Lib.hid ((b3'.block w.heap.size S2).trans X2.out)
    have S3 : w.heap.size < w3.heap.size := Nat.lt_of_lt_of_le S2 b3'.size
    clear c0 c1 c2 c3 c4 c5 c6 c7 c8 c9 b3'
    obtain ⟨c0, c1, c2, c3, c4, c5, c6, c7, c8, c9⟩ := Wp.ten_of X3.out
    go_wp2_with fail
    refine (A3.out _ (HL.out.below B3.out).cv).mono ?_
    rintro e w4 ⟨rfl, b4'⟩
    have B4 := Lib.hid (cv_then B3.out b4' B3.out.size)
    have X4 := Lib.hid ((b4'.block w.heap.size S3).trans X3.out)
    have S4 : w.heap.size < w4.heap.size := Nat.lt_of_lt_of_le S3 b4'.size
    clear c0 c1 c2 c3 c4 c5 c6 c7 c8 c9 b4'
    obtain ⟨c0, c1, c2, c3, c4, c5, c6, c7, c8, c9⟩ := Wp.ten_of X4.out
    go_wp2_with fail
    go_ret
    exact ⟨rfl, B4.out⟩
  · have hq : (base + save != base) = true := bne_iff_ne.2 (by omega)
    clear hne2
    have A0 := Lib.hid (fun w hL => zonLives_any w hL)
    have X0 := Lib.hid (cv_new w (.cells #[.int .i64 base, .int .i64 save, .int .i64 fm, .int .i64 fn, .int .i64 fw, .int .i64 fi, .int .i64 tm, .int .i64 tn, .int .i64 tw, .int .i64 ti] 42))
    have B0 := Lib.hid (Wp.below_box w (.cells #[.int .i64 base, .int .i64 save, .int .i64 fm, .int .i64 fn, .int .i64 fw, .int .i64 fi, .int .i64 tm, .int .i64 tn, .int .i64 tw, .int .i64 ti] 42))
    go_enter Tryd.func11, Tryd.ntmps11
    go_wp2_with fail
    refine (A0.out _ (HL.out.below B0.out)).mono ?_
    rintro e w1 ⟨rfl, b1'⟩
    rw [World.size_alloc] at b1'
    have S1 : w.heap.size < w1.heap.size := by have := b1'.size; rw [World.size_alloc] at this; omega
    have B1 := Lib.hid (B0.out.trans (b1'.mono (by omega)))
    have X1 := Lib.hid ((b1'.block w.heap.size (by omega)).trans X0.out)
    obtain ⟨c0, c1, c2, c3, c4, c5, c6, c7, c8, c9⟩ := Wp.ten_of X1.out
    clear b1'
    go_wp2_with fail
    refine (A1.out _ (HL.out.below B1.out).cv).mono ?_
    rintro e w2 ⟨rfl, b2'⟩
    have B2 := Lib.hid (cv_then B1.out b2' B1.out.size)
    have X2 := Lib.hid ((b2'.block w.heap.size S1).trans X1.out)
    have S2 : w.heap.size < w2.heap.size := Nat.lt_of_lt_of_le S1 b2'.size
    clear c0 c1 c2 c3 c4 c5 c6 c7 c8 c9 b2'
    obtain ⟨c0, c1, c2, c3, c4, c5, c6, c7, c8, c9⟩ := Wp.ten_of X2.out
    go_wp2_with fail
    refine (A2.out _ (HL.out.below B2.out)).mono ?_
    rintro e w3 ⟨rfl, b3'⟩
    have B3 := Lib.hid (cv_then B2.out b3' B2.out.size)
    have X3 := Lib.hid ((b3'.block w.heap.size S2).trans X2.out)
    have S3 : w.heap.size < w3.heap.size := Nat.lt_of_lt_of_le S2 b3'.size
    clear c0 c1 c2 c3 c4 c5 c6 c7 c8 c9 b3'
    obtain ⟨c0, c1, c2, c3, c4, c5, c6, c7, c8, c9⟩ := Wp.ten_of X3.out
    go_wp2_with fail
    refine (A3.out _ (HL.out.below B3.out).cv).mono ?_
    rintro e w4 ⟨rfl, b4'⟩
    have B4 := Lib.hid (cv_then B3.out b4' B3.out.size)
    have X4 := Lib.hid ((b4'.block w.heap.size S3).trans X3.out)
    have S4 : w.heap.size < w4.heap.size := Nat.lt_of_lt_of_le S3 b4'.size
    clear c0 c1 c2 c3 c4 c5 c6 c7 c8 c9 b4'
    obtain ⟨c0, c1, c2, c3, c4, c5, c6, c7, c8, c9⟩ := Wp.ten_of X4.out
    go_wp2_with fail
    go_ret
    exact ⟨rfl, B4.out⟩
  · have hq : (base + save != base) = true := bne_iff_ne.2 (by omega)
    clear hne
    have A0 := Lib.hid (fun w hL => zonLives_any w hL)
    have X0 := Lib.hid (cv_new w (.cells #[.int .i64 base, .int .i64 save, .int .i64 fm, .int .i64 fn, .int .i64 fw, .int .i64 fi, .int .i64 tm, .int .i64 tn, .int .i64 tw, .int .i64 ti] 42))
    have B0 := Lib.hid (Wp.below_box w (.cells #[.int .i64 base, .int .i64 save, .int .i64 fm, .int .i64 fn, .int .i64 fw, .int .i64 fi, .int .i64 tm, .int .i64 tn, .int .i64 tw, .int .i64 ti] 42))
    go_enter Tryd.func11, Tryd.ntmps11
    go_wp2_with fail
    refine (A0.out _ (HL.out.below B0.out)).mono ?_
    rintro e w1 ⟨rfl, b1'⟩
    rw [World.size_alloc] at b1'
    have S1 : w.heap.size < w1.heap.size := by have := b1'.size; rw [World.size_alloc] at this; omega
    have B1 := Lib.hid (B0.out.trans (b1'.mono (by omega)))
    have X1 := Lib.hid ((b1'.block w.heap.size (by omega)).trans X0.out)
    obtain ⟨c0, c1, c2, c3, c4, c5, c6, c7, c8, c9⟩ := Wp.ten_of X1.out
    clear b1'
    go_wp2_with fail
    refine (A1.out _ (HL.out.below B1.out).cv).mono ?_
    rintro e w2 ⟨rfl, b2'⟩
    have B2 := Lib.hid (cv_then B1.out b2' B1.out.size)
    have X2 := Lib.hid ((b2'.block w.heap.size S1).trans X1.out)
    have S2 : w.heap.size < w2.heap.size := Nat.lt_of_lt_of_le S1 b2'.size
    clear c0 c1 c2 c3 c4 c5 c6 c7 c8 c9 b2'
    obtain ⟨c0, c1, c2, c3, c4, c5, c6, c7, c8, c9⟩ := Wp.ten_of X2.out
    go_wp2_with fail
    refine (A2.out _ (HL.out.below B2.out)).mono ?_
    rintro e w3 ⟨rfl, b3'⟩
    have B3 := Lib.hid (cv_then B2.out b3' B2.out.size)
    have X3 := Lib.hid ((b3'.block w.heap.size S2).trans X2.out)
    have S3 : w.heap.size < w3.heap.size := Nat.lt_of_lt_of_le S2 b3'.size
    clear c0 c1 c2 c3 c4 c5 c6 c7 c8 c9 b3'
    obtain ⟨c0, c1, c2, c3, c4, c5, c6, c7, c8, c9⟩ := Wp.ten_of X3.out
    go_wp2_with fail
    refine (A3.out _ (HL.out.below B3.out).cv).mono ?_
    rintro e w4 ⟨rfl, b4'⟩
    have B4 := Lib.hid (cv_then B3.out b4' B3.out.size)
    have X4 := Lib.hid ((b4'.block w.heap.size S3).trans X3.out)
    have S4 : w.heap.size < w4.heap.size := Nat.lt_of_lt_of_le S3 b4'.size
    clear c0 c1 c2 c3 c4 c5 c6 c7 c8 c9 b4'
    obtain ⟨c0, c1, c2, c3, c4, c5, c6, c7, c8, c9⟩ := Wp.ten_of X4.out
    go_wp2_with fail
    go_ret
    exact ⟨rfl, B4.out⟩
  · have hq : (base + save != base) = true := bne_iff_ne.2 (by omega)
    clear hne
    clear hne2
    have A0 := Lib.hid (fun w hL => zonLives_any w hL)
    have X0 := Lib.hid (cv_new w (.cells #[.int .i64 base, .int .i64 save, .int .i64 fm, .int .i64 fn, .int .i64 fw, .int .i64 fi, .int .i64 tm, .int .i64 tn, .int .i64 tw, .int .i64 ti] 42))
    have B0 := Lib.hid (Wp.below_box w (.cells #[.int .i64 base, .int .i64 save, .int .i64 fm, .int .i64 fn, .int .i64 fw, .int .i64 fi, .int .i64 tm, .int .i64 tn, .int .i64 tw, .int .i64 ti] 42))
    go_enter Tryd.func11, Tryd.ntmps11
    go_wp2_with fail
    refine (A0.out _ (HL.out.below B0.out)).mono ?_
    rintro e w1 ⟨rfl, b1'⟩
    rw [World.size_alloc] at b1'
    have S1 : w.heap.size < w1.heap.size := by have := b1'.size; rw [World.size_alloc] at this; omega
    have B1 := Lib.hid (B0.out.trans (b1'.mono (by omega)))
    have X1 := Lib.hid ((b1'.block w.heap.size (by omega)).trans X0.out)
    obtain ⟨c0, c1, c2, c3, c4, c5, c6, c7, c8, c9⟩ := Wp.ten_of X1.out
    clear b1'
    go_wp2_with fail
    refine (A1.out _ (HL.out.below B1.out).cv).mono ?_
    rintro e w2 ⟨rfl, b2'⟩
    have B2 := Lib.hid (cv_then B1.out b2' B1.out.size)
    have X2 := Lib.hid ((b2'.block w.heap.size S1).trans X1.out)
    have S2 : w.heap.size < w2.heap.size := Nat.lt_of_lt_of_le S1 b2'.size
    clear c0 c1 c2 c3 c4 c5 c6 c7 c8 c9 b2'
    obtain ⟨c0, c1, c2, c3, c4, c5, c6, c7, c8, c9⟩ := Wp.ten_of X2.out
    go_wp2_with fail
    refine (A2.out _ (HL.out.below B2.out)).mono ?_
    rintro e w3 ⟨rfl, b3'⟩
    have B3 := Lib.hid (cv_then B2.out b3' B2.out.size)
    have X3 := Lib.hid ((b3'.block w.heap.size S2).trans X2.out)
    have S3 : w.heap.size < w3.heap.size := Nat.lt_of_lt_of_le S2 b3'.size
    clear c0 c1 c2 c3 c4 c5 c6 c7 c8 c9 b3'
    obtain ⟨c0, c1, c2, c3, c4, c5, c6, c7, c8, c9⟩ := Wp.ten_of X3.out
    go_wp2_with fail
    refine (A3.out _ (HL.out.below B3.out).cv).mono ?_
    rintro e w4 ⟨rfl, b4'⟩
    have B4 := Lib.hid (cv_then B3.out b4' B3.out.size)
    have X4 := Lib.hid ((b4'.block w.heap.size S3).trans X3.out)
    have S4 : w.heap.size < w4.heap.size := Nat.lt_of_lt_of_le S3 b4'.size
    clear c0 c1 c2 c3 c4 c5 c6 c7 c8 c9 b4'
    obtain ⟨c0, c1, c2, c3, c4, c5, c6, c7, c8, c9⟩ := Wp.ten_of X4.out
    go_wp2_with fail
    go_ret
    exact ⟨rfl, B4.out⟩
set_option maxHeartbeats 4000000 in
theorem zoneSteady_near (base save fm fn fw fi tm tn tw ti : Int) (t : Int) (on : Nat) (r k n : Int) (w : World) (hL : Zt.Both w) (b1 : -900 ≤ base) (b2 : base ≤ 900) (b3 : 0 ≤ save) (b4 : save ≤ 120) (hr : base = r ∨ (save ≠ 0 ∧ base + save = r)) (hk : base = k ∨ (save ≠ 0 ∧ base + save = k))
    (t1 : -62135596800 ≤ t) (t2 : t ≤ 253402300799) (hon : on < 4294967296) (hn : t < n) (hu : t + on < n)
    (A1 : Hid (∀ w, Cv.Laid w → Calls Tryd.prog 27 #[.agg #[.int .i64 base, .int .i64 save, .int .i64 fm, .int .i64 fn, .int .i64 fw, .int .i64 fi, .int .i64 tm, .int .i64 tn, .int .i64 tw, .int .i64 ti], .int .i64 t] w fun e w' => e = .returned (.tuple #[.int .i64 r, .int .i64 0]) ∧ Below w.heap.size w w')) (A2 : Hid (∀ w, Zt.Both w → Calls Tryd.prog 31 #[.agg #[.int .i64 base, .int .i64 save, .int .i64 fm, .int .i64 fn, .int .i64 fw, .int .i64 fi, .int .i64 tm, .int .i64 tn, .int .i64 tw, .int .i64 ti], .int .i64 t] w fun e w' => e = .returned (.tuple #[.int .i64 n, .int .i64 0]) ∧ Below w.heap.size w w')) (A3 : Hid (∀ w, Cv.Laid w → Calls Tryd.prog 27 #[.agg #[.int .i64 base, .int .i64 save, .int .i64 fm, .int .i64 fn, .int .i64 fw, .int .i64 fi, .int .i64 tm, .int .i64 tn, .int .i64 tw, .int .i64 ti], .int .i64 n] w fun e w' => e = .returned (.tuple #[.int .i64 k, .int .i64 0]) ∧ Below w.heap.size w w')) (A4 : Hid (∀ w, Cv.Laid w → Calls Tryd.prog 27 #[.agg #[.int .i64 base, .int .i64 save, .int .i64 fm, .int .i64 fn, .int .i64 fw, .int .i64 fi, .int .i64 tm, .int .i64 tn, .int .i64 tw, .int .i64 ti], .int .i64 (t + on)] w fun e w' => e = .returned (.tuple #[.int .i64 r, .int .i64 0]) ∧ Below w.heap.size w w')) : Calls Tryd.prog 11 #[.agg #[.int .i64 base, .int .i64 save, .int .i64 fm, .int .i64 fn, .int .i64 fw, .int .i64 fi, .int .i64 tm, .int .i64 tn, .int .i64 tw, .int .i64 ti], .int .i64 t, .int .u32 on] w fun e w' => e = .returned (.bool true) ∧ Below w.heap.size w w' := by
  have HL := Lib.hid hL
  clear hL
  rcases hr with rfl | ⟨hne, rfl⟩ <;> rcases hk with rfl | ⟨hne2, rfl⟩
  · have A0 := Lib.hid (fun w hL => zonLives_any w hL)
    have X0 := Lib.hid (cv_new w (.cells #[.int .i64 base, .int .i64 save, .int .i64 fm, .int .i64 fn, .int .i64 fw, .int .i64 fi, .int .i64 tm, .int .i64 tn, .int .i64 tw, .int .i64 ti] 42))
    have B0 := Lib.hid (Wp.below_box w (.cells #[.int .i64 base, .int .i64 save, .int .i64 fm, .int .i64 fn, .int .i64 fw, .int .i64 fi, .int .i64 tm, .int .i64 tn, .int .i64 tw, .int .i64 ti] 42))
    go_enter Tryd.func11, Tryd.ntmps11
    go_wp2_with fail
    refine (A0.out _ (HL.out.below B0.out)).mono ?_
    rintro e w1 ⟨rfl, b1'⟩
    rw [World.size_alloc] at b1'
    have S1 : w.heap.size < w1.heap.size := by have := b1'.size; rw [World.size_alloc] at this; omega
    have B1 := Lib.hid (B0.out.trans (b1'.mono (by omega)))
    have X1 := Lib.hid ((b1'.block w.heap.size (by omega)).trans X0.out)
    obtain ⟨c0, c1, c2, c3, c4, c5, c6, c7, c8, c9⟩ := Wp.ten_of X1.out
    clear b1'
    go_wp2_with fail
    refine (A1.out _ (HL.out.below B1.out).cv).mono ?_
    rintro e w2 ⟨rfl, b2'⟩
    have B2 := Lib.hid (cv_then B1.out b2' B1.out.size)
    have X2 := Lib.hid ((b2'.block w.heap.size S1).trans X1.out)
    have S2 : w.heap.size < w2.heap.size := Nat.lt_of_lt_of_le S1 b2'.size
    clear c0 c1 c2 c3 c4 c5 c6 c7 c8 c9 b2'
    obtain ⟨c0, c1, c2, c3, c4, c5, c6, c7, c8, c9⟩ := Wp.ten_of X2.out
    go_wp2_with fail
    refine (A2.out _ (HL.out.below B2.out)).mono ?_
    rintro e w3 ⟨rfl, b3'⟩
    have B3 := Lib.hid (cv_then B2.out b3' B2.out.size)
    have X3 := Lib.hid ((b3'.block w.heap.size S2).trans X2.out)
    have S3 : w.heap.size < w3.heap.size := Nat.lt_of_lt_of_le S2 b3'.size
    clear c0 c1 c2 c3 c4 c5 c6 c7 c8 c9 b3'
    obtain ⟨c0, c1, c2, c3, c4, c5, c6, c7, c8, c9⟩ := Wp.ten_of X3.out
    go_wp2_with fail
    refine (A3.out _ (HL.out.below B3.out).cv).mono ?_
    rintro e w4 ⟨rfl, b4'⟩
    have B4 := Lib.hid (cv_then B3.out b4' B3.out.size)
    have X4 := Lib.hid ((b4'.block w.heap.size S3).trans X3.out)
    have S4 : w.heap.size < w4.heap.size := Nat.lt_of_lt_of_le S3 b4'.size
    clear c0 c1 c2 c3 c4 c5 c6 c7 c8 c9 b4'
    obtain ⟨c0, c1, c2, c3, c4, c5, c6, c7, c8, c9⟩ := Wp.ten_of X4.out
    go_wp2_with fail
    refine (A4.out _ (HL.out.below B4.out).cv).mono ?_
    rintro e w5 ⟨rfl, b5'⟩
    have B5 := Lib.hid (cv_then B4.out b5' B4.out.size)
    have X5 := Lib.hid ((b5'.block w.heap.size S4).trans X4.out)
    have S5 : w.heap.size < w5.heap.size := Nat.lt_of_lt_of_le S4 b5'.size
    clear c0 c1 c2 c3 c4 c5 c6 c7 c8 c9 b5'
    obtain ⟨c0, c1, c2, c3, c4, c5, c6, c7, c8, c9⟩ := Wp.ten_of X5.out
    go_wp2_with fail
    go_ret
    exact ⟨rfl, B5.out⟩
  · have hq : (base + save != base) = true := bne_iff_ne.2 (by omega)
    clear hne2
    have A0 := Lib.hid (fun w hL => zonLives_any w hL)
    have X0 := Lib.hid (cv_new w (.cells #[.int .i64 base, .int .i64 save, .int .i64 fm, .int .i64 fn, .int .i64 fw, .int .i64 fi, .int .i64 tm, .int .i64 tn, .int .i64 tw, .int .i64 ti] 42))
    have B0 := Lib.hid (Wp.below_box w (.cells #[.int .i64 base, .int .i64 save, .int .i64 fm, .int .i64 fn, .int .i64 fw, .int .i64 fi, .int .i64 tm, .int .i64 tn, .int .i64 tw, .int .i64 ti] 42))
    go_enter Tryd.func11, Tryd.ntmps11
    go_wp2_with fail
    refine (A0.out _ (HL.out.below B0.out)).mono ?_
    rintro e w1 ⟨rfl, b1'⟩
    rw [World.size_alloc] at b1'
    have S1 : w.heap.size < w1.heap.size := by have := b1'.size; rw [World.size_alloc] at this; omega
    have B1 := Lib.hid (B0.out.trans (b1'.mono (by omega)))
    have X1 := Lib.hid ((b1'.block w.heap.size (by omega)).trans X0.out)
    obtain ⟨c0, c1, c2, c3, c4, c5, c6, c7, c8, c9⟩ := Wp.ten_of X1.out
    clear b1'
    go_wp2_with fail
    refine (A1.out _ (HL.out.below B1.out).cv).mono ?_
    rintro e w2 ⟨rfl, b2'⟩
    have B2 := Lib.hid (cv_then B1.out b2' B1.out.size)
    have X2 := Lib.hid ((b2'.block w.heap.size S1).trans X1.out)
    have S2 : w.heap.size < w2.heap.size := Nat.lt_of_lt_of_le S1 b2'.size
    clear c0 c1 c2 c3 c4 c5 c6 c7 c8 c9 b2'
    obtain ⟨c0, c1, c2, c3, c4, c5, c6, c7, c8, c9⟩ := Wp.ten_of X2.out
    go_wp2_with fail
    refine (A2.out _ (HL.out.below B2.out)).mono ?_
    rintro e w3 ⟨rfl, b3'⟩
    have B3 := Lib.hid (cv_then B2.out b3' B2.out.size)
    have X3 := Lib.hid ((b3'.block w.heap.size S2).trans X2.out)
    have S3 : w.heap.size < w3.heap.size := Nat.lt_of_lt_of_le S2 b3'.size
    clear c0 c1 c2 c3 c4 c5 c6 c7 c8 c9 b3'
    obtain ⟨c0, c1, c2, c3, c4, c5, c6, c7, c8, c9⟩ := Wp.ten_of X3.out
    go_wp2_with fail
    refine (A3.out _ (HL.out.below B3.out).cv).mono ?_
    rintro e w4 ⟨rfl, b4'⟩
    have B4 := Lib.hid (cv_then B3.out b4' B3.out.size)
    have X4 := Lib.hid ((b4'.block w.heap.size S3).trans X3.out)
    have S4 : w.heap.size < w4.heap.size := Nat.lt_of_lt_of_le S3 b4'.size
    clear c0 c1 c2 c3 c4 c5 c6 c7 c8 c9 b4'
    obtain ⟨c0, c1, c2, c3, c4, c5, c6, c7, c8, c9⟩ := Wp.ten_of X4.out
    go_wp2_with fail
    refine (A4.out _ (HL.out.below B4.out).cv).mono ?_
    rintro e w5 ⟨rfl, b5'⟩
    have B5 := Lib.hid (cv_then B4.out b5' B4.out.size)
    have X5 := Lib.hid ((b5'.block w.heap.size S4).trans X4.out)
    have S5 : w.heap.size < w5.heap.size := Nat.lt_of_lt_of_le S4 b5'.size
    clear c0 c1 c2 c3 c4 c5 c6 c7 c8 c9 b5'
    obtain ⟨c0, c1, c2, c3, c4, c5, c6, c7, c8, c9⟩ := Wp.ten_of X5.out
    go_wp2_with fail
    go_ret
    exact ⟨rfl, B5.out⟩
  · have hq : (base + save != base) = true := bne_iff_ne.2 (by omega)
    clear hne
    have A0 := Lib.hid (fun w hL => zonLives_any w hL)
    have X0 := Lib.hid (cv_new w (.cells #[.int .i64 base, .int .i64 save, .int .i64 fm, .int .i64 fn, .int .i64 fw, .int .i64 fi, .int .i64 tm, .int .i64 tn, .int .i64 tw, .int .i64 ti] 42))
    have B0 := Lib.hid (Wp.below_box w (.cells #[.int .i64 base, .int .i64 save, .int .i64 fm, .int .i64 fn, .int .i64 fw, .int .i64 fi, .int .i64 tm, .int .i64 tn, .int .i64 tw, .int .i64 ti] 42))
    go_enter Tryd.func11, Tryd.ntmps11
    go_wp2_with fail
    refine (A0.out _ (HL.out.below B0.out)).mono ?_
    rintro e w1 ⟨rfl, b1'⟩
    rw [World.size_alloc] at b1'
    have S1 : w.heap.size < w1.heap.size := by have := b1'.size; rw [World.size_alloc] at this; omega
    have B1 := Lib.hid (B0.out.trans (b1'.mono (by omega)))
    have X1 := Lib.hid ((b1'.block w.heap.size (by omega)).trans X0.out)
    obtain ⟨c0, c1, c2, c3, c4, c5, c6, c7, c8, c9⟩ := Wp.ten_of X1.out
    clear b1'
    go_wp2_with fail
    refine (A1.out _ (HL.out.below B1.out).cv).mono ?_
    rintro e w2 ⟨rfl, b2'⟩
    have B2 := Lib.hid (cv_then B1.out b2' B1.out.size)
    have X2 := Lib.hid ((b2'.block w.heap.size S1).trans X1.out)
    have S2 : w.heap.size < w2.heap.size := Nat.lt_of_lt_of_le S1 b2'.size
    clear c0 c1 c2 c3 c4 c5 c6 c7 c8 c9 b2'
    obtain ⟨c0, c1, c2, c3, c4, c5, c6, c7, c8, c9⟩ := Wp.ten_of X2.out
    go_wp2_with fail
    refine (A2.out _ (HL.out.below B2.out)).mono ?_
    rintro e w3 ⟨rfl, b3'⟩
    have B3 := Lib.hid (cv_then B2.out b3' B2.out.size)
    have X3 := Lib.hid ((b3'.block w.heap.size S2).trans X2.out)
    have S3 : w.heap.size < w3.heap.size := Nat.lt_of_lt_of_le S2 b3'.size
    clear c0 c1 c2 c3 c4 c5 c6 c7 c8 c9 b3'
    obtain ⟨c0, c1, c2, c3, c4, c5, c6, c7, c8, c9⟩ := Wp.ten_of X3.out
    go_wp2_with fail
    refine (A3.out _ (HL.out.below B3.out).cv).mono ?_
    rintro e w4 ⟨rfl, b4'⟩
    have B4 := Lib.hid (cv_then B3.out b4' B3.out.size)
    have X4 := Lib.hid ((b4'.block w.heap.size S3).trans X3.out)
    have S4 : w.heap.size < w4.heap.size := Nat.lt_of_lt_of_le S3 b4'.size
    clear c0 c1 c2 c3 c4 c5 c6 c7 c8 c9 b4'
    obtain ⟨c0, c1, c2, c3, c4, c5, c6, c7, c8, c9⟩ := Wp.ten_of X4.out
    go_wp2_with fail
    refine (A4.out _ (HL.out.below B4.out).cv).mono ?_
    rintro e w5 ⟨rfl, b5'⟩
    have B5 := Lib.hid (cv_then B4.out b5' B4.out.size)
    have X5 := Lib.hid ((b5'.block w.heap.size S4).trans X4.out)
    have S5 : w.heap.size < w5.heap.size := Nat.lt_of_lt_of_le S4 b5'.size
    clear c0 c1 c2 c3 c4 c5 c6 c7 c8 c9 b5'
    obtain ⟨c0, c1, c2, c3, c4, c5, c6, c7, c8, c9⟩ := Wp.ten_of X5.out
    go_wp2_with fail
    go_ret
    exact ⟨rfl, B5.out⟩
  · have hq : (base + save != base) = true := bne_iff_ne.2 (by omega)
    clear hne
    clear hne2
    have A0 := Lib.hid (fun w hL => zonLives_any w hL)
    have X0 := Lib.hid (cv_new w (.cells #[.int .i64 base, .int .i64 save, .int .i64 fm, .int .i64 fn, .int .i64 fw, .int .i64 fi, .int .i64 tm, .int .i64 tn, .int .i64 tw, .int .i64 ti] 42))
    have B0 := Lib.hid (Wp.below_box w (.cells #[.int .i64 base, .int .i64 save, .int .i64 fm, .int .i64 fn, .int .i64 fw, .int .i64 fi, .int .i64 tm, .int .i64 tn, .int .i64 tw, .int .i64 ti] 42))
    go_enter Tryd.func11, Tryd.ntmps11
    go_wp2_with fail
    refine (A0.out _ (HL.out.below B0.out)).mono ?_
    rintro e w1 ⟨rfl, b1'⟩
    rw [World.size_alloc] at b1'
    have S1 : w.heap.size < w1.heap.size := by have := b1'.size; rw [World.size_alloc] at this; omega
    have B1 := Lib.hid (B0.out.trans (b1'.mono (by omega)))
    have X1 := Lib.hid ((b1'.block w.heap.size (by omega)).trans X0.out)
    obtain ⟨c0, c1, c2, c3, c4, c5, c6, c7, c8, c9⟩ := Wp.ten_of X1.out
    clear b1'
    go_wp2_with fail
    refine (A1.out _ (HL.out.below B1.out).cv).mono ?_
    rintro e w2 ⟨rfl, b2'⟩
    have B2 := Lib.hid (cv_then B1.out b2' B1.out.size)
    have X2 := Lib.hid ((b2'.block w.heap.size S1).trans X1.out)
    have S2 : w.heap.size < w2.heap.size := Nat.lt_of_lt_of_le S1 b2'.size
    clear c0 c1 c2 c3 c4 c5 c6 c7 c8 c9 b2'
    obtain ⟨c0, c1, c2, c3, c4, c5, c6, c7, c8, c9⟩ := Wp.ten_of X2.out
    go_wp2_with fail
    refine (A2.out _ (HL.out.below B2.out)).mono ?_
    rintro e w3 ⟨rfl, b3'⟩
    have B3 := Lib.hid (cv_then B2.out b3' B2.out.size)
    have X3 := Lib.hid ((b3'.block w.heap.size S2).trans X2.out)
    have S3 : w.heap.size < w3.heap.size := Nat.lt_of_lt_of_le S2 b3'.size
    clear c0 c1 c2 c3 c4 c5 c6 c7 c8 c9 b3'
    obtain ⟨c0, c1, c2, c3, c4, c5, c6, c7, c8, c9⟩ := Wp.ten_of X3.out
    go_wp2_with fail
    refine (A3.out _ (HL.out.below B3.out).cv).mono ?_
    rintro e w4 ⟨rfl, b4'⟩
    have B4 := Lib.hid (cv_then B3.out b4' B3.out.size)
    have X4 := Lib.hid ((b4'.block w.heap.size S3).trans X3.out)
    have S4 : w.heap.size < w4.heap.size := Nat.lt_of_lt_of_le S3 b4'.size
    clear c0 c1 c2 c3 c4 c5 c6 c7 c8 c9 b4'
    obtain ⟨c0, c1, c2, c3, c4, c5, c6, c7, c8, c9⟩ := Wp.ten_of X4.out
    go_wp2_with fail
    refine (A4.out _ (HL.out.below B4.out).cv).mono ?_
    rintro e w5 ⟨rfl, b5'⟩
    have B5 := Lib.hid (cv_then B4.out b5' B4.out.size)
    have X5 := Lib.hid ((b5'.block w.heap.size S4).trans X4.out)
    have S5 : w.heap.size < w5.heap.size := Nat.lt_of_lt_of_le S4 b5'.size
    clear c0 c1 c2 c3 c4 c5 c6 c7 c8 c9 b5'
    obtain ⟨c0, c1, c2, c3, c4, c5, c6, c7, c8, c9⟩ := Wp.ten_of X5.out
    go_wp2_with fail
    go_ret
    exact ⟨rfl, B5.out⟩
theorem zoneSteady_any (z : Wp.Zn) (t : Int) (on : Nat) (w : World) (hon : on < 4294967296) (hL : Zt.Both w) : Calls Tryd.prog 11 #[.agg (Wp.zoneC z), .int .i64 t, .int .u32 on] w fun e w' => e = .returned (.bool true) ∧ Below w.heap.size w w' := by
  by_cases hc : Wp.chk2R z t = 0
  · obtain ⟨hz, ht⟩ := Wp.chk2R_ok hc
    have hO : ∀ t, Wp.isT t = true → ∀ w, Cv.Laid w → Calls Tryd.prog 27 #[.agg (Wp.zoneC z), .int .i64 t] w fun e w' => e = .returned (.tuple #[.int .i64 (Wp.ofs z t), .int .i64 0]) ∧ Below w.heap.size w w' := fun t ht w hL => by
      have h := zon_Offset z t w hL
      rw [show Wp.offR z t = (Wp.ofs z t, 0) from if_pos (Wp.chk2R_mk hz ht)] at h
      exact h
    have two : ∀ t, z.base = Wp.ofs z t ∨ (z.save ≠ 0 ∧ z.base + z.save = Wp.ofs z t) := fun t => by
      rcases Wp.ofs_two z t with h | h
      · exact Or.inl h.symm
      · by_cases q : z.save = 0
        · left; rw [h, q]; omega
        · exact Or.inr ⟨q, h.symm⟩
    have hb := hz.1
    by_cases hx : ∃ n, z.save ≠ 0 ∧ Wp.IsNext z t n
    · obtain ⟨n, hs, hn⟩ := hx
      have hN : ∀ w, Zt.Both w → Calls Tryd.prog 31 #[.agg (Wp.zoneC z), .int .i64 t] w fun e w' => e = .returned (.tuple #[.int .i64 n, .int .i64 0]) ∧ Below w.heap.size w w' := fun w hL => (zon_Next z t w hL.cv).mono (fun e w' h => by
        obtain ⟨n', r, rfl, h, hb⟩ := h
        rcases h with ⟨h, _⟩ | ⟨_, _, h, rfl⟩ | ⟨_, h | h, _⟩
        · exact absurd hc h
        · obtain rfl := h.one hn
          exact ⟨rfl, hb⟩
        · exact absurd h hs
        · exact (hn.not h).elim)
      have ha := hn.after
      obtain ⟨t1, t2⟩ := Wp.isT_yes ht
      obtain ⟨n1, n2⟩ := Wp.isT_yes hn.isT
      by_cases hu : t + on < n
      · have he := hn.steady hz hs (u := t + on) (by omega) hu
        have h4 := hO (t + on) (Wp.isT_mk (by omega) (by omega))
        rw [he] at h4
        exact zoneSteady_near z.base z.save z.fr.mo z.fr.nth z.fr.wd z.fr.mi z.to.mo z.to.nth z.to.wd z.to.mi t on (Wp.ofs z t) (Wp.ofs z n) n w hL hb.b1 hb.b2 hb.s1 hb.s2 (two t) (two n) t1 t2 hon ha hu (Lib.hid (hO t ht)) (Lib.hid hN) (Lib.hid (hO n hn.isT)) (Lib.hid h4)
      · exact zoneSteady_far z.base z.save z.fr.mo z.fr.nth z.fr.wd z.fr.mi z.to.mo z.to.nth z.to.wd z.to.mi t on (Wp.ofs z t) (Wp.ofs z n) n w hL hb.b1 hb.b2 hb.s1 hb.s2 (two t) (two n) t1 t2 hon ha (by omega) (Lib.hid (hO t ht)) (Lib.hid hN) (Lib.hid (hO n hn.isT))
    · have hN : ∀ w, Zt.Both w → Calls Tryd.prog 31 #[.agg (Wp.zoneC z), .int .i64 t] w fun e w' => e = .returned (.tuple #[.int .i64 0, .int .i64 3]) ∧ Below w.heap.size w w' := fun w hL => (zon_Next z t w hL.cv).mono (fun e w' h => by
        obtain ⟨n', r, rfl, h, hb⟩ := h
        rcases h with ⟨h, _⟩ | ⟨_, hs, h, rfl⟩ | ⟨_, _, rfl, rfl⟩
        · exact absurd hc h
        · exact absurd ⟨n', hs, h⟩ hx
        · exact ⟨rfl, hb⟩)
      exact zoneSteady_none z.base z.save z.fr.mo z.fr.nth z.fr.wd z.fr.mi z.to.mo z.to.nth z.to.wd z.to.mi t on (Wp.ofs z t) w hL hb.b1 hb.b2 hb.s1 hb.s2 (two t) (Lib.hid (hO t ht)) (Lib.hid hN)
  · exact zoneSteady_no z t on w hL hc
end Go.Proofs.YtkpjkekaedecgaaDoor
