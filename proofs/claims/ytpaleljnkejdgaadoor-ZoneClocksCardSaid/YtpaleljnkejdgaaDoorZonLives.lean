/-
  The walk of layer 6's examples (bellmanlaw06.lives): they are answered as the document says. Condition: the two tables read as they are laid.
-/
import Derived.Test.YtpaleljnkejdgaaDoorZonBerlin
import Derived.StillTailTactics
namespace Go.Proofs.YtpaleljnkejdgaaDoor
open Go.RowKit

structure Zt.Both (w : World) : Prop where
  cv : Cv.Laid w
  zt : Zt.Laid w
theorem Zt.Both.below {w w' : World} (h : Zt.Both w) (hb : Below w.heap.size w w') : Zt.Both w' := ⟨h.cv.below hb, h.zt.below hb⟩
theorem Zt.Both.box {w : World} (h : Zt.Both w) (o : Obj) : Zt.Both (w.alloc o) := h.below ((Below.refl _ _).alloc (Nat.le_refl _) o)
theorem zonL_A1 (w : World) (h : Zt.Both w) : Calls Tryd.prog 25 #[.string ⟨#[69, 117, 114, 111, 112, 101, 47, 66, 101, 114, 108, 105, 110]⟩] w fun e w' => e = .returned (.tuple #[.agg #[.int .i64 60, .int .i64 60, .int .i64 3, .int .i64 5, .int .i64 0, .int .i64 120, .int .i64 10, .int .i64 5, .int .i64 0, .int .i64 180], .int .i64 0]) ∧ Below w.heap.size w w' := zon_Named _ _ _ w h.zt Bz.at_
theorem zonL_A2 (w : World) (h : Zt.Both w) : Calls Tryd.prog 19 #[.agg #[.int .i64 60, .int .i64 60, .int .i64 3, .int .i64 5, .int .i64 0, .int .i64 120, .int .i64 10, .int .i64 5, .int .i64 0, .int .i64 180], .int .i64 1774745999] w fun e w' => e = .returned (.tuple #[.int .i64 60, .int .i64 0]) ∧ Below w.heap.size w w' := by
  have q := zon_Offset Bz 1774745999 w h.cv
  rw [Bz.offR1] at q
  exact q
theorem zonL_A3 (w : World) (h : Zt.Both w) : Calls Tryd.prog 19 #[.agg #[.int .i64 60, .int .i64 60, .int .i64 3, .int .i64 5, .int .i64 0, .int .i64 120, .int .i64 10, .int .i64 5, .int .i64 0, .int .i64 180], .int .i64 1774746000] w fun e w' => e = .returned (.tuple #[.int .i64 120, .int .i64 0]) ∧ Below w.heap.size w w' := by
  have q := zon_Offset Bz 1774746000 w h.cv
  rw [Bz.offR2] at q
  exact q
theorem zonL_A4 (w : World) (h : Zt.Both w) : Calls Tryd.prog 21 #[.agg #[.int .i64 60, .int .i64 60, .int .i64 3, .int .i64 5, .int .i64 0, .int .i64 120, .int .i64 10, .int .i64 5, .int .i64 0, .int .i64 180], .int .i64 1774746000] w fun e w' => e = .returned (.tuple #[.agg #[.int .i64 2026, .int .i64 3, .int .i64 29, .int .i64 3, .int .i64 0, .int .i64 0, .int .i64 0], .int .i64 0]) ∧ Below w.heap.size w w' := by
  have q := zon_Local Bz 1774746000 w h.cv
  rw [Bz.locR] at q
  exact q
theorem zonL_A5 (w : World) (h : Zt.Both w) : Calls Tryd.prog 30 #[.agg #[.int .i64 60, .int .i64 60, .int .i64 3, .int .i64 5, .int .i64 0, .int .i64 120, .int .i64 10, .int .i64 5, .int .i64 0, .int .i64 180], .agg #[.int .i64 2026, .int .i64 3, .int .i64 29, .int .i64 2, .int .i64 30, .int .i64 0, .int .i64 0]] w (Wp.TimesPost [] 0 w) := by
  have q := zon_Times Bz ⟨2026, 3, 29, 2, 30, 0, 0⟩ w h.cv
  rw [Bz.gap] at q
  exact q
theorem zonL_A6 (w : World) (h : Zt.Both w) : Calls Tryd.prog 30 #[.agg #[.int .i64 60, .int .i64 60, .int .i64 3, .int .i64 5, .int .i64 0, .int .i64 120, .int .i64 10, .int .i64 5, .int .i64 0, .int .i64 180], .agg #[.int .i64 2026, .int .i64 10, .int .i64 25, .int .i64 2, .int .i64 30, .int .i64 0, .int .i64 0]] w (Wp.TimesPost [1792888200, 1792891800] 0 w) := by
  have q := zon_Times Bz ⟨2026, 10, 25, 2, 30, 0, 0⟩ w h.cv
  rw [Bz.both] at q
  exact q
theorem zonL_A7 (w : World) (h : Zt.Both w) : Calls Tryd.prog 23 #[.agg #[.int .i64 60, .int .i64 60, .int .i64 3, .int .i64 5, .int .i64 0, .int .i64 120, .int .i64 10, .int .i64 5, .int .i64 0, .int .i64 180], .int .i64 1774745999] w fun e w' => e = .returned (.tuple #[.int .i64 1774746000, .int .i64 0]) ∧ Below w.heap.size w w' := (zon_Next Bz 1774745999 w h.cv).mono (fun e w' h => by
    obtain ⟨n, r, rfl, h, hb⟩ := h
    rcases h with ⟨h, _, _⟩ | ⟨_, _, h, rfl⟩ | ⟨_, h | h, _, _⟩
    · exact absurd (Bz.chk2 (by decide)) h
    · obtain rfl := h.one Bz.next
      exact ⟨rfl, hb⟩
    · exact absurd h Bz.saves
    · exact (Bz.next.not h).elim)
theorem zonL_A8 (w : World) (h : Zt.Both w) : Calls Tryd.prog 25 #[.string ⟨#[69, 117, 114, 111, 112, 101, 47, 78, 111, 119, 104, 101, 114, 101]⟩] w fun e w' => e = .returned (.tuple #[.agg #[.int .i64 0, .int .i64 0, .int .i64 0, .int .i64 0, .int .i64 0, .int .i64 0, .int .i64 0, .int .i64 0, .int .i64 0, .int .i64 0], .int .i64 13]) ∧ Below w.heap.size w w' := zon_Named _ _ _ w h.zt Bz.at_none
theorem zonL_A9 (w : World) (h : Zt.Both w) : Calls Tryd.prog 23 #[.agg #[.int .i64 5, .int .i64 0, .int .i64 0, .int .i64 0, .int .i64 0, .int .i64 0, .int .i64 0, .int .i64 0, .int .i64 0, .int .i64 0], .int .i64 0] w fun e w' => e = .returned (.tuple #[.int .i64 0, .int .i64 3]) ∧ Below w.heap.size w w' := (zon_Next Fz 0 w h.cv).mono (fun e w' h => by
    obtain ⟨n, r, rfl, h, hb⟩ := h
    rcases h with ⟨h, _, _⟩ | ⟨_, h, _, rfl⟩ | ⟨_, _, rfl, rfl⟩
    · exact absurd Fz.chk2 h
    · exact absurd rfl h
    · exact ⟨rfl, hb⟩)
theorem zonL_A10 (w : World) : Calls Tryd.prog 28 #[.agg #[.int .i64 60, .int .i64 60, .int .i64 3, .int .i64 5, .int .i64 0, .int .i64 120, .int .i64 10, .int .i64 5, .int .i64 0, .int .i64 180]] w fun e w' => e = .returned (.int .i64 0) ∧ Below w.heap.size w w' := by
  have q := zon_Check Bz w
  rw [Bz.chk] at q
  exact q
theorem own_cells {w : World} {B g cap : Nat} {a b : Int} (h : w.ownsRow B 2 1 (.slice (some ⟨g, 0, none⟩) 2 cap) 2 [.int .i64 a, .int .i64 b]) : w.cell? ⟨g, 0, none⟩ = some (.int .i64 a) ∧ w.cell? ⟨g, 1, none⟩ = some (.int .i64 b) := by
  have hc := h.cells (g := g) rfl
  exact ⟨hc 0 _ rfl, hc 1 _ rfl⟩
set_option maxRecDepth 10000 in
set_option maxHeartbeats 4000000 in
theorem zonLives_any (w : World) (hL : Zt.Both w) : Calls Tryd.prog 27 #[] w fun e w' => e = .returned (.bool true) ∧ Below w.heap.size w w' := by
  have A1 := Lib.hid zonL_A1
  have A2 := Lib.hid zonL_A2
  have A3 := Lib.hid zonL_A3
  have A4 := Lib.hid zonL_A4
  have A5 := Lib.hid zonL_A5
  have A6 := Lib.hid zonL_A6
  have A7 := Lib.hid zonL_A7
  have A8 := Lib.hid zonL_A8
  have A9 := Lib.hid zonL_A9
  have A10 := Lib.hid zonL_A10
  have HL := Lib.hid hL
  clear hL
  go_enter Tryd.func27, Tryd.ntmps27
  go_wp2_with fail
  refine (A1.out _ HL.out).mono ?_
  rintro e w1 ⟨rfl, b1⟩
  have H1 := Lib.hid ((HL.out.below b1).box (.cells #[.int .i64 60, .int .i64 60, .int .i64 3, .int .i64 5, .int .i64 0, .int .i64 120, .int .i64 10, .int .i64 5, .int .i64 0, .int .i64 180] 48))
  have X1 := Lib.hid (cv_new w1 (.cells #[.int .i64 60, .int .i64 60, .int .i64 3, .int .i64 5, .int .i64 0, .int .i64 120, .int .i64 10, .int .i64 5, .int .i64 0, .int .i64 180] 48))
  have B1 := Lib.hid (b1.alloc b1.size (.cells #[.int .i64 60, .int .i64 60, .int .i64 3, .int .i64 5, .int .i64 0, .int .i64 120, .int .i64 10, .int .i64 5, .int .i64 0, .int .i64 180] 48))
  clear b1
  have S1 : w1.heap.size < (w1.alloc (.cells #[.int .i64 60, .int .i64 60, .int .i64 3, .int .i64 5, .int .i64 0, .int .i64 120, .int .i64 10, .int .i64 5, .int .i64 0, .int .i64 180] 48)).heap.size := by rw [World.size_alloc]; omega
  obtain ⟨c0, c1, c2, c3, c4, c5, c6, c7, c8, c9⟩ := Wp.ten_of X1.out
  go_wp2_with fail
  refine (A2.out _ H1.out).mono ?_
  rintro e v2 ⟨rfl, b2⟩
  clear c0 c1 c2 c3 c4 c5 c6 c7 c8 c9
  have H2 := Lib.hid (H1.out.below b2)
  have X2 := Lib.hid ((b2.block w1.heap.size S1).trans X1.out)
  have B2 := Lib.hid (cv_then B1.out b2 B1.out.size)
  have S2  : w1.heap.size < v2.heap.size := Nat.lt_of_lt_of_le S1 b2.size
  clear b2
  obtain ⟨c0, c1, c2, c3, c4, c5, c6, c7, c8, c9⟩ := Wp.ten_of X2.out
  go_wp2_with fail
  refine (A3.out _ H2.out).mono ?_
  rintro e v3 ⟨rfl, b3⟩
  clear c0 c1 c2 c3 c4 c5 c6 c7 c8 c9
  have H3 := Lib.hid (H2.out.below b3)
  have X3 := Lib.hid ((b3.block w1.heap.size S2).trans X2.out)
  have B3 := Lib.hid (cv_then B2.out b3 B2.out.size)
  have S3  : w1.heap.size < v3.heap.size := Nat.lt_of_lt_of_le S2 b3.size
  clear b3
  obtain ⟨c0, c1, c2, c3, c4, c5, c6, c7, c8, c9⟩ := Wp.ten_of X3.out
  go_wp2_with fail
  refine (A4.out _ H3.out).mono ?_
  rintro e u4 ⟨rfl, b4⟩
  clear c0 c1 c2 c3 c4 c5 c6 c7 c8 c9
  have H4 := Lib.hid ((H3.out.below b4).box (.cells #[.int .i64 2026, .int .i64 3, .int .i64 29, .int .i64 3, .int .i64 0, .int .i64 0, .int .i64 0] 52))
  have X4 := Lib.hid ((cv_past u4 (.cells #[.int .i64 2026, .int .i64 3, .int .i64 29, .int .i64 3, .int .i64 0, .int .i64 0, .int .i64 0] 52) w1.heap.size (Nat.lt_of_lt_of_le S3 b4.size)).trans ((b4.block w1.heap.size S3).trans X3.out))
  have Y4 := Lib.hid (cv_new u4 (.cells #[.int .i64 2026, .int .i64 3, .int .i64 29, .int .i64 3, .int .i64 0, .int .i64 0, .int .i64 0] 52))
  have B4 := Lib.hid ((cv_then B3.out b4 B3.out.size).alloc (Nat.le_trans B3.out.size b4.size) (.cells #[.int .i64 2026, .int .i64 3, .int .i64 29, .int .i64 3, .int .i64 0, .int .i64 0, .int .i64 0] 52))
  have S4'  : w1.heap.size < u4.heap.size := Nat.lt_of_lt_of_le S3 b4.size
  clear b4
  have S4  : w1.heap.size < (u4.alloc (.cells #[.int .i64 2026, .int .i64 3, .int .i64 29, .int .i64 3, .int .i64 0, .int .i64 0, .int .i64 0] 52)).heap.size := by rw [World.size_alloc]; omega
  have T4 : u4.heap.size < (u4.alloc (.cells #[.int .i64 2026, .int .i64 3, .int .i64 29, .int .i64 3, .int .i64 0, .int .i64 0, .int .i64 0] 52)).heap.size := by rw [World.size_alloc]; omega
  clear S4'
  obtain ⟨c0, c1, c2, c3, c4, c5, c6, c7, c8, c9⟩ := Wp.ten_of X4.out
  go_wp2_with fail
  refine (A5.out _ H4.out).mono ?_
  rintro e v5 ⟨y5, rfl, o5, b5⟩
  clear c0 c1 c2 c3 c4 c5 c6 c7 c8 c9
  have H5 := Lib.hid (H4.out.below b5)
  have X5 := Lib.hid ((b5.block w1.heap.size S4).trans X4.out)
  have B5 := Lib.hid (cv_then B4.out b5 B4.out.size)
  have S5  : w1.heap.size < v5.heap.size := Nat.lt_of_lt_of_le S4 b5.size
  have Y5 := Lib.hid ((b5.block u4.heap.size T4).trans Y4.out)
  have T5 : u4.heap.size < v5.heap.size := Nat.lt_of_lt_of_le T4 b5.size
  obtain ⟨p5, c5', rfl⟩ : ∃ p c, y5 = .slice p 0 c := by
    rcases o5.2 with ⟨h, _⟩ | ⟨g', cap, cur, h, _⟩
    · exact ⟨none, 0, h⟩
    · exact ⟨_, _, h⟩
  clear o5
  clear b5
  obtain ⟨c0, c1, c2, c3, c4, c5, c6, c7, c8, c9⟩ := Wp.ten_of X5.out
  go_wp2_with fail
  refine (A6.out _ H5.out).mono ?_
  rintro e v6 ⟨y6, rfl, o6, b6⟩
  clear c0 c1 c2 c3 c4 c5 c6 c7 c8 c9
  have H6 := Lib.hid (H5.out.below b6)
  have X6 := Lib.hid ((b6.block w1.heap.size S5).trans X5.out)
  have B6 := Lib.hid (cv_then B5.out b6 B5.out.size)
  have S6  : w1.heap.size < v6.heap.size := Nat.lt_of_lt_of_le S5 b6.size
  have Y6 := Lib.hid ((b6.block u4.heap.size T5).trans Y5.out)
  have T6 : u4.heap.size < v6.heap.size := Nat.lt_of_lt_of_le T5 b6.size
  obtain ⟨g6, cap6, rfl⟩ : ∃ g cap, y6 = .slice (some ⟨g, 0, none⟩) 2 cap := by
    rcases o6.2 with ⟨_, h⟩ | ⟨g', cap, cur, h, _⟩
    · cases h
    · exact ⟨_, _, h⟩
  have Z6 := Lib.hid (own_cells o6)
  have U6 : g6 < v6.heap.size := (o6.lt g6 rfl).2
  clear o6
  clear b6
  obtain ⟨c0, c1, c2, c3, c4, c5, c6, c7, c8, c9⟩ := Wp.ten_of X6.out
  go_wp2_with fail
  refine (A7.out _ H6.out).mono ?_
  rintro e v7 ⟨rfl, b7⟩
  clear c0 c1 c2 c3 c4 c5 c6 c7 c8 c9
  have H7 := Lib.hid (H6.out.below b7)
  have X7 := Lib.hid ((b7.block w1.heap.size S6).trans X6.out)
  have B7 := Lib.hid (cv_then B6.out b7 B6.out.size)
  have S7  : w1.heap.size < v7.heap.size := Nat.lt_of_lt_of_le S6 b7.size
  have Y7 := Lib.hid ((b7.block u4.heap.size T6).trans Y6.out)
  have T7 : u4.heap.size < v7.heap.size := Nat.lt_of_lt_of_le T6 b7.size
  have Z7 := Lib.hid (show v7.cell? ⟨g6, 0, none⟩ = some (.int .i64 1792888200) ∧ v7.cell? ⟨g6, 1, none⟩ = some (.int .i64 1792891800) from ⟨(b7.cell (p := ⟨g6, 0, none⟩) U6).trans Z6.out.1, (b7.cell (p := ⟨g6, 1, none⟩) U6).trans Z6.out.2⟩)
  have U7 : g6 < v7.heap.size := Nat.lt_of_lt_of_le U6 b7.size
  clear b7
  obtain ⟨c0, c1, c2, c3, c4, c5, c6, c7, c8, c9⟩ := Wp.ten_of X7.out
  go_wp2_with fail
  refine (A8.out _ H7.out).mono ?_
  rintro e v8 ⟨rfl, b8⟩
  clear c0 c1 c2 c3 c4 c5 c6 c7 c8 c9
  have H8 := Lib.hid (H7.out.below b8)
  have X8 := Lib.hid ((b8.block w1.heap.size S7).trans X7.out)
  have B8 := Lib.hid (cv_then B7.out b8 B7.out.size)
  have S8  : w1.heap.size < v8.heap.size := Nat.lt_of_lt_of_le S7 b8.size
  have Y8 := Lib.hid ((b8.block u4.heap.size T7).trans Y7.out)
  have T8 : u4.heap.size < v8.heap.size := Nat.lt_of_lt_of_le T7 b8.size
  have Z8 := Lib.hid (show v8.cell? ⟨g6, 0, none⟩ = some (.int .i64 1792888200) ∧ v8.cell? ⟨g6, 1, none⟩ = some (.int .i64 1792891800) from ⟨(b8.cell (p := ⟨g6, 0, none⟩) U7).trans Z7.out.1, (b8.cell (p := ⟨g6, 1, none⟩) U7).trans Z7.out.2⟩)
  have U8 : g6 < v8.heap.size := Nat.lt_of_lt_of_le U7 b8.size
  clear b8
  go_wp2_with fail
  refine (A9.out _ (H8.out.box (.cells #[.int .i64 0, .int .i64 0, .int .i64 0, .int .i64 0, .int .i64 0, .int .i64 0, .int .i64 0, .int .i64 0, .int .i64 0, .int .i64 0] 48))).mono ?_
  rintro e v9 ⟨rfl, b9⟩
  have W9 : v8.heap.size ≤ (v8.alloc (.cells #[.int .i64 0, .int .i64 0, .int .i64 0, .int .i64 0, .int .i64 0, .int .i64 0, .int .i64 0, .int .i64 0, .int .i64 0, .int .i64 0] 48)).heap.size := by rw [World.size_alloc]; omega
  have K9 := Lib.hid (cv_then (B8.out.alloc B8.out.size (.cells #[.int .i64 0, .int .i64 0, .int .i64 0, .int .i64 0, .int .i64 0, .int .i64 0, .int .i64 0, .int .i64 0, .int .i64 0, .int .i64 0] 48)) b9 (Nat.le_trans B8.out.size W9))
  have X9 := Lib.hid ((b9.block w1.heap.size (Nat.lt_of_lt_of_le S8 W9)).trans ((cv_past v8 (.cells #[.int .i64 0, .int .i64 0, .int .i64 0, .int .i64 0, .int .i64 0, .int .i64 0, .int .i64 0, .int .i64 0, .int .i64 0, .int .i64 0] 48) w1.heap.size S8).trans X8.out))
  have Y9 := Lib.hid ((b9.block u4.heap.size (Nat.lt_of_lt_of_le T8 W9)).trans ((cv_past v8 (.cells #[.int .i64 0, .int .i64 0, .int .i64 0, .int .i64 0, .int .i64 0, .int .i64 0, .int .i64 0, .int .i64 0, .int .i64 0, .int .i64 0] 48) u4.heap.size T8).trans Y8.out))
  have q8 : Below v8.heap.size v8 (v8.alloc (.cells #[.int .i64 0, .int .i64 0, .int .i64 0, .int .i64 0, .int .i64 0, .int .i64 0, .int .i64 0, .int .i64 0, .int .i64 0, .int .i64 0] 48)) := Wp.below_box v8 (.cells #[.int .i64 0, .int .i64 0, .int .i64 0, .int .i64 0, .int .i64 0, .int .i64 0, .int .i64 0, .int .i64 0, .int .i64 0, .int .i64 0] 48)
  have z0 : v9.cell? ⟨g6, 0, none⟩ = some (.int .i64 1792888200) := (b9.cell (p := ⟨g6, 0, none⟩) (Nat.lt_of_lt_of_le U8 W9)).trans ((q8.cell (p := ⟨g6, 0, none⟩) U8).trans Z8.out.1)
  have z1 : v9.cell? ⟨g6, 1, none⟩ = some (.int .i64 1792891800) := (b9.cell (p := ⟨g6, 1, none⟩) (Nat.lt_of_lt_of_le U8 W9)).trans ((q8.cell (p := ⟨g6, 1, none⟩) U8).trans Z8.out.2)
  have k2 : g6 < v9.heap.size := Nat.lt_of_lt_of_le U8 (Nat.le_trans W9 b9.size)
  have k0 : w1.heap.size < v9.heap.size := (Array.getElem?_eq_some_iff.1 X9.out).1
  have k1 : u4.heap.size < v9.heap.size := (Array.getElem?_eq_some_iff.1 Y9.out).1
  clear b9 q8 W9
  obtain ⟨c0, c1, c2, c3, c4, c5, c6, c7, c8, c9⟩ := Wp.ten_of X9.out
  obtain ⟨d0, d1, d2, d3, d4, d5, d6⟩ := Wp.seven_of Y9.out
  go_wp2_with fail
  simp only [List.append_eq, List.cons_append, List.nil_append]
  clear d0 d1 d4 d5 d6
  go_still_tail 78, (by kernel_rfl)
  change wpList _ _ _ _ _ v9.drew
  have K11 := Lib.hid K9.out.drew
  obtain ⟨v11, hv11⟩ : ∃ v, v9.drew = v := ⟨_, rfl⟩
  rw [hv11] at K11 ⊢
  clear hv11 z0 z1 d2 d3 c0 c1 c2 c3 c4 c5 c6 c7 c8 c9
  go_wp2_with fail
  refine (A10.out _).mono ?_
  rintro e v10 ⟨rfl, b10⟩
  have K10 := Lib.hid (cv_then K11.out b10 K11.out.size)
  clear b10
  go_wp2_with fail
  go_ret
  exact ⟨rfl, K10.out⟩
end Go.Proofs.YtpaleljnkejdgaaDoor
