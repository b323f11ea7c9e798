/-
  The law TopClocks: a local moment is as far ahead as the offset; the day of the week goes with it. Condition: the calendar's table reads as it is laid.
-/
import Derived.Test.YtkpjkekaedecgaaDoorZonLocal
import Derived.Test.YtkpjkekaedecgaaDoorBegins
namespace Go.Proofs.YtkpjkekaedecgaaDoor
open Go.RowKit

set_option maxRecDepth 10000 in
set_option maxHeartbeats 2000000 in
theorem clocks_no (base save fm fn fw fi tm tn tw ti t n e1 e2 Y MO D HO MI SS K : Int) (w : World) (hL : Cv.Laid w) (q : (e1 != 0) = true ∨ (e2 != 0) = true) (h0 : Hid (Y = 0 ∧ MO = 0 ∧ D = 0 ∧ HO = 0 ∧ MI = 0 ∧ SS = 0 ∧ K = 0))
    (A1 : Hid (∀ w, Cv.Laid w → Calls Tryd.prog 29 #[.agg #[.int .i64 base, .int .i64 save, .int .i64 fm, .int .i64 fn, .int .i64 fw, .int .i64 fi, .int .i64 tm, .int .i64 tn, .int .i64 tw, .int .i64 ti], .int .i64 t] w fun r w' => r = .returned (.tuple #[.agg #[.int .i64 Y, .int .i64 MO, .int .i64 D, .int .i64 HO, .int .i64 MI, .int .i64 SS, .int .i64 K], .int .i64 e1]) ∧ Below w.heap.size w w'))
    (A2 : Hid (∀ w, Cv.Laid w → Calls Tryd.prog 27 #[.agg #[.int .i64 base, .int .i64 save, .int .i64 fm, .int .i64 fn, .int .i64 fw, .int .i64 fi, .int .i64 tm, .int .i64 tn, .int .i64 tw, .int .i64 ti], .int .i64 t] w fun r w' => r = .returned (.tuple #[.int .i64 n, .int .i64 e2]) ∧ Below w.heap.size w w')) :
    Calls Tryd.prog 13 #[.agg #[.int .i64 base, .int .i64 save, .int .i64 fm, .int .i64 fn, .int .i64 fw, .int .i64 fi, .int .i64 tm, .int .i64 tn, .int .i64 tw, .int .i64 ti], .int .i64 t] w fun e w' => e = .returned (.bool true) ∧ Below w.heap.size w w' := by
  have X0 := Lib.hid (cv_new w (.cells #[.int .i64 base, .int .i64 save, .int .i64 fm, .int .i64 fn, .int .i64 fw, .int .i64 fi, .int .i64 tm, .int .i64 tn, .int .i64 tw, .int .i64 ti] 42))
  have B0 := Lib.hid (Wp.below_box w (.cells #[.int .i64 base, .int .i64 save, .int .i64 fm, .int .i64 fn, .int .i64 fw, .int .i64 fi, .int .i64 tm, .int .i64 tn, .int .i64 tw, .int .i64 ti] 42))
  have HL := Lib.hid hL
  clear hL
  go_enter Tryd.func13, Tryd.ntmps13
  go_wp2_with fail
  refine (begins_any _).mono ?_
  rintro e w1 ⟨rfl, b1⟩
  rw [World.size_alloc] at b1
  have S1 : w.heap.size < w1.heap.size := by have := b1.size; rw [World.size_alloc] at this; omega
  have B1 := Lib.hid (B0.out.trans (b1.mono (by omega)))
  have X1 := Lib.hid ((b1.block w.heap.size (by omega)).trans X0.out)
  obtain ⟨c0, c1, c2, c3, c4, c5, c6, c7, c8, c9⟩ := Wp.ten_of X1.out
  clear b1
  go_wp2_with fail
  refine (A1.out _ (HL.out.below B1.out)).mono ?_
  rintro e w2 ⟨rfl, b2⟩
  have S2 : w.heap.size < w2.heap.size := Nat.lt_of_lt_of_le S1 b2.size
  have x2 := (b2.block w.heap.size S1).trans X1.out
  have B2 := Lib.hid ((cv_then B1.out b2 B1.out.size).alloc (by omega) (.cells #[.int .i64 Y, .int .i64 MO, .int .i64 D, .int .i64 HO, .int .i64 MI, .int .i64 SS, .int .i64 K] 23))
  have X2 := Lib.hid ((cv_past w2 (.cells #[.int .i64 Y, .int .i64 MO, .int .i64 D, .int .i64 HO, .int .i64 MI, .int .i64 SS, .int .i64 K] 23) w.heap.size S2).trans x2)
  have Y2 := Lib.hid (cv_new w2 (.cells #[.int .i64 Y, .int .i64 MO, .int .i64 D, .int .i64 HO, .int .i64 MI, .int .i64 SS, .int .i64 K] 23))
  have SZ2 : (w2.alloc (.cells #[.int .i64 Y, .int .i64 MO, .int .i64 D, .int .i64 HO, .int .i64 MI, .int .i64 SS, .int .i64 K] 23)).heap.size = w2.heap.size + 1 := World.size_alloc _ _
  clear c0 c1 c2 c3 c4 c5 c6 c7 c8 c9 b2
  obtain ⟨c0, c1, c2, c3, c4, c5, c6, c7, c8, c9⟩ := Wp.ten_of x2
  clear x2
  go_wp2_with fail
  refine (A2.out _ (HL.out.below B2.out)).mono ?_
  rintro e w3 ⟨rfl, b3⟩
  have B3 := Lib.hid (cv_then B2.out b3 B2.out.size)
  have y3 := (b3.block w2.heap.size (by omega)).trans Y2.out
  have S3 : w2.heap.size < w3.heap.size := by have := b3.size; omega
  have Y3 := Lib.hid y3
  clear c0 c1 c2 c3 c4 c5 c6 c7 c8 c9 b3
  obtain ⟨d0, d1, d2, d3, d4, d5, d6⟩ := Wp.seven_of y3
  clear y3
  obtain ⟨rfl, rfl, rfl, rfl, rfl, rfl, rfl⟩ := h0.out
  cases h1 : (e1 != 0) with
  | true =>
    go_wp2_with fail
    go_ret
    exact ⟨rfl, B3.out⟩
  | false =>
    have h2 : (e2 != 0) = true := by
      rcases q with q | q
      · rw [h1] at q; cases q
      · exact q
    go_wp2_with fail
    go_ret
    exact ⟨rfl, B3.out⟩
set_option maxRecDepth 10000 in
set_option maxHeartbeats 2000000 in
theorem clocks_yes (base save fm fn fw fi tm tn tw ti t n u Y MO D HO MI SS K : Int) (w : World) (hL : Cv.Laid w)
    (A1 : Hid (∀ w, Cv.Laid w → Calls Tryd.prog 29 #[.agg #[.int .i64 base, .int .i64 save, .int .i64 fm, .int .i64 fn, .int .i64 fw, .int .i64 fi, .int .i64 tm, .int .i64 tn, .int .i64 tw, .int .i64 ti], .int .i64 t] w fun r w' => r = .returned (.tuple #[.agg #[.int .i64 Y, .int .i64 MO, .int .i64 D, .int .i64 HO, .int .i64 MI, .int .i64 SS, .int .i64 K], .int .i64 0]) ∧ Below w.heap.size w w'))
    (A2 : Hid (∀ w, Cv.Laid w → Calls Tryd.prog 27 #[.agg #[.int .i64 base, .int .i64 save, .int .i64 fm, .int .i64 fn, .int .i64 fw, .int .i64 fi, .int .i64 tm, .int .i64 tn, .int .i64 tw, .int .i64 ti], .int .i64 t] w fun r w' => r = .returned (.tuple #[.int .i64 n, .int .i64 0]) ∧ Below w.heap.size w w'))
    (A3 : Hid (∀ w, Cv.Laid w → Calls Tryd.prog 16 #[.agg #[.int .i64 Y, .int .i64 MO, .int .i64 D, .int .i64 HO, .int .i64 MI, .int .i64 SS, .int .i64 K]] w fun r w' => r = .returned (.tuple #[.int .i64 u, .int .i64 0]) ∧ Below w.heap.size w w'))
    (A4 : Hid (∀ w, Cv.Laid w → Calls Tryd.prog 23 #[.int .i64 Y, .int .i64 MO, .int .i64 D] w fun r w' => r = .returned (.tuple #[.int .i64 K, .int .i64 0]) ∧ w = w'))
    (A5 : Hid (∀ w, Calls Tryd.prog 18 #[.int .i64 u] w fun r w' => r = .returned (.tuple #[.int .i64 (1440 * K + 60 * HO + MI), .int .i64 0]) ∧ w = w'))
    (hu : Hid (u - t = 60 * n)) (n1 : -900 ≤ n) (n2 : n ≤ 1020) (k1 : 0 ≤ K) (k2 : K ≤ 6) (o1 : 0 ≤ HO) (o2 : HO < 24) (i1 : 0 ≤ MI) (i2 : MI < 60) :
    Calls Tryd.prog 13 #[.agg #[.int .i64 base, .int .i64 save, .int .i64 fm, .int .i64 fn, .int .i64 fw, .int .i64 fi, .int .i64 tm, .int .i64 tn, .int .i64 tw, .int .i64 ti], .int .i64 t] w fun e w' => e = .returned (.bool true) ∧ Below w.heap.size w w' := by
  have X0 := Lib.hid (cv_new w (.cells #[.int .i64 base, .int .i64 save, .int .i64 fm, .int .i64 fn, .int .i64 fw, .int .i64 fi, .int .i64 tm, .int .i64 tn, .int .i64 tw, .int .i64 ti] 42))
  have B0 := Lib.hid (Wp.below_box w (.cells #[.int .i64 base, .int .i64 save, .int .i64 fm, .int .i64 fn, .int .i64 fw, .int .i64 fi, .int .i64 tm, .int .i64 tn, .int .i64 tw, .int .i64 ti] 42))
  have HL := Lib.hid hL
  clear hL
  go_enter Tryd.func13, Tryd.ntmps13
  go_wp2_with fail
  refine (begins_any _).mono ?_
  rintro e w1 ⟨rfl, b1⟩
  rw [World.size_alloc] at b1
  have S1 : w.heap.size < w1.heap.size := by have := b1.size; rw [World.size_alloc] at this; omega
  have B1 := Lib.hid (B0.out.trans (b1.mono (by omega)))
  have X1 := Lib.hid ((b1.block w.heap.size (by omega)).trans X0.out)
  obtain ⟨c0, c1, c2, c3, c4, c5, c6, c7, c8, c9⟩ := Wp.ten_of X1.out
  clear b1
  go_wp2_with fail
  refine (A1.out _ (HL.out.below B1.out)).mono ?_
  rintro e w2 ⟨rfl, b2⟩
  have S2 : w.heap.size < w2.heap.size := Nat.lt_of_lt_of_le S1 b2.size
  have x2 := (b2.block w.heap.size S1).trans X1.out
  have B2 := Lib.hid ((cv_then B1.out b2 B1.out.size).alloc (by omega) (.cells #[.int .i64 Y, .int .i64 MO, .int .i64 D, .int .i64 HO, .int .i64 MI, .int .i64 SS, .int .i64 K] 23))
  have X2 := Lib.hid ((cv_past w2 (.cells #[.int .i64 Y, .int .i64 MO, .int .i64 D, .int .i64 HO, .int .i64 MI, .int .i64 SS, .int .i64 K] 23) w.heap.size S2).trans x2)
  have Y2 := Lib.hid (cv_new w2 (.cells #[.int .i64 Y, .int .i64 MO, .int .i64 D, .int .i64 HO, .int .i64 MI, .int .i64 SS, .int .i64 K] 23))
  have SZ2 : (w2.alloc (.cells #[.int .i64 Y, .int .i64 MO, .int .i64 D, .int .i64 HO, .int .i64 MI, .int .i64 SS, .int .i64 K] 23)).heap.size = w2.heap.size + 1 := World.size_alloc _ _
  clear c0 c1 c2 c3 c4 c5 c6 c7 c8 c9 b2
  obtain ⟨c0, c1, c2, c3, c4, c5, c6, c7, c8, c9⟩ := Wp.ten_of x2
  clear x2
  go_wp2_with fail
  refine (A2.out _ (HL.out.below B2.out)).mono ?_
  rintro e w3 ⟨rfl, b3⟩
  have B3 := Lib.hid (cv_then B2.out b3 B2.out.size)
  have y3 := (b3.block w2.heap.size (by omega)).trans Y2.out
  have S3 : w2.heap.size < w3.heap.size := by have := b3.size; omega
  have Y3 := Lib.hid y3
  clear c0 c1 c2 c3 c4 c5 c6 c7 c8 c9 b3
  obtain ⟨d0, d1, d2, d3, d4, d5, d6⟩ := Wp.seven_of y3
  clear y3
  go_wp2_with fail
  refine (A3.out _ (HL.out.below B3.out)).mono ?_
  rintro e w4 ⟨rfl, b4⟩
  have B4 := Lib.hid (cv_then B3.out b4 B3.out.size)
  have y4 := (b4.block w2.heap.size S3).trans Y3.out
  clear d0 d1 d2 d3 d4 d5 d6
  obtain ⟨d0, d1, d2, d3, d4, d5, d6⟩ := Wp.seven_of y4
  clear y4
  go_wp2_with fail
  refine (A4.out _ (HL.out.below B4.out)).mono ?_
  rintro e w5 ⟨rfl, rfl⟩
  go_wp2_with fail
  refine (A5.out _).mono ?_
  rintro e w5 ⟨rfl, rfl⟩
  have q := hu.out
  go_wp2_with fail
  go_ret
  exact ⟨rfl, B4.out⟩
theorem Wp.IsOf.week {t : Int} {m : Wp.Mom} (h : Wp.IsOf t m) : Wp.weekD t = 1440 * m.k + 60 * m.h + m.mi := by
  obtain ⟨n1, n2, n3, _⟩ := h.parts
  rw [h.k, n1, n2, n3]
  unfold Wp.weekD Wp.wd
  omega
theorem topClocks_any (z : Wp.Zn) (t : Int) (w : World) (hL : Cv.Laid w) :
    Calls Tryd.prog 13 #[.agg (Wp.zoneC z), .int .i64 t] w fun e w' => e = .returned (.bool true) ∧ Below w.heap.size w w' := by
  have A1 := fun w hL => zon_Local z t w hL
  have A2 := fun w hL => zon_Offset z t w hL
  by_cases hc : Wp.chk2R z t = 0
  · obtain ⟨hz, ht⟩ := Wp.chk2R_ok hc
    have hb := hz.1
    have ho := Wp.ofs_two z t
    obtain ⟨b1, b2, b3, b4⟩ := hb
    rw [show Wp.offR z t = (Wp.ofs z t, 0) from if_pos hc] at A2
    rw [show Wp.locR z t = Wp.ofR (t + Wp.ofs z t * 60) from if_pos hc] at A1
    cases hu : Wp.isT (t + Wp.ofs z t * 60) with
    | false =>
      rw [Wp.ofR_no hu] at A1
      exact clocks_no z.base z.save z.fr.mo z.fr.nth z.fr.wd z.fr.mi z.to.mo z.to.nth z.to.wd z.to.mi t (Wp.ofs z t) 1 0 0 0 0 0 0 0 0 w hL (Or.inl rfl) (Lib.hid ⟨rfl, rfl, rfl, rfl, rfl, rfl, rfl⟩) (Lib.hid A1) (Lib.hid A2)
    | true =>
      obtain ⟨m, hm⟩ := Wp.isOf_ex hu
      rw [Wp.ofR_eq hm] at A1
      obtain ⟨hd, a1, a2, a3, a4, a5, a6⟩ := Wp.momOk_iff.1 hm.ok
      have hk := Wp.wd_bd (Wp.num m.y m.mo m.d)
      rw [← hm.k] at hk
      refine clocks_yes z.base z.save z.fr.mo z.fr.nth z.fr.wd z.fr.mi z.to.mo z.to.nth z.to.wd z.to.mi t (Wp.ofs z t) (t + Wp.ofs z t * 60) m.y m.mo m.d m.h m.mi m.s m.k w hL (Lib.hid A1) (Lib.hid A2)
        (Lib.hid fun w hL => ?_) (Lib.hid fun w hL => ?_) (Lib.hid fun w => ?_) (Lib.hid (by omega)) (by omega) (by omega) hk.1 hk.2 a1 a2 a3 a4
      · have := civ_Time_yes m w hL hm.ok
        rw [hm.time] at this
        exact this
      · have := civ_Weekday m.y m.mo m.d w hL
        rw [show Wp.weekdayR m.y m.mo m.d = (m.k, 0) by unfold Wp.weekdayR; rw [if_pos (Wp.dayB_iff.2 hd), hm.k]] at this
        exact this
      · have := civ_Week (t + Wp.ofs z t * 60) w
        rw [show Wp.weekR (t + Wp.ofs z t * 60) = (Wp.weekD (t + Wp.ofs z t * 60), 0) from if_pos hu, hm.week] at this
        exact this
  · rw [show Wp.offR z t = (0, Wp.chk2R z t) from if_neg hc] at A2
    rw [show Wp.locR z t = (Wp.Mom.zero, Wp.chk2R z t) from if_neg hc] at A1
    exact clocks_no z.base z.save z.fr.mo z.fr.nth z.fr.wd z.fr.mi z.to.mo z.to.nth z.to.wd z.to.mi t 0 (Wp.chk2R z t) (Wp.chk2R z t) 0 0 0 0 0 0 0 w hL (Or.inl (by simpa using hc)) (Lib.hid ⟨rfl, rfl, rfl, rfl, rfl, rfl, rfl⟩) (Lib.hid A1) (Lib.hid A2)
end Go.Proofs.YtkpjkekaedecgaaDoor
