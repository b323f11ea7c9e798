/-
  The walk of ZoneBack: whatever a zone and a time are, the law answers true. Condition: the two tables read as they are laid.
-/
import Derived.Test.YtkpjkekaedecgaaDoorZonLives
import Derived.Test.YtkpjkekaedecgaaDoorZonBackMath
namespace Go.Proofs.YtkpjkekaedecgaaDoor
open Go.RowKit

theorem Cv.mem_take (t : Int) (l : List Int) (k : Nat) (hk : k < l.length) : decide (t ∈ l.take (k + 1)) = (decide (t ∈ l.take k) || (l[k] == t)) := by
  rw [List.take_succ_eq_append_getElem hk]
  have h : (t ∈ l.take k ++ [l[k]]) ↔ (t ∈ l.take k ∨ l[k] = t) := by rw [List.mem_append, List.mem_singleton, eq_comm (a := t)]
  rw [decide_eq_decide.2 h, Bool.decide_or]
  rfl
set_option maxHeartbeats 2000000 in
theorem zoneBack_no (base save fm fn fw fi tm tn tw ti : Int) (t q : Int) (w : World) (hL : Zt.Both w) (hq : (q != 0) = true)
    (A1 : Hid (∀ w, Zt.Both w → Calls Tryd.prog 29 #[.agg #[.int .i64 base, .int .i64 save, .int .i64 fm, .int .i64 fn, .int .i64 fw, .int .i64 fi, .int .i64 tm, .int .i64 tn, .int .i64 tw, .int .i64 ti], .int .i64 t] w fun e w' => e = .returned (.tuple #[.agg #[.int .i64 0, .int .i64 0, .int .i64 0, .int .i64 0, .int .i64 0, .int .i64 0, .int .i64 0], .int .i64 q]) ∧ Below w.heap.size w w')) : Calls Tryd.prog 10 #[.agg #[.int .i64 base, .int .i64 save, .int .i64 fm, .int .i64 fn, .int .i64 fw, .int .i64 fi, .int .i64 tm, .int .i64 tn, .int .i64 tw, .int .i64 ti], .int .i64 t] w fun e w' => e = .returned (.bool true) ∧ Below w.heap.size w w' := by
  have A0 := Lib.hid (fun w hL => zonLives_any w hL)
  have HL := Lib.hid hL
  clear hL
  have X0 := Lib.hid (cv_new w (.cells #[.int .i64 base, .int .i64 save, .int .i64 fm, .int .i64 fn, .int .i64 fw, .int .i64 fi, .int .i64 tm, .int .i64 tn, .int .i64 tw, .int .i64 ti] 42))
  have B0 := Lib.hid (Wp.below_box w (.cells #[.int .i64 base, .int .i64 save, .int .i64 fm, .int .i64 fn, .int .i64 fw, .int .i64 fi, .int .i64 tm, .int .i64 tn, .int .i64 tw, .int .i64 ti] 42))
  have S0 : w.heap.size < (w.alloc (.cells #[.int .i64 base, .int .i64 save, .int .i64 fm, .int .i64 fn, .int .i64 fw, .int .i64 fi, .int .i64 tm, .int .i64 tn, .int .i64 tw, .int .i64 ti] 42)).heap.size := by rw [World.size_alloc]; omega
  go_enter Tryd.func10, Tryd.ntmps10
  go_wp2_with fail
  refine (A0.out _ (HL.out.below B0.out)).mono ?_
  rintro e w1 ⟨rfl, b1'⟩
  have B1 := Lib.hid (cv_then B0.out b1' B0.out.size)
  have X1 := Lib.hid ((b1'.block w.heap.size S0).trans X0.out)
  have S1 : w.heap.size < w1.heap.size := Nat.lt_of_lt_of_le S0 b1'.size
  clear b1'
  obtain ⟨c0, c1, c2, c3, c4, c5, c6, c7, c8, c9⟩ := Wp.ten_of X1.out
  go_wp2_with fail
  refine (A1.out _ (HL.out.below B1.out)).mono ?_
  rintro e w2 ⟨rfl, b2'⟩
  clear c0 c1 c2 c3 c4 c5 c6 c7 c8 c9
  have X2 := Lib.hid ((cv_past w2 (.cells #[.int .i64 0, .int .i64 0, .int .i64 0, .int .i64 0, .int .i64 0, .int .i64 0, .int .i64 0] 23) w.heap.size (Nat.lt_of_lt_of_le S1 b2'.size)).trans ((b2'.block w.heap.size S1).trans X1.out))
  have Y2 := Lib.hid (cv_new w2 (.cells #[.int .i64 0, .int .i64 0, .int .i64 0, .int .i64 0, .int .i64 0, .int .i64 0, .int .i64 0] 23))
  have B2 := Lib.hid ((cv_then B1.out b2' B1.out.size).alloc (Nat.le_trans B1.out.size b2'.size) (.cells #[.int .i64 0, .int .i64 0, .int .i64 0, .int .i64 0, .int .i64 0, .int .i64 0, .int .i64 0] 23))
  have S2 : w.heap.size < (w2.alloc (.cells #[.int .i64 0, .int .i64 0, .int .i64 0, .int .i64 0, .int .i64 0, .int .i64 0, .int .i64 0] 23)).heap.size := by rw [World.size_alloc]; have := b2'.size; omega
  have T2 : w2.heap.size < (w2.alloc (.cells #[.int .i64 0, .int .i64 0, .int .i64 0, .int .i64 0, .int .i64 0, .int .i64 0, .int .i64 0] 23)).heap.size := by rw [World.size_alloc]; omega
  clear b2'
  obtain ⟨c0, c1, c2, c3, c4, c5, c6, c7, c8, c9⟩ := Wp.ten_of X2.out
  obtain ⟨d0, d1, d2, d3, d4, d5, d6⟩ := Wp.seven_of Y2.out
  go_wp2_with fail
  go_ret
  exact ⟨rfl, B2.out⟩
set_option maxHeartbeats 4000000 in
theorem zoneBack_go (base save fm fn fw fi tm tn tw ti : Int) (Y MO D HO MI SS K : Int) (t : Int) (l : List Int) (w : World) (hL : Zt.Both w) (h2 : l.length ≤ 2) (hup : Hid (∀ i (hi : i + 1 < l.length), l[i]'(by omega) < l[i + 1])) (hmem : Hid (t ∈ l))
    (A1 : Hid (∀ w, Zt.Both w → Calls Tryd.prog 29 #[.agg #[.int .i64 base, .int .i64 save, .int .i64 fm, .int .i64 fn, .int .i64 fw, .int .i64 fi, .int .i64 tm, .int .i64 tn, .int .i64 tw, .int .i64 ti], .int .i64 t] w fun e w' => e = .returned (.tuple #[.agg #[.int .i64 Y, .int .i64 MO, .int .i64 D, .int .i64 HO, .int .i64 MI, .int .i64 SS, .int .i64 K], .int .i64 0]) ∧ Below w.heap.size w w'))
    (A2 : Hid (∀ x, x ∈ l → ∀ w, Zt.Both w → Calls Tryd.prog 29 #[.agg #[.int .i64 base, .int .i64 save, .int .i64 fm, .int .i64 fn, .int .i64 fw, .int .i64 fi, .int .i64 tm, .int .i64 tn, .int .i64 tw, .int .i64 ti], .int .i64 x] w fun e w' => e = .returned (.tuple #[.agg #[.int .i64 Y, .int .i64 MO, .int .i64 D, .int .i64 HO, .int .i64 MI, .int .i64 SS, .int .i64 K], .int .i64 0]) ∧ Below w.heap.size w w'))
    (A3 : Hid (∀ w, Zt.Both w → Calls Tryd.prog 38 #[.agg #[.int .i64 base, .int .i64 save, .int .i64 fm, .int .i64 fn, .int .i64 fw, .int .i64 fi, .int .i64 tm, .int .i64 tn, .int .i64 tw, .int .i64 ti], .agg #[.int .i64 Y, .int .i64 MO, .int .i64 D, .int .i64 HO, .int .i64 MI, .int .i64 SS, .int .i64 K]] w (Wp.TimesPost l 0 w))) : Calls Tryd.prog 10 #[.agg #[.int .i64 base, .int .i64 save, .int .i64 fm, .int .i64 fn, .int .i64 fw, .int .i64 fi, .int .i64 tm, .int .i64 tn, .int .i64 tw, .int .i64 ti], .int .i64 t] w fun e w' => e = .returned (.bool true) ∧ Below w.heap.size w w' := by
  obtain ⟨n, hn⟩ : ∃ n, n = l.length := ⟨_, rfl⟩
  have Hn := Lib.hid hn
  rw [← hn] at h2
  clear hn
  have A0 := Lib.hid (fun w hL => zonLives_any w hL)
  have HL := Lib.hid hL
  clear hL
  have X0 := Lib.hid (cv_new w (.cells #[.int .i64 base, .int .i64 save, .int .i64 fm, .int .i64 fn, .int .i64 fw, .int .i64 fi, .int .i64 tm, .int .i64 tn, .int .i64 tw, .int .i64 ti] 42))
  have B0 := Lib.hid (Wp.below_box w (.cells #[.int .i64 base, .int .i64 save, .int .i64 fm, .int .i64 fn, .int .i64 fw, .int .i64 fi, .int .i64 tm, .int .i64 tn, .int .i64 tw, .int .i64 ti] 42))
  have S0 : w.heap.size < (w.alloc (.cells #[.int .i64 base, .int .i64 save, .int .i64 fm, .int .i64 fn, .int .i64 fw, .int .i64 fi, .int .i64 tm, .int .i64 tn, .int .i64 tw, .int .i64 ti] 42)).heap.size := by rw [World.size_alloc]; omega
  go_enter Tryd.func10, Tryd.ntmps10
  go_wp2_with fail
  refine (A0.out _ (HL.out.below B0.out)).mono ?_
  rintro e w1 ⟨rfl, b1'⟩
  have B1 := Lib.hid (cv_then B0.out b1' B0.out.size)
  have X1 := Lib.hid ((b1'.block w.heap.size S0).trans X0.out)
  have S1 : w.heap.size < w1.heap.size := Nat.lt_of_lt_of_le S0 b1'.size
  clear b1'
  obtain ⟨c0, c1, c2, c3, c4, c5, c6, c7, c8, c9⟩ := Wp.ten_of X1.out
  go_wp2_with fail
  refine (A1.out _ (HL.out.below B1.out)).mono ?_
  rintro e w2 ⟨rfl, b2'⟩
  clear c0 c1 c2 c3 c4 c5 c6 c7 c8 c9
  have X2 := Lib.hid ((cv_past w2 (.cells #[.int .i64 Y, .int .i64 MO, .int .i64 D, .int .i64 HO, .int .i64 MI, .int .i64 SS, .int .i64 K] 23) w.heap.size (Nat.lt_of_lt_of_le S1 b2'.size)).trans ((b2'.block w.heap.size S1).trans X1.out))
  have Y2 := Lib.hid (cv_new w2 (.cells #[.int .i64 Y, .int .i64 MO, .int .i64 D, .int .i64 HO, .int .i64 MI, .int .i64 SS, .int .i64 K] 23))
  have B2 := Lib.hid ((cv_then B1.out b2' B1.out.size).alloc (Nat.le_trans B1.out.size b2'.size) (.cells #[.int .i64 Y, .int .i64 MO, .int .i64 D, .int .i64 HO, .int .i64 MI, .int .i64 SS, .int .i64 K] 23))
  have S2 : w.heap.size < (w2.alloc (.cells #[.int .i64 Y, .int .i64 MO, .int .i64 D, .int .i64 HO, .int .i64 MI, .int .i64 SS, .int .i64 K] 23)).heap.size := by rw [World.size_alloc]; have := b2'.size; omega
  have T2 : w2.heap.size < (w2.alloc (.cells #[.int .i64 Y, .int .i64 MO, .int .i64 D, .int .i64 HO, .int .i64 MI, .int .i64 SS, .int .i64 K] 23)).heap.size := by rw [World.size_alloc]; omega
  clear b2'
  obtain ⟨c0, c1, c2, c3, c4, c5, c6, c7, c8, c9⟩ := Wp.ten_of X2.out
  obtain ⟨d0, d1, d2, d3, d4, d5, d6⟩ := Wp.seven_of Y2.out
  go_wp2_with fail
  refine (A3.out _ (HL.out.below B2.out)).mono ?_
  rintro e w3 ⟨y3, rfl, o3, b3'⟩
  clear c0 c1 c2 c3 c4 c5 c6 c7 c8 c9 d0 d1 d2 d3 d4 d5 d6
  have X3 := Lib.hid ((b3'.block w.heap.size S2).trans X2.out)
  have Y3 := Lib.hid ((b3'.block w2.heap.size T2).trans Y2.out)
  have B3 := Lib.hid (cv_then B2.out b3' B2.out.size)
  have S3 : w.heap.size < w3.heap.size := Nat.lt_of_lt_of_le S2 b3'.size
  have T3 : w2.heap.size < w3.heap.size := Nat.lt_of_lt_of_le T2 b3'.size
  have hcell : ∃ p c, y3 = .slice p l.length c ∧ ∀ i (hi : i < l.length), ∃ b off, p = some ⟨b, off, none⟩ ∧ w3.cell? ⟨b, off + i, none⟩ = some (.int .i64 l[i]) := by
    rcases o3.2 with ⟨h, h0⟩ | ⟨g', cap, cur, h, _⟩
    · exact ⟨none, 0, by rw [h, h0], fun i hi => by omega⟩
    · refine ⟨_, _, h, fun i hi => ⟨g', 0, rfl, ?_⟩⟩
      subst h
      have := o3.cells (g := g') rfl i (.int .i64 l[i]) (by rw [List.getElem?_map, List.getElem?_eq_getElem hi]; rfl)
      have hadd : (⟨g', 0, none⟩ : Addr).add i = ⟨g', i, none⟩ := by unfold Addr.add; split <;> simp_all
      rw [hadd] at this; rw [Nat.zero_add]; exact this
  obtain ⟨p3, c3', rfl, hc3⟩ := hcell
  have HC := Lib.hid hc3
  clear o3 b3' hc3
  simp only [← Hn.out]
  go_wp2_with fail
  go_loopw [9, 35] (fun isv iv wr => ∃ (k : Nat) (b : Bool), k ≤ n ∧ iv = .int .i64 k ∧ isv = .bool b ∧ b = decide (t ∈ l.take k) ∧ Below w3.heap.size w3 wr) (fun _ iv _ => n - (intOf iv).toNat)
  case atStart => exact ⟨0, false, Nat.zero_le _, rfl, rfl, by simp, Below.refl _ _⟩
  case round =>
    obtain ⟨k, b, hk, rfl, rfl, hb, hB⟩ := hrel
    have BR := Lib.hid (cv_then B3.out hB B3.out.size)
    have BW := Lib.hid hB
    have SR : w.heap.size ≤ wr.heap.size := BR.out.size
    have TR : w2.heap.size < wr.heap.size := Nat.lt_of_lt_of_le T3 hB.size
    have HR := Lib.hid (HL.out.below BR.out)
    have XR := Lib.hid ((hB.block w.heap.size S3).trans X3.out)
    have YR := Lib.hid ((hB.block w2.heap.size T3).trans Y3.out)
    have HB := Lib.hid hb
    clear hb hB
    by_cases hlt : k < n
    · have hkl : k < l.length := by rw [← Hn.out]; exact hlt
      obtain ⟨bb, off, rfl, hc'⟩ := HC.out k hkl
      have hc := (BW.out.cell (World.block_lt_of_cell? w3 _ hc')).trans hc'
      clear hc'
      have HT := Lib.hid (Cv.mem_take t l k hkl)
      have A2X := Lib.hid (A2.out l[k] (List.getElem_mem hkl))
      obtain ⟨x, hx⟩ : ∃ x, x = l[k] := ⟨_, rfl⟩
      rw [← hx] at hc HT A2X
      have HX := Lib.hid hx
      clear hx
      have hk01 : k = 0 ∨ k = 1 := by omega
      rcases hk01 with rfl | rfl
      · obtain rfl : b = false := by rw [HB.out]; simp
        rw [Nat.add_zero] at hc
        obtain ⟨c0, c1, c2, c3, c4, c5, c6, c7, c8, c9⟩ := Wp.ten_of XR.out
        go_wp2_with fail
        refine (A2X.out _ HR.out).mono ?_
        rintro e w5 ⟨rfl, b5'⟩
        clear c0 c1 c2 c3 c4 c5 c6 c7 c8 c9
        have B5 := Lib.hid ((cv_then BW.out b5' BW.out.size).alloc (Nat.le_trans BW.out.size b5'.size) (.cells #[.int .i64 Y, .int .i64 MO, .int .i64 D, .int .i64 HO, .int .i64 MI, .int .i64 SS, .int .i64 K] 23))
        obtain ⟨d0, d1, d2, d3, d4, d5, d6⟩ := Wp.seven_of ((cv_past w5 (.cells #[.int .i64 Y, .int .i64 MO, .int .i64 D, .int .i64 HO, .int .i64 MI, .int .i64 SS, .int .i64 K] 23) w2.heap.size (Nat.lt_of_lt_of_le TR b5'.size)).trans ((b5'.block w2.heap.size TR).trans YR.out))
        obtain ⟨e0, e1, e2, e3, e4, e5, e6⟩ := Wp.seven_of (cv_new w5 (.cells #[.int .i64 Y, .int .i64 MO, .int .i64 D, .int .i64 HO, .int .i64 MI, .int .i64 SS, .int .i64 K] 23))
        clear b5'
        go_wp2_with fail
        exact ⟨⟨1, (x == t), by omega, by go_num, rfl, by rw [HT.out]; simp, B5.out⟩, by simp [intOf]; omega⟩
      · obtain ⟨_, _, hp, hc0'⟩ := HC.out 0 (by omega)
        cases hp
        have hlt01 := hup.out 0 (by omega)
        have hx1 : x = l[0 + 1] := HX.out
        rw [← hx1] at hlt01
        clear hx1
        obtain ⟨x0, hx0⟩ : ∃ x0, x0 = l[0] := ⟨_, rfl⟩
        rw [← hx0] at hc0' hlt01
        rw [Nat.add_zero] at hc0'
        have C0 := Lib.hid ((BW.out.cell (World.block_lt_of_cell? w3 _ hc0')).trans hc0')
        clear hc0' hx0
        cases b with
        | false =>
          obtain ⟨c0, c1, c2, c3, c4, c5, c6, c7, c8, c9⟩ := Wp.ten_of XR.out
          go_wp2_with fail
          refine (A2X.out _ HR.out).mono ?_
          rintro e w5 ⟨rfl, b5'⟩
          clear c0 c1 c2 c3 c4 c5 c6 c7 c8 c9
          have B5 := Lib.hid ((cv_then BW.out b5' BW.out.size).alloc (Nat.le_trans BW.out.size b5'.size) (.cells #[.int .i64 Y, .int .i64 MO, .int .i64 D, .int .i64 HO, .int .i64 MI, .int .i64 SS, .int .i64 K] 23))
          obtain ⟨d0, d1, d2, d3, d4, d5, d6⟩ := Wp.seven_of ((cv_past w5 (.cells #[.int .i64 Y, .int .i64 MO, .int .i64 D, .int .i64 HO, .int .i64 MI, .int .i64 SS, .int .i64 K] 23) w2.heap.size (Nat.lt_of_lt_of_le TR b5'.size)).trans ((b5'.block w2.heap.size TR).trans YR.out))
          obtain ⟨e0, e1, e2, e3, e4, e5, e6⟩ := Wp.seven_of (cv_new w5 (.cells #[.int .i64 Y, .int .i64 MO, .int .i64 D, .int .i64 HO, .int .i64 MI, .int .i64 SS, .int .i64 K] 23))
          have hw5 := (b5'.cell (World.block_lt_of_cell? wr _ C0.out)).trans C0.out
          have hc0 := ((Wp.below_box w5 (.cells #[.int .i64 Y, .int .i64 MO, .int .i64 D, .int .i64 HO, .int .i64 MI, .int .i64 SS, .int .i64 K] 23)).cell (World.block_lt_of_cell? w5 _ hw5)).trans hw5
          clear hw5
          clear b5'
          go_wp2_with fail
          exact ⟨⟨2, (x == t), by omega, by go_num, rfl, by rw [HT.out, ← HB.out, Bool.false_or], B5.out⟩, by simp [intOf]; omega⟩
        | true =>
          obtain ⟨c0, c1, c2, c3, c4, c5, c6, c7, c8, c9⟩ := Wp.ten_of XR.out
          go_wp2_with fail
          refine (A2X.out _ HR.out).mono ?_
          rintro e w5 ⟨rfl, b5'⟩
          clear c0 c1 c2 c3 c4 c5 c6 c7 c8 c9
          have B5 := Lib.hid ((cv_then BW.out b5' BW.out.size).alloc (Nat.le_trans BW.out.size b5'.size) (.cells #[.int .i64 Y, .int .i64 MO, .int .i64 D, .int .i64 HO, .int .i64 MI, .int .i64 SS, .int .i64 K] 23))
          obtain ⟨d0, d1, d2, d3, d4, d5, d6⟩ := Wp.seven_of ((cv_past w5 (.cells #[.int .i64 Y, .int .i64 MO, .int .i64 D, .int .i64 HO, .int .i64 MI, .int .i64 SS, .int .i64 K] 23) w2.heap.size (Nat.lt_of_lt_of_le TR b5'.size)).trans ((b5'.block w2.heap.size TR).trans YR.out))
          obtain ⟨e0, e1, e2, e3, e4, e5, e6⟩ := Wp.seven_of (cv_new w5 (.cells #[.int .i64 Y, .int .i64 MO, .int .i64 D, .int .i64 HO, .int .i64 MI, .int .i64 SS, .int .i64 K] 23))
          have hw5 := (b5'.cell (World.block_lt_of_cell? wr _ C0.out)).trans C0.out
          have hc0 := ((Wp.below_box w5 (.cells #[.int .i64 Y, .int .i64 MO, .int .i64 D, .int .i64 HO, .int .i64 MI, .int .i64 SS, .int .i64 K] 23)).cell (World.block_lt_of_cell? w5 _ hw5)).trans hw5
          clear hw5
          clear b5'
          go_wp2_with fail
          exact ⟨⟨2, true, by omega, by go_num, rfl, by rw [HT.out, ← HB.out, Bool.true_or], B5.out⟩, by simp [intOf]; omega⟩
    · obtain rfl : k = n := by omega
      obtain rfl : b = true := by rw [HB.out, Hn.out, List.take_length]; exact decide_eq_true hmem.out
      go_wp2_with fail
      go_ret
      refine ⟨?_, BR.out⟩
      show Ending.returned (.bool (decide ((k : Int) ≤ 2))) = _
      rw [decide_eq_true (by omega)]
theorem zoneBack_any (z : Wp.Zn) (t : Int) (w : World) (hL : Zt.Both w) : Calls Tryd.prog 10 #[.agg (Wp.zoneC z), .int .i64 t] w fun e w' => e = .returned (.bool true) ∧ Below w.heap.size w w' := by
  have hLo := fun t w hL => zon_Local z t w hL
  by_cases hc : Wp.chk2R z t = 0
  · obtain ⟨hz, ht⟩ := Wp.chk2R_ok hc
    have er : Wp.locR z t = Wp.ofR (t + Wp.ofs z t * 60) := if_pos hc
    cases hT : Wp.isT (t + Wp.ofs z t * 60) with
    | false =>
      have e1 := hLo t
      rw [er, Wp.ofR_no hT] at e1
      exact zoneBack_no z.base z.save z.fr.mo z.fr.nth z.fr.wd z.fr.mi z.to.mo z.to.nth z.to.wd z.to.mi t 1 w hL (by decide) (Lib.hid fun w h => e1 w h.cv)
    | true =>
      obtain ⟨m, hm⟩ := Wp.isOf_ex hT
      have e1 := hLo t
      rw [er, Wp.ofR_eq hm] at e1
      have hTi := fun w hL => zon_Times z m w hL
      have hl : Wp.timesR z m = (Wp.timesL z (t + Wp.ofs z t * 60), 0) := (if_pos (Wp.chkR_ok hz)).trans ((if_pos hm.ok).trans (by rw [hm.time]))
      rw [hl] at hTi
      have h2 := Wp.timesL_two hz.1.s1 (t + Wp.ofs z t * 60)
      refine zoneBack_go z.base z.save z.fr.mo z.fr.nth z.fr.wd z.fr.mi z.to.mo z.to.nth z.to.wd z.to.mi m.y m.mo m.d m.h m.mi m.s m.k t (Wp.timesL z (t + Wp.ofs z t * 60)) w hL h2.1 (Lib.hid h2.2) (Lib.hid (Wp.timesL_own ht)) (Lib.hid fun w h => e1 w h.cv) (Lib.hid fun x hx w h => ?_) (Lib.hid fun w h => hTi w h.cv)
      obtain ⟨x1, x2⟩ := Wp.timesL_mem hx
      have e2 := hLo x w h.cv
      rw [show Wp.locR z x = Wp.ofR (x + Wp.ofs z x * 60) from if_pos (Wp.chk2R_mk hz x1), x2, Wp.ofR_eq hm] at e2
      exact e2
  · have e1 := hLo t
    rw [show Wp.locR z t = (Wp.Mom.zero, Wp.chk2R z t) from if_neg hc] at e1
    exact zoneBack_no z.base z.save z.fr.mo z.fr.nth z.fr.wd z.fr.mi z.to.mo z.to.nth z.to.wd z.to.mi t (Wp.chk2R z t) w hL (by simpa using hc) (Lib.hid fun w h => e1 w h.cv)
end Go.Proofs.YtkpjkekaedecgaaDoor
