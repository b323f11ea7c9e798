/-
  The law QuietFree: at the time that is told free it is not quiet, and anywhere ahead of it it is; likewise of the time that is told busy. Condition: the calendar's table reads as it is laid; the week's list is of a size that a machine holds.
-/
import Derived.Test.YtmfbplemelodcaaDoorQtLives
namespace Go.Proofs.YtmfbplemelodcaaDoor
open Go.RowKit Go.Lib Go.Shelf

theorem Qt.inB_ok {z : Wp.Zn} {l : List (Int × Int)} {u : Int} (h : Qt.chk2 z l u = 0) : Qt.inB z l u = Qt.at_ z l u := by unfold Qt.inB; rw [if_pos h]
theorem Qt.SrQ.tells {z : Wp.Zn} {l : List (Int × Int)} {t : Int} {b : Bool} {r c : Int} (h : Qt.SrQ z l t b r c) (hc : c = 0) :
    -62135596800 ≤ t ∧ t ≤ r ∧ r ≤ 253402300799 ∧ Qt.inB z l r = b ∧ Qt.chk2 z l r = 0 ∧ ∀ u, t ≤ u → u < r → Qt.inB z l u = (!b) ∧ Qt.chk2 z l u = 0 := by
  subst hc
  rcases h with ⟨h1, _, h2⟩ | ⟨_, _, _, h⟩ | ⟨h0, _, h⟩
  · exact absurd h2.symm h1
  · cases h
  · obtain ⟨hz, ho, ht⟩ := Qt.chk2_ok h0
    obtain ⟨t1, t2⟩ := Qt.isT_iff.1 ht
    rcases h with ⟨_, a1, a2, a3, a4⟩ | ⟨h, _⟩
    · have k : ∀ u, t ≤ u → u ≤ 253402300799 → Qt.chk2 z l u = 0 := fun u b1 b2 => Qt.chk2_mk hz ho (Qt.isT_iff.2 ⟨by omega, b2⟩)
      exact ⟨t1, a1, a2, by rw [Qt.inB_ok (k r a1 a2)]; exact a3, k r a1 a2, fun u b1 b2 => ⟨by rw [Qt.inB_ok (k u b1 (by omega))]; exact a4 u b1 b2, k u b1 (by omega)⟩⟩
    · cases h
theorem Qt.SrQ.apart {z : Wp.Zn} {l : List (Int × Int)} {t f b c d : Int} (h : Qt.SrQ z l t false f c) (g : Qt.SrQ z l t true b d) (hc : c = 0) (hd : d = 0) : ((f == t) != (b == t)) = true := by
  obtain ⟨_, a1, _, a3, _, a5⟩ := h.tells hc
  obtain ⟨_, b1, _, b3, _, b5⟩ := g.tells hd
  by_cases hf : f = t
  · have hb : b ≠ t := fun e => by rw [hf] at a3; rw [e, a3] at b3; cases b3
    rw [beq_iff_eq.2 hf, beq_eq_false_iff_ne.2 hb]; rfl
  · have hb : b = t := by
      by_cases e : b = t
      · exact e
      · have h1 := (a5 t (Int.le_refl _) (by omega)).1
        have h2 := (b5 t (Int.le_refl _) (by omega)).1
        rw [h1] at h2; cases h2
    rw [beq_iff_eq.2 hb, beq_eq_false_iff_ne.2 hf]; rfl
set_option maxHeartbeats 4000000 in
set_option maxRecDepth 100000 in
theorem quietFree_law (z : Wp.Zn) (l : List (Int × Int)) (p : Option Addr) (c : Nat) (t on : Int) (w : World) (hL : Cv.Laid w) (hA : Wk.At w p l) (hn : l.length ≤ 140737488351232) (o1 : 0 ≤ on) (o2 : on ≤ 4294967295) :
    Calls Tryd.prog 5 #[.agg (Qt.hC z p l.length c), .int .i64 t, .int .u32 on] w fun e w' => e = .returned (.bool true) ∧ Below w.heap.size w w' := by
  have A0 := Lib.hid (fun w1 (h : Below w.heap.size w w1) => qt_lives w1 (hL.below h))
  have A1 := Lib.hid (show ∀ w1, Below w.heap.size w w1 → Calls Tryd.prog 22 #[.agg (Qt.hC z p l.length c), .int .i64 t] w1 (fun e w' => ∃ r k, e = .returned (.tuple #[.int .i64 r, .int .i64 k]) ∧ Qt.SrQ z l t false r k ∧ Below w1.heap.size w1 w') from fun w1 h => qt_Free z l p c t w1 (hL.below h) (hA.below h) hn)
  have A2 := Lib.hid (show ∀ w1, Below w.heap.size w w1 → Calls Tryd.prog 23 #[.agg (Qt.hC z p l.length c), .int .i64 t] w1 (fun e w' => ∃ r k, e = .returned (.tuple #[.int .i64 r, .int .i64 k]) ∧ Qt.SrQ z l t true r k ∧ Below w1.heap.size w1 w') from fun w1 h => qt_Busy z l p c t w1 (hL.below h) (hA.below h) hn)
  have A3 := Lib.hid (fun u w1 (h : Below w.heap.size w w1) => qt_In z l p c u w1 (hL.below h) (hA.below h) hn)
  have HP := Lib.hid (fun f b c d (h : Qt.SrQ z l t false f c) (g : Qt.SrQ z l t true b d) (hc : c = 0) (hd : d = 0) => h.apart g hc hd)
  have HF := Lib.hid (fun f c (h : Qt.SrQ z l t false f c) (hc : c = 0) => h.tells hc)
  have HB := Lib.hid (fun f c (h : Qt.SrQ z l t true f c) (hc : c = 0) => h.tells hc)
  clear hL hA hn
  generalize Qt.SrQ z l t false = SF at *
  generalize Qt.SrQ z l t true = SB at *
  generalize Qt.inB z l = I at *
  generalize Qt.chk2 z l = K at *
  generalize l.length = n at *
  unfold Qt.hC at A1 A2 A3 ⊢
  obtain ⟨base, save, ⟨fm, fn, fw, fi⟩, ⟨tm, tn, tw, ti⟩⟩ := z
  unfold Wp.zoneC at A1 A2 A3 ⊢
  simp only [List.push_toArray, List.cons_append, List.nil_append] at A1 A2 A3 ⊢
  have X0 := Lib.hid (wk_new w (.cells #[.int .i64 base, .int .i64 save, .int .i64 fm, .int .i64 fn, .int .i64 fw, .int .i64 fi, .int .i64 tm, .int .i64 tn, .int .i64 tw, .int .i64 ti, .slice p n c] 47))
  have B0 := Lib.hid (wk_box w (.cells #[.int .i64 base, .int .i64 save, .int .i64 fm, .int .i64 fn, .int .i64 fw, .int .i64 fi, .int .i64 tm, .int .i64 tn, .int .i64 tw, .int .i64 ti, .slice p n c] 47))
  go_enter Tryd.func5, Tryd.ntmps5
  go_wp2_with fail
  refine (A0.out _ B0.out).mono ?_
  rintro e w1 ⟨rfl, hb⟩
  have B1 := Lib.hid (wk_then B0.out hb B0.out.size)
  have X1 := Lib.hid ((hb.block w.heap.size (Qt.lt_of X0.out)).trans X0.out)
  clear hb A0 B0 X0
  obtain ⟨c0, c1, c2, c3, c4, c5, c6, c7, c8, c9, c10⟩ := Qt.eleven_of X1.out
  go_wp2_with fail
  refine (A1.out _ B1.out).mono ?_
  rintro e w2 ⟨f, k1, rfl, sf, hb⟩
  have B2 := Lib.hid (wk_then B1.out hb B1.out.size)
  have SFh := Lib.hid sf
  have X2 := Lib.hid ((hb.block w.heap.size (Qt.lt_of X1.out)).trans X1.out)
  clear hb A1 sf B1 X1 c0 c1 c2 c3 c4 c5 c6 c7 c8 c9 c10
  obtain ⟨c0, c1, c2, c3, c4, c5, c6, c7, c8, c9, c10⟩ := Qt.eleven_of X2.out
  go_wp2_with fail
  refine (A2.out _ B2.out).mono ?_
  rintro e w3 ⟨b, k2, rfl, sb, hb⟩
  have B3 := Lib.hid (wk_then B2.out hb B2.out.size)
  have SBh := Lib.hid sb
  have X3 := Lib.hid ((hb.block w.heap.size (Qt.lt_of X2.out)).trans X2.out)
  clear hb A2 sb B2 X2 c0 c1 c2 c3 c4 c5 c6 c7 c8 c9 c10
  obtain ⟨c0, c1, c2, c3, c4, c5, c6, c7, c8, c9, c10⟩ := Qt.eleven_of X3.out
  have HAp := Lib.hid (fun h1 h2 => HP.out f b k1 k2 SFh.out SBh.out h1 h2)
  have HFt := Lib.hid (fun h1 => HF.out f k1 SFh.out h1)
  have HBt := Lib.hid (fun h1 => HB.out b k2 SBh.out h1)
  clear HP HF HB SFh SBh
  by_cases h1 : k1 = 0
  · subst h1
    obtain ⟨ft, tf, fm, iF, kF, hu⟩ := HFt.out rfl
    have A4 := Lib.hid (A3.out f)
    rw [iF, kF] at A4
    have HU := Lib.hid hu
    clear iF kF hu HFt
    go_wp2_with fail
    refine (A4.out _ B3.out).mono ?_
    rintro e w4 ⟨rfl, hb⟩
    have B4 := Lib.hid (wk_then B3.out hb B3.out.size)
    have X4 := Lib.hid ((hb.block w.heap.size (Qt.lt_of X3.out)).trans X3.out)
    clear hb A4 B3 X3 c0 c1 c2 c3 c4 c5 c6 c7 c8 c9 c10
    obtain ⟨c0, c1, c2, c3, c4, c5, c6, c7, c8, c9, c10⟩ := Qt.eleven_of X4.out
    by_cases hp : t + on < f
    · have A5 := Lib.hid (A3.out (t + on))
      have ku := HU.out (t + on) (by omega) hp
      rw [ku.1, ku.2] at A5
      clear ku HU
      go_wp2_with fail
      refine (A5.out _ B4.out).mono ?_
      rintro e w5 ⟨rfl, hb⟩
      have B5 := Lib.hid (wk_then B4.out hb B4.out.size)
      have X5 := Lib.hid ((hb.block w.heap.size (Qt.lt_of X4.out)).trans X4.out)
      clear hb A5 B4 X4 c0 c1 c2 c3 c4 c5 c6 c7 c8 c9 c10
      obtain ⟨c0, c1, c2, c3, c4, c5, c6, c7, c8, c9, c10⟩ := Qt.eleven_of X5.out
      by_cases h2 : k2 = 0
      · subst h2
        obtain ⟨bt, tb, bm, ib, kb, hu⟩ := HBt.out rfl
        have A4 := Lib.hid (A3.out b)
        rw [ib, kb] at A4
        have HU := Lib.hid hu
        clear ib kb hu HBt
        go_wp2_with fail
        refine (A4.out _ B5.out).mono ?_
        rintro e w6 ⟨rfl, hb⟩
        have B6 := Lib.hid (wk_then B5.out hb B5.out.size)
        have X6 := Lib.hid ((hb.block w.heap.size (Qt.lt_of X5.out)).trans X5.out)
        clear hb A4 c0 c1 c2 c3 c4 c5 c6 c7 c8 c9 c10
        obtain ⟨c0, c1, c2, c3, c4, c5, c6, c7, c8, c9, c10⟩ := Qt.eleven_of X6.out
        by_cases hq : t + on < b
        · have A5 := Lib.hid (A3.out (t + on))
          have ku := HU.out (t + on) (by omega) hq
          rw [ku.1, ku.2] at A5
          clear ku HU
          go_wp2_with fail
          refine (A5.out _ B6.out).mono ?_
          rintro e w7 ⟨rfl, hb⟩
          have B7 := Lib.hid (wk_then B6.out hb B6.out.size)
          clear hb A5
          have hx := HAp.out (by trivial) (by trivial)
          cases hft : (f == t) <;> cases hbt : (b == t) <;> rw [hft, hbt] at hx <;> first | (exact absurd hx (by decide)) | (
            clear HAp
            go_wp2_with fail
            go_ret
            exact ⟨rfl, B7.out⟩)
        · have hq2 : b ≤ t + on := by omega
          clear hq HU
          have hx := HAp.out (by trivial) (by trivial)
          cases hft : (f == t) <;> cases hbt : (b == t) <;> rw [hft, hbt] at hx <;> first | (exact absurd hx (by decide)) | (
            clear HAp
            go_wp2_with fail
            go_ret
            exact ⟨rfl, B6.out⟩)
      · have h2b : (k2 == 0) = false := by simpa using h2
        have h2c : (k2 != 0) = true := by simpa using h2
        clear h2 HBt
        go_wp2_with fail
        go_ret
        exact ⟨rfl, B5.out⟩
    · have hp2 : f ≤ t + on := by omega
      clear hp HU
      by_cases h2 : k2 = 0
      · subst h2
        obtain ⟨bt, tb, bm, ib, kb, hu⟩ := HBt.out rfl
        have A4 := Lib.hid (A3.out b)
        rw [ib, kb] at A4
        have HU := Lib.hid hu
        clear ib kb hu HBt
        go_wp2_with fail
        refine (A4.out _ B4.out).mono ?_
        rintro e w5 ⟨rfl, hb⟩
        have B5 := Lib.hid (wk_then B4.out hb B4.out.size)
        have X5 := Lib.hid ((hb.block w.heap.size (Qt.lt_of X4.out)).trans X4.out)
        clear hb A4 c0 c1 c2 c3 c4 c5 c6 c7 c8 c9 c10
        obtain ⟨c0, c1, c2, c3, c4, c5, c6, c7, c8, c9, c10⟩ := Qt.eleven_of X5.out
        by_cases hq : t + on < b
        · have A5 := Lib.hid (A3.out (t + on))
          have ku := HU.out (t + on) (by omega) hq
          rw [ku.1, ku.2] at A5
          clear ku HU
          go_wp2_with fail
          refine (A5.out _ B5.out).mono ?_
          rintro e w6 ⟨rfl, hb⟩
          have B6 := Lib.hid (wk_then B5.out hb B5.out.size)
          clear hb A5
          have hx := HAp.out (by trivial) (by trivial)
          cases hft : (f == t) <;> cases hbt : (b == t) <;> rw [hft, hbt] at hx <;> first | (exact absurd hx (by decide)) | (
            clear HAp
            go_wp2_with fail
            go_ret
            exact ⟨rfl, B6.out⟩)
        · have hq2 : b ≤ t + on := by omega
          clear hq HU
          have hx := HAp.out (by trivial) (by trivial)
          cases hft : (f == t) <;> cases hbt : (b == t) <;> rw [hft, hbt] at hx <;> first | (exact absurd hx (by decide)) | (
            clear HAp
            go_wp2_with fail
            go_ret
            exact ⟨rfl, B5.out⟩)
      · have h2b : (k2 == 0) = false := by simpa using h2
        have h2c : (k2 != 0) = true := by simpa using h2
        clear h2 HBt
        go_wp2_with fail
        go_ret
        exact ⟨rfl, B4.out⟩
  · have h1b : (k1 == 0) = false := by simpa using h1
    have h1c : (k1 != 0) = true := by simpa using h1
    clear h1 HFt
    by_cases h2 : k2 = 0
    · subst h2
      obtain ⟨bt, tb, bm, ib, kb, hu⟩ := HBt.out rfl
      have A4 := Lib.hid (A3.out b)
      rw [ib, kb] at A4
      have HU := Lib.hid hu
      clear ib kb hu HBt
      go_wp2_with fail
      refine (A4.out _ B3.out).mono ?_
      rintro e w4 ⟨rfl, hb⟩
      have B4 := Lib.hid (wk_then B3.out hb B3.out.size)
      have X4 := Lib.hid ((hb.block w.heap.size (Qt.lt_of X3.out)).trans X3.out)
      clear hb A4 c0 c1 c2 c3 c4 c5 c6 c7 c8 c9 c10
      obtain ⟨c0, c1, c2, c3, c4, c5, c6, c7, c8, c9, c10⟩ := Qt.eleven_of X4.out
      by_cases hq : t + on < b
      · have A5 := Lib.hid (A3.out (t + on))
        have ku := HU.out (t + on) (by omega) hq
        rw [ku.1, ku.2] at A5
        clear ku HU
        go_wp2_with fail
        refine (A5.out _ B4.out).mono ?_
        rintro e w5 ⟨rfl, hb⟩
        have B5 := Lib.hid (wk_then B4.out hb B4.out.size)
        clear hb A5
        go_wp2_with fail
        go_ret
        exact ⟨rfl, B5.out⟩
      · have hq2 : b ≤ t + on := by omega
        clear hq HU
        go_wp2_with fail
        go_ret
        exact ⟨rfl, B4.out⟩
    · have h2b : (k2 == 0) = false := by simpa using h2
      have h2c : (k2 != 0) = true := by simpa using h2
      clear h2 HBt
      go_wp2_with fail
      go_ret
      exact ⟨rfl, B3.out⟩
end Go.Proofs.YtmfbplemelodcaaDoor
