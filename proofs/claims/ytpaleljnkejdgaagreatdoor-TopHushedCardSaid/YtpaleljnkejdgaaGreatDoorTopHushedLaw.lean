/-
  The law TopHushed: with two weeks together it is quiet just when it is with one of them, with what both have just when it is with both; it is free with both together no sooner. Condition: the calendar's table reads as it is laid; the weeks' lists are of a size that a machine holds.
-/
import Derived.Test.YtpaleljnkejdgaaGreatDoorQtHush
import Derived.Test.YtpaleljnkejdgaaGreatDoorBegins
import Derived.Deep.RegionHeld3
namespace Go.Proofs.YtpaleljnkejdgaaGreatDoor
open Go.RowKit Go.Lib Go.Shelf

theorem Qt.lt_of' {w : World} {g : Nat} {o : Obj} (h : w.heap[g]? = some o) : g < w.heap.size := (Array.getElem?_eq_some_iff.1 h).1
set_option maxHeartbeats 4000000 in
set_option maxRecDepth 100000 in
theorem topHushed_law (z : Wp.Zn) (l m : List (Int × Int)) (p q : Option Addr) (c d : Nat) (t : Int) (w : World) (hL : Cv.Laid w) (hA : Wk.At w p l) (hM : Wk.At w q m) (hn : l.length ≤ 140737488351232) (hm : m.length ≤ 140737488351232) :
    Calls Tryz.prog 5 #[.agg (Wp.zoneC z), .slice p l.length c, .slice q m.length d, .int .i64 t] w fun e w' => e = .returned (.bool true) ∧ Below w.heap.size w w' := by
  have A1 := Lib.hid (show ∀ w1, Below w.heap.size w w1 → Calls Tryz.prog 17 #[.slice p l.length c, .slice q m.length d] w1 (fun e w' => ∃ p' c', e = .returned (.tuple #[.slice p' (Wk.orL l m).length c', .int .i64 (Wk.orC l m)]) ∧ Wk.At w' p' (Wk.orL l m) ∧ Below w1.heap.size w1 w') from fun w1 h => wk_Or l m p q c d w1 (hA.below h) (hM.below h) hn hm)
  have A2 := Lib.hid (show ∀ w1, Below w.heap.size w w1 → Calls Tryz.prog 19 #[.slice p l.length c, .slice q m.length d] w1 (fun e w' => ∃ p' c', e = .returned (.tuple #[.slice p' (Wk.andL l m).length c', .int .i64 (Wk.andC l m)]) ∧ Wk.At w' p' (Wk.andL l m) ∧ Below w1.heap.size w1 w') from fun w1 h => wk_And l m p q c d w1 (hA.below h) (hM.below h) hn hm)
  have A3 := Lib.hid (fun w1 (h : Below w.heap.size w w1) => qt_In z l p c t w1 (hL.below h) (hA.below h) hn)
  have A4 := Lib.hid (fun w1 (h : Below w.heap.size w w1) => qt_In z m q d t w1 (hL.below h) (hM.below h) hm)
  have A5 := Lib.hid (fun p' c' w1 (h : Below w.heap.size w w1) (hA' : Wk.At w1 p' (Wk.orL l m)) => qt_In z (Wk.orL l m) p' c' t w1 (hL.below h) hA' (Qt.orL_len2 l m))
  have A6 := Lib.hid (fun p' c' w1 (h : Below w.heap.size w w1) (hA' : Wk.At w1 p' (Wk.andL l m)) => qt_In z (Wk.andL l m) p' c' t w1 (hL.below h) hA' (Qt.andL_len l m))
  have A7 := Lib.hid (show ∀ w1, Below w.heap.size w w1 → Calls Tryz.prog 8 #[.agg (Qt.hC z p l.length c), .int .i64 t] w1 (fun e w' => ∃ r k, e = .returned (.tuple #[.int .i64 r, .int .i64 k]) ∧ Qt.SrQ z l t false r k ∧ Below w1.heap.size w1 w') from fun w1 h => qt_Free z l p c t w1 (hL.below h) (hA.below h) hn)
  have A8 := Lib.hid (show ∀ p' c' w1, Below w.heap.size w w1 → Wk.At w1 p' (Wk.orL l m) → Calls Tryz.prog 8 #[.agg (Qt.hC z p' (Wk.orL l m).length c'), .int .i64 t] w1 (fun e w' => ∃ r k, e = .returned (.tuple #[.int .i64 r, .int .i64 k]) ∧ Qt.SrQ z (Wk.orL l m) t false r k ∧ Below w1.heap.size w1 w') from fun p' c' w1 h hA' => qt_Free z (Wk.orL l m) p' c' t w1 (hL.below h) hA' (Qt.orL_len2 l m))
  have HH := Lib.hid (fun h1 h2 h3 h4 => Qt.hush (z := z) (a := l) (b := m) (t := t) h1 h2 h3 h4)
  have HF := Lib.hid (fun f c g d h1 h3 hf hg hd => Qt.hush_free (z := z) (a := l) (b := m) (t := t) (f := f) (c := c) (g := g) (d := d) h1 h3 hf hg hd)
  clear hL hA hM hn hm
  generalize Qt.SrQ z l t false = SF at *
  generalize Qt.SrQ z (Wk.orL l m) t false = SG at *
  generalize Qt.inB z l t = i1 at *
  generalize Qt.inB z m t = i2 at *
  generalize Qt.inB z (Wk.orL l m) t = i3 at *
  generalize Qt.inB z (Wk.andL l m) t = i4 at *
  generalize Qt.chk2 z l t = k1 at *
  generalize Qt.chk2 z m t = k2 at *
  generalize Qt.chk2 z (Wk.orL l m) t = k3 at *
  generalize Qt.chk2 z (Wk.andL l m) t = k4 at *
  generalize Wk.orC l m = o1 at *
  generalize Wk.andC l m = o2 at *
  generalize Wk.orL l m = LO at *
  generalize Wk.andL l m = LA at *
  generalize l.length = n1 at *
  generalize m.length = n2 at *
  generalize LO.length = n3 at *
  generalize LA.length = n4 at *
  unfold Qt.hC at A3 A4 A5 A6 A7 A8
  obtain ⟨base, save, ⟨fm, fn, fw, fi⟩, ⟨tm, tn, tw, ti⟩⟩ := z
  unfold Wp.zoneC at A3 A4 A5 A6 A7 A8 ⊢
  simp only [List.push_toArray, List.cons_append, List.nil_append] at A3 A4 A5 A6 A7 A8 ⊢
  have X0 := Lib.hid (wk_new w (.cells #[.int .i64 base, .int .i64 save, .int .i64 fm, .int .i64 fn, .int .i64 fw, .int .i64 fi, .int .i64 tm, .int .i64 tn, .int .i64 tw, .int .i64 ti] 25))
  have B0 := Lib.hid (wk_box w (.cells #[.int .i64 base, .int .i64 save, .int .i64 fm, .int .i64 fn, .int .i64 fw, .int .i64 fi, .int .i64 tm, .int .i64 tn, .int .i64 tw, .int .i64 ti] 25))
  go_enter Tryz.func5, Tryz.ntmps5
  go_wp2_with fail
  refine (begins_any _).mono ?_
  rintro e w1 ⟨rfl, hb⟩
  have B1 := Lib.hid (wk_then B0.out hb B0.out.size)
  have X1 := Lib.hid ((hb.block w.heap.size (Qt.lt_of' X0.out)).trans X0.out)
  clear hb B0 X0
  obtain ⟨c0, c1, c2, c3, c4, c5, c6, c7, c8, c9⟩ := Wp.ten_of X1.out
  go_wp2_with fail
  have n0 := World.new_ne w1 _ c0
  go_region_held3 (fun w' => w'.cell? ⟨w.heap.size, 0, none⟩ = some (.int .i64 base) ∧ w'.cell? ⟨w.heap.size, 1, none⟩ = some (.int .i64 save) ∧ w'.cell? ⟨w.heap.size, 2, none⟩ = some (.int .i64 fm) ∧ w'.cell? ⟨w.heap.size, 3, none⟩ = some (.int .i64 fn) ∧ w'.cell? ⟨w.heap.size, 4, none⟩ = some (.int .i64 fw) ∧ w'.cell? ⟨w.heap.size, 5, none⟩ = some (.int .i64 fi) ∧ w'.cell? ⟨w.heap.size, 6, none⟩ = some (.int .i64 tm) ∧ w'.cell? ⟨w.heap.size, 7, none⟩ = some (.int .i64 tn) ∧ w'.cell? ⟨w.heap.size, 8, none⟩ = some (.int .i64 tw) ∧ w'.cell? ⟨w.heap.size, 9, none⟩ = some (.int .i64 ti))
    (go_keep)
    (first | fail)
  · have hz : (w1.alloc (.cells #[.int .i64 base, .int .i64 save, .int .i64 fm, .int .i64 fn, .int .i64 fw, .int .i64 fi, .int .i64 tm, .int .i64 tn, .int .i64 tw, .int .i64 ti, .slice p n1 c] 28)).heap.size = w1.heap.size + 1 := World.size_alloc _ _
    have XW : (((w1.alloc (.cells #[.int .i64 base, .int .i64 save, .int .i64 fm, .int .i64 fn, .int .i64 fw, .int .i64 fi, .int .i64 tm, .int .i64 tn, .int .i64 tw, .int .i64 ti, .slice p n1 c] 28)).alloc (.cells #[.int .i64 base, .int .i64 save, .int .i64 fm, .int .i64 fn, .int .i64 fw, .int .i64 fi, .int .i64 tm, .int .i64 tn, .int .i64 tw, .int .i64 ti, .slice q n2 d] 28)).drew).heap[w1.heap.size]? = some (.cells #[.int .i64 base, .int .i64 save, .int .i64 fm, .int .i64 fn, .int .i64 fw, .int .i64 fi, .int .i64 tm, .int .i64 tn, .int .i64 tw, .int .i64 ti, .slice p n1 c] 28) := (wk_past (w1.alloc (.cells #[.int .i64 base, .int .i64 save, .int .i64 fm, .int .i64 fn, .int .i64 fw, .int .i64 fi, .int .i64 tm, .int .i64 tn, .int .i64 tw, .int .i64 ti, .slice p n1 c] 28)) (.cells #[.int .i64 base, .int .i64 save, .int .i64 fm, .int .i64 fn, .int .i64 fw, .int .i64 fi, .int .i64 tm, .int .i64 tn, .int .i64 tw, .int .i64 ti, .slice q n2 d] 28) w1.heap.size (by omega)).trans (wk_new w1 (.cells #[.int .i64 base, .int .i64 save, .int .i64 fm, .int .i64 fn, .int .i64 fw, .int .i64 fi, .int .i64 tm, .int .i64 tn, .int .i64 tw, .int .i64 ti, .slice p n1 c] 28))
    have YW : (((w1.alloc (.cells #[.int .i64 base, .int .i64 save, .int .i64 fm, .int .i64 fn, .int .i64 fw, .int .i64 fi, .int .i64 tm, .int .i64 tn, .int .i64 tw, .int .i64 ti, .slice p n1 c] 28)).alloc (.cells #[.int .i64 base, .int .i64 save, .int .i64 fm, .int .i64 fn, .int .i64 fw, .int .i64 fi, .int .i64 tm, .int .i64 tn, .int .i64 tw, .int .i64 ti, .slice q n2 d] 28)).drew).heap[w1.heap.size + 1]? = some (.cells #[.int .i64 base, .int .i64 save, .int .i64 fm, .int .i64 fn, .int .i64 fw, .int .i64 fi, .int .i64 tm, .int .i64 tn, .int .i64 tw, .int .i64 ti, .slice q n2 d] 28) := by rw [← hz]; exact wk_new (w1.alloc (.cells #[.int .i64 base, .int .i64 save, .int .i64 fm, .int .i64 fn, .int .i64 fw, .int .i64 fi, .int .i64 tm, .int .i64 tn, .int .i64 tw, .int .i64 ti, .slice p n1 c] 28)) (.cells #[.int .i64 base, .int .i64 save, .int .i64 fm, .int .i64 fn, .int .i64 fw, .int .i64 fi, .int .i64 tm, .int .i64 tn, .int .i64 tw, .int .i64 ti, .slice q n2 d] 28)
    have hbw : Below w1.heap.size w1 (((w1.alloc (.cells #[.int .i64 base, .int .i64 save, .int .i64 fm, .int .i64 fn, .int .i64 fw, .int .i64 fi, .int .i64 tm, .int .i64 tn, .int .i64 tw, .int .i64 ti, .slice p n1 c] 28)).alloc (.cells #[.int .i64 base, .int .i64 save, .int .i64 fm, .int .i64 fn, .int .i64 fw, .int .i64 fi, .int .i64 tm, .int .i64 tn, .int .i64 tw, .int .i64 ti, .slice q n2 d] 28)).drew) := ((wk_box w1 (.cells #[.int .i64 base, .int .i64 save, .int .i64 fm, .int .i64 fn, .int .i64 fw, .int .i64 fi, .int .i64 tm, .int .i64 tn, .int .i64 tw, .int .i64 ti, .slice p n1 c] 28)).trans ((wk_box (w1.alloc (.cells #[.int .i64 base, .int .i64 save, .int .i64 fm, .int .i64 fn, .int .i64 fw, .int .i64 fi, .int .i64 tm, .int .i64 tn, .int .i64 tw, .int .i64 ti, .slice p n1 c] 28)) (.cells #[.int .i64 base, .int .i64 save, .int .i64 fm, .int .i64 fn, .int .i64 fw, .int .i64 fi, .int .i64 tm, .int .i64 tn, .int .i64 tw, .int .i64 ti, .slice q n2 d] 28)).mono (by omega))).drew
    have BW := wk_then B1.out hbw B1.out.size
    have ZW := (hbw.block w.heap.size (Qt.lt_of' X1.out)).trans X1.out
    generalize (((w1.alloc (.cells #[.int .i64 base, .int .i64 save, .int .i64 fm, .int .i64 fn, .int .i64 fw, .int .i64 fi, .int .i64 tm, .int .i64 tn, .int .i64 tw, .int .i64 ti, .slice p n1 c] 28)).alloc (.cells #[.int .i64 base, .int .i64 save, .int .i64 fm, .int .i64 fn, .int .i64 fw, .int .i64 fi, .int .i64 tm, .int .i64 tn, .int .i64 tw, .int .i64 ti, .slice q n2 d] 28)).drew) = W at *
    clear hbw hz n0 X1 B1 c0 c1 c2 c3 c4 c5 c6 c7 c8 c9
    generalize w1.heap.size + 1 = g2 at *
    generalize w1.heap.size = g1 at *
    clear w1
    have XW := Lib.hid XW
    have YW := Lib.hid YW
    have BW := Lib.hid BW
    have ZW := Lib.hid ZW
    obtain ⟨c0, c1, c2, c3, c4, c5, c6, c7, c8, c9, c10⟩ := Qt.eleven_of XW.out
    go_wp2_with fail
    refine (A1.out _ BW.out).mono ?_
    rintro e w2 ⟨p1, e1, rfl, hO, hb⟩
    have B2 := Lib.hid (wk_then BW.out hb BW.out.size)
    have X2 := Lib.hid ((hb.block _ (Qt.lt_of' XW.out)).trans XW.out)
    have Z2 := Lib.hid ((hb.block _ (Qt.lt_of' ZW.out)).trans ZW.out)
    have Y2 := Lib.hid ((hb.block _ (Qt.lt_of' YW.out)).trans YW.out)
    have O2 := Lib.hid hO
    clear hb hO A1 XW YW ZW BW c0 c1 c2 c3 c4 c5 c6 c7 c8 c9 c10
    go_wp2_with fail
    refine (A2.out _ B2.out).mono ?_
    rintro e w3 ⟨p2, e2, rfl, hO, hb⟩
    have B3 := Lib.hid (wk_then B2.out hb B2.out.size)
    have X3 := Lib.hid ((hb.block _ (Qt.lt_of' X2.out)).trans X2.out)
    have Z3 := Lib.hid ((hb.block _ (Qt.lt_of' Z2.out)).trans Z2.out)
    have Y3 := Lib.hid ((hb.block _ (Qt.lt_of' Y2.out)).trans Y2.out)
    have O3 := Lib.hid (O2.out.below hb)
    have N3 := Lib.hid hO
    clear hb hO A2 X2 Y2 Z2 B2 O2
    obtain ⟨c0, c1, c2, c3, c4, c5, c6, c7, c8, c9, c10⟩ := Qt.eleven_of X3.out
    go_wp2_with fail
    refine (A3.out _ B3.out).mono ?_
    rintro e w4 ⟨rfl, hb⟩
    have B4 := Lib.hid (wk_then B3.out hb B3.out.size)
    have X4 := Lib.hid ((hb.block _ (Qt.lt_of' X3.out)).trans X3.out)
    have Z4 := Lib.hid ((hb.block _ (Qt.lt_of' Z3.out)).trans Z3.out)
    have Y4 := Lib.hid ((hb.block _ (Qt.lt_of' Y3.out)).trans Y3.out)
    have O4 := Lib.hid (O3.out.below hb)
    have N4 := Lib.hid (N3.out.below hb)
    clear hb A3 X3 Y3 Z3 B3 O3 N3 c0 c1 c2 c3 c4 c5 c6 c7 c8 c9 c10
    obtain ⟨c0, c1, c2, c3, c4, c5, c6, c7, c8, c9, c10⟩ := Qt.eleven_of Y4.out
    go_wp2_with fail
    refine (A4.out _ B4.out).mono ?_
    rintro e w5 ⟨rfl, hb⟩
    have B5 := Lib.hid (wk_then B4.out hb B4.out.size)
    have X5 := Lib.hid ((hb.block _ (Qt.lt_of' X4.out)).trans X4.out)
    have Z5 := Lib.hid ((hb.block _ (Qt.lt_of' Z4.out)).trans Z4.out)
    have O5 := Lib.hid (O4.out.below hb)
    have N5 := Lib.hid (N4.out.below hb)
    clear hb A4 X4 Y4 Z4 B4 O4 N4 c0 c1 c2 c3 c4 c5 c6 c7 c8 c9 c10
    have done : ∀ x : Int, ¬ x = 0 → (x == 0) = false ∧ (x != 0) = true := fun x h => ⟨by simpa using h, by simpa using h⟩
    by_cases h1 : o1 = 0
    · by_cases h2 : o2 = 0
      · by_cases h3 : k1 = 0
        · by_cases h4 : k2 = 0
          · obtain ⟨h5, h6, hi3, hi4⟩ := HH.out h3 h4 h1 h2
            have HF2 := Lib.hid (fun f c g d => HF.out f c g d h3 h1)
            subst h1 h2 h3 h4 h5 h6 hi3 hi4
            clear done HH HF
            obtain ⟨c0, c1, c2, c3, c4, c5, c6, c7, c8, c9⟩ := Wp.ten_of Z5.out
            go_wp2_with fail
            refine (A5.out _ _ _ B5.out O5.out).mono ?_
            rintro e w6 ⟨rfl, hb⟩
            have B6 := Lib.hid (wk_then B5.out hb B5.out.size)
            have X6 := Lib.hid ((hb.block _ (Qt.lt_of' X5.out)).trans X5.out)
            have Z6 := Lib.hid ((hb.block _ (Qt.lt_of' Z5.out)).trans Z5.out)
            have O6 := Lib.hid (O5.out.below hb)
            have N6 := Lib.hid (N5.out.below hb)
            clear hb A5 X5 Z5 B5 O5 N5 c0 c1 c2 c3 c4 c5 c6 c7 c8 c9
            obtain ⟨c0, c1, c2, c3, c4, c5, c6, c7, c8, c9⟩ := Wp.ten_of Z6.out
            go_wp2_with fail
            refine (A6.out _ _ _ B6.out N6.out).mono ?_
            rintro e w7 ⟨rfl, hb⟩
            have B7 := Lib.hid (wk_then B6.out hb B6.out.size)
            have X7 := Lib.hid ((hb.block _ (Qt.lt_of' X6.out)).trans X6.out)
            have Z7 := Lib.hid ((hb.block _ (Qt.lt_of' Z6.out)).trans Z6.out)
            have O7 := Lib.hid (O6.out.below hb)
            clear hb A6 X6 Z6 B6 O6 N6 c0 c1 c2 c3 c4 c5 c6 c7 c8 c9
            obtain ⟨c0, c1, c2, c3, c4, c5, c6, c7, c8, c9, c10⟩ := Qt.eleven_of X7.out
            go_wp2_with fail
            refine (A7.out _ B7.out).mono ?_
            rintro e w8 ⟨f, kf, rfl, hsf, hb⟩
            have B8 := Lib.hid (wk_then B7.out hb B7.out.size)
            have Z8 := Lib.hid ((hb.block _ (Qt.lt_of' Z7.out)).trans Z7.out)
            have O8 := Lib.hid (O7.out.below hb)
            have HSF := Lib.hid hsf
            clear hb hsf A7 X7 Z7 B7 O7 c0 c1 c2 c3 c4 c5 c6 c7 c8 c9 c10
            obtain ⟨c0, c1, c2, c3, c4, c5, c6, c7, c8, c9⟩ := Wp.ten_of Z8.out
            go_wp2_with fail
            refine (A8.out _ _ _ B8.out O8.out).mono ?_
            rintro e w9 ⟨g, kg, rfl, hsg, hb⟩
            have B9 := Lib.hid (wk_then B8.out hb B8.out.size)
            have HK := Lib.hid (fun h => HF2.out f kf g kg HSF.out hsg h)
            clear hb hsg A8 Z8 B8 O8 HF2 HSF c0 c1 c2 c3 c4 c5 c6 c7 c8 c9
            by_cases hk : kg = 0
            · obtain ⟨hf, hle⟩ := HK.out hk
              subst hk hf
              clear HK
              cases i1 <;> cases i2
              all_goals
                go_wp2_with fail
                go_ret
                exact ⟨rfl, B9.out⟩
            · have hk2 : (kg == 0) = false := by simpa using hk
              have hk3 : (kg != 0) = true := by simpa using hk
              clear hk HK
              cases i1 <;> cases i2
              all_goals
                go_wp2_with fail
                go_ret
                exact ⟨rfl, B9.out⟩
          · obtain ⟨h4b, h4c⟩ := done k2 h4
            subst h1 h2 h3
            clear h4 done HH HF A5 A6 A7 A8
            go_wp2_with fail
            go_ret
            exact ⟨rfl, B5.out⟩
        · obtain ⟨h4b, h4c⟩ := done k1 h3
          subst h1 h2
          clear h3 done HH HF A5 A6 A7 A8
          go_wp2_with fail
          go_ret
          exact ⟨rfl, B5.out⟩
      · obtain ⟨h4b, h4c⟩ := done o2 h2
        subst h1
        clear h2 done HH HF A5 A6 A7 A8
        go_wp2_with fail
        go_ret
        exact ⟨rfl, B5.out⟩
    · obtain ⟨h4b, h4c⟩ := done o1 h1
      clear h1 done HH HF A5 A6 A7 A8
      go_wp2_with fail
      go_ret
      exact ⟨rfl, B5.out⟩
  · have hz : (w1.alloc (.cells #[.int .i64 base, .int .i64 save, .int .i64 fm, .int .i64 fn, .int .i64 fw, .int .i64 fi, .int .i64 tm, .int .i64 tn, .int .i64 tw, .int .i64 ti, .slice q n2 d] 28)).heap.size = w1.heap.size + 1 := World.size_alloc _ _
    have YW : (((w1.alloc (.cells #[.int .i64 base, .int .i64 save, .int .i64 fm, .int .i64 fn, .int .i64 fw, .int .i64 fi, .int .i64 tm, .int .i64 tn, .int .i64 tw, .int .i64 ti, .slice q n2 d] 28)).alloc (.cells #[.int .i64 base, .int .i64 save, .int .i64 fm, .int .i64 fn, .int .i64 fw, .int .i64 fi, .int .i64 tm, .int .i64 tn, .int .i64 tw, .int .i64 ti, .slice p n1 c] 28)).drew).heap[w1.heap.size]? = some (.cells #[.int .i64 base, .int .i64 save, .int .i64 fm, .int .i64 fn, .int .i64 fw, .int .i64 fi, .int .i64 tm, .int .i64 tn, .int .i64 tw, .int .i64 ti, .slice q n2 d] 28) := (wk_past (w1.alloc (.cells #[.int .i64 base, .int .i64 save, .int .i64 fm, .int .i64 fn, .int .i64 fw, .int .i64 fi, .int .i64 tm, .int .i64 tn, .int .i64 tw, .int .i64 ti, .slice q n2 d] 28)) (.cells #[.int .i64 base, .int .i64 save, .int .i64 fm, .int .i64 fn, .int .i64 fw, .int .i64 fi, .int .i64 tm, .int .i64 tn, .int .i64 tw, .int .i64 ti, .slice p n1 c] 28) w1.heap.size (by omega)).trans (wk_new w1 (.cells #[.int .i64 base, .int .i64 save, .int .i64 fm, .int .i64 fn, .int .i64 fw, .int .i64 fi, .int .i64 tm, .int .i64 tn, .int .i64 tw, .int .i64 ti, .slice q n2 d] 28))
    have XW : (((w1.alloc (.cells #[.int .i64 base, .int .i64 save, .int .i64 fm, .int .i64 fn, .int .i64 fw, .int .i64 fi, .int .i64 tm, .int .i64 tn, .int .i64 tw, .int .i64 ti, .slice q n2 d] 28)).alloc (.cells #[.int .i64 base, .int .i64 save, .int .i64 fm, .int .i64 fn, .int .i64 fw, .int .i64 fi, .int .i64 tm, .int .i64 tn, .int .i64 tw, .int .i64 ti, .slice p n1 c] 28)).drew).heap[w1.heap.size + 1]? = some (.cells #[.int .i64 base, .int .i64 save, .int .i64 fm, .int .i64 fn, .int .i64 fw, .int .i64 fi, .int .i64 tm, .int .i64 tn, .int .i64 tw, .int .i64 ti, .slice p n1 c] 28) := by rw [← hz]; exact wk_new (w1.alloc (.cells #[.int .i64 base, .int .i64 save, .int .i64 fm, .int .i64 fn, .int .i64 fw, .int .i64 fi, .int .i64 tm, .int .i64 tn, .int .i64 tw, .int .i64 ti, .slice q n2 d] 28)) (.cells #[.int .i64 base, .int .i64 save, .int .i64 fm, .int .i64 fn, .int .i64 fw, .int .i64 fi, .int .i64 tm, .int .i64 tn, .int .i64 tw, .int .i64 ti, .slice p n1 c] 28)
    have hbw : Below w1.heap.size w1 (((w1.alloc (.cells #[.int .i64 base, .int .i64 save, .int .i64 fm, .int .i64 fn, .int .i64 fw, .int .i64 fi, .int .i64 tm, .int .i64 tn, .int .i64 tw, .int .i64 ti, .slice q n2 d] 28)).alloc (.cells #[.int .i64 base, .int .i64 save, .int .i64 fm, .int .i64 fn, .int .i64 fw, .int .i64 fi, .int .i64 tm, .int .i64 tn, .int .i64 tw, .int .i64 ti, .slice p n1 c] 28)).drew) := ((wk_box w1 (.cells #[.int .i64 base, .int .i64 save, .int .i64 fm, .int .i64 fn, .int .i64 fw, .int .i64 fi, .int .i64 tm, .int .i64 tn, .int .i64 tw, .int .i64 ti, .slice q n2 d] 28)).trans ((wk_box (w1.alloc (.cells #[.int .i64 base, .int .i64 save, .int .i64 fm, .int .i64 fn, .int .i64 fw, .int .i64 fi, .int .i64 tm, .int .i64 tn, .int .i64 tw, .int .i64 ti, .slice q n2 d] 28)) (.cells #[.int .i64 base, .int .i64 save, .int .i64 fm, .int .i64 fn, .int .i64 fw, .int .i64 fi, .int .i64 tm, .int .i64 tn, .int .i64 tw, .int .i64 ti, .slice p n1 c] 28)).mono (by omega))).drew
    have BW := wk_then B1.out hbw B1.out.size
    have ZW := (hbw.block w.heap.size (Qt.lt_of' X1.out)).trans X1.out
    generalize (((w1.alloc (.cells #[.int .i64 base, .int .i64 save, .int .i64 fm, .int .i64 fn, .int .i64 fw, .int .i64 fi, .int .i64 tm, .int .i64 tn, .int .i64 tw, .int .i64 ti, .slice q n2 d] 28)).alloc (.cells #[.int .i64 base, .int .i64 save, .int .i64 fm, .int .i64 fn, .int .i64 fw, .int .i64 fi, .int .i64 tm, .int .i64 tn, .int .i64 tw, .int .i64 ti, .slice p n1 c] 28)).drew) = W at *
    clear hbw hz n0 X1 B1 c0 c1 c2 c3 c4 c5 c6 c7 c8 c9
    generalize w1.heap.size + 1 = g2 at *
    generalize w1.heap.size = g1 at *
    clear w1
    have XW := Lib.hid XW
    have YW := Lib.hid YW
    have BW := Lib.hid BW
    have ZW := Lib.hid ZW
    obtain ⟨c0, c1, c2, c3, c4, c5, c6, c7, c8, c9, c10⟩ := Qt.eleven_of XW.out
    go_wp2_with fail
    refine (A1.out _ BW.out).mono ?_
    rintro e w2 ⟨p1, e1, rfl, hO, hb⟩
    have B2 := Lib.hid (wk_then BW.out hb BW.out.size)
    have X2 := Lib.hid ((hb.block _ (Qt.lt_of' XW.out)).trans XW.out)
    have Z2 := Lib.hid ((hb.block _ (Qt.lt_of' ZW.out)).trans ZW.out)
    have Y2 := Lib.hid ((hb.block _ (Qt.lt_of' YW.out)).trans YW.out)
    have O2 := Lib.hid hO
    clear hb hO A1 XW YW ZW BW c0 c1 c2 c3 c4 c5 c6 c7 c8 c9 c10
    go_wp2_with fail
    refine (A2.out _ B2.out).mono ?_
    rintro e w3 ⟨p2, e2, rfl, hO, hb⟩
    have B3 := Lib.hid (wk_then B2.out hb B2.out.size)
    have X3 := Lib.hid ((hb.block _ (Qt.lt_of' X2.out)).trans X2.out)
    have Z3 := Lib.hid ((hb.block _ (Qt.lt_of' Z2.out)).trans Z2.out)
    have Y3 := Lib.hid ((hb.block _ (Qt.lt_of' Y2.out)).trans Y2.out)
    have O3 := Lib.hid (O2.out.below hb)
    have N3 := Lib.hid hO
    clear hb hO A2 X2 Y2 Z2 B2 O2
    obtain ⟨c0, c1, c2, c3, c4, c5, c6, c7, c8, c9, c10⟩ := Qt.eleven_of X3.out
    go_wp2_with fail
    refine (A3.out _ B3.out).mono ?_
    rintro e w4 ⟨rfl, hb⟩
    have B4 := Lib.hid (wk_then B3.out hb B3.out.size)
    have X4 := Lib.hid ((hb.block _ (Qt.lt_of' X3.out)).trans X3.out)
    have Z4 := Lib.hid ((hb.block _ (Qt.lt_of' Z3.out)).trans Z3.out)
    have Y4 := Lib.hid ((hb.block _ (Qt.lt_of' Y3.out)).trans Y3.out)
    have O4 := Lib.hid (O3.out.below hb)
    have N4 := Lib.hid (N3.out.below hb)
    clear hb A3 X3 Y3 Z3 B3 O3 N3 c0 c1 c2 c3 c4 c5 c6 c7 c8 c9 c10
    obtain ⟨c0, c1, c2, c3, c4, c5, c6, c7, c8, c9, c10⟩ := Qt.eleven_of Y4.out
    go_wp2_with fail
    refine (A4.out _ B4.out).mono ?_
    rintro e w5 ⟨rfl, hb⟩
    have B5 := Lib.hid (wk_then B4.out hb B4.out.size)
    have X5 := Lib.hid ((hb.block _ (Qt.lt_of' X4.out)).trans X4.out)
    have Z5 := Lib.hid ((hb.block _ (Qt.lt_of' Z4.out)).trans Z4.out)
    have O5 := Lib.hid (O4.out.below hb)
    have N5 := Lib.hid (N4.out.below hb)
    clear hb A4 X4 Y4 Z4 B4 O4 N4 c0 c1 c2 c3 c4 c5 c6 c7 c8 c9 c10
    have done : ∀ x : Int, ¬ x = 0 → (x == 0) = false ∧ (x != 0) = true := fun x h => ⟨by simpa using h, by simpa using h⟩
    by_cases h1 : o1 = 0
    · by_cases h2 : o2 = 0
      · by_cases h3 : k1 = 0
        · by_cases h4 : k2 = 0
          · obtain ⟨h5, h6, hi3, hi4⟩ := HH.out h3 h4 h1 h2
            have HF2 := Lib.hid (fun f c g d => HF.out f c g d h3 h1)
            subst h1 h2 h3 h4 h5 h6 hi3 hi4
            clear done HH HF
            obtain ⟨c0, c1, c2, c3, c4, c5, c6, c7, c8, c9⟩ := Wp.ten_of Z5.out
            go_wp2_with fail
            refine (A5.out _ _ _ B5.out O5.out).mono ?_
            rintro e w6 ⟨rfl, hb⟩
            have B6 := Lib.hid (wk_then B5.out hb B5.out.size)
            have X6 := Lib.hid ((hb.block _ (Qt.lt_of' X5.out)).trans X5.out)
            have Z6 := Lib.hid ((hb.block _ (Qt.lt_of' Z5.out)).trans Z5.out)
            have O6 := Lib.hid (O5.out.below hb)
            have N6 := Lib.hid (N5.out.below hb)
            clear hb A5 X5 Z5 B5 O5 N5 c0 c1 c2 c3 c4 c5 c6 c7 c8 c9
            obtain ⟨c0, c1, c2, c3, c4, c5, c6, c7, c8, c9⟩ := Wp.ten_of Z6.out
            go_wp2_with fail
            refine (A6.out _ _ _ B6.out N6.out).mono ?_
            rintro e w7 ⟨rfl, hb⟩
            have B7 := Lib.hid (wk_then B6.out hb B6.out.size)
            have X7 := Lib.hid ((hb.block _ (Qt.lt_of' X6.out)).trans X6.out)
            have Z7 := Lib.hid ((hb.block _ (Qt.lt_of' Z6.out)).trans Z6.out)
            have O7 := Lib.hid (O6.out.below hb)
            clear hb A6 X6 Z6 B6 O6 N6 c0 c1 c2 c3 c4 c5 c6 c7 c8 c9
            obtain ⟨c0, c1, c2, c3, c4, c5, c6, c7, c8, c9, c10⟩ := Qt.eleven_of X7.out
            go_wp2_with fail
            refine (A7.out _ B7.out).mono ?_
            rintro e w8 ⟨f, kf, rfl, hsf, hb⟩
            have B8 := Lib.hid (wk_then B7.out hb B7.out.size)
            have Z8 := Lib.hid ((hb.block _ (Qt.lt_of' Z7.out)).trans Z7.out)
            have O8 := Lib.hid (O7.out.below hb)
            have HSF := Lib.hid hsf
            clear hb hsf A7 X7 Z7 B7 O7 c0 c1 c2 c3 c4 c5 c6 c7 c8 c9 c10
            obtain ⟨c0, c1, c2, c3, c4, c5, c6, c7, c8, c9⟩ := Wp.ten_of Z8.out
            go_wp2_with fail
            refine (A8.out _ _ _ B8.out O8.out).mono ?_
            rintro e w9 ⟨g, kg, rfl, hsg, hb⟩
            have B9 := Lib.hid (wk_then B8.out hb B8.out.size)
            have HK := Lib.hid (fun h => HF2.out f kf g kg HSF.out hsg h)
            clear hb hsg A8 Z8 B8 O8 HF2 HSF c0 c1 c2 c3 c4 c5 c6 c7 c8 c9
            by_cases hk : kg = 0
            · obtain ⟨hf, hle⟩ := HK.out hk
              subst hk hf
              clear HK
              cases i1 <;> cases i2
              all_goals
                go_wp2_with fail
                go_ret
                exact ⟨rfl, B9.out⟩
            · have hk2 : (kg == 0) = false := by simpa using hk
              have hk3 : (kg != 0) = true := by simpa using hk
              clear hk HK
              cases i1 <;> cases i2
              all_goals
                go_wp2_with fail
                go_ret
                exact ⟨rfl, B9.out⟩
          · obtain ⟨h4b, h4c⟩ := done k2 h4
            subst h1 h2 h3
            clear h4 done HH HF A5 A6 A7 A8
            go_wp2_with fail
            go_ret
            exact ⟨rfl, B5.out⟩
        · obtain ⟨h4b, h4c⟩ := done k1 h3
          subst h1 h2
          clear h3 done HH HF A5 A6 A7 A8
          go_wp2_with fail
          go_ret
          exact ⟨rfl, B5.out⟩
      · obtain ⟨h4b, h4c⟩ := done o2 h2
        subst h1
        clear h2 done HH HF A5 A6 A7 A8
        go_wp2_with fail
        go_ret
        exact ⟨rfl, B5.out⟩
    · obtain ⟨h4b, h4c⟩ := done o1 h1
      clear h1 done HH HF A5 A6 A7 A8
      go_wp2_with fail
      go_ret
      exact ⟨rfl, B5.out⟩
end Go.Proofs.YtpaleljnkejdgaaGreatDoor
