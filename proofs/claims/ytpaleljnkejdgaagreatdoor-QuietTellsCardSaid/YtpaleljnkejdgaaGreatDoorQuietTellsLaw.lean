/-
  The law QuietTells: whatever quiet hours are, it is quiet at any time, and free and busy from it on, as the document says. Conditions: the calendar's table reads as it is laid; the week's list is of a size that a machine holds.
-/
import Derived.Test.YtpaleljnkejdgaaGreatDoorRQtFirst
import Derived.Test.YtpaleljnkejdgaaGreatDoorQtLives
import Derived.Deep.RegionHeld3
namespace Go.Proofs.YtpaleljnkejdgaaGreatDoor
open Go.RowKit Go.Lib Go.Shelf

theorem Qt.SrQ.same {z : Wp.Zn} {l : List (Int × Int)} {t : Int} {b : Bool} {r c r' c' : Int} (h : Qt.SrQ z l t b r c) (h' : Qt.SrQ z l t b r' c') : r = r' ∧ c = c' := by
  rcases h with ⟨a1, a2, a3⟩ | ⟨a1, a2, a3, a4⟩ | ⟨a1, a2, a3⟩ <;> rcases h' with ⟨b1, b2, b3⟩ | ⟨b1, b2, b3, b4⟩ | ⟨b1, b2, b3⟩
  · exact ⟨by omega, by omega⟩
  · exact absurd b1 a1
  · exact absurd b1 a1
  · exact absurd a1 b1
  · exact ⟨by omega, by omega⟩
  · exact absurd a2 b2
  · exact absurd a1 b1
  · exact absurd b2 a2
  · exact a3.one b3
set_option maxHeartbeats 8000000 in
set_option maxRecDepth 100000 in
theorem quietTells_law (z : Wp.Zn) (l : List (Int × Int)) (p : Option Addr) (c : Nat) (t : Int) (w : World) (hL : Cv.Laid w) (hA : Wk.At w p l) (hn : l.length ≤ 140737488351232) :
    Calls Tryz.prog 3 #[.agg (Qt.hC z p l.length c), .int .i64 t] w fun e w' => e = .returned (.bool true) ∧ Below w.heap.size w w' := by
  have A0 := Lib.hid (fun w1 (h : Below w.heap.size w w1) => qt_lives w1 (hL.below h))
  have A1 := Lib.hid (fun w1 (h : Below w.heap.size w w1) => qt_In z l p c t w1 (hL.below h) (hA.below h) hn)
  have R1 := Lib.hid (fun w1 (h : Below w.heap.size w w1) => rqt_In z l p c t w1 (hA.below h) hn)
  have A2 := Lib.hid (show ∀ w1, Below w.heap.size w w1 → Calls Tryz.prog 8 #[.agg (Qt.hC z p l.length c), .int .i64 t] w1 (fun e w' => ∃ r k, e = .returned (.tuple #[.int .i64 r, .int .i64 k]) ∧ Qt.SrQ z l t false r k ∧ Below w1.heap.size w1 w') from fun w1 h => qt_Free z l p c t w1 (hL.below h) (hA.below h) hn)
  have R2 := Lib.hid (show ∀ w1, Below w.heap.size w w1 → Calls Tryz.prog 9 #[.agg (Qt.hC z p l.length c), .int .i64 t] w1 (fun e w' => ∃ r k, e = .returned (.tuple #[.int .i64 r, .int .i64 k]) ∧ Qt.SrQ z l t false r k ∧ Below w1.heap.size w1 w') from fun w1 h => rqt_Free z l p c t w1 (hA.below h) hn)
  have A3 := Lib.hid (show ∀ w1, Below w.heap.size w w1 → Calls Tryz.prog 10 #[.agg (Qt.hC z p l.length c), .int .i64 t] w1 (fun e w' => ∃ r k, e = .returned (.tuple #[.int .i64 r, .int .i64 k]) ∧ Qt.SrQ z l t true r k ∧ Below w1.heap.size w1 w') from fun w1 h => qt_Busy z l p c t w1 (hL.below h) (hA.below h) hn)
  have R3 := Lib.hid (show ∀ w1, Below w.heap.size w w1 → Calls Tryz.prog 11 #[.agg (Qt.hC z p l.length c), .int .i64 t] w1 (fun e w' => ∃ r k, e = .returned (.tuple #[.int .i64 r, .int .i64 k]) ∧ Qt.SrQ z l t true r k ∧ Below w1.heap.size w1 w') from fun w1 h => rqt_Busy z l p c t w1 (hA.below h) hn)
  have A4 := Lib.hid (fun w1 (h : Below w.heap.size w w1) => qt_Longest z l p c w1 (hA.below h) hn)
  have R4 := Lib.hid (fun w1 (h : Below w.heap.size w w1) => rqt_Longest z l p c w1 (hA.below h) hn)
  have A5 := Lib.hid (fun w1 (h : Below w.heap.size w w1) => qt_Check z l p c w1 (hA.below h) hn)
  have R5 := Lib.hid (fun w1 (h : Below w.heap.size w w1) => rqt_Check z l p c w1 (hA.below h) hn)
  have HF := Lib.hid (fun r k r' k' (h : Qt.SrQ z l t false r k) (h' : Qt.SrQ z l t false r' k') => h.same h')
  have HB := Lib.hid (fun r k r' k' (h : Qt.SrQ z l t true r k) (h' : Qt.SrQ z l t true r' k') => h.same h')
  clear hL hA hn
  generalize Qt.SrQ z l t false = SF at *
  generalize Qt.SrQ z l t true = SB at *
  generalize Qt.inB z l t = i1 at *
  generalize Qt.chk2 z l t = k1 at *
  generalize Qt.lonN z l = ln at *
  generalize Qt.lonC z l = lc at *
  generalize Qt.chk z l = ck at *
  generalize l.length = n at *
  unfold Qt.hC at A1 A2 A3 A4 A5 R1 R2 R3 R4 R5 ⊢
  obtain ⟨base, save, ⟨fm, fn, fw, fi⟩, ⟨tm, tn, tw, ti⟩⟩ := z
  unfold Wp.zoneC at A1 A2 A3 A4 A5 R1 R2 R3 R4 R5 ⊢
  simp only [List.push_toArray, List.cons_append, List.nil_append] at A1 A2 A3 A4 A5 R1 R2 R3 R4 R5 ⊢
  have X0 := Lib.hid (wk_new w (.cells #[.int .i64 base, .int .i64 save, .int .i64 fm, .int .i64 fn, .int .i64 fw, .int .i64 fi, .int .i64 tm, .int .i64 tn, .int .i64 tw, .int .i64 ti, .slice p n c] 28))
  have B0 := Lib.hid (wk_box w (.cells #[.int .i64 base, .int .i64 save, .int .i64 fm, .int .i64 fn, .int .i64 fw, .int .i64 fi, .int .i64 tm, .int .i64 tn, .int .i64 tw, .int .i64 ti, .slice p n c] 28))
  go_enter Tryz.func3, Tryz.ntmps3
  go_wp2_with fail
  refine (A1.out _ B0.out).mono ?_
  rintro e w1 ⟨rfl, hb⟩
  have B1 := Lib.hid (wk_then B0.out hb B0.out.size)
  have X1 := Lib.hid ((hb.block w.heap.size (Qt.lt_of X0.out)).trans X0.out)
  clear hb A1 B0 X0
  obtain ⟨c0, c1, c2, c3, c4, c5, c6, c7, c8, c9, c10⟩ := Qt.eleven_of X1.out
  go_wp2_with fail
  refine (R1.out _ B1.out).mono ?_
  rintro e w2 ⟨rfl, hb⟩
  have B2 := Lib.hid (wk_then B1.out hb B1.out.size)
  have X2 := Lib.hid ((hb.block w.heap.size (Qt.lt_of X1.out)).trans X1.out)
  clear hb R1 B1 X1 c0 c1 c2 c3 c4 c5 c6 c7 c8 c9 c10
  obtain ⟨c0, c1, c2, c3, c4, c5, c6, c7, c8, c9, c10⟩ := Qt.eleven_of X2.out
  go_wp2_with fail
  refine (A2.out _ B2.out).mono ?_
  rintro e w3 ⟨r3, k3, rfl, hs3, hb⟩
  have B3 := Lib.hid (wk_then B2.out hb B2.out.size)
  have X3 := Lib.hid ((hb.block w.heap.size (Qt.lt_of X2.out)).trans X2.out)
  have HS3 := Lib.hid hs3
  clear hb A2 B2 X2 hs3 c0 c1 c2 c3 c4 c5 c6 c7 c8 c9 c10
  obtain ⟨c0, c1, c2, c3, c4, c5, c6, c7, c8, c9, c10⟩ := Qt.eleven_of X3.out
  go_wp2_with fail
  refine (R2.out _ B3.out).mono ?_
  rintro e w4 ⟨r4, k4, rfl, hs4, hb⟩
  have B4 := Lib.hid (wk_then B3.out hb B3.out.size)
  have X4 := Lib.hid ((hb.block w.heap.size (Qt.lt_of X3.out)).trans X3.out)
  have HS4 := Lib.hid hs4
  clear hb R2 B3 X3 hs4 c0 c1 c2 c3 c4 c5 c6 c7 c8 c9 c10
  obtain ⟨ef1, ef2⟩ := HF.out _ _ _ _ HS3.out HS4.out
  subst ef1 ef2
  clear HF HS3 HS4
  obtain ⟨c0, c1, c2, c3, c4, c5, c6, c7, c8, c9, c10⟩ := Qt.eleven_of X4.out
  go_wp2_with fail
  refine (A3.out _ B4.out).mono ?_
  rintro e w5 ⟨r5, k5, rfl, hs5, hb⟩
  have B5 := Lib.hid (wk_then B4.out hb B4.out.size)
  have X5 := Lib.hid ((hb.block w.heap.size (Qt.lt_of X4.out)).trans X4.out)
  have HS5 := Lib.hid hs5
  clear hb A3 B4 X4 hs5 c0 c1 c2 c3 c4 c5 c6 c7 c8 c9 c10
  obtain ⟨c0, c1, c2, c3, c4, c5, c6, c7, c8, c9, c10⟩ := Qt.eleven_of X5.out
  go_wp2_with fail
  refine (R3.out _ B5.out).mono ?_
  rintro e w6 ⟨r6, k6, rfl, hs6, hb⟩
  have B6 := Lib.hid (wk_then B5.out hb B5.out.size)
  have X6 := Lib.hid ((hb.block w.heap.size (Qt.lt_of X5.out)).trans X5.out)
  have HS6 := Lib.hid hs6
  clear hb R3 B5 X5 hs6 c0 c1 c2 c3 c4 c5 c6 c7 c8 c9 c10
  obtain ⟨eb1, eb2⟩ := HB.out _ _ _ _ HS5.out HS6.out
  subst eb1 eb2
  clear HB HS5 HS6
  obtain ⟨c0, c1, c2, c3, c4, c5, c6, c7, c8, c9, c10⟩ := Qt.eleven_of X6.out
  go_wp2_with fail
  refine (A4.out _ B6.out).mono ?_
  rintro e w7 ⟨rfl, hb⟩
  have B7 := Lib.hid (wk_then B6.out hb B6.out.size)
  have X7 := Lib.hid ((hb.block w.heap.size (Qt.lt_of X6.out)).trans X6.out)
  clear hb A4 B6 X6 c0 c1 c2 c3 c4 c5 c6 c7 c8 c9 c10
  obtain ⟨c0, c1, c2, c3, c4, c5, c6, c7, c8, c9, c10⟩ := Qt.eleven_of X7.out
  go_wp2_with fail
  refine (R4.out _ B7.out).mono ?_
  rintro e w8 ⟨rfl, hb⟩
  have B8 := Lib.hid (wk_then B7.out hb B7.out.size)
  have X8 := Lib.hid ((hb.block w.heap.size (Qt.lt_of X7.out)).trans X7.out)
  clear hb R4 B7 X7 c0 c1 c2 c3 c4 c5 c6 c7 c8 c9 c10
  obtain ⟨c0, c1, c2, c3, c4, c5, c6, c7, c8, c9, c10⟩ := Qt.eleven_of X8.out
  go_wp2_with fail
  have k0 : w.heap.size < w8.heap.size := Qt.lt_of X8.out
  have E0 := Lib.hid (show Below w.heap.size w w8.drew from B8.out.drew)
  go_region_held3 (fun w' => w'.cell? ⟨w.heap.size, 0, none⟩ = some (.int .i64 base) ∧ w'.cell? ⟨w.heap.size, 1, none⟩ = some (.int .i64 save) ∧ w'.cell? ⟨w.heap.size, 2, none⟩ = some (.int .i64 fm) ∧ w'.cell? ⟨w.heap.size, 3, none⟩ = some (.int .i64 fn) ∧ w'.cell? ⟨w.heap.size, 4, none⟩ = some (.int .i64 fw) ∧ w'.cell? ⟨w.heap.size, 5, none⟩ = some (.int .i64 fi) ∧ w'.cell? ⟨w.heap.size, 6, none⟩ = some (.int .i64 tm) ∧ w'.cell? ⟨w.heap.size, 7, none⟩ = some (.int .i64 tn) ∧ w'.cell? ⟨w.heap.size, 8, none⟩ = some (.int .i64 tw) ∧ w'.cell? ⟨w.heap.size, 9, none⟩ = some (.int .i64 ti) ∧ w'.cell? ⟨w.heap.size, 10, none⟩ = some (.slice p n c))
    (first
      | (go_keep; done)
      | (exact ⟨(e7.cell (p := ⟨w.heap.size, 0, none⟩) k0).trans c0, (e7.cell (p := ⟨w.heap.size, 1, none⟩) k0).trans c1, (e7.cell (p := ⟨w.heap.size, 2, none⟩) k0).trans c2, (e7.cell (p := ⟨w.heap.size, 3, none⟩) k0).trans c3, (e7.cell (p := ⟨w.heap.size, 4, none⟩) k0).trans c4, (e7.cell (p := ⟨w.heap.size, 5, none⟩) k0).trans c5, (e7.cell (p := ⟨w.heap.size, 6, none⟩) k0).trans c6, (e7.cell (p := ⟨w.heap.size, 7, none⟩) k0).trans c7, (e7.cell (p := ⟨w.heap.size, 8, none⟩) k0).trans c8, (e7.cell (p := ⟨w.heap.size, 9, none⟩) k0).trans c9, (e7.cell (p := ⟨w.heap.size, 10, none⟩) k0).trans c10⟩))
    (first
      | (go_at_call 14; (with_reducible refine (A0.out _ E0.out).mono ?_); rintro e w9 ⟨rfl, hb9⟩; have e7 : Below w8.heap.size w8 w9 := (Below.refl _ w8).drew.trans hb9)
      | (go_at_call 15; (with_reducible refine (A5.out _ (wk_then B8.out e7 B8.out.size)).mono ?_); rintro e w10 ⟨rfl, hb10⟩; have e8 := e7.trans (hb10.mono e7.size); clear e7; have e7 := e8; clear e8)
      | (go_at_call 16; (with_reducible refine (R5.out _ (wk_then B8.out e7 B8.out.size)).mono ?_); rintro e w11 ⟨rfl, hb11⟩; have e8 := e7.trans (hb11.mono e7.size); clear e7; have e7 := e8; clear e8))
  have B9 := Lib.hid (wk_then B8.out e7 B8.out.size)
  clear c0 c1 c2 c3 c4 c5 c6 c7 c8 c9 c10
  go_wp2_with fail
  go_ret
  exact ⟨rfl, B9.out⟩
end Go.Proofs.YtpaleljnkejdgaaGreatDoor
