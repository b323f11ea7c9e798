/-
  The law QuietSoon: it is free no further away than the longest that it may be quiet. Condition: the calendar's table reads as it is laid; the week's list is of a size that a machine holds.
-/
import Derived.Test.YtmfbplemelodcaaDoorQtLives
import Derived.Test.YtmfbplemelodcaaDoorQtSoon
namespace Go.Proofs.YtmfbplemelodcaaDoor
open Go.RowKit Go.Lib Go.Shelf

theorem Qt.lon_bd (z : Wp.Zn) (l : List (Int × Int)) : 0 ≤ Qt.lonN z l ∧ Qt.lonN z l ≤ 1209600 := by
  unfold Qt.lonN
  rcases Qt.chk_vals z l with ⟨h1, hz, ho⟩ | h1
  · have g := Wk.sum_bd ho.2 (by omega) (by omega)
    have g1 := Wk.gaps_sum (f := 0) (l := l) ho.2 (by omega)
    have g2 := (Wk.sum_bd (Wk.gaps_ch (f := 0) ho.2) (by omega) (by omega)).1
    rw [if_pos h1]
    split <;> omega
  · rw [if_neg (by rw [h1]; decide)]
    omega
set_option maxHeartbeats 4000000 in
set_option maxRecDepth 100000 in
theorem quietSoon_law (z : Wp.Zn) (l : List (Int × Int)) (p : Option Addr) (c : Nat) (t : Int) (w : World) (hL : Cv.Laid w) (hA : Wk.At w p l) (hn : l.length ≤ 140737488351232) :
    Calls Tryd.prog 6 #[.agg (Qt.hC z p l.length c), .int .i64 t] w fun e w' => e = .returned (.bool true) ∧ Below w.heap.size w w' := by
  have A0 := Lib.hid (fun w1 (h : Below w.heap.size w w1) => qt_lives w1 (hL.below h))
  have A1 := Lib.hid (show ∀ w1, Below w.heap.size w w1 → Calls Tryd.prog 22 #[.agg (Qt.hC z p l.length c), .int .i64 t] w1 (fun e w' => ∃ r k, e = .returned (.tuple #[.int .i64 r, .int .i64 k]) ∧ Qt.SrQ z l t false r k ∧ Below w1.heap.size w1 w') from fun w1 h => qt_Free z l p c t w1 (hL.below h) (hA.below h) hn)
  have A2 := Lib.hid (fun w1 (h : Below w.heap.size w w1) => qt_Longest z l p c w1 (hA.below h) hn)
  have HF := Lib.hid (fun f c (h : Qt.SrQ z l t false f c) (hc : c = 0) => h.soon hc)
  obtain ⟨n1, n2⟩ := Qt.lon_bd z l
  clear hL hA hn
  generalize Qt.SrQ z l t false = SF at *
  generalize Qt.lonN z l = N at *
  generalize Qt.lonC z l = C at *
  generalize l.length = n at *
  unfold Qt.hC at A1 A2 ⊢
  obtain ⟨base, save, ⟨fm, fn, fw, fi⟩, ⟨tm, tn, tw, ti⟩⟩ := z
  unfold Wp.zoneC at A1 A2 ⊢
  simp only [List.push_toArray, List.cons_append, List.nil_append] at A1 A2 ⊢
  have X0 := Lib.hid (wk_new w (.cells #[.int .i64 base, .int .i64 save, .int .i64 fm, .int .i64 fn, .int .i64 fw, .int .i64 fi, .int .i64 tm, .int .i64 tn, .int .i64 tw, .int .i64 ti, .slice p n c] 47))
  have B0 := Lib.hid (wk_box w (.cells #[.int .i64 base, .int .i64 save, .int .i64 fm, .int .i64 fn, .int .i64 fw, .int .i64 fi, .int .i64 tm, .int .i64 tn, .int .i64 tw, .int .i64 ti, .slice p n c] 47))
  go_enter Tryd.func6, Tryd.ntmps6
  go_wp2_with fail
  refine (A0.out _ B0.out).mono ?_
  rintro e w1 ⟨rfl, hb⟩
  have B1 := Lib.hid (wk_then B0.out hb B0.out.size)
  have X1 := Lib.hid ((hb.block w.heap.size (Qt.lt_of X0.out)).trans X0.out)
  clear hb A0 B0 X0
  obtain ⟨c0, c1, c2, c3, c4, c5, c6, c7, c8, c9, c10⟩ := Qt.eleven_of X1.out
  go_wp2_with fail
  refine (A1.out _ B1.out).mono ?_
  rintro e w2 ⟨f, k1, rfl, sf, hb⟩
  have B2 := Lib.hid (wk_then B1.out hb B1.out.size)
  have SFh := Lib.hid sf
  have X2 := Lib.hid ((hb.block w.heap.size (Qt.lt_of X1.out)).trans X1.out)
  clear hb A1 sf B1 X1 c0 c1 c2 c3 c4 c5 c6 c7 c8 c9 c10
  obtain ⟨c0, c1, c2, c3, c4, c5, c6, c7, c8, c9, c10⟩ := Qt.eleven_of X2.out
  go_wp2_with fail
  refine (A2.out _ B2.out).mono ?_
  rintro e w3 ⟨rfl, hb⟩
  have B3 := Lib.hid (wk_then B2.out hb B2.out.size)
  clear hb A2 B2 X2 c0 c1 c2 c3 c4 c5 c6 c7 c8 c9 c10
  have HFt := Lib.hid (fun h1 => HF.out f k1 SFh.out h1)
  clear HF SFh
  by_cases h1 : k1 = 0
  · subst h1
    obtain ⟨rfl, ft, tf, fm, hle⟩ := HFt.out rfl
    clear HFt
    go_wp2_with fail
    go_ret
    exact ⟨rfl, B3.out⟩
  · have h1b : (k1 == 0) = false := by simpa using h1
    have h1c : (k1 != 0) = true := by simpa using h1
    clear h1 HFt
    go_wp2_with fail
    go_ret
    exact ⟨rfl, B3.out⟩
end Go.Proofs.YtmfbplemelodcaaDoor
