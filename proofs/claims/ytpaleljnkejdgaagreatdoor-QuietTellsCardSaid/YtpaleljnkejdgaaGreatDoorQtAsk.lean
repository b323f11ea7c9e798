/-
  The walks of quiet's In, Free, Busy and Longest. Conditions: the calendar's table reads as it is laid; the week's list is of a size that a machine holds.
-/
import Derived.Test.YtpaleljnkejdgaaGreatDoorQtSearch
namespace Go.Proofs.YtpaleljnkejdgaaGreatDoor
open Go.RowKit Go.Lib Go.Shelf

/-- What In tells. -/
noncomputable def Qt.inB (z : Wp.Zn) (l : List (Int × Int)) (t : Int) : Bool := if Qt.chk2 z l t = 0 then Qt.at_ z l t else false
set_option maxHeartbeats 2000000 in
set_option maxRecDepth 100000 in
theorem qt_In (z : Wp.Zn) (l : List (Int × Int)) (p : Option Addr) (c : Nat) (t : Int) (w : World) (hL : Cv.Laid w) (hA : Wk.At w p l) (hn : l.length ≤ 140737488351232) :
    Calls Tryz.prog 6 #[.agg (Qt.hC z p l.length c), .int .i64 t] w fun e w' => e = .returned (.tuple #[.bool (Qt.inB z l t), .int .i64 (Qt.chk2 z l t)]) ∧ Below w.heap.size w w' := by
  have A1 := Lib.hid (fun w1 (h : Below w.heap.size w w1) => qt_check z l p c t w1 (hA.below h) hn)
  have HI := Lib.hid (show Qt.inB z l t = if Qt.chk2 z l t = 0 then Qt.at_ z l t else false from rfl)
  by_cases hc : Qt.chk2 z l t = 0
  · obtain ⟨hz, ho, ht⟩ := Qt.chk2_ok hc
    have A2 := Lib.hid (fun w1 (h : Below w.heap.size w w1) => qt_minute z p l.length c t w1 (hL.below h) hz ht)
    have A3 := Lib.hid (fun k w1 (h : Below w.heap.size w w1) => wk_Has l p c k w1 (hA.below h) hn)
    have HI2 := Lib.hid (HI.out.trans (if_pos hc))
    have HAt := Lib.hid (show Qt.at_ z l t = (Wp.isT (Qt.loc z t) && Wk.has l (Wp.weekD (Qt.loc z t))) from rfl)
    have HW := Lib.hid (show Wp.isT (Qt.loc z t) = true → (Wp.weekR (Qt.loc z t)).1 = Wp.weekD (Qt.loc z t) from fun h => by unfold Wp.weekR; rw [if_pos h])
    have HH := Lib.hid (show Wk.hasB l (Wp.weekD (Qt.loc z t)) = Wk.has l (Wp.weekD (Qt.loc z t)) ∧ Wk.chk2 l (Wp.weekD (Qt.loc z t)) = 0 from ⟨Wk.hasB_ok ho (Qt.weekD_bd _), Wk.chk2_mk ho (Qt.weekD_bd _)⟩)
    rw [hc] at A1 ⊢
    clear hc hz ho ht HI hL hA hn
    generalize Qt.inB z l t = R at *
    generalize Qt.at_ z l t = R2 at *
    generalize Wp.weekD (Qt.loc z t) = k at *
    generalize (Wp.weekR (Qt.loc z t)).1 = k1 at *
    generalize Wp.isT (Qt.loc z t) = ok at *
    cases ok with
    | false =>
      have HR := Lib.hid (show R = false by rw [HI2.out, HAt.out]; rfl)
      clear HW HH HAt HI2 A3
      generalize l.length = n at *
      unfold Qt.hC at A1 A2 ⊢
      obtain ⟨base, save, ⟨fm, fn, fw, fi⟩, ⟨tm, tn, tw, ti⟩⟩ := z
      unfold Wp.zoneC at A1 A2 ⊢
      simp only [List.push_toArray, List.cons_append, List.nil_append] at A1 A2 ⊢
      have X0 := Lib.hid (wk_new w (.cells #[.int .i64 base, .int .i64 save, .int .i64 fm, .int .i64 fn, .int .i64 fw, .int .i64 fi, .int .i64 tm, .int .i64 tn, .int .i64 tw, .int .i64 ti, .slice p n c] 28))
      have B0 := Lib.hid (wk_box w (.cells #[.int .i64 base, .int .i64 save, .int .i64 fm, .int .i64 fn, .int .i64 fw, .int .i64 fi, .int .i64 tm, .int .i64 tn, .int .i64 tw, .int .i64 ti, .slice p n c] 28))
      go_enter Tryz.func6, Tryz.ntmps6
      go_wp2_with fail
      refine (A1.out _ B0.out).mono ?_
      rintro e w1 ⟨rfl, hb⟩
      have B1 := Lib.hid (wk_then B0.out hb B0.out.size)
      have X1 := Lib.hid ((hb.block w.heap.size (Qt.lt_of X0.out)).trans X0.out)
      clear hb
      obtain ⟨c0, c1, c2, c3, c4, c5, c6, c7, c8, c9, c10⟩ := Qt.eleven_of X1.out
      go_wp2_with fail
      refine (A2.out _ B1.out).mono ?_
      rintro e w2 ⟨rfl, hb⟩
      have B2 := Lib.hid (wk_then B1.out hb B1.out.size)
      clear hb
      go_wp2_with fail
      go_ret2
      exact ⟨by rw [HR.out]; rfl, B2.out⟩
    | true =>
      have A4 := Lib.hid (A3.out k)
      rw [HW.out rfl] at A2
      have HR := Lib.hid (show R = Wk.hasB l k by rw [HI2.out, HAt.out, HH.out.1]; rfl)
      rw [HH.out.2] at A4
      clear HW HH HAt HI2 A3
      generalize Wk.hasB l k = hh at *
      generalize l.length = n at *
      unfold Qt.hC at A1 A2 ⊢
      obtain ⟨base, save, ⟨fm, fn, fw, fi⟩, ⟨tm, tn, tw, ti⟩⟩ := z
      unfold Wp.zoneC at A1 A2 ⊢
      simp only [List.push_toArray, List.cons_append, List.nil_append] at A1 A2 ⊢
      have X0 := Lib.hid (wk_new w (.cells #[.int .i64 base, .int .i64 save, .int .i64 fm, .int .i64 fn, .int .i64 fw, .int .i64 fi, .int .i64 tm, .int .i64 tn, .int .i64 tw, .int .i64 ti, .slice p n c] 28))
      have B0 := Lib.hid (wk_box w (.cells #[.int .i64 base, .int .i64 save, .int .i64 fm, .int .i64 fn, .int .i64 fw, .int .i64 fi, .int .i64 tm, .int .i64 tn, .int .i64 tw, .int .i64 ti, .slice p n c] 28))
      go_enter Tryz.func6, Tryz.ntmps6
      go_wp2_with fail
      refine (A1.out _ B0.out).mono ?_
      rintro e w1 ⟨rfl, hb⟩
      have B1 := Lib.hid (wk_then B0.out hb B0.out.size)
      have X1 := Lib.hid ((hb.block w.heap.size (Qt.lt_of X0.out)).trans X0.out)
      clear hb
      obtain ⟨c0, c1, c2, c3, c4, c5, c6, c7, c8, c9, c10⟩ := Qt.eleven_of X1.out
      go_wp2_with fail
      refine (A2.out _ B1.out).mono ?_
      rintro e w2 ⟨rfl, hb⟩
      have B2 := Lib.hid (wk_then B1.out hb B1.out.size)
      have X2 := Lib.hid ((hb.block w.heap.size (Qt.lt_of X1.out)).trans X1.out)
      clear hb
      clear c0 c1 c2 c3 c4 c5 c6 c7 c8 c9 c10
      obtain ⟨c0, c1, c2, c3, c4, c5, c6, c7, c8, c9, c10⟩ := Qt.eleven_of X2.out
      go_wp2_with fail
      refine (A4.out _ B2.out).mono ?_
      rintro e w3 ⟨rfl, hb⟩
      have B3 := Lib.hid (wk_then B2.out hb B2.out.size)
      clear hb
      go_wp2_with fail
      go_ret2
      exact ⟨by rw [HR.out]; rfl, B3.out⟩
  · have HI2 := Lib.hid (HI.out.trans (if_neg hc))
    have hc2 : (Qt.chk2 z l t != 0) = true := by simpa using hc
    clear hc HI hL hA hn
    generalize Qt.inB z l t = R at *
    generalize Qt.chk2 z l t = r at *
    generalize l.length = n at *
    unfold Qt.hC at A1 ⊢
    obtain ⟨base, save, ⟨fm, fn, fw, fi⟩, ⟨tm, tn, tw, ti⟩⟩ := z
    unfold Wp.zoneC at A1 ⊢
    simp only [List.push_toArray, List.cons_append, List.nil_append] at A1 ⊢
    have X0 := Lib.hid (wk_new w (.cells #[.int .i64 base, .int .i64 save, .int .i64 fm, .int .i64 fn, .int .i64 fw, .int .i64 fi, .int .i64 tm, .int .i64 tn, .int .i64 tw, .int .i64 ti, .slice p n c] 28))
    have B0 := Lib.hid (wk_box w (.cells #[.int .i64 base, .int .i64 save, .int .i64 fm, .int .i64 fn, .int .i64 fw, .int .i64 fi, .int .i64 tm, .int .i64 tn, .int .i64 tw, .int .i64 ti, .slice p n c] 28))
    go_enter Tryz.func6, Tryz.ntmps6
    go_wp2_with fail
    refine (A1.out _ B0.out).mono ?_
    rintro e w1 ⟨rfl, hb⟩
    have B1 := Lib.hid (wk_then B0.out hb B0.out.size)
    clear hb
    go_wp2_with fail
    go_ret2
    exact ⟨by rw [HI2.out]; rfl, B1.out⟩
/-- What Free and Busy tell. -/
def Qt.SrQ (z : Wp.Zn) (l : List (Int × Int)) (t : Int) (b : Bool) (r c : Int) : Prop := (Qt.chk2 z l t ≠ 0 ∧ r = 0 ∧ c = Qt.chk2 z l t) ∨ (Qt.chk2 z l t = 0 ∧ Wk.nextV l b = [] ∧ r = 0 ∧ c = 3) ∨ (Qt.chk2 z l t = 0 ∧ Wk.nextV l b ≠ [] ∧ Qt.Sr z l t b r c)
def Qt.SrQPost (z : Wp.Zn) (l : List (Int × Int)) (t : Int) (b : Bool) (w : World) (e : Ending) (w' : World) : Prop := ∃ r c, e = .returned (.tuple #[.int .i64 r, .int .i64 c]) ∧ Qt.SrQ z l t b r c ∧ Below w.heap.size w w'
set_option maxHeartbeats 2000000 in
set_option maxRecDepth 100000 in
theorem qt_search (z : Wp.Zn) (l : List (Int × Int)) (p : Option Addr) (c : Nat) (t : Int) (b : Bool) (w : World) (hL : Cv.Laid w) (hA : Wk.At w p l) (hn : l.length ≤ 140737488351232) :
    Calls Tryz.prog 26 #[.agg (Qt.hC z p l.length c), .int .i64 t, .bool b] w (Qt.SrQPost z l t b w) := by
  have A1 := Lib.hid (fun w1 (h : Below w.heap.size w w1) => qt_check z l p c t w1 (hA.below h) hn)
  by_cases hc : Qt.chk2 z l t = 0
  · obtain ⟨hz, ho, ht⟩ := Qt.chk2_ok hc
    have A2 := Lib.hid (fun w1 (h : Below w.heap.size w w1) => wk_Next l p c 0 b w1 (hA.below h) hn)
    have c0 := Wk.chk2_mk ho (show Wk.Min 0 from ⟨by omega, by omega⟩)
    rw [hc] at A1
    by_cases hv : Wk.nextV l b = []
    · rw [show Wk.nextN l 0 b = 0 by unfold Wk.nextN; rw [if_pos c0, if_pos hv], show Wk.nextC l 0 b = 3 by unfold Wk.nextC; rw [if_pos c0, if_pos hv]] at A2
      have HP := Lib.hid (show Qt.SrQ z l t b 0 3 from Or.inr (Or.inl ⟨hc, hv, rfl, rfl⟩))
      have HQ := Lib.hid (show ∀ w', Below w.heap.size w w' → Qt.SrQPost z l t b w (.returned (.tuple #[.int .i64 0, .int .i64 3])) w' from fun w' hb => ⟨0, 3, rfl, HP.out, hb⟩)
      clear hc hz ho ht hv c0 hL hA hn HP
      generalize l.length = n at *
      unfold Qt.hC at A1 ⊢
      obtain ⟨base, save, ⟨fm, fn, fw, fi⟩, ⟨tm, tn, tw, ti⟩⟩ := z
      unfold Wp.zoneC at A1 ⊢
      simp only [List.push_toArray, List.cons_append, List.nil_append] at A1 ⊢
      have X0 := Lib.hid (wk_new w (.cells #[.int .i64 base, .int .i64 save, .int .i64 fm, .int .i64 fn, .int .i64 fw, .int .i64 fi, .int .i64 tm, .int .i64 tn, .int .i64 tw, .int .i64 ti, .slice p n c] 28))
      have B0 := Lib.hid (wk_box w (.cells #[.int .i64 base, .int .i64 save, .int .i64 fm, .int .i64 fn, .int .i64 fw, .int .i64 fi, .int .i64 tm, .int .i64 tn, .int .i64 tw, .int .i64 ti, .slice p n c] 28))
      go_enter Tryz.func26, Tryz.ntmps26
      go_wp2_with fail
      refine (A1.out _ B0.out).mono ?_
      rintro e w1 ⟨rfl, hb⟩
      have B1 := Lib.hid (wk_then B0.out hb B0.out.size)
      have X1 := Lib.hid ((hb.block w.heap.size (Qt.lt_of X0.out)).trans X0.out)
      clear hb
      obtain ⟨c0, c1, c2, c3, c4, c5, c6, c7, c8, c9, c10⟩ := Qt.eleven_of X1.out
      go_wp2_with fail
      refine (A2.out _ B1.out).mono ?_
      rintro e w2 ⟨rfl, hb⟩
      have B2 := Lib.hid (wk_then B1.out hb B1.out.size)
      clear hb
      go_wp2_with fail
      go_ret2
      exact HQ.out _ B2.out
    · have A3 := Lib.hid (fun w1 (h : Below w.heap.size w w1) => qt_hsearch z l p c t b w1 (hL.below h) (hA.below h) hz ho ht hv)
      rw [show Wk.nextC l 0 b = 0 by unfold Wk.nextC; rw [if_pos c0, if_neg hv]] at A2
      generalize Wk.nextN l 0 b = N at *
      have HQ := Lib.hid (show ∀ r c, Qt.Sr z l t b r c → ∀ w', Below w.heap.size w w' → Qt.SrQPost z l t b w (.returned (.tuple #[.int .i64 r, .int .i64 c])) w' from fun r c h w' hb => ⟨r, c, rfl, Or.inr (Or.inr ⟨hc, hv, h⟩), hb⟩)
      have A4 := Lib.hid (show ∀ w1, Below w.heap.size w w1 → Calls Tryz.prog 49 #[.agg (Qt.hC z p l.length c), .int .i64 t, .bool b] w1 (fun e w' => ∃ r c, e = .returned (.tuple #[.int .i64 r, .int .i64 c]) ∧ Qt.Sr z l t b r c ∧ Below w1.heap.size w1 w') from fun w1 h => A3.out w1 h)
      generalize Qt.Sr z l t b = S at *
      clear hc hz ho ht hv c0 hL hA hn A3
      generalize l.length = n at *
      unfold Qt.hC at A1 A4 ⊢
      obtain ⟨base, save, ⟨fm, fn, fw, fi⟩, ⟨tm, tn, tw, ti⟩⟩ := z
      unfold Wp.zoneC at A1 A4 ⊢
      simp only [List.push_toArray, List.cons_append, List.nil_append] at A1 A4 ⊢
      have X0 := Lib.hid (wk_new w (.cells #[.int .i64 base, .int .i64 save, .int .i64 fm, .int .i64 fn, .int .i64 fw, .int .i64 fi, .int .i64 tm, .int .i64 tn, .int .i64 tw, .int .i64 ti, .slice p n c] 28))
      have B0 := Lib.hid (wk_box w (.cells #[.int .i64 base, .int .i64 save, .int .i64 fm, .int .i64 fn, .int .i64 fw, .int .i64 fi, .int .i64 tm, .int .i64 tn, .int .i64 tw, .int .i64 ti, .slice p n c] 28))
      go_enter Tryz.func26, Tryz.ntmps26
      go_wp2_with fail
      refine (A1.out _ B0.out).mono ?_
      rintro e w1 ⟨rfl, hb⟩
      have B1 := Lib.hid (wk_then B0.out hb B0.out.size)
      have X1 := Lib.hid ((hb.block w.heap.size (Qt.lt_of X0.out)).trans X0.out)
      clear hb
      obtain ⟨c0, c1, c2, c3, c4, c5, c6, c7, c8, c9, c10⟩ := Qt.eleven_of X1.out
      go_wp2_with fail
      refine (A2.out _ B1.out).mono ?_
      rintro e w2 ⟨rfl, hb⟩
      have B2 := Lib.hid (wk_then B1.out hb B1.out.size)
      have X2 := Lib.hid ((hb.block w.heap.size (Qt.lt_of X1.out)).trans X1.out)
      clear hb
      clear c0 c1 c2 c3 c4 c5 c6 c7 c8 c9 c10
      obtain ⟨c0, c1, c2, c3, c4, c5, c6, c7, c8, c9, c10⟩ := Qt.eleven_of X2.out
      go_wp2_with fail
      refine (A4.out _ B2.out).mono ?_
      rintro e w3 ⟨r3, c3, rfl, hs, hb⟩
      have HS := Lib.hid hs
      have B3 := Lib.hid (wk_then B2.out hb B2.out.size)
      clear hb hs
      go_wp2_with fail
      go_ret2
      exact HQ.out _ _ HS.out _ B3.out
  · have HQ := Lib.hid (show ∀ w', Below w.heap.size w w' → Qt.SrQPost z l t b w (.returned (.tuple #[.int .i64 0, .int .i64 (Qt.chk2 z l t)])) w' from fun w' hb => ⟨0, _, rfl, Or.inl ⟨hc, rfl, rfl⟩, hb⟩)
    have hc2 : (Qt.chk2 z l t != 0) = true := by simpa using hc
    generalize Qt.chk2 z l t = r at *
    clear hc hL hA hn
    generalize l.length = n at *
    unfold Qt.hC at A1 ⊢
    obtain ⟨base, save, ⟨fm, fn, fw, fi⟩, ⟨tm, tn, tw, ti⟩⟩ := z
    unfold Wp.zoneC at A1 ⊢
    simp only [List.push_toArray, List.cons_append, List.nil_append] at A1 ⊢
    have X0 := Lib.hid (wk_new w (.cells #[.int .i64 base, .int .i64 save, .int .i64 fm, .int .i64 fn, .int .i64 fw, .int .i64 fi, .int .i64 tm, .int .i64 tn, .int .i64 tw, .int .i64 ti, .slice p n c] 28))
    have B0 := Lib.hid (wk_box w (.cells #[.int .i64 base, .int .i64 save, .int .i64 fm, .int .i64 fn, .int .i64 fw, .int .i64 fi, .int .i64 tm, .int .i64 tn, .int .i64 tw, .int .i64 ti, .slice p n c] 28))
    go_enter Tryz.func26, Tryz.ntmps26
    go_wp2_with fail
    refine (A1.out _ B0.out).mono ?_
    rintro e w1 ⟨rfl, hb⟩
    have B1 := Lib.hid (wk_then B0.out hb B0.out.size)
    clear hb
    go_wp2_with fail
    go_ret2
    exact HQ.out _ B1.out
set_option maxHeartbeats 2000000 in
set_option maxRecDepth 100000 in
theorem qt_Free (z : Wp.Zn) (l : List (Int × Int)) (p : Option Addr) (c : Nat) (t : Int) (w : World) (hL : Cv.Laid w) (hA : Wk.At w p l) (hn : l.length ≤ 140737488351232) :
    Calls Tryz.prog 8 #[.agg (Qt.hC z p l.length c), .int .i64 t] w (Qt.SrQPost z l t false w) := by
  have A4 := Lib.hid (show ∀ w1, Below w.heap.size w w1 → Calls Tryz.prog 26 #[.agg (Qt.hC z p l.length c), .int .i64 t, .bool false] w1 (fun e w' => ∃ r c, e = .returned (.tuple #[.int .i64 r, .int .i64 c]) ∧ Qt.SrQ z l t false r c ∧ Below w1.heap.size w1 w') from fun w1 h => qt_search z l p c t false w1 (hL.below h) (hA.below h) hn)
  have HQ := Lib.hid (show ∀ r c, Qt.SrQ z l t false r c → ∀ w', Below w.heap.size w w' → Qt.SrQPost z l t false w (.returned (.tuple #[.int .i64 r, .int .i64 c])) w' from fun r c h w' hb => ⟨r, c, rfl, h, hb⟩)
  generalize Qt.SrQ z l t false = S at *
  clear hL hA hn
  generalize l.length = n at *
  unfold Qt.hC at A4 ⊢
  obtain ⟨base, save, ⟨fm, fn, fw, fi⟩, ⟨tm, tn, tw, ti⟩⟩ := z
  unfold Wp.zoneC at A4 ⊢
  simp only [List.push_toArray, List.cons_append, List.nil_append] at A4 ⊢
  have X0 := Lib.hid (wk_new w (.cells #[.int .i64 base, .int .i64 save, .int .i64 fm, .int .i64 fn, .int .i64 fw, .int .i64 fi, .int .i64 tm, .int .i64 tn, .int .i64 tw, .int .i64 ti, .slice p n c] 28))
  have B0 := Lib.hid (wk_box w (.cells #[.int .i64 base, .int .i64 save, .int .i64 fm, .int .i64 fn, .int .i64 fw, .int .i64 fi, .int .i64 tm, .int .i64 tn, .int .i64 tw, .int .i64 ti, .slice p n c] 28))
  go_enter Tryz.func8, Tryz.ntmps8
  go_wp2_with fail
  refine (A4.out _ B0.out).mono ?_
  rintro e w3 ⟨r3, c3, rfl, hs, hb⟩
  have HS := Lib.hid hs
  have B3 := Lib.hid (wk_then B0.out hb B0.out.size)
  clear hb hs
  go_wp2_with fail
  go_ret2
  exact HQ.out _ _ HS.out _ B3.out
set_option maxHeartbeats 2000000 in
set_option maxRecDepth 100000 in
theorem qt_Busy (z : Wp.Zn) (l : List (Int × Int)) (p : Option Addr) (c : Nat) (t : Int) (w : World) (hL : Cv.Laid w) (hA : Wk.At w p l) (hn : l.length ≤ 140737488351232) :
    Calls Tryz.prog 10 #[.agg (Qt.hC z p l.length c), .int .i64 t] w (Qt.SrQPost z l t true w) := by
  have A4 := Lib.hid (show ∀ w1, Below w.heap.size w w1 → Calls Tryz.prog 26 #[.agg (Qt.hC z p l.length c), .int .i64 t, .bool true] w1 (fun e w' => ∃ r c, e = .returned (.tuple #[.int .i64 r, .int .i64 c]) ∧ Qt.SrQ z l t true r c ∧ Below w1.heap.size w1 w') from fun w1 h => qt_search z l p c t true w1 (hL.below h) (hA.below h) hn)
  have HQ := Lib.hid (show ∀ r c, Qt.SrQ z l t true r c → ∀ w', Below w.heap.size w w' → Qt.SrQPost z l t true w (.returned (.tuple #[.int .i64 r, .int .i64 c])) w' from fun r c h w' hb => ⟨r, c, rfl, h, hb⟩)
  generalize Qt.SrQ z l t true = S at *
  clear hL hA hn
  generalize l.length = n at *
  unfold Qt.hC at A4 ⊢
  obtain ⟨base, save, ⟨fm, fn, fw, fi⟩, ⟨tm, tn, tw, ti⟩⟩ := z
  unfold Wp.zoneC at A4 ⊢
  simp only [List.push_toArray, List.cons_append, List.nil_append] at A4 ⊢
  have X0 := Lib.hid (wk_new w (.cells #[.int .i64 base, .int .i64 save, .int .i64 fm, .int .i64 fn, .int .i64 fw, .int .i64 fi, .int .i64 tm, .int .i64 tn, .int .i64 tw, .int .i64 ti, .slice p n c] 28))
  have B0 := Lib.hid (wk_box w (.cells #[.int .i64 base, .int .i64 save, .int .i64 fm, .int .i64 fn, .int .i64 fw, .int .i64 fi, .int .i64 tm, .int .i64 tn, .int .i64 tw, .int .i64 ti, .slice p n c] 28))
  go_enter Tryz.func10, Tryz.ntmps10
  go_wp2_with fail
  refine (A4.out _ B0.out).mono ?_
  rintro e w3 ⟨r3, c3, rfl, hs, hb⟩
  have HS := Lib.hid hs
  have B3 := Lib.hid (wk_then B0.out hb B0.out.size)
  clear hb hs
  go_wp2_with fail
  go_ret2
  exact HQ.out _ _ HS.out _ B3.out
/-- What Longest tells. -/
noncomputable def Qt.lonN (z : Wp.Zn) (l : List (Int × Int)) : Int := if Qt.chk z l = 0 then (if Wk.sum l = 10080 then 0 else 2 * Wk.sum l * 60) else 0
noncomputable def Qt.lonC (z : Wp.Zn) (l : List (Int × Int)) : Int := if Qt.chk z l = 0 then (if Wk.sum l = 10080 then 3 else 0) else 2
set_option maxHeartbeats 2000000 in
set_option maxRecDepth 100000 in
theorem qt_Longest (z : Wp.Zn) (l : List (Int × Int)) (p : Option Addr) (c : Nat) (w : World) (hA : Wk.At w p l) (hn : l.length ≤ 140737488351232) :
    Calls Tryz.prog 12 #[.agg (Qt.hC z p l.length c)] w fun e w' => e = .returned (.tuple #[.int .i64 (Qt.lonN z l), .int .i64 (Qt.lonC z l)]) ∧ Below w.heap.size w w' := by
  have A1 := Lib.hid (fun w1 (h : Below w.heap.size w w1) => qt_Check z l p c w1 (hA.below h) hn)
  rcases Qt.chk_vals z l with ⟨h1, hz, ho⟩ | h1
  · have A2 := Lib.hid (fun w1 (h : Below w.heap.size w w1) => wk_Sum l p c w1 (hA.below h) hn)
    rw [show Wk.sumR l = Wk.sum l from if_pos ho] at A2
    have HN := Lib.hid (show Qt.lonN z l = if Wk.sum l = 10080 then 0 else 2 * Wk.sum l * 60 from if_pos h1)
    have HC := Lib.hid (show Qt.lonC z l = if Wk.sum l = 10080 then 3 else 0 from if_pos h1)
    obtain ⟨s1, s2⟩ := Wk.sum_bd ho.2 (by omega) (by omega)
    rw [h1] at A1
    clear h1 hz ho hA hn
    generalize Qt.lonN z l = N at *
    generalize Qt.lonC z l = C at *
    generalize Wk.sum l = s at *
    generalize Wk.chk l = ck at *
    by_cases hs : s = 10080
    · have HN2 := Lib.hid (HN.out.trans (if_pos hs))
      have HC2 := Lib.hid (HC.out.trans (if_pos hs))
      subst hs
      generalize l.length = n at *
      unfold Qt.hC at A1 ⊢
      obtain ⟨base, save, ⟨fm, fn, fw, fi⟩, ⟨tm, tn, tw, ti⟩⟩ := z
      unfold Wp.zoneC at A1 ⊢
      simp only [List.push_toArray, List.cons_append, List.nil_append] at A1 ⊢
      have X0 := Lib.hid (wk_new w (.cells #[.int .i64 base, .int .i64 save, .int .i64 fm, .int .i64 fn, .int .i64 fw, .int .i64 fi, .int .i64 tm, .int .i64 tn, .int .i64 tw, .int .i64 ti, .slice p n c] 28))
      have B0 := Lib.hid (wk_box w (.cells #[.int .i64 base, .int .i64 save, .int .i64 fm, .int .i64 fn, .int .i64 fw, .int .i64 fi, .int .i64 tm, .int .i64 tn, .int .i64 tw, .int .i64 ti, .slice p n c] 28))
      go_enter Tryz.func12, Tryz.ntmps12
      go_wp2_with fail
      refine (A1.out _ B0.out).mono ?_
      rintro e w1 ⟨rfl, hb⟩
      have B1 := Lib.hid (wk_then B0.out hb B0.out.size)
      have X1 := Lib.hid ((hb.block w.heap.size (Qt.lt_of X0.out)).trans X0.out)
      clear hb
      obtain ⟨c0, c1, c2, c3, c4, c5, c6, c7, c8, c9, c10⟩ := Qt.eleven_of X1.out
      go_wp2_with fail
      refine (A2.out _ B1.out).mono ?_
      rintro e w2 ⟨rfl, hb⟩
      have B2 := Lib.hid (wk_then B1.out hb B1.out.size)
      clear hb
      go_wp2_with fail
      go_ret2
      exact ⟨by rw [HN2.out, HC2.out]; rfl, B2.out⟩
    · have HN2 := Lib.hid (HN.out.trans (if_neg hs))
      have HC2 := Lib.hid (HC.out.trans (if_neg hs))
      have hs2 : (s == 10080) = false := by simpa using hs
      clear hs
      generalize l.length = n at *
      unfold Qt.hC at A1 ⊢
      obtain ⟨base, save, ⟨fm, fn, fw, fi⟩, ⟨tm, tn, tw, ti⟩⟩ := z
      unfold Wp.zoneC at A1 ⊢
      simp only [List.push_toArray, List.cons_append, List.nil_append] at A1 ⊢
      have X0 := Lib.hid (wk_new w (.cells #[.int .i64 base, .int .i64 save, .int .i64 fm, .int .i64 fn, .int .i64 fw, .int .i64 fi, .int .i64 tm, .int .i64 tn, .int .i64 tw, .int .i64 ti, .slice p n c] 28))
      have B0 := Lib.hid (wk_box w (.cells #[.int .i64 base, .int .i64 save, .int .i64 fm, .int .i64 fn, .int .i64 fw, .int .i64 fi, .int .i64 tm, .int .i64 tn, .int .i64 tw, .int .i64 ti, .slice p n c] 28))
      go_enter Tryz.func12, Tryz.ntmps12
      go_wp2_with fail
      refine (A1.out _ B0.out).mono ?_
      rintro e w1 ⟨rfl, hb⟩
      have B1 := Lib.hid (wk_then B0.out hb B0.out.size)
      have X1 := Lib.hid ((hb.block w.heap.size (Qt.lt_of X0.out)).trans X0.out)
      clear hb
      obtain ⟨c0, c1, c2, c3, c4, c5, c6, c7, c8, c9, c10⟩ := Qt.eleven_of X1.out
      go_wp2_with fail
      refine (A2.out _ B1.out).mono ?_
      rintro e w2 ⟨rfl, hb⟩
      have B2 := Lib.hid (wk_then B1.out hb B1.out.size)
      clear hb
      go_wp2_with fail
      go_ret2
      exact ⟨by rw [HN2.out, HC2.out]; rfl, B2.out⟩
  · rw [h1] at A1
    have HN := Lib.hid (show Qt.lonN z l = 0 from if_neg (by rw [h1]; decide))
    have HC := Lib.hid (show Qt.lonC z l = 2 from if_neg (by rw [h1]; decide))
    clear h1 hA hn
    generalize Qt.lonN z l = N at *
    generalize Qt.lonC z l = C at *
    generalize l.length = n at *
    unfold Qt.hC at A1 ⊢
    obtain ⟨base, save, ⟨fm, fn, fw, fi⟩, ⟨tm, tn, tw, ti⟩⟩ := z
    unfold Wp.zoneC at A1 ⊢
    simp only [List.push_toArray, List.cons_append, List.nil_append] at A1 ⊢
    have X0 := Lib.hid (wk_new w (.cells #[.int .i64 base, .int .i64 save, .int .i64 fm, .int .i64 fn, .int .i64 fw, .int .i64 fi, .int .i64 tm, .int .i64 tn, .int .i64 tw, .int .i64 ti, .slice p n c] 28))
    have B0 := Lib.hid (wk_box w (.cells #[.int .i64 base, .int .i64 save, .int .i64 fm, .int .i64 fn, .int .i64 fw, .int .i64 fi, .int .i64 tm, .int .i64 tn, .int .i64 tw, .int .i64 ti, .slice p n c] 28))
    go_enter Tryz.func12, Tryz.ntmps12
    go_wp2_with fail
    refine (A1.out _ B0.out).mono ?_
    rintro e w1 ⟨rfl, hb⟩
    have B1 := Lib.hid (wk_then B0.out hb B0.out.size)
    clear hb
    go_wp2_with fail
    go_ret2
    exact ⟨by rw [HN.out, HC.out]; rfl, B1.out⟩
end Go.Proofs.YtpaleljnkejdgaaGreatDoor
