/-
  The walks of the document's own answer for quiet hours (bellmanref08): whether they are right, whether it is quiet at a time, how long at most. Condition: the week's list is of a size that a machine holds.
-/
import Derived.Test.YtpaleljnkejdgaaGreatDoorRQtMath
import Derived.Test.YtpaleljnkejdgaaGreatDoorRZonTwo
import Derived.Test.YtpaleljnkejdgaaGreatDoorWkRSum
import Derived.Test.YtpaleljnkejdgaaGreatDoorQtAsk
import Derived.Deep.RegionHeld3
namespace Go.Proofs.YtpaleljnkejdgaaGreatDoor
open Go.RowKit Go.Lib Go.Shelf

theorem Qt.chk_two (z : Wp.Zn) (l : List (Int × Int)) : (Wp.chkR z = 0 ∧ Wk.chk l = 0 ∧ Qt.chk z l = 0) ∨ (Wp.chkR z = 0 ∧ Wk.chk l = 2 ∧ Qt.chk z l = 2) ∨ (Wp.chkR z = 2 ∧ Qt.chk z l = 2) := by
  by_cases h1 : Wp.ZnOk z
  · by_cases h2 : Wk.Ok l
    · exact Or.inl ⟨Wp.chkR_ok h1, if_pos h2, Qt.chk_ok h1 h2⟩
    · exact Or.inr (Or.inl ⟨Wp.chkR_ok h1, if_neg h2, Qt.chk_no (fun h => h2 h.2)⟩)
  · exact Or.inr (Or.inr ⟨Wp.chkR_no h1, Qt.chk_no (fun h => h1 h.1)⟩)
set_option maxHeartbeats 4000000 in
set_option maxRecDepth 100000 in
theorem rqt_Check (z : Wp.Zn) (l : List (Int × Int)) (p : Option Addr) (c : Nat) (w : World) (hA : Wk.At w p l) (hn : l.length ≤ 140737488351232) :
    Calls Tryz.prog 16 #[.agg (Qt.hC z p l.length c)] w fun e w' => e = .returned (.int .i64 (Qt.chk z l)) ∧ Below w.heap.size w w' := by
  have A1 := Lib.hid (fun w => rzon_Check z w)
  have A2 := Lib.hid (fun w1 (h : Below w.heap.size w w1) => ref_Check l p c w1 (hA.below h) hn)
  rcases Qt.chk_two z l with ⟨h1, h2, h3⟩ | ⟨h1, h2, h3⟩ | ⟨h1, h3⟩
  · rw [h1] at A1
    rw [h2] at A2
    rw [h3]
    clear h1 h2 h3 hA hn
    generalize l.length = n at *
    unfold Qt.hC
    obtain ⟨base, save, ⟨fm, fn, fw, fi⟩, ⟨tm, tn, tw, ti⟩⟩ := z
    unfold Wp.zoneC at A1 ⊢
    simp only [List.push_toArray, List.cons_append, List.nil_append] at A1 ⊢
    have X0 := Lib.hid (wk_new w (.cells #[.int .i64 base, .int .i64 save, .int .i64 fm, .int .i64 fn, .int .i64 fw, .int .i64 fi, .int .i64 tm, .int .i64 tn, .int .i64 tw, .int .i64 ti, .slice p n c] 28))
    have B0 := Lib.hid (wk_box w (.cells #[.int .i64 base, .int .i64 save, .int .i64 fm, .int .i64 fn, .int .i64 fw, .int .i64 fi, .int .i64 tm, .int .i64 tn, .int .i64 tw, .int .i64 ti, .slice p n c] 28))
    go_enter Tryz.func16, Tryz.ntmps16
    go_wp2_with fail
    refine (A1.out _).mono ?_
    rintro e w1 ⟨rfl, hb⟩
    have B1 := Lib.hid (wk_then B0.out hb B0.out.size)
    have X1 := Lib.hid ((hb.block w.heap.size (Qt.lt_of X0.out)).trans X0.out)
    clear hb
    obtain ⟨c0, c1, c2, c3, c4, c5, c6, c7, c8, c9, c10⟩ := Qt.eleven_of X1.out
    go_wp2_with fail
    refine (A2.out _ B1.out).mono ?_
    rintro e w2 ⟨rfl, hb⟩
    have B2 := Lib.hid (wk_then B1.out hb B1.out.size)
    clear hb
    go_wp2_with fail
    go_ret
    exact ⟨rfl, B2.out⟩
  · rw [h1] at A1
    rw [h2] at A2
    rw [h3]
    clear h1 h2 h3 hA hn
    generalize l.length = n at *
    unfold Qt.hC
    obtain ⟨base, save, ⟨fm, fn, fw, fi⟩, ⟨tm, tn, tw, ti⟩⟩ := z
    unfold Wp.zoneC at A1 ⊢
    simp only [List.push_toArray, List.cons_append, List.nil_append] at A1 ⊢
    have X0 := Lib.hid (wk_new w (.cells #[.int .i64 base, .int .i64 save, .int .i64 fm, .int .i64 fn, .int .i64 fw, .int .i64 fi, .int .i64 tm, .int .i64 tn, .int .i64 tw, .int .i64 ti, .slice p n c] 28))
    have B0 := Lib.hid (wk_box w (.cells #[.int .i64 base, .int .i64 save, .int .i64 fm, .int .i64 fn, .int .i64 fw, .int .i64 fi, .int .i64 tm, .int .i64 tn, .int .i64 tw, .int .i64 ti, .slice p n c] 28))
    go_enter Tryz.func16, Tryz.ntmps16
    go_wp2_with fail
    refine (A1.out _).mono ?_
    rintro e w1 ⟨rfl, hb⟩
    have B1 := Lib.hid (wk_then B0.out hb B0.out.size)
    have X1 := Lib.hid ((hb.block w.heap.size (Qt.lt_of X0.out)).trans X0.out)
    clear hb
    obtain ⟨c0, c1, c2, c3, c4, c5, c6, c7, c8, c9, c10⟩ := Qt.eleven_of X1.out
    go_wp2_with fail
    refine (A2.out _ B1.out).mono ?_
    rintro e w2 ⟨rfl, hb⟩
    have B2 := Lib.hid (wk_then B1.out hb B1.out.size)
    clear hb
    go_wp2_with fail
    go_ret
    exact ⟨rfl, B2.out⟩
  · rw [h1] at A1
    rw [h3]
    clear h1 h3 hA hn A2
    generalize l.length = n at *
    unfold Qt.hC
    obtain ⟨base, save, ⟨fm, fn, fw, fi⟩, ⟨tm, tn, tw, ti⟩⟩ := z
    unfold Wp.zoneC at A1 ⊢
    simp only [List.push_toArray, List.cons_append, List.nil_append] at A1 ⊢
    have X0 := Lib.hid (wk_new w (.cells #[.int .i64 base, .int .i64 save, .int .i64 fm, .int .i64 fn, .int .i64 fw, .int .i64 fi, .int .i64 tm, .int .i64 tn, .int .i64 tw, .int .i64 ti, .slice p n c] 28))
    have B0 := Lib.hid (wk_box w (.cells #[.int .i64 base, .int .i64 save, .int .i64 fm, .int .i64 fn, .int .i64 fw, .int .i64 fi, .int .i64 tm, .int .i64 tn, .int .i64 tw, .int .i64 ti, .slice p n c] 28))
    go_enter Tryz.func16, Tryz.ntmps16
    go_wp2_with fail
    refine (A1.out _).mono ?_
    rintro e w1 ⟨rfl, hb⟩
    have B1 := Lib.hid (wk_then B0.out hb B0.out.size)
    clear hb
    go_wp2_with fail
    go_ret
    exact ⟨rfl, B1.out⟩
theorem Qt.at_eq (z : Wp.Zn) (l : List (Int × Int)) (t : Int) : Qt.at_ z l t = (Wp.isT (t + 60 * Wp.ofs z t) && Wk.has l (Wp.weekD (t + 60 * Wp.ofs z t))) := by
  unfold Qt.at_ Qt.loc
  rw [Int.mul_comm]
theorem Qt.week_of {t : Int} : Wp.weekR t = if Wp.isT t = true then (Wp.weekD t, 0) else (0, 1) := rfl
set_option maxHeartbeats 4000000 in
set_option maxRecDepth 100000 in
theorem rqt_in (z : Wp.Zn) (l : List (Int × Int)) (p : Option Addr) (c : Nat) (g cap : Nat) (base0 : Nat) (t : Int) (w : World) (hz : Wp.ZnOk z) (ht : Wp.isT t = true) (hm : Wk.Bits w base0 (.slice (some ⟨g, 0, none⟩) 10080 cap) (Wk.has l)) :
    Calls Tryz.prog 24 #[.agg (Qt.hC z p l.length c), .slice (some ⟨g, 0, none⟩) 10080 cap, .int .i64 t] w fun e w' => e = .returned (.bool (Qt.at_ z l t)) ∧ Below w.heap.size w w' := by
  have A1 := Lib.hid (fun w => rzon_Offset z t w)
  rw [show Wp.offR z t = (Wp.ofs z t, 0) from if_pos (Wp.chk2R_mk hz ht)] at A1
  obtain ⟨o1, o2⟩ := Qt.ofs_bd hz t
  obtain ⟨t1, t2⟩ := Qt.isT_iff.1 ht
  have HE := Lib.hid (Qt.at_eq z l t)
  have A2 := Lib.hid (fun w => rciv_Week (t + 60 * Wp.ofs z t) w)
  have hw := Qt.weekD_bd (t + 60 * Wp.ofs z t)
  have HM := Lib.hid hm
  rw [Qt.week_of] at A2
  clear hz ht hm
  generalize Qt.at_ z l t = R at *
  generalize Wp.ofs z t = o at *
  generalize Wp.weekD (t + 60 * o) = k at *
  obtain ⟨kk, rfl⟩ : ∃ kk : Nat, k = (kk : Int) := ⟨k.toNat, by omega⟩
  have HC := Lib.hid (HM.out.cell kk (by omega)).1
  have HG := Lib.hid (World.block_lt_of_cell? w _ HC.out)
  cases hT : Wp.isT (t + 60 * o) with
  | true =>
    rw [if_pos hT] at A2
    rw [hT, Bool.true_and] at HE
    rw [← HE.out] at HC
    clear hT HE HM
    generalize Wk.has l = hs at *
    generalize l.length = n at *
    unfold Qt.hC
    obtain ⟨base, save, ⟨fm, fn, fw, fi⟩, ⟨tm, tn, tw, ti⟩⟩ := z
    unfold Wp.zoneC at A1 ⊢
    simp only [List.push_toArray, List.cons_append, List.nil_append] at A1 ⊢
    have X0 := Lib.hid (wk_new w (.cells #[.int .i64 base, .int .i64 save, .int .i64 fm, .int .i64 fn, .int .i64 fw, .int .i64 fi, .int .i64 tm, .int .i64 tn, .int .i64 tw, .int .i64 ti, .slice p n c] 28))
    have B0 := Lib.hid (wk_box w (.cells #[.int .i64 base, .int .i64 save, .int .i64 fm, .int .i64 fn, .int .i64 fw, .int .i64 fi, .int .i64 tm, .int .i64 tn, .int .i64 tw, .int .i64 ti, .slice p n c] 28))
    go_enter Tryz.func24, Tryz.ntmps24
    go_wp2_with fail
    refine (A1.out _).mono ?_
    rintro e w1 ⟨rfl, hb⟩
    have B1 := Lib.hid (wk_then B0.out hb B0.out.size)
    have hc1 := (hb.cell (p := ⟨g, kk, none⟩) (by rw [World.size_alloc]; have := HG.out; simp at this ⊢; omega)).trans (Lib.cell?_alloc_some _ HC.out)
    have HG1 := Lib.hid (World.block_lt_of_cell? w1 _ hc1)
    have HC1 := Lib.hid hc1
    clear hb hc1
    go_wp2_with fail
    refine (A2.out _).mono ?_
    rintro e w2 ⟨rfl, hb⟩
    have B2 := Lib.hid (wk_then B1.out hb B1.out.size)
    have hc2 := (hb.cell (p := ⟨g, kk, none⟩) HG1.out).trans HC1.out
    have hk0 : (0 : Int) ≤ (kk : Int) := by omega
    have hk1 : (kk : Int) < 10080 := by omega
    clear hb
    go_wp2_with fail
    go_ret
    exact ⟨rfl, B2.out⟩
  | false =>
    rw [if_neg (by rw [hT]; simp)] at A2
    rw [hT, Bool.false_and] at HE
    have HE2 := Lib.hid HE.out
    clear hT HE HM HC
    generalize l.length = n at *
    unfold Qt.hC
    obtain ⟨base, save, ⟨fm, fn, fw, fi⟩, ⟨tm, tn, tw, ti⟩⟩ := z
    unfold Wp.zoneC at A1 ⊢
    simp only [List.push_toArray, List.cons_append, List.nil_append] at A1 ⊢
    have X0 := Lib.hid (wk_new w (.cells #[.int .i64 base, .int .i64 save, .int .i64 fm, .int .i64 fn, .int .i64 fw, .int .i64 fi, .int .i64 tm, .int .i64 tn, .int .i64 tw, .int .i64 ti, .slice p n c] 28))
    have B0 := Lib.hid (wk_box w (.cells #[.int .i64 base, .int .i64 save, .int .i64 fm, .int .i64 fn, .int .i64 fw, .int .i64 fi, .int .i64 tm, .int .i64 tn, .int .i64 tw, .int .i64 ti, .slice p n c] 28))
    go_enter Tryz.func24, Tryz.ntmps24
    go_wp2_with fail
    refine (A1.out _).mono ?_
    rintro e w1 ⟨rfl, hb⟩
    have B1 := Lib.hid (wk_then B0.out hb B0.out.size)
    clear hb
    go_wp2_with fail
    refine (A2.out _).mono ?_
    rintro e w2 ⟨rfl, hb⟩
    have B2 := Lib.hid (wk_then B1.out hb B1.out.size)
    clear hb
    go_wp2_with fail
    go_ret
    exact ⟨by rw [HE2.out]; rfl, B2.out⟩
set_option maxHeartbeats 4000000 in
set_option maxRecDepth 100000 in
theorem rqt_In (z : Wp.Zn) (l : List (Int × Int)) (p : Option Addr) (c : Nat) (t : Int) (w : World) (hA : Wk.At w p l) (hn : l.length ≤ 140737488351232) :
    Calls Tryz.prog 7 #[.agg (Qt.hC z p l.length c), .int .i64 t] w fun e w' => e = .returned (.tuple #[.bool (Qt.inB z l t), .int .i64 (Qt.chk2 z l t)]) ∧ Below w.heap.size w w' := by
  have A1 := Lib.hid (fun w1 (h : Below w.heap.size w w1) => rqt_Check z l p c w1 (hA.below h) hn)
  have A2 := Lib.hid (fun w => rciv_Is t w)
  have HI := Lib.hid (show Qt.inB z l t = if Qt.chk2 z l t = 0 then Qt.at_ z l t else false from rfl)
  have HK := Lib.hid (show Qt.chk2 z l t = if Qt.chk z l = 0 then (if Wp.isT t = true then 0 else 1) else 2 from rfl)
  rcases Qt.chk_vals z l with ⟨h1, hz, ho⟩ | h1
  · rw [h1] at A1
    cases ht : Wp.isT t with
    | true =>
    have HK2 := Lib.hid (HK.out.trans ((if_pos h1).trans (if_pos ht)))
    have HI2 := Lib.hid (HI.out.trans (if_pos HK2.out))
    have A3 := Lib.hid (fun w1 (h : Below w.heap.size w w1) => ref_Minutes l p c w1 (hA.below h) ho)
    have A4 := Lib.hid (fun g cap base0 w hm => rqt_in z l p c g cap base0 t w hz ht hm)
    rw [ht] at A2
    rw [HK2.out, HI2.out]
    have A3 := Lib.hid (show ∀ w1, Below w.heap.size w w1 → Calls Tryz.prog 25 #[.slice p l.length c] w1 (fun e w' => ∃ v, e = .returned v ∧ Wk.Bits w' w1.heap.size v (Wk.has l) ∧ Below w1.heap.size w1 w') from A3.out)
    generalize Wk.has l = hs at *
    clear h1 hz ho ht HK HI HK2 HI2 hA hn
    generalize Qt.at_ z l t = R at *
    generalize l.length = n at *
    unfold Qt.hC at A1 A4 ⊢
    obtain ⟨base, save, ⟨fm, fn, fw, fi⟩, ⟨tm, tn, tw, ti⟩⟩ := z
    unfold Wp.zoneC at A1 A4 ⊢
    simp only [List.push_toArray, List.cons_append, List.nil_append] at A1 A4 ⊢
    have X0 := Lib.hid (wk_new w (.cells #[.int .i64 base, .int .i64 save, .int .i64 fm, .int .i64 fn, .int .i64 fw, .int .i64 fi, .int .i64 tm, .int .i64 tn, .int .i64 tw, .int .i64 ti, .slice p n c] 28))
    have B0 := Lib.hid (wk_box w (.cells #[.int .i64 base, .int .i64 save, .int .i64 fm, .int .i64 fn, .int .i64 fw, .int .i64 fi, .int .i64 tm, .int .i64 tn, .int .i64 tw, .int .i64 ti, .slice p n c] 28))
    go_enter Tryz.func7, Tryz.ntmps7
    go_wp2_with fail
    refine (A1.out _ B0.out).mono ?_
    rintro e w1 ⟨rfl, hb⟩
    have B1 := Lib.hid (wk_then B0.out hb B0.out.size)
    have X1 := Lib.hid ((hb.block w.heap.size (Qt.lt_of X0.out)).trans X0.out)
    clear hb
    go_wp2_with fail
    refine (A2.out _).mono ?_
    rintro e w2 ⟨rfl, rfl⟩
    obtain ⟨c0, c1, c2, c3, c4, c5, c6, c7, c8, c9, c10⟩ := Qt.eleven_of X1.out
    have k0 : w.heap.size < w1.heap.size := Qt.lt_of X1.out
    go_wp2_with fail
    go_region_held3 (fun w' => w'.cell? ⟨w.heap.size, 0, none⟩ = some (.int .i64 base) ∧ w'.cell? ⟨w.heap.size, 1, none⟩ = some (.int .i64 save) ∧ w'.cell? ⟨w.heap.size, 2, none⟩ = some (.int .i64 fm) ∧ w'.cell? ⟨w.heap.size, 3, none⟩ = some (.int .i64 fn) ∧ w'.cell? ⟨w.heap.size, 4, none⟩ = some (.int .i64 fw) ∧ w'.cell? ⟨w.heap.size, 5, none⟩ = some (.int .i64 fi) ∧ w'.cell? ⟨w.heap.size, 6, none⟩ = some (.int .i64 tm) ∧ w'.cell? ⟨w.heap.size, 7, none⟩ = some (.int .i64 tn) ∧ w'.cell? ⟨w.heap.size, 8, none⟩ = some (.int .i64 tw) ∧ w'.cell? ⟨w.heap.size, 9, none⟩ = some (.int .i64 ti) ∧ w'.cell? ⟨w.heap.size, 10, none⟩ = some (.slice p n c))
      (first
        | (go_keep; done)
        | (exact ⟨(e7.cell (p := ⟨w.heap.size, 0, none⟩) k0).trans c0, (e7.cell (p := ⟨w.heap.size, 1, none⟩) k0).trans c1, (e7.cell (p := ⟨w.heap.size, 2, none⟩) k0).trans c2, (e7.cell (p := ⟨w.heap.size, 3, none⟩) k0).trans c3, (e7.cell (p := ⟨w.heap.size, 4, none⟩) k0).trans c4, (e7.cell (p := ⟨w.heap.size, 5, none⟩) k0).trans c5, (e7.cell (p := ⟨w.heap.size, 6, none⟩) k0).trans c6, (e7.cell (p := ⟨w.heap.size, 7, none⟩) k0).trans c7, (e7.cell (p := ⟨w.heap.size, 8, none⟩) k0).trans c8, (e7.cell (p := ⟨w.heap.size, 9, none⟩) k0).trans c9, (e7.cell (p := ⟨w.heap.size, 10, none⟩) k0).trans c10⟩))
      (first
        | (go_at_call 25; (with_reducible refine (A3.out _ B1.out.drew).mono ?_); rintro e w3 ⟨v, rfl, hv, hb3⟩; obtain ⟨g, cap, rfl, _, _⟩ := hv.form; have e7 : Below w1.heap.size w1 w3 := (Below.refl _ w1).drew.trans hb3)
        | (go_at_call 24; (with_reducible refine (A4.out _ _ _ _ hv).mono ?_); rintro e w4 ⟨rfl, hb4⟩; have e8 := e7.trans (hb4.mono e7.size); clear e7; have e7 := e8; clear e8))
    have B4 := Lib.hid (wk_then B1.out e7 B1.out.size)
    clear c0 c1 c2 c3 c4 c5 c6 c7 c8 c9 c10
    go_wp2_with fail
    go_ret2
    exact ⟨rfl, B4.out⟩
    | false =>
    have HK2 := Lib.hid (HK.out.trans ((if_pos h1).trans (if_neg (by rw [ht]; simp))))
    have HI2 := Lib.hid (HI.out.trans (if_neg (by rw [HK2.out]; decide)))
    rw [ht] at A2
    rw [HK2.out, HI2.out]
    clear h1 hz ho ht HK HI HK2 HI2 hA hn
    generalize l.length = n at *
    unfold Qt.hC at A1 ⊢
    obtain ⟨base, save, ⟨fm, fn, fw, fi⟩, ⟨tm, tn, tw, ti⟩⟩ := z
    unfold Wp.zoneC at A1 ⊢
    simp only [List.push_toArray, List.cons_append, List.nil_append] at A1 ⊢
    have X0 := Lib.hid (wk_new w (.cells #[.int .i64 base, .int .i64 save, .int .i64 fm, .int .i64 fn, .int .i64 fw, .int .i64 fi, .int .i64 tm, .int .i64 tn, .int .i64 tw, .int .i64 ti, .slice p n c] 28))
    have B0 := Lib.hid (wk_box w (.cells #[.int .i64 base, .int .i64 save, .int .i64 fm, .int .i64 fn, .int .i64 fw, .int .i64 fi, .int .i64 tm, .int .i64 tn, .int .i64 tw, .int .i64 ti, .slice p n c] 28))
    go_enter Tryz.func7, Tryz.ntmps7
    go_wp2_with fail
    refine (A1.out _ B0.out).mono ?_
    rintro e w1 ⟨rfl, hb⟩
    have B1 := Lib.hid (wk_then B0.out hb B0.out.size)
    clear hb
    go_wp2_with fail
    refine (A2.out _).mono ?_
    rintro e w2 ⟨rfl, rfl⟩
    go_wp2_with fail
    go_ret2
    exact ⟨rfl, B1.out⟩
  · rw [h1] at A1
    have HK2 := Lib.hid (HK.out.trans (if_neg (by rw [h1]; decide)))
    have HI2 := Lib.hid (HI.out.trans (if_neg (by rw [HK2.out]; decide)))
    rw [HK2.out, HI2.out]
    clear h1 HK HI HK2 HI2 hA hn A2
    generalize l.length = n at *
    unfold Qt.hC at A1 ⊢
    obtain ⟨base, save, ⟨fm, fn, fw, fi⟩, ⟨tm, tn, tw, ti⟩⟩ := z
    unfold Wp.zoneC at A1 ⊢
    simp only [List.push_toArray, List.cons_append, List.nil_append] at A1 ⊢
    have X0 := Lib.hid (wk_new w (.cells #[.int .i64 base, .int .i64 save, .int .i64 fm, .int .i64 fn, .int .i64 fw, .int .i64 fi, .int .i64 tm, .int .i64 tn, .int .i64 tw, .int .i64 ti, .slice p n c] 28))
    have B0 := Lib.hid (wk_box w (.cells #[.int .i64 base, .int .i64 save, .int .i64 fm, .int .i64 fn, .int .i64 fw, .int .i64 fi, .int .i64 tm, .int .i64 tn, .int .i64 tw, .int .i64 ti, .slice p n c] 28))
    go_enter Tryz.func7, Tryz.ntmps7
    go_wp2_with fail
    refine (A1.out _ B0.out).mono ?_
    rintro e w1 ⟨rfl, hb⟩
    have B1 := Lib.hid (wk_then B0.out hb B0.out.size)
    clear hb
    go_wp2_with fail
    go_ret2
    exact ⟨rfl, B1.out⟩
set_option maxHeartbeats 4000000 in
set_option maxRecDepth 100000 in
theorem rqt_Longest (z : Wp.Zn) (l : List (Int × Int)) (p : Option Addr) (c : Nat) (w : World) (hA : Wk.At w p l) (hn : l.length ≤ 140737488351232) :
    Calls Tryz.prog 13 #[.agg (Qt.hC z p l.length c)] w fun e w' => e = .returned (.tuple #[.int .i64 (Qt.lonN z l), .int .i64 (Qt.lonC z l)]) ∧ Below w.heap.size w w' := by
  have A1 := Lib.hid (fun w1 (h : Below w.heap.size w w1) => rqt_Check z l p c w1 (hA.below h) hn)
  have HN := Lib.hid (show Qt.lonN z l = if Qt.chk z l = 0 then (if Wk.sum l = 10080 then 0 else 2 * Wk.sum l * 60) else 0 from rfl)
  have HC := Lib.hid (show Qt.lonC z l = if Qt.chk z l = 0 then (if Wk.sum l = 10080 then 3 else 0) else 2 from rfl)
  rcases Qt.chk_vals z l with ⟨h1, hz, ho⟩ | h1
  · have A2 := Lib.hid (fun w1 (h : Below w.heap.size w w1) => ref_Sum l p c w1 (hA.below h) hn)
    rw [show Wk.sumR l = Wk.sum l from if_pos ho] at A2
    obtain ⟨s1, s2⟩ := Wk.sum_bd ho.2 (by omega) (by omega)
    rw [h1] at A1
    by_cases hs : Wk.sum l = 10080
    · rw [HN.out.trans ((if_pos h1).trans (if_pos hs)), HC.out.trans ((if_pos h1).trans (if_pos hs))]
      rw [hs] at A2
      clear h1 hz ho hA hn hs s1 s2 HN HC
      generalize Wk.chk l = ck at *
      generalize l.length = n at *
      unfold Qt.hC at A1 ⊢
      obtain ⟨base, save, ⟨fm, fn, fw, fi⟩, ⟨tm, tn, tw, ti⟩⟩ := z
      unfold Wp.zoneC at A1 ⊢
      simp only [List.push_toArray, List.cons_append, List.nil_append] at A1 ⊢
      have X0 := Lib.hid (wk_new w (.cells #[.int .i64 base, .int .i64 save, .int .i64 fm, .int .i64 fn, .int .i64 fw, .int .i64 fi, .int .i64 tm, .int .i64 tn, .int .i64 tw, .int .i64 ti, .slice p n c] 28))
      have B0 := Lib.hid (wk_box w (.cells #[.int .i64 base, .int .i64 save, .int .i64 fm, .int .i64 fn, .int .i64 fw, .int .i64 fi, .int .i64 tm, .int .i64 tn, .int .i64 tw, .int .i64 ti, .slice p n c] 28))
      go_enter Tryz.func13, Tryz.ntmps13
      go_wp2_with fail
      refine (A1.out _ B0.out).mono ?_
      rintro e w1 ⟨rfl, hb⟩
      have B1 := Lib.hid (wk_then B0.out hb B0.out.size)
      have X1 := Lib.hid ((hb.block w.heap.size (Qt.lt_of X0.out)).trans X0.out)
      clear hb
      obtain ⟨c0, c1, c2, c3, c4, c5, c6, c7, c8, c9, c10⟩ := Qt.eleven_of X1.out
      go_wp2_with fail
      refine (A2.out _ B1.out).mono ?_
      rintro e w2 ⟨rfl, hb⟩
      have B2 := Lib.hid (wk_then B1.out hb B1.out.size)
      clear hb
      go_wp2_with fail
      go_ret2
      exact ⟨rfl, B2.out⟩
    · have HR := Lib.hid (show 120 * Wk.sum l = 2 * Wk.sum l * 60 by omega)
      rw [HN.out.trans ((if_pos h1).trans (if_neg hs)), HC.out.trans ((if_pos h1).trans (if_neg hs)), ← HR.out]
      clear h1 hz ho hA hn HN HC HR
      generalize Wk.sum l = s at *
      have hs2 : (s == 10080) = false := by simpa using hs
      generalize Wk.chk l = ck at *
      clear hs
      generalize l.length = n at *
      unfold Qt.hC at A1 ⊢
      obtain ⟨base, save, ⟨fm, fn, fw, fi⟩, ⟨tm, tn, tw, ti⟩⟩ := z
      unfold Wp.zoneC at A1 ⊢
      simp only [List.push_toArray, List.cons_append, List.nil_append] at A1 ⊢
      have X0 := Lib.hid (wk_new w (.cells #[.int .i64 base, .int .i64 save, .int .i64 fm, .int .i64 fn, .int .i64 fw, .int .i64 fi, .int .i64 tm, .int .i64 tn, .int .i64 tw, .int .i64 ti, .slice p n c] 28))
      have B0 := Lib.hid (wk_box w (.cells #[.int .i64 base, .int .i64 save, .int .i64 fm, .int .i64 fn, .int .i64 fw, .int .i64 fi, .int .i64 tm, .int .i64 tn, .int .i64 tw, .int .i64 ti, .slice p n c] 28))
      go_enter Tryz.func13, Tryz.ntmps13
      go_wp2_with fail
      refine (A1.out _ B0.out).mono ?_
      rintro e w1 ⟨rfl, hb⟩
      have B1 := Lib.hid (wk_then B0.out hb B0.out.size)
      have X1 := Lib.hid ((hb.block w.heap.size (Qt.lt_of X0.out)).trans X0.out)
      clear hb
      obtain ⟨c0, c1, c2, c3, c4, c5, c6, c7, c8, c9, c10⟩ := Qt.eleven_of X1.out
      go_wp2_with fail
      refine (A2.out _ B1.out).mono ?_
      rintro e w2 ⟨rfl, hb⟩
      have B2 := Lib.hid (wk_then B1.out hb B1.out.size)
      clear hb
      go_wp2_with fail
      go_ret2
      exact ⟨rfl, B2.out⟩
  · rw [h1] at A1
    rw [HN.out.trans (if_neg (by rw [h1]; decide)), HC.out.trans (if_neg (by rw [h1]; decide))]
    clear h1 hA hn HN HC
    generalize l.length = n at *
    unfold Qt.hC at A1 ⊢
    obtain ⟨base, save, ⟨fm, fn, fw, fi⟩, ⟨tm, tn, tw, ti⟩⟩ := z
    unfold Wp.zoneC at A1 ⊢
    simp only [List.push_toArray, List.cons_append, List.nil_append] at A1 ⊢
    have X0 := Lib.hid (wk_new w (.cells #[.int .i64 base, .int .i64 save, .int .i64 fm, .int .i64 fn, .int .i64 fw, .int .i64 fi, .int .i64 tm, .int .i64 tn, .int .i64 tw, .int .i64 ti, .slice p n c] 28))
    have B0 := Lib.hid (wk_box w (.cells #[.int .i64 base, .int .i64 save, .int .i64 fm, .int .i64 fn, .int .i64 fw, .int .i64 fi, .int .i64 tm, .int .i64 tn, .int .i64 tw, .int .i64 ti, .slice p n c] 28))
    go_enter Tryz.func13, Tryz.ntmps13
    go_wp2_with fail
    refine (A1.out _ B0.out).mono ?_
    rintro e w1 ⟨rfl, hb⟩
    have B1 := Lib.hid (wk_then B0.out hb B0.out.size)
    clear hb
    go_wp2_with fail
    go_ret2
    exact ⟨rfl, B1.out⟩
end Go.Proofs.YtpaleljnkejdgaaGreatDoor
