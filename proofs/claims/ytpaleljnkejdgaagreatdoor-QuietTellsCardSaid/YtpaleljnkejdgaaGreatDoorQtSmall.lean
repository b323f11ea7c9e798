/-
  The walks of quiet's small calls: whether quiet hours are right, how far the clocks are ahead, and the minute that they tell. Conditions: the calendar's table reads as it is laid; the week's list is of a size that a machine holds.
-/
import Derived.Test.YtpaleljnkejdgaaGreatDoorQtPlain
import Derived.Test.YtpaleljnkejdgaaGreatDoorZonNext
namespace Go.Proofs.YtpaleljnkejdgaaGreatDoor
open Go.RowKit Go.Lib Go.Shelf

/-- The value of quiet hours: the zone's cells, and the week's slice. -/
def Qt.hC (z : Wp.Zn) (p : Option Addr) (n c : Nat) : Array Value := (Wp.zoneC z).push (.slice p n c)
structure Qt.Eleven (w : World) (g : Nat) (a b c d e f h i j k s : Value) : Prop where
  c0 : w.cell? ⟨g, 0, none⟩ = some a
  c1 : w.cell? ⟨g, 1, none⟩ = some b
  c2 : w.cell? ⟨g, 2, none⟩ = some c
  c3 : w.cell? ⟨g, 3, none⟩ = some d
  c4 : w.cell? ⟨g, 4, none⟩ = some e
  c5 : w.cell? ⟨g, 5, none⟩ = some f
  c6 : w.cell? ⟨g, 6, none⟩ = some h
  c7 : w.cell? ⟨g, 7, none⟩ = some i
  c8 : w.cell? ⟨g, 8, none⟩ = some j
  c9 : w.cell? ⟨g, 9, none⟩ = some k
  c10 : w.cell? ⟨g, 10, none⟩ = some s
theorem Qt.eleven_of {w : World} {g : Nat} {a b c d e f h i j k s : Value} {t : TypeId} (hh : w.heap[g]? = some (.cells #[a, b, c, d, e, f, h, i, j, k, s] t (0, 0))) : Qt.Eleven w g a b c d e f h i j k s :=
  ⟨by rw [Lib.cell_of_heap hh]; rfl, by rw [Lib.cell_of_heap hh]; rfl, by rw [Lib.cell_of_heap hh]; rfl, by rw [Lib.cell_of_heap hh]; rfl, by rw [Lib.cell_of_heap hh]; rfl, by rw [Lib.cell_of_heap hh]; rfl, by rw [Lib.cell_of_heap hh]; rfl, by rw [Lib.cell_of_heap hh]; rfl, by rw [Lib.cell_of_heap hh]; rfl, by rw [Lib.cell_of_heap hh]; rfl, by rw [Lib.cell_of_heap hh]; rfl⟩
theorem Qt.ofs_bd {z : Wp.Zn} (hz : Wp.ZnOk z) (t : Int) : -1100 ≤ Wp.ofs z t ∧ Wp.ofs z t ≤ 1100 := by
  obtain ⟨h1, h2, h3, h4⟩ := hz.1
  by_cases hs : z.save ≠ 0 ∧ ∃ o, Wp.Off z t o
  · have h := Wp.ofs_off hs.1 hs.2.choose_spec
    rcases h with ⟨k, y, _, _, e, _⟩ | ⟨_, e⟩
    · rw [e]
      unfold Wp.Zn.then_
      split <;> omega
    · rw [e]; omega
  · have e : Wp.ofs z t = z.base := by unfold Wp.ofs; rw [dif_neg hs]
    rw [e]; omega
/-- What Check tells. -/
noncomputable def Qt.chk (z : Wp.Zn) (l : List (Int × Int)) : Int := by
  classical
  exact if Wp.ZnOk z ∧ Wk.Ok l then 0 else 2
theorem Qt.chk_ok {z : Wp.Zn} {l : List (Int × Int)} (h1 : Wp.ZnOk z) (h2 : Wk.Ok l) : Qt.chk z l = 0 := by unfold Qt.chk; exact if_pos ⟨h1, h2⟩
theorem Qt.chk_no {z : Wp.Zn} {l : List (Int × Int)} (h : ¬ (Wp.ZnOk z ∧ Wk.Ok l)) : Qt.chk z l = 2 := by unfold Qt.chk; exact if_neg h
set_option maxHeartbeats 1000000 in
set_option maxRecDepth 100000 in
theorem qt_Check (z : Wp.Zn) (l : List (Int × Int)) (p : Option Addr) (c : Nat) (w : World) (hA : Wk.At w p l) (hn : l.length ≤ 140737488351232) :
    Calls Tryz.prog 15 #[.agg (Qt.hC z p l.length c)] w fun e w' => e = .returned (.int .i64 (Qt.chk z l)) ∧ Below w.heap.size w w' := by
  have A1 := Lib.hid (fun w => zon_Check z w)
  have A2 := Lib.hid (fun w1 (h : Below w.heap.size w w1) => wk_Check l p c w1 (hA.below h) hn)
  unfold Qt.hC
  by_cases hz : Wp.ZnOk z
  · rw [Wp.chkR_ok hz] at A1
    rw [show Qt.chk z l = Wk.chk l by
      by_cases ho : Wk.Ok l
      · rw [Qt.chk_ok hz ho]; exact (if_pos ho).symm
      · rw [Qt.chk_no (fun h => ho h.2)]; exact (if_neg ho).symm]
    clear hz hA hn
    generalize Wk.chk l = r at *
    generalize l.length = n at *
    obtain ⟨base, save, ⟨fm, fn, fw, fi⟩, ⟨tm, tn, tw, ti⟩⟩ := z
    unfold Wp.zoneC at A1 ⊢
    simp only [List.push_toArray, List.cons_append, List.nil_append] at A1 ⊢
    have X0 := Lib.hid (wk_new w (.cells #[.int .i64 base, .int .i64 save, .int .i64 fm, .int .i64 fn, .int .i64 fw, .int .i64 fi, .int .i64 tm, .int .i64 tn, .int .i64 tw, .int .i64 ti, .slice p n c] 28))
    have B0 := Lib.hid (wk_box w (.cells #[.int .i64 base, .int .i64 save, .int .i64 fm, .int .i64 fn, .int .i64 fw, .int .i64 fi, .int .i64 tm, .int .i64 tn, .int .i64 tw, .int .i64 ti, .slice p n c] 28))
    go_enter Tryz.func15, Tryz.ntmps15
    go_wp2_with fail
    refine (A1.out _).mono ?_
    rintro e w1 ⟨rfl, hb⟩
    rw [World.size_alloc] at hb
    have B1 := Lib.hid (B0.out.trans (hb.mono (by omega)))
    obtain ⟨c0, c1, c2, c3, c4, c5, c6, c7, c8, c9, c10⟩ := Qt.eleven_of ((hb.block w.heap.size (by omega)).trans X0.out)
    clear hb
    go_wp2_with fail
    refine (A2.out _ B1.out).mono ?_
    rintro e w2 ⟨rfl, hb⟩
    have B2 := Lib.hid (wk_then B1.out hb B1.out.size)
    clear hb
    go_wp2_with fail
    go_ret
    exact ⟨rfl, B2.out⟩
  · rw [Wp.chkR_no hz] at A1
    rw [Qt.chk_no (fun h => hz h.1)]
    clear hz hA hn A2
    generalize l.length = n at *
    obtain ⟨base, save, ⟨fm, fn, fw, fi⟩, ⟨tm, tn, tw, ti⟩⟩ := z
    unfold Wp.zoneC at A1 ⊢
    simp only [List.push_toArray, List.cons_append, List.nil_append] at A1 ⊢
    have X0 := Lib.hid (wk_new w (.cells #[.int .i64 base, .int .i64 save, .int .i64 fm, .int .i64 fn, .int .i64 fw, .int .i64 fi, .int .i64 tm, .int .i64 tn, .int .i64 tw, .int .i64 ti, .slice p n c] 28))
    have B0 := Lib.hid (wk_box w (.cells #[.int .i64 base, .int .i64 save, .int .i64 fm, .int .i64 fn, .int .i64 fw, .int .i64 fi, .int .i64 tm, .int .i64 tn, .int .i64 tw, .int .i64 ti, .slice p n c] 28))
    go_enter Tryz.func15, Tryz.ntmps15
    go_wp2_with fail
    refine (A1.out _).mono ?_
    rintro e w1 ⟨rfl, hb⟩
    rw [World.size_alloc] at hb
    have B1 := Lib.hid (B0.out.trans (hb.mono (by omega)))
    clear hb
    go_wp2_with fail
    go_ret
    exact ⟨rfl, B1.out⟩
/-- Why quiet hours can't be asked at a time. -/
noncomputable def Qt.chk2 (z : Wp.Zn) (l : List (Int × Int)) (t : Int) : Int := if Qt.chk z l = 0 then (if Wp.isT t = true then 0 else 1) else 2
theorem Qt.chk_vals (z : Wp.Zn) (l : List (Int × Int)) : Qt.chk z l = 0 ∧ Wp.ZnOk z ∧ Wk.Ok l ∨ Qt.chk z l = 2 := by
  by_cases h : Wp.ZnOk z ∧ Wk.Ok l
  · exact Or.inl ⟨Qt.chk_ok h.1 h.2, h.1, h.2⟩
  · exact Or.inr (Qt.chk_no h)
theorem Qt.chk2_ok {z : Wp.Zn} {l : List (Int × Int)} {t : Int} (h : Qt.chk2 z l t = 0) : Wp.ZnOk z ∧ Wk.Ok l ∧ Wp.isT t = true := by
  unfold Qt.chk2 at h
  rcases Qt.chk_vals z l with ⟨h1, h2, h3⟩ | h1
  · rw [if_pos h1] at h
    cases ht : Wp.isT t with
    | true => exact ⟨h2, h3, rfl⟩
    | false => rw [ht] at h; simp at h
  · rw [if_neg (by rw [h1]; decide)] at h; cases h
theorem Qt.chk2_mk {z : Wp.Zn} {l : List (Int × Int)} {t : Int} (h1 : Wp.ZnOk z) (h2 : Wk.Ok l) (h3 : Wp.isT t = true) : Qt.chk2 z l t = 0 := by
  unfold Qt.chk2; rw [if_pos (Qt.chk_ok h1 h2), if_pos h3]
theorem Qt.chk2_vals (z : Wp.Zn) (l : List (Int × Int)) (t : Int) : Qt.chk2 z l t = 0 ∨ Qt.chk2 z l t = 1 ∨ Qt.chk2 z l t = 2 := by
  unfold Qt.chk2; repeat' split
  all_goals simp
set_option maxHeartbeats 1000000 in
set_option maxRecDepth 100000 in
theorem qt_check (z : Wp.Zn) (l : List (Int × Int)) (p : Option Addr) (c : Nat) (t : Int) (w : World) (hA : Wk.At w p l) (hn : l.length ≤ 140737488351232) :
    Calls Tryz.prog 20 #[.agg (Qt.hC z p l.length c), .int .i64 t] w fun e w' => e = .returned (.int .i64 (Qt.chk2 z l t)) ∧ Below w.heap.size w w' := by
  have A1 := Lib.hid (fun w1 (h : Below w.heap.size w w1) => qt_Check z l p c w1 (hA.below h) hn)
  have A2 := Lib.hid (fun w => civ_Week t w)
  rcases Qt.chk_vals z l with ⟨h1, _, _⟩ | h1
  · rw [h1] at A1
    rw [show Qt.chk2 z l t = (Wp.weekR t).2 by unfold Qt.chk2 Wp.weekR; rw [if_pos h1]; split <;> rfl]
    clear h1 hA hn
    generalize (Wp.weekR t).1 = r1 at *
    generalize (Wp.weekR t).2 = r2 at *
    generalize l.length = n at *
    unfold Qt.hC at A1 ⊢
    obtain ⟨base, save, ⟨fm, fn, fw, fi⟩, ⟨tm, tn, tw, ti⟩⟩ := z
    unfold Wp.zoneC at A1 ⊢
    simp only [List.push_toArray, List.cons_append, List.nil_append] at A1 ⊢
    have X0 := Lib.hid (wk_new w (.cells #[.int .i64 base, .int .i64 save, .int .i64 fm, .int .i64 fn, .int .i64 fw, .int .i64 fi, .int .i64 tm, .int .i64 tn, .int .i64 tw, .int .i64 ti, .slice p n c] 28))
    have B0 := Lib.hid (wk_box w (.cells #[.int .i64 base, .int .i64 save, .int .i64 fm, .int .i64 fn, .int .i64 fw, .int .i64 fi, .int .i64 tm, .int .i64 tn, .int .i64 tw, .int .i64 ti, .slice p n c] 28))
    go_enter Tryz.func20, Tryz.ntmps20
    go_wp2_with fail
    refine (A1.out _ B0.out).mono ?_
    rintro e w1 ⟨rfl, hb⟩
    have B1 := Lib.hid (wk_then B0.out hb B0.out.size)
    clear hb
    go_wp2_with fail
    refine (A2.out _).mono ?_
    rintro e w2 ⟨rfl, rfl⟩
    go_wp2_with fail
    go_ret
    exact ⟨rfl, B1.out⟩
  · rw [h1] at A1
    rw [show Qt.chk2 z l t = 2 by unfold Qt.chk2; rw [if_neg (by rw [h1]; decide)]]
    clear h1 hA hn A2
    generalize l.length = n at *
    unfold Qt.hC at A1 ⊢
    obtain ⟨base, save, ⟨fm, fn, fw, fi⟩, ⟨tm, tn, tw, ti⟩⟩ := z
    unfold Wp.zoneC at A1 ⊢
    simp only [List.push_toArray, List.cons_append, List.nil_append] at A1 ⊢
    have X0 := Lib.hid (wk_new w (.cells #[.int .i64 base, .int .i64 save, .int .i64 fm, .int .i64 fn, .int .i64 fw, .int .i64 fi, .int .i64 tm, .int .i64 tn, .int .i64 tw, .int .i64 ti, .slice p n c] 28))
    have B0 := Lib.hid (wk_box w (.cells #[.int .i64 base, .int .i64 save, .int .i64 fm, .int .i64 fn, .int .i64 fw, .int .i64 fi, .int .i64 tm, .int .i64 tn, .int .i64 tw, .int .i64 ti, .slice p n c] 28))
    go_enter Tryz.func20, Tryz.ntmps20
    go_wp2_with fail
    refine (A1.out _ B0.out).mono ?_
    rintro e w1 ⟨rfl, hb⟩
    have B1 := Lib.hid (wk_then B0.out hb B0.out.size)
    clear hb
    go_wp2_with fail
    go_ret
    exact ⟨rfl, B1.out⟩
set_option maxHeartbeats 1000000 in
set_option maxRecDepth 100000 in
theorem qt_ahead (z : Wp.Zn) (p : Option Addr) (n c : Nat) (t : Int) (w : World) (hL : Cv.Laid w) (hz : Wp.ZnOk z) (ht : Wp.isT t = true) :
    Calls Tryz.prog 42 #[.agg (Qt.hC z p n c), .int .i64 t] w fun e w' => e = .returned (.int .i64 (Wp.ofs z t * 60)) ∧ Below w.heap.size w w' := by
  · have A1 := Lib.hid (fun w hL => zon_Offset z t w hL)
    rw [show Wp.offR z t = (Wp.ofs z t, 0) from if_pos (Wp.chk2R_mk hz ht)] at A1
    obtain ⟨o1, o2⟩ := Qt.ofs_bd hz t
    clear hz ht
    generalize Wp.ofs z t = o at *
    unfold Qt.hC
    obtain ⟨base, save, ⟨fm, fn, fw, fi⟩, ⟨tm, tn, tw, ti⟩⟩ := z
    unfold Wp.zoneC at A1 ⊢
    simp only [List.push_toArray, List.cons_append, List.nil_append] at A1 ⊢
    have X0 := Lib.hid (wk_new w (.cells #[.int .i64 base, .int .i64 save, .int .i64 fm, .int .i64 fn, .int .i64 fw, .int .i64 fi, .int .i64 tm, .int .i64 tn, .int .i64 tw, .int .i64 ti, .slice p n c] 45))
    have B0 := Lib.hid (wk_box w (.cells #[.int .i64 base, .int .i64 save, .int .i64 fm, .int .i64 fn, .int .i64 fw, .int .i64 fi, .int .i64 tm, .int .i64 tn, .int .i64 tw, .int .i64 ti, .slice p n c] 45))
    have HL := Lib.hid hL
    clear hL
    go_enter Tryz.func42, Tryz.ntmps42
    go_wp2_with fail
    refine (A1.out _ (HL.out.below B0.out)).mono ?_
    rintro e w1 ⟨rfl, hb⟩
    have B1 := Lib.hid (wk_then B0.out hb B0.out.size)
    clear hb
    go_wp2_with fail
    go_ret
    exact ⟨rfl, B1.out⟩
set_option maxHeartbeats 1000000 in
set_option maxRecDepth 100000 in
theorem qt_minute (z : Wp.Zn) (p : Option Addr) (n c : Nat) (t : Int) (w : World) (hL : Cv.Laid w) (hz : Wp.ZnOk z) (ht : Wp.isT t = true) :
    Calls Tryz.prog 21 #[.agg (Qt.hC z p n c), .int .i64 t] w fun e w' => e = .returned (.tuple #[.int .i64 (Wp.weekR (Qt.loc z t)).1, .bool (Wp.isT (Qt.loc z t))]) ∧ Below w.heap.size w w' := by
  · have A1 := Lib.hid (fun w hL => qt_ahead z p n c t w hL hz ht)
    have A2 := Lib.hid (fun w => civ_Week (t + Wp.ofs z t * 60) w)
    obtain ⟨o1, o2⟩ := Qt.ofs_bd hz t
    obtain ⟨t1, t2⟩ := Qt.isT_iff.1 ht
    have HB := Lib.hid (show ((Wp.weekR (t + Wp.ofs z t * 60)).2 == 0) = Wp.isT (t + Wp.ofs z t * 60) by
      unfold Wp.weekR
      cases Wp.isT (t + Wp.ofs z t * 60) <;> rfl)
    unfold Qt.loc
    clear hz ht
    generalize (Wp.weekR (t + Wp.ofs z t * 60)).1 = r1 at *
    generalize (Wp.weekR (t + Wp.ofs z t * 60)).2 = r2 at *
    generalize Wp.isT (t + Wp.ofs z t * 60) = b at *
    generalize Wp.ofs z t = o at *
    unfold Qt.hC at A1 ⊢
    obtain ⟨base, save, ⟨fm, fn, fw, fi⟩, ⟨tm, tn, tw, ti⟩⟩ := z
    unfold Wp.zoneC at A1 ⊢
    simp only [List.push_toArray, List.cons_append, List.nil_append] at A1 ⊢
    have X0 := Lib.hid (wk_new w (.cells #[.int .i64 base, .int .i64 save, .int .i64 fm, .int .i64 fn, .int .i64 fw, .int .i64 fi, .int .i64 tm, .int .i64 tn, .int .i64 tw, .int .i64 ti, .slice p n c] 45))
    have B0 := Lib.hid (wk_box w (.cells #[.int .i64 base, .int .i64 save, .int .i64 fm, .int .i64 fn, .int .i64 fw, .int .i64 fi, .int .i64 tm, .int .i64 tn, .int .i64 tw, .int .i64 ti, .slice p n c] 45))
    have HL := Lib.hid hL
    clear hL
    go_enter Tryz.func21, Tryz.ntmps21
    go_wp2_with fail
    refine (A1.out _ (HL.out.below B0.out)).mono ?_
    rintro e w1 ⟨rfl, hb⟩
    have B1 := Lib.hid (wk_then B0.out hb B0.out.size)
    clear hb
    go_wp2_with fail
    refine (A2.out _).mono ?_
    rintro e w2 ⟨rfl, rfl⟩
    go_wp2_with fail
    go_ret2
    exact ⟨by rw [← HB.out]; rfl, B1.out⟩
end Go.Proofs.YtpaleljnkejdgaaGreatDoor
