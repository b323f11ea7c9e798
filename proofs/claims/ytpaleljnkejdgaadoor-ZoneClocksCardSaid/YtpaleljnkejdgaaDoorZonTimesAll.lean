/-
  The walk of zone.Times: the times at which the clocks tell a moment, or none and why. Condition: the calendar's table reads as it is laid.
-/
import Derived.Test.YtpaleljnkejdgaaDoorZonNamed
import Derived.Test.YtpaleljnkejdgaaDoorZonTimes
namespace Go.Proofs.YtpaleljnkejdgaaDoor
open Go.RowKit

noncomputable def Wp.timesR (z : Wp.Zn) (m : Wp.Mom) : List Int × Int := if Wp.chkR z = 0 then (if Wp.momOk m = true then (Wp.timesL z (Wp.timeD m), 0) else ([], 2)) else ([], 2)
def Wp.TimesPost (l : List Int) (r : Int) (w : World) (e : Ending) (w' : World) : Prop := ∃ v, e = .returned (.tuple #[v, .int .i64 r]) ∧ w'.ownsRow w.heap.size 2 1 v l.length (l.map (Value.int .i64)) ∧ Below w.heap.size w w'
theorem Wp.TimesPost.none_ {w w' : World} (h : Below w.heap.size w w') (r : Int) : Wp.TimesPost [] r w (.returned (.tuple #[.slice none 0 0, .int .i64 r])) w' := ⟨_, rfl, World.ownsRow_nil _ _ _ _, h⟩
set_option maxHeartbeats 2000000 in
theorem zon_Times (z : Wp.Zn) (m : Wp.Mom) (w : World) (hL : Cv.Laid w) :
    Calls Tryd.prog 30 #[.agg (Wp.zoneC z), .agg (Wp.momC m)] w (Wp.TimesPost (Wp.timesR z m).1 (Wp.timesR z m).2 w) := by
  have A1 := Lib.hid (fun w => zon_Check z w)
  have A2 := Lib.hid (fun w hL => civ_Time m w hL)
  by_cases hc : Wp.chkR z = 0
  · have hz : Wp.ZnOk z := by
      by_cases h : Wp.ZnOk z
      · exact h
      · rw [Wp.chkR_no h] at hc; cases hc
    rw [hc] at A1
    cases hm : Wp.momOk m with
    | true =>
      rw [show Wp.timesR z m = (Wp.timesL z (Wp.timeD m), 0) from (if_pos hc).trans (if_pos hm)]
      rw [show Wp.timeR m = (Wp.timeD m, 0) from if_pos hm] at A2
      have A3 := Lib.hid (fun w hL => zon_times z (Wp.timeD m) w hL hz (Wp.isT_timeD hm))
      have HP := Lib.hid (show ∀ (v : Value) (w' : World), w'.ownsRow w.heap.size 2 1 v (Wp.timesL z (Wp.timeD m)).length ((Wp.timesL z (Wp.timeD m)).map (Value.int .i64)) → Below w.heap.size w w' → Wp.TimesPost (Wp.timesL z (Wp.timeD m)) 0 w (.returned (.tuple #[v, .int .i64 0])) w' from fun v w' h1 h2 => ⟨v, rfl, h1, h2⟩)
      simp only []
      generalize Wp.TimesPost (Wp.timesL z (Wp.timeD m)) 0 w = Q at *
      generalize Wp.timesL z (Wp.timeD m) = R at *
      generalize Wp.timeD m = u at *
      clear hc hz hm
      have HL := Lib.hid hL
      clear hL
      obtain ⟨base, save, ⟨fm, fn, fw, fi⟩, ⟨tm, tn, tw, ti⟩⟩ := z
      obtain ⟨Y, MO, D, HO, MI, SS, K⟩ := m
      unfold Wp.zoneC at A1 A3 ⊢
      unfold Wp.momC at A2 ⊢
      simp only [] at A1 A2 A3 HP ⊢
      have X0 := Lib.hid ((cv_past (w.alloc (.cells #[.int .i64 base, .int .i64 save, .int .i64 fm, .int .i64 fn, .int .i64 fw, .int .i64 fi, .int .i64 tm, .int .i64 tn, .int .i64 tw, .int .i64 ti] 48)) (.cells #[.int .i64 Y, .int .i64 MO, .int .i64 D, .int .i64 HO, .int .i64 MI, .int .i64 SS, .int .i64 K] 52) w.heap.size (by simp)).trans (cv_new w (.cells #[.int .i64 base, .int .i64 save, .int .i64 fm, .int .i64 fn, .int .i64 fw, .int .i64 fi, .int .i64 tm, .int .i64 tn, .int .i64 tw, .int .i64 ti] 48)))
      have Y0 := Lib.hid (cv_new (w.alloc (.cells #[.int .i64 base, .int .i64 save, .int .i64 fm, .int .i64 fn, .int .i64 fw, .int .i64 fi, .int .i64 tm, .int .i64 tn, .int .i64 tw, .int .i64 ti] 48)) (.cells #[.int .i64 Y, .int .i64 MO, .int .i64 D, .int .i64 HO, .int .i64 MI, .int .i64 SS, .int .i64 K] 52))
      have B0 := Lib.hid ((Wp.below_box w (.cells #[.int .i64 base, .int .i64 save, .int .i64 fm, .int .i64 fn, .int .i64 fw, .int .i64 fi, .int .i64 tm, .int .i64 tn, .int .i64 tw, .int .i64 ti] 48)).alloc (by simp) (.cells #[.int .i64 Y, .int .i64 MO, .int .i64 D, .int .i64 HO, .int .i64 MI, .int .i64 SS, .int .i64 K] 52))
      obtain ⟨w0, hw0⟩ : ∃ w0, (w.alloc (.cells #[.int .i64 base, .int .i64 save, .int .i64 fm, .int .i64 fn, .int .i64 fw, .int .i64 fi, .int .i64 tm, .int .i64 tn, .int .i64 tw, .int .i64 ti] 48)).alloc (.cells #[.int .i64 Y, .int .i64 MO, .int .i64 D, .int .i64 HO, .int .i64 MI, .int .i64 SS, .int .i64 K] 52) = w0 := ⟨_, rfl⟩
      have S0 : w0.heap.size = w.heap.size + 2 := by rw [← hw0]; simp
      rw [hw0] at X0 Y0 B0
      rw [World.size_alloc] at Y0
      have Hw0 := Lib.hid hw0
      clear hw0
      go_enter Tryd.func30, Tryd.ntmps30
      go_wp2_with fail
      rw [Hw0.out]
      refine (A1.out _).mono ?_
      rintro e w1 ⟨rfl, b1⟩
      have B1 := Lib.hid (B0.out.trans (b1.mono (by omega)))
      obtain ⟨d0, d1, d2, d3, d4, d5, d6⟩ := Wp.seven_of ((b1.block (w.heap.size + 1) (by omega)).trans Y0.out)
      have X1 := Lib.hid ((b1.block w.heap.size (by omega)).trans X0.out)
      have S1 : w.heap.size + 2 ≤ w1.heap.size := by have := b1.size; omega
      clear b1
      go_wp2_with fail
      refine (A2.out _ (HL.out.below B1.out)).mono ?_
      rintro e w2 ⟨rfl, b2⟩
      have B2 := Lib.hid (cv_then B1.out b2 B1.out.size)
      clear d0 d1 d2 d3 d4 d5 d6
      obtain ⟨c0, c1, c2, c3, c4, c5, c6, c7, c8, c9⟩ := Wp.ten_of ((b2.block w.heap.size (by omega)).trans X1.out)
      have S2 : w.heap.size ≤ w2.heap.size := B2.out.size
      clear b2
      go_wp2_with fail
      refine (A3.out _ (HL.out.below B2.out)).mono ?_
      rintro e w3 ⟨v, rfl, ho, b3⟩
      have HF := Lib.hid (HP.out v w3 (cv_owns_base ho (by omega)) (cv_then B2.out b3 B2.out.size))
      clear ho b3 c0 c1 c2 c3 c4 c5 c6 c7 c8 c9
      go_wp2_with fail
      exact HF.out
    | false =>
      rw [show Wp.timesR z m = ([], 2) from (if_pos hc).trans (if_neg (by rw [hm]; simp))]
      rw [show Wp.timeR m = (0, 2) from if_neg (by rw [hm]; simp)] at A2
      have HP := Lib.hid (fun w' h => Wp.TimesPost.none_ (w := w) (w' := w') h 2)
      simp only []
      generalize Wp.TimesPost [] 2 w = Q at *
      clear hc hz hm
      have HL := Lib.hid hL
      clear hL
      obtain ⟨base, save, ⟨fm, fn, fw, fi⟩, ⟨tm, tn, tw, ti⟩⟩ := z
      obtain ⟨Y, MO, D, HO, MI, SS, K⟩ := m
      unfold Wp.zoneC at A1 ⊢
      unfold Wp.momC at A2 ⊢
      simp only [] at A1 A2 HP ⊢
      have X0 := Lib.hid ((cv_past (w.alloc (.cells #[.int .i64 base, .int .i64 save, .int .i64 fm, .int .i64 fn, .int .i64 fw, .int .i64 fi, .int .i64 tm, .int .i64 tn, .int .i64 tw, .int .i64 ti] 48)) (.cells #[.int .i64 Y, .int .i64 MO, .int .i64 D, .int .i64 HO, .int .i64 MI, .int .i64 SS, .int .i64 K] 52) w.heap.size (by simp)).trans (cv_new w (.cells #[.int .i64 base, .int .i64 save, .int .i64 fm, .int .i64 fn, .int .i64 fw, .int .i64 fi, .int .i64 tm, .int .i64 tn, .int .i64 tw, .int .i64 ti] 48)))
      have Y0 := Lib.hid (cv_new (w.alloc (.cells #[.int .i64 base, .int .i64 save, .int .i64 fm, .int .i64 fn, .int .i64 fw, .int .i64 fi, .int .i64 tm, .int .i64 tn, .int .i64 tw, .int .i64 ti] 48)) (.cells #[.int .i64 Y, .int .i64 MO, .int .i64 D, .int .i64 HO, .int .i64 MI, .int .i64 SS, .int .i64 K] 52))
      have B0 := Lib.hid ((Wp.below_box w (.cells #[.int .i64 base, .int .i64 save, .int .i64 fm, .int .i64 fn, .int .i64 fw, .int .i64 fi, .int .i64 tm, .int .i64 tn, .int .i64 tw, .int .i64 ti] 48)).alloc (by simp) (.cells #[.int .i64 Y, .int .i64 MO, .int .i64 D, .int .i64 HO, .int .i64 MI, .int .i64 SS, .int .i64 K] 52))
      obtain ⟨w0, hw0⟩ : ∃ w0, (w.alloc (.cells #[.int .i64 base, .int .i64 save, .int .i64 fm, .int .i64 fn, .int .i64 fw, .int .i64 fi, .int .i64 tm, .int .i64 tn, .int .i64 tw, .int .i64 ti] 48)).alloc (.cells #[.int .i64 Y, .int .i64 MO, .int .i64 D, .int .i64 HO, .int .i64 MI, .int .i64 SS, .int .i64 K] 52) = w0 := ⟨_, rfl⟩
      have S0 : w0.heap.size = w.heap.size + 2 := by rw [← hw0]; simp
      rw [hw0] at X0 Y0 B0
      rw [World.size_alloc] at Y0
      have Hw0 := Lib.hid hw0
      clear hw0
      go_enter Tryd.func30, Tryd.ntmps30
      go_wp2_with fail
      rw [Hw0.out]
      refine (A1.out _).mono ?_
      rintro e w1 ⟨rfl, b1⟩
      have B1 := Lib.hid (B0.out.trans (b1.mono (by omega)))
      obtain ⟨d0, d1, d2, d3, d4, d5, d6⟩ := Wp.seven_of ((b1.block (w.heap.size + 1) (by omega)).trans Y0.out)
      have X1 := Lib.hid ((b1.block w.heap.size (by omega)).trans X0.out)
      have S1 : w.heap.size + 2 ≤ w1.heap.size := by have := b1.size; omega
      clear b1
      go_wp2_with fail
      refine (A2.out _ (HL.out.below B1.out)).mono ?_
      rintro e w2 ⟨rfl, b2⟩
      have B2 := Lib.hid (cv_then B1.out b2 B1.out.size)
      clear d0 d1 d2 d3 d4 d5 d6
      have HF := Lib.hid (HP.out _ B2.out)
      clear b2
      go_wp2_with fail
      exact HF.out
  · rw [show Wp.timesR z m = ([], 2) from if_neg hc]
    have HP := Lib.hid (fun w' h => Wp.TimesPost.none_ (w := w) (w' := w') h (Wp.chkR z))
    have hr : Wp.chkR z = 2 := by
      by_cases h : Wp.ZnOk z
      · exact absurd (Wp.chkR_ok h) hc
      · exact Wp.chkR_no h
    rw [hr] at A1 HP
    simp only []
    generalize Wp.TimesPost [] 2 w = Q at *
    clear hc hr
    obtain ⟨base, save, ⟨fm, fn, fw, fi⟩, ⟨tm, tn, tw, ti⟩⟩ := z
    obtain ⟨Y, MO, D, HO, MI, SS, K⟩ := m
    unfold Wp.zoneC at A1 ⊢
    unfold Wp.momC at A2 ⊢
    simp only [] at A1 A2 HP ⊢
    have X0 := Lib.hid ((cv_past (w.alloc (.cells #[.int .i64 base, .int .i64 save, .int .i64 fm, .int .i64 fn, .int .i64 fw, .int .i64 fi, .int .i64 tm, .int .i64 tn, .int .i64 tw, .int .i64 ti] 48)) (.cells #[.int .i64 Y, .int .i64 MO, .int .i64 D, .int .i64 HO, .int .i64 MI, .int .i64 SS, .int .i64 K] 52) w.heap.size (by simp)).trans (cv_new w (.cells #[.int .i64 base, .int .i64 save, .int .i64 fm, .int .i64 fn, .int .i64 fw, .int .i64 fi, .int .i64 tm, .int .i64 tn, .int .i64 tw, .int .i64 ti] 48)))
    have Y0 := Lib.hid (cv_new (w.alloc (.cells #[.int .i64 base, .int .i64 save, .int .i64 fm, .int .i64 fn, .int .i64 fw, .int .i64 fi, .int .i64 tm, .int .i64 tn, .int .i64 tw, .int .i64 ti] 48)) (.cells #[.int .i64 Y, .int .i64 MO, .int .i64 D, .int .i64 HO, .int .i64 MI, .int .i64 SS, .int .i64 K] 52))
    have B0 := Lib.hid ((Wp.below_box w (.cells #[.int .i64 base, .int .i64 save, .int .i64 fm, .int .i64 fn, .int .i64 fw, .int .i64 fi, .int .i64 tm, .int .i64 tn, .int .i64 tw, .int .i64 ti] 48)).alloc (by simp) (.cells #[.int .i64 Y, .int .i64 MO, .int .i64 D, .int .i64 HO, .int .i64 MI, .int .i64 SS, .int .i64 K] 52))
    obtain ⟨w0, hw0⟩ : ∃ w0, (w.alloc (.cells #[.int .i64 base, .int .i64 save, .int .i64 fm, .int .i64 fn, .int .i64 fw, .int .i64 fi, .int .i64 tm, .int .i64 tn, .int .i64 tw, .int .i64 ti] 48)).alloc (.cells #[.int .i64 Y, .int .i64 MO, .int .i64 D, .int .i64 HO, .int .i64 MI, .int .i64 SS, .int .i64 K] 52) = w0 := ⟨_, rfl⟩
    have S0 : w0.heap.size = w.heap.size + 2 := by rw [← hw0]; simp
    rw [hw0] at X0 Y0 B0
    rw [World.size_alloc] at Y0
    have Hw0 := Lib.hid hw0
    clear hw0
    go_enter Tryd.func30, Tryd.ntmps30
    go_wp2_with fail
    rw [Hw0.out]
    refine (A1.out _).mono ?_
    rintro e w1 ⟨rfl, b1⟩
    have B1 := Lib.hid (B0.out.trans (b1.mono (by omega)))
    obtain ⟨d0, d1, d2, d3, d4, d5, d6⟩ := Wp.seven_of ((b1.block (w.heap.size + 1) (by omega)).trans Y0.out)
    have X1 := Lib.hid ((b1.block w.heap.size (by omega)).trans X0.out)
    have S1 : w.heap.size + 2 ≤ w1.heap.size := by have := b1.size; omega
    clear b1
    go_wp2_with fail
    exact HP.out _ B1.out
end Go.Proofs.YtpaleljnkejdgaaDoor
