/-
  The walk of the document's own local moment of a zone (bellmanref06.Local). No condition.
-/
import Derived.Test.YtpaleljnkejdgaaDoorRZonOfs
import Derived.Test.YtpaleljnkejdgaaDoorZonLocal
namespace Go.Proofs.YtpaleljnkejdgaaDoor
open Go.RowKit

theorem rciv_OfR (t : Int) (w : World) : Calls Tryd.prog 56 #[.int .i64 t] w fun e w' => e = .returned (.tuple #[.agg (Wp.momC (Wp.ofR t).1), .int .i64 (Wp.ofR t).2]) ∧ Below w.heap.size w w' := by
  cases ht : Wp.isT t with
  | true =>
    obtain ⟨a, b⟩ := Wp.ofR_yes ht
    rw [b]
    exact rciv_Of_yes t _ w a
  | false => rw [Wp.ofR_no ht]; exact rciv_Of_no t w ht
set_option maxHeartbeats 1000000 in
theorem rzon_Local (z : Wp.Zn) (t : Int) (w : World) :
    Calls Tryd.prog 22 #[.agg (Wp.zoneC z), .int .i64 t] w fun e w' => e = .returned (.tuple #[.agg (Wp.momC (Wp.locR z t).1), .int .i64 (Wp.locR z t).2]) ∧ Below w.heap.size w w' := by
  have A1 := Lib.hid (fun w => rzon_Offset z t w)
  by_cases hc : Wp.chk2R z t = 0
  · rw [show Wp.locR z t = Wp.ofR (t + Wp.ofs z t * 60) from if_pos hc]
    obtain ⟨hz, ht⟩ := Wp.chk2R_ok hc
    have hob := Wp.ofs_two z t
    rw [show Wp.offR z t = (Wp.ofs z t, 0) from if_pos hc] at A1
    have A3 := Lib.hid (fun w => rciv_OfR (t + Wp.ofs z t * 60) w)
    rw [Int.mul_comm] at A3 ⊢
    have hb := hz.1
    obtain ⟨b1, b2, b3, b4⟩ := hb
    obtain ⟨t1, t2⟩ := Wp.isT_yes ht
    generalize Wp.ofR (t + 60 * Wp.ofs z t) = R at *
    generalize Wp.ofs z t = r at *
    have r1 : -900 ≤ r ∧ r ≤ 1020 := by omega
    obtain ⟨r1, r2⟩ := r1
    obtain ⟨⟨Y, MO, D, HO, MI, SS, K⟩, er⟩ := R
    clear hc hz ht hob
    obtain ⟨base, save, ⟨fm, fn, fw, fi⟩, ⟨tm, tn, tw, ti⟩⟩ := z
    unfold Wp.momC at A3 ⊢
    unfold Wp.zoneC at A1 ⊢
    simp only [] at A1 A3 ⊢
    have X0 := Lib.hid ((cv_past (w.alloc (.cells #[.int .i64 base, .int .i64 save, .int .i64 fm, .int .i64 fn, .int .i64 fw, .int .i64 fi, .int .i64 tm, .int .i64 tn, .int .i64 tw, .int .i64 ti] 48)) (.cells #[.int .i64 0, .int .i64 0, .int .i64 0, .int .i64 0, .int .i64 0, .int .i64 0, .int .i64 0] 52) w.heap.size (by simp)).trans (cv_new w (.cells #[.int .i64 base, .int .i64 save, .int .i64 fm, .int .i64 fn, .int .i64 fw, .int .i64 fi, .int .i64 tm, .int .i64 tn, .int .i64 tw, .int .i64 ti] 48)))
    have Y0 := Lib.hid (cv_new (w.alloc (.cells #[.int .i64 base, .int .i64 save, .int .i64 fm, .int .i64 fn, .int .i64 fw, .int .i64 fi, .int .i64 tm, .int .i64 tn, .int .i64 tw, .int .i64 ti] 48)) (.cells #[.int .i64 0, .int .i64 0, .int .i64 0, .int .i64 0, .int .i64 0, .int .i64 0, .int .i64 0] 52))
    have B0 := Lib.hid ((Wp.below_box w (.cells #[.int .i64 base, .int .i64 save, .int .i64 fm, .int .i64 fn, .int .i64 fw, .int .i64 fi, .int .i64 tm, .int .i64 tn, .int .i64 tw, .int .i64 ti] 48)).alloc (by simp) (.cells #[.int .i64 0, .int .i64 0, .int .i64 0, .int .i64 0, .int .i64 0, .int .i64 0, .int .i64 0] 52))
    obtain ⟨w0, hw0⟩ : ∃ w0, (w.alloc (.cells #[.int .i64 base, .int .i64 save, .int .i64 fm, .int .i64 fn, .int .i64 fw, .int .i64 fi, .int .i64 tm, .int .i64 tn, .int .i64 tw, .int .i64 ti] 48)).alloc (.cells #[.int .i64 0, .int .i64 0, .int .i64 0, .int .i64 0, .int .i64 0, .int .i64 0, .int .i64 0] 52) = w0 := ⟨_, rfl⟩
    have S0 : w0.heap.size = w.heap.size + 2 := by rw [← hw0]; simp
    rw [hw0] at X0 Y0 B0
    rw [World.size_alloc] at Y0
    have Hw0 := Lib.hid hw0
    clear hw0
    go_enter Tryd.func22, Tryd.ntmps22
    go_wp2_with fail
    rw [Hw0.out]
    refine (A1.out _).mono ?_
    rintro e w1 ⟨rfl, b1'⟩
    have S1 : w.heap.size + 2 ≤ w1.heap.size := by have := b1'.size; omega
    have B1 := Lib.hid (B0.out.trans (b1'.mono (by omega)))
    have Y1 := Lib.hid ((b1'.block (w.heap.size + 1) (by omega)).trans Y0.out)
    go_wp2_with fail
    refine (A3.out _).mono ?_
    rintro e w3 ⟨rfl, b3'⟩
    have hy := (b3'.block (w.heap.size + 1) (by omega)).trans Y1.out
    have HY := Lib.hid hy
    have B3 := Lib.hid (cv_then B1.out b3' B1.out.size)
    obtain ⟨d0, d1, d2, d3, d4, d5, d6⟩ := Wp.seven_of hy
    obtain ⟨f0, f1, f2, f3, f4, f5, f6⟩ := Wp.sevenF_of hy
    clear hy
    go_wp2_with fail
    refine bodyPost_ret (cv_ret rfl _ _ (w.heap.size + 1) 52 _ _ rfl (seven_set HY.out _ _ _ _ _ _ _) Tryd.underlying52 rfl (by kernel_rfl)) rfl ?_
    exact ⟨rfl, seven_below B3.out (by omega) _ _ _ _ _ _ _⟩
  · rw [show Wp.locR z t = (Wp.Mom.zero, Wp.chk2R z t) from if_neg hc]
    rw [show Wp.offR z t = (0, Wp.chk2R z t) from if_neg hc] at A1
    generalize Wp.chk2R z t = q at *
    have hq : (q != 0) = true := by simpa using hc
    clear hc
    obtain ⟨base, save, ⟨fm, fn, fw, fi⟩, ⟨tm, tn, tw, ti⟩⟩ := z
    unfold Wp.momC Wp.Mom.zero
    unfold Wp.zoneC at A1 ⊢
    simp only [] at A1 ⊢
    have Y0 := Lib.hid (cv_new (w.alloc (.cells #[.int .i64 base, .int .i64 save, .int .i64 fm, .int .i64 fn, .int .i64 fw, .int .i64 fi, .int .i64 tm, .int .i64 tn, .int .i64 tw, .int .i64 ti] 48)) (.cells #[.int .i64 0, .int .i64 0, .int .i64 0, .int .i64 0, .int .i64 0, .int .i64 0, .int .i64 0] 52))
    have B0 := Lib.hid ((Wp.below_box w (.cells #[.int .i64 base, .int .i64 save, .int .i64 fm, .int .i64 fn, .int .i64 fw, .int .i64 fi, .int .i64 tm, .int .i64 tn, .int .i64 tw, .int .i64 ti] 48)).alloc (by simp) (.cells #[.int .i64 0, .int .i64 0, .int .i64 0, .int .i64 0, .int .i64 0, .int .i64 0, .int .i64 0] 52))
    obtain ⟨w0, hw0⟩ : ∃ w0, (w.alloc (.cells #[.int .i64 base, .int .i64 save, .int .i64 fm, .int .i64 fn, .int .i64 fw, .int .i64 fi, .int .i64 tm, .int .i64 tn, .int .i64 tw, .int .i64 ti] 48)).alloc (.cells #[.int .i64 0, .int .i64 0, .int .i64 0, .int .i64 0, .int .i64 0, .int .i64 0, .int .i64 0] 52) = w0 := ⟨_, rfl⟩
    have S0 : w0.heap.size = w.heap.size + 2 := by rw [← hw0]; simp
    rw [hw0] at Y0 B0
    rw [World.size_alloc] at Y0
    have Hw0 := Lib.hid hw0
    clear hw0
    go_enter Tryd.func22, Tryd.ntmps22
    go_wp2_with fail
    rw [Hw0.out]
    refine (A1.out _).mono ?_
    rintro e w1 ⟨rfl, b1'⟩
    have B1 := Lib.hid (B0.out.trans (b1'.mono (by omega)))
    have hy := (b1'.block (w.heap.size + 1) (by omega)).trans Y0.out
    have HY := Lib.hid hy
    obtain ⟨d0, d1, d2, d3, d4, d5, d6⟩ := Wp.seven_of hy
    obtain ⟨f0, f1, f2, f3, f4, f5, f6⟩ := Wp.sevenF_of hy
    clear hy
    go_wp2_with fail
    refine bodyPost_ret (cv_ret rfl _ _ (w.heap.size + 1) 52 _ _ rfl (seven_set HY.out _ _ _ _ _ _ _) Tryd.underlying52 rfl (by kernel_rfl)) rfl ?_
    exact ⟨rfl, seven_below B1.out (by omega) _ _ _ _ _ _ _⟩
end Go.Proofs.YtpaleljnkejdgaaDoor
