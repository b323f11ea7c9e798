/-
  The law ZoneTimes: whatever a zone is, any local moment has the times that the document says, or is none. Conditions: the calendar's table and the table of names read as they are laid.
-/
import Derived.Test.YtpaleljnkejdgaaDoorRZonTms
import Derived.Test.YtpaleljnkejdgaaDoorZonLives
import Derived.Test.YtpaleljnkejdgaaDoorSameNums
namespace Go.Proofs.YtpaleljnkejdgaaDoor
open Go.RowKit

theorem Wp.timesR_len (z : Wp.Zn) (m : Wp.Mom) : (Wp.timesR z m).1.length ≤ 2 := by
  unfold Wp.timesR
  split
  · split
    · rw [Wp.timesL_steps]
      have h1 := Wp.stepT_len z (Wp.timeD m) [] (z.base + z.save)
      have h2 := Wp.stepT_len z (Wp.timeD m) (Wp.stepT z (Wp.timeD m) [] (z.base + z.save)) z.base
      simp only [List.length_nil] at h1
      show (Wp.stepT z (Wp.timeD m) (Wp.stepT z (Wp.timeD m) [] (z.base + z.save)) z.base).length ≤ 2
      omega
    · simp
  · simp
set_option maxRecDepth 100000 in
set_option maxHeartbeats 4000000 in
theorem zoneTimes_any (z : Wp.Zn) (m : Wp.Mom) (w : World) (hL : Zt.Both w) :
    Calls Tryd.prog 7 #[.agg (Wp.zoneC z), .agg (Wp.momC m)] w fun e w' => e = .returned (.bool true) ∧ Below w.heap.size w w' := by
  have A0 := Lib.hid (fun w hL => zonLives_any w hL)
  have A1 := Lib.hid (show ∀ w, Zt.Both w → Calls Tryd.prog 30 #[.agg (Wp.zoneC z), .agg (Wp.momC m)] w (fun e w' => ∃ v, e = .returned (.tuple #[v, .int .i64 (Wp.timesR z m).2]) ∧ w'.ownsRow w.heap.size 2 1 v (Wp.timesR z m).1.length ((Wp.timesR z m).1.map (Value.int .i64)) ∧ Below w.heap.size w w') from fun w hL => zon_Times z m w hL.cv)
  have A2 := Lib.hid (show ∀ w, Calls Tryd.prog 31 #[.agg (Wp.zoneC z), .agg (Wp.momC m)] w (fun e w' => ∃ v, e = .returned (.tuple #[v, .int .i64 (Wp.timesR z m).2]) ∧ w'.ownsRow w.heap.size 2 1 v (Wp.timesR z m).1.length ((Wp.timesR z m).1.map (Value.int .i64)) ∧ Below w.heap.size w w') from fun w => rzon_Times z m w)
  have HN := Wp.timesR_len z m
  generalize (Wp.timesR z m).1 = L at *
  generalize (Wp.timesR z m).2 = q at *
  have A3 := Lib.hid (fun p1 p2 c1 c2 w h1 h2 => same_nums p1 p2 c1 c2 L w (by omega) h1 h2)
  obtain ⟨base, save, ⟨fm, fn, fw, fi⟩, ⟨tm, tn, tw, ti⟩⟩ := z
  obtain ⟨Y, MO, D, HO, MI, SS, K⟩ := m
  unfold Wp.zoneC at A1 A2 ⊢
  unfold Wp.momC at A1 A2 ⊢
  simp only [] at A1 A2 ⊢
  have HL := Lib.hid hL
  clear hL
  have X0 := Lib.hid ((cv_past (w.alloc (.cells #[.int .i64 base, .int .i64 save, .int .i64 fm, .int .i64 fn, .int .i64 fw, .int .i64 fi, .int .i64 tm, .int .i64 tn, .int .i64 tw, .int .i64 ti] 48)) (.cells #[.int .i64 Y, .int .i64 MO, .int .i64 D, .int .i64 HO, .int .i64 MI, .int .i64 SS, .int .i64 K] 52) w.heap.size (by simp)).trans (cv_new w (.cells #[.int .i64 base, .int .i64 save, .int .i64 fm, .int .i64 fn, .int .i64 fw, .int .i64 fi, .int .i64 tm, .int .i64 tn, .int .i64 tw, .int .i64 ti] 48)))
  have B0 := Lib.hid ((Wp.below_box w (.cells #[.int .i64 base, .int .i64 save, .int .i64 fm, .int .i64 fn, .int .i64 fw, .int .i64 fi, .int .i64 tm, .int .i64 tn, .int .i64 tw, .int .i64 ti] 48)).alloc (by simp) (.cells #[.int .i64 Y, .int .i64 MO, .int .i64 D, .int .i64 HO, .int .i64 MI, .int .i64 SS, .int .i64 K] 52))
  have Y0 := Lib.hid (cv_new (w.alloc (.cells #[.int .i64 base, .int .i64 save, .int .i64 fm, .int .i64 fn, .int .i64 fw, .int .i64 fi, .int .i64 tm, .int .i64 tn, .int .i64 tw, .int .i64 ti] 48)) (.cells #[.int .i64 Y, .int .i64 MO, .int .i64 D, .int .i64 HO, .int .i64 MI, .int .i64 SS, .int .i64 K] 52))
  obtain ⟨w0, hw0⟩ : ∃ w0, (w.alloc (.cells #[.int .i64 base, .int .i64 save, .int .i64 fm, .int .i64 fn, .int .i64 fw, .int .i64 fi, .int .i64 tm, .int .i64 tn, .int .i64 tw, .int .i64 ti] 48)).alloc (.cells #[.int .i64 Y, .int .i64 MO, .int .i64 D, .int .i64 HO, .int .i64 MI, .int .i64 SS, .int .i64 K] 52) = w0 := ⟨_, rfl⟩
  have S0 : w0.heap.size = w.heap.size + 2 := by rw [← hw0]; simp
  rw [hw0] at X0 B0 Y0
  rw [World.size_alloc] at Y0
  have Hw0 := Lib.hid hw0
  clear hw0
  go_enter Tryd.func7, Tryd.ntmps7
  go_wp2_with fail
  rw [Hw0.out]
  refine (A1.out _ (HL.out.below B0.out)).mono ?_
  rintro e w1 ⟨v1, rfl, ho1, hb⟩
  have S1 : w.heap.size + 2 ≤ w1.heap.size := by have := hb.size; omega
  have B1 := Lib.hid (cv_then B0.out hb B0.out.size)
  obtain ⟨c0, c1, c2, c3, c4, c5, c6, c7, c8, c9⟩ := Wp.ten_of ((hb.block w.heap.size (by omega)).trans X0.out)
  obtain ⟨d0, d1, d2, d3, d4, d5, d6⟩ := Wp.seven_of ((hb.block (w.heap.size + 1) (by omega)).trans Y0.out)
  have O1 := Lib.hid ho1
  clear hb ho1 X0 Y0 B0 Hw0
  go_wp2_with fail
  refine (A2.out _).mono ?_
  rintro e w2 ⟨v2, rfl, ho2, hb⟩
  have B2 := Lib.hid (cv_then B1.out hb B1.out.size)
  obtain ⟨p1, e1, rfl, h1⟩ := owns_at O1.out
  obtain ⟨p2, e2, rfl, h2⟩ := owns_at ho2
  have H1 := Lib.hid (h1.below hb)
  have H2 := Lib.hid h2
  clear hb ho2 h1 h2 O1 c0 c1 c2 c3 c4 c5 c6 c7 c8 c9 d0 d1 d2 d3 d4 d5 d6
  go_wp2_with fail
  refine (A0.out _ (HL.out.below B2.out)).mono ?_
  rintro e w3 ⟨rfl, hb⟩
  have B3 := Lib.hid (cv_then B2.out hb B2.out.size)
  have K1 := Lib.hid (H1.out.below hb)
  have K2 := Lib.hid (H2.out.below hb)
  clear hb H1 H2
  go_wp2_with fail
  refine (A3.out _ _ _ _ _ K1.out K2.out).mono ?_
  rintro e w4 ⟨rfl, hb⟩
  have B4 := Lib.hid (cv_then B3.out hb B3.out.size)
  clear hb
  go_wp2_with fail
  go_ret
  exact ⟨rfl, B4.out⟩
end Go.Proofs.YtpaleljnkejdgaaDoor
