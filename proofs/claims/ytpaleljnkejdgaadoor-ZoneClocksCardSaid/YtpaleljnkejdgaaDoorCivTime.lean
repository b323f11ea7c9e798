/-
  The walks of civil.Time and civil.Of. Conditions: the table reads as it is laid.
-/
import Derived.Test.YtpaleljnkejdgaaDoorCivCalls
namespace Go.Proofs.YtpaleljnkejdgaaDoor
open Go.RowKit

theorem Cv.Laid.box {w : World} (h : Cv.Laid w) (o : Obj) : Cv.Laid (w.alloc o) := h.below ((Below.refl _ _).alloc (Nat.le_refl _) o)
set_option maxHeartbeats 1000000 in
theorem civ_Time_yes (m : Wp.Mom) (w : World) (hL : Cv.Laid w) (hm : Wp.momOk m = true) :
    Calls Tryd.prog 62 #[.agg (Wp.momC m)] w fun e w' => e = .returned (.tuple #[.int .i64 (Wp.timeD m), .int .i64 0]) ∧ Below w.heap.size w w' := by
  obtain ⟨hd, a1, a2, a3, a4, a5, a6⟩ := Wp.momOk_iff.1 hm
  have Ht := Lib.hid (show Wp.timeD m = -62135596800 + Wp.num m.y m.mo m.d * 86400 + (m.h * 3600 + m.mi * 60 + m.s) from rfl)
  generalize Wp.timeD m = r at *
  obtain ⟨y, mo, d, h, mi, s, k⟩ := m
  simp only [] at hd a1 a2 a3 a4 a5 a6 Ht
  unfold Wp.momC
  simp only []
  have hr := hd.range
  have hb := (Wp.dy_bd (y := y) hd.m1 hd.m2).2
  have h5 := hd.d2
  have A1 := Lib.hid (fun w hL => civ_isDay_yes y mo d w hL hd)
  have A2 := Lib.hid (fun w hL => civ_number y mo d w hL hd.y1 (by have := hd.y2; omega) hd.m1 hd.m2 hd.d1 (by omega))
  generalize Wp.num y mo d = b at *
  clear hm hd hb h5
  have HL := Lib.hid (hL.box (.cells #[.int .i64 y, .int .i64 mo, .int .i64 d, .int .i64 h, .int .i64 mi, .int .i64 s, .int .i64 k] 52))
  clear hL
  go_enter Tryd.func62, Tryd.ntmps62
  go_wp2_with fail
  refine (A1.out _ HL.out).mono ?_
  rintro e w1 ⟨rfl, rfl⟩
  go_wp2_with fail
  refine (civ_below_yes _ _ _ a1 a2).mono ?_
  rintro e w1 ⟨rfl, rfl⟩
  go_wp2_with fail
  refine (civ_below_yes _ _ _ a3 a4).mono ?_
  rintro e w1 ⟨rfl, rfl⟩
  go_wp2_with fail
  refine (civ_below_yes _ _ _ a5 a6).mono ?_
  rintro e w1 ⟨rfl, rfl⟩
  go_wp2_with fail
  refine (A2.out _ HL.out).mono ?_
  rintro e w1 ⟨rfl, rfl⟩
  go_wp2_with fail
  go_ret2
  rw [Ht.out]
  exact ⟨rfl, (Below.refl _ _).alloc (Nat.le_refl _) _⟩
theorem Wp.momOk_no {m : Wp.Mom} (h : Wp.momOk m = false) : ¬ Wp.Day m.y m.mo m.d ∨ (Wp.Day m.y m.mo m.d ∧ ¬ (0 ≤ m.h ∧ m.h < 24)) ∨ (Wp.Day m.y m.mo m.d ∧ (0 ≤ m.h ∧ m.h < 24) ∧ ¬ (0 ≤ m.mi ∧ m.mi < 60)) ∨ (Wp.Day m.y m.mo m.d ∧ (0 ≤ m.h ∧ m.h < 24) ∧ (0 ≤ m.mi ∧ m.mi < 60) ∧ ¬ (0 ≤ m.s ∧ m.s < 60)) := by
  by_cases h1 : Wp.Day m.y m.mo m.d
  · by_cases h2 : 0 ≤ m.h ∧ m.h < 24
    · by_cases h3 : 0 ≤ m.mi ∧ m.mi < 60
      · by_cases h4 : 0 ≤ m.s ∧ m.s < 60
        · rw [Wp.momOk_iff.2 ⟨h1, h2.1, h2.2, h3.1, h3.2, h4.1, h4.2⟩] at h; cases h
        · exact Or.inr (Or.inr (Or.inr ⟨h1, h2, h3, h4⟩))
      · exact Or.inr (Or.inr (Or.inl ⟨h1, h2, h3⟩))
    · exact Or.inr (Or.inl ⟨h1, h2⟩)
  · exact Or.inl h1
set_option maxHeartbeats 1000000 in
theorem civ_Time_no (m : Wp.Mom) (w : World) (hL : Cv.Laid w) (hm : Wp.momOk m = false) :
    Calls Tryd.prog 62 #[.agg (Wp.momC m)] w fun e w' => e = .returned (.tuple #[.int .i64 0, .int .i64 2]) ∧ Below w.heap.size w w' := by
  have hc := Wp.momOk_no hm
  clear hm
  obtain ⟨y, mo, d, h, mi, s, k⟩ := m
  simp only [] at hc
  unfold Wp.momC
  simp only []
  have HL := Lib.hid (hL.box (.cells #[.int .i64 y, .int .i64 mo, .int .i64 d, .int .i64 h, .int .i64 mi, .int .i64 s, .int .i64 k] 52))
  clear hL
  rcases hc with h0 | ⟨h0, h1⟩ | ⟨h0, h1, h2⟩ | ⟨h0, h1, h2, h3⟩
  · have A1 := Lib.hid (fun w hL => civ_isDay_no y mo d w hL h0)
    clear h0
    go_enter Tryd.func62, Tryd.ntmps62
    go_wp2_with fail
    refine (A1.out _ HL.out).mono ?_
    rintro e w1 ⟨rfl, rfl⟩
    go_wp2_with fail
    go_ret2
    exact ⟨rfl, (Below.refl _ _).alloc (Nat.le_refl _) _⟩
  · have A1 := Lib.hid (fun w hL => civ_isDay_yes y mo d w hL h0)
    have A2 := Lib.hid (fun w => civ_below_no h 24 w h1)
    clear h0 h1
    go_enter Tryd.func62, Tryd.ntmps62
    go_wp2_with fail
    refine (A1.out _ HL.out).mono ?_
    rintro e w1 ⟨rfl, rfl⟩
    go_wp2_with fail
    refine (A2.out _).mono ?_
    rintro e w1 ⟨rfl, rfl⟩
    go_wp2_with fail
    go_ret2
    exact ⟨rfl, (Below.refl _ _).alloc (Nat.le_refl _) _⟩
  · have A1 := Lib.hid (fun w hL => civ_isDay_yes y mo d w hL h0)
    have A2 := Lib.hid (fun w => civ_below_yes h 24 w h1.1 h1.2)
    have A3 := Lib.hid (fun w => civ_below_no mi 60 w h2)
    clear h0 h1 h2
    go_enter Tryd.func62, Tryd.ntmps62
    go_wp2_with fail
    refine (A1.out _ HL.out).mono ?_
    rintro e w1 ⟨rfl, rfl⟩
    go_wp2_with fail
    refine (A2.out _).mono ?_
    rintro e w1 ⟨rfl, rfl⟩
    go_wp2_with fail
    refine (A3.out _).mono ?_
    rintro e w1 ⟨rfl, rfl⟩
    go_wp2_with fail
    go_ret2
    exact ⟨rfl, (Below.refl _ _).alloc (Nat.le_refl _) _⟩
  · have A1 := Lib.hid (fun w hL => civ_isDay_yes y mo d w hL h0)
    have A2 := Lib.hid (fun w => civ_below_yes h 24 w h1.1 h1.2)
    have A3 := Lib.hid (fun w => civ_below_yes mi 60 w h2.1 h2.2)
    have A4 := Lib.hid (fun w => civ_below_no s 60 w h3)
    clear h0 h1 h2 h3
    go_enter Tryd.func62, Tryd.ntmps62
    go_wp2_with fail
    refine (A1.out _ HL.out).mono ?_
    rintro e w1 ⟨rfl, rfl⟩
    go_wp2_with fail
    refine (A2.out _).mono ?_
    rintro e w1 ⟨rfl, rfl⟩
    go_wp2_with fail
    refine (A3.out _).mono ?_
    rintro e w1 ⟨rfl, rfl⟩
    go_wp2_with fail
    refine (A4.out _).mono ?_
    rintro e w1 ⟨rfl, rfl⟩
    go_wp2_with fail
    go_ret2
    exact ⟨rfl, (Below.refl _ _).alloc (Nat.le_refl _) _⟩
theorem civ_Time (m : Wp.Mom) (w : World) (hL : Cv.Laid w) :
    Calls Tryd.prog 62 #[.agg (Wp.momC m)] w fun e w' => e = .returned (.tuple #[.int .i64 (Wp.timeR m).1, .int .i64 (Wp.timeR m).2]) ∧ Below w.heap.size w w' := by
  cases hm : Wp.momOk m with
  | true => rw [show Wp.timeR m = (Wp.timeD m, 0) from if_pos hm]; exact civ_Time_yes m w hL hm
  | false => rw [show Wp.timeR m = (0, 2) from if_neg (by rw [hm]; simp)]; exact civ_Time_no m w hL hm

set_option maxHeartbeats 1000000 in
theorem civ_Of_yes (t : Int) (m : Wp.Mom) (w : World) (hL : Cv.Laid w) (h : Wp.IsOf t m) :
    Calls Tryd.prog 54 #[.int .i64 t] w fun e w' => e = .returned (.tuple #[.agg (Wp.momC m), .int .i64 0]) ∧ Below w.heap.size w w' := by
  have hT := h.isT
  obtain ⟨h1, h2⟩ := Wp.isT_yes hT
  obtain ⟨n1, n2, n3, n4⟩ := h.parts
  have hd := (Wp.momOk_iff.1 h.ok).1
  have hk := h.k
  obtain ⟨y, mo, d, ho, mi, s, k⟩ := m
  simp only [] at hd hk n1 n2 n3 n4
  unfold Wp.momC
  simp only []
  have hr := hd.range
  have hlo := hd.lo
  have hhi := hd.hi
  have hiy := hd.in_year
  have hlp := Wp.lp_01 y
  have ham := Wp.ah_succ y mo
  have hd1 := hd.d1
  have hd2 := hd.d2
  have hnum := (show Wp.num y mo d = Wp.bg y + Wp.ah y mo + d - 1 from rfl)
  have b1 := Wp.bg_mono hd.y1
  rw [Wp.bg_one] at b1
  have b3 := Wp.ah_bd (y := y) hd.m1 (by have := hd.m2; omega)
  have b2 := hd.m2
  have A1 := Lib.hid (fun w => civ_yearOf (Wp.num y mo d) y w hr.1 hr.2 hd.y1 hd.y2 hlo hhi)
  have A2 := Lib.hid (fun w => civ_begin y w hd.y1 (by have := hd.y2; omega))
  have A3 := Lib.hid (fun w hL => civ_monthOf y (Wp.num y mo d - Wp.bg y) mo w hL hd.y1 hd.y2 (by omega) (by omega) hd.m1 hd.m2 (by omega) (by omega))
  have A4 := Lib.hid (fun w hL => civ_ahead y mo w hL hd.y1 (by have := hd.y2; omega) hd.m1 (by omega))
  have A5 := Lib.hid (fun w => civ_weekdayOf (Wp.num y mo d) w hr.1 hr.2)
  have hdd : 1 + Wp.num y mo d - Wp.bg y - Wp.ah y mo = d := by omega
  rw [← hk] at A5
  have hm1 := hd.m1
  have hbig : Wp.bg y ≤ 3652058 := by omega
  generalize Wp.num y mo d = N at *
  generalize Wp.bg y = b at *
  generalize Wp.ah y mo = a at *
  clear hlp hiy ham hd2 hnum hhi h hk hd
  have ht : t = -62135596800 + N * 86400 + (ho * 3600 + mi * 60 + s) := by omega
  have m1 : 0 ≤ ho ∧ ho < 24 ∧ 0 ≤ mi ∧ mi < 60 ∧ 0 ≤ s ∧ s < 60 := by omega
  obtain ⟨u, hu⟩ : ∃ u, u = t + 62135596800 := ⟨_, rfl⟩
  rw [← hu] at n1 n2 n3 n4
  have u1 : 0 ≤ u := by omega
  have u2 : u ≤ 315537897599 := by omega
  obtain ⟨v, hv⟩ : ∃ v, v = u % 86400 := ⟨_, rfl⟩
  have v1 : 0 ≤ v ∧ v < 86400 := by omega
  rw [← hv] at n2 n3 n4
  have HT := Lib.hid hT
  have Hu := Lib.hid hu
  have Hv := Lib.hid hv
  have N1 := Lib.hid n1
  have N2 := Lib.hid n2
  have N3 := Lib.hid n3
  have N4 := Lib.hid n4
  have Hdd := Lib.hid hdd
  clear hT hu hv n1 n2 n3 n4 hdd ht
  have HL := Lib.hid (hL.box (.cells #[.int .i64 0, .int .i64 0, .int .i64 0, .int .i64 0, .int .i64 0, .int .i64 0, .int .i64 0] 52))
  clear hL
  go_enter Tryd.func54, Tryd.ntmps54
  go_wp2_with fail
  refine (civ_isTime _ _).mono ?_
  rintro e w1 ⟨rfl, rfl⟩
  rw [HT.out]
  go_wp2_with fail
  rw [← Hu.out, ← N1.out]
  refine (A1.out _).mono ?_
  rintro e w1 ⟨rfl, rfl⟩
  go_wp2_with fail
  refine (A2.out _).mono ?_
  rintro e w1 ⟨rfl, rfl⟩
  go_wp2_with fail
  refine (A3.out _ HL.out).mono ?_
  rintro e w1 ⟨rfl, rfl⟩
  go_wp2_with fail
  refine (A2.out _).mono ?_
  rintro e w1 ⟨rfl, rfl⟩
  go_wp2_with fail
  refine (A4.out _ HL.out).mono ?_
  rintro e w1 ⟨rfl, rfl⟩
  go_wp2_with fail
  refine (A5.out _).mono ?_
  rintro e w1 ⟨rfl, rfl⟩
  go_wp2_with fail
  refine bodyPost_ret (cv_ret rfl _ _ w.heap.size 52 _ _ rfl (cv_new _ _) Tryd.underlying52 rfl (by kernel_rfl)) rfl ?_
  refine ⟨?_, (Below.refl _ _).alloc (Nat.le_refl _) _⟩
  have q1 : u % 86400 / 3600 = ho := by rw [N2.out, Hv.out]
  have q2 : u % 3600 / 60 = mi := by rw [N3.out, Hv.out]; omega
  have q3 : u % 60 = s := by rw [N4.out, Hv.out]; omega
  rw [Hdd.out, q1, q2, q3]
  rfl
theorem civ_Of_no (t : Int) (w : World) (h : Wp.isT t = false) :
    Calls Tryd.prog 54 #[.int .i64 t] w fun e w' => e = .returned (.tuple #[.agg (Wp.momC Wp.Mom.zero), .int .i64 1]) ∧ Below w.heap.size w w' := by
  have HT := Lib.hid h
  clear h
  go_enter Tryd.func54, Tryd.ntmps54
  go_wp2_with fail
  refine (civ_isTime _ _).mono ?_
  rintro e w1 ⟨rfl, rfl⟩
  rw [HT.out]
  go_wp2_with fail
  refine bodyPost_ret (cv_ret rfl _ _ w.heap.size 52 _ _ rfl (cv_new _ _) Tryd.underlying52 rfl (by kernel_rfl)) rfl ?_
  exact ⟨rfl, (Below.refl _ _).alloc (Nat.le_refl _) _⟩
end Go.Proofs.YtpaleljnkejdgaaDoor
