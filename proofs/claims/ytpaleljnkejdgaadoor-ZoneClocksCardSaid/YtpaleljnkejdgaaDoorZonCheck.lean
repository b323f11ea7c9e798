/-
  The walks of zone's switchesRight, Check and check: a zone that is right is told so, and no other. No condition but those that the theorems state.
-/
import Derived.Test.YtpaleljnkejdgaaDoorZonSmall
namespace Go.Proofs.YtpaleljnkejdgaaDoor
open Go.RowKit

theorem Wp.Sw.zero_or (s : Wp.Sw) : s = Wp.Sw.zero ∨ (s.mo == 0) = false ∨ ((s.mo == 0) = true ∧ (s.nth == 0) = false) ∨ ((s.mo == 0) = true ∧ (s.nth == 0) = true ∧ (s.wd == 0) = false) ∨ ((s.mo == 0) = true ∧ (s.nth == 0) = true ∧ (s.wd == 0) = true ∧ (s.mi == 0) = false) := by
  obtain ⟨a, b, c, d⟩ := s
  by_cases h1 : a = 0
  · by_cases h2 : b = 0
    · by_cases h3 : c = 0
      · by_cases h4 : d = 0
        · subst h1 h2 h3 h4; exact Or.inl rfl
        · simp [h1, h2, h3, h4]
      · simp [h1, h2, h3]
    · simp [h1, h2]
  · simp [h1]
set_option maxHeartbeats 1000000 in
theorem zon_sws_yes (z : Wp.Zn) (w : World) (h : Wp.SwsOk z) (hc : Wp.ClkOk z) : Calls Tryd.prog 59 #[.agg (Wp.zoneC z)] w fun e w' => e = .returned (.bool true) ∧ Below w.heap.size w w' := by
  rcases h with ⟨h1, h2, h3⟩ | ⟨h1, h2, h3, h4, h5⟩
  · obtain ⟨base, save, fr, to⟩ := z
    simp only [] at h1 h2 h3
    subst h1 h2 h3
    unfold Wp.zoneC Wp.Sw.zero
    simp only []
    go_enter Tryd.func59, Tryd.ntmps59
    go_wp2_with fail
    go_ret
    exact ⟨rfl, Wp.below_box _ _⟩
  · have A1 := Lib.hid (fun w => zon_switch_yes z.fr w h2)
    have A2 := Lib.hid (fun w => zon_switch_yes z.to w h3)
    obtain ⟨a1, a2, _, _, _, _, _, _⟩ := h2
    obtain ⟨b1, b2, _, _, _, _, _, _⟩ := h3
    obtain ⟨base, save, ⟨fm, fn, fw, fi⟩, ⟨tm, tn, tw, ti⟩⟩ := z
    unfold Wp.swC at A1 A2
    unfold Wp.zoneC
    unfold Wp.apart at h4 h5
    simp only [] at *
    have q : (save == 0) = false := by simpa using h1
    have X0 := Lib.hid (cv_new w (.cells #[.int .i64 base, .int .i64 save, .int .i64 fm, .int .i64 fn, .int .i64 fw, .int .i64 fi, .int .i64 tm, .int .i64 tn, .int .i64 tw, .int .i64 ti] 91))
    have B0 := Lib.hid (Wp.below_box w (.cells #[.int .i64 base, .int .i64 save, .int .i64 fm, .int .i64 fn, .int .i64 fw, .int .i64 fi, .int .i64 tm, .int .i64 tn, .int .i64 tw, .int .i64 ti] 91))
    clear h1
    by_cases hn : fm - tm < 0
    · rw [if_pos hn] at h4 h5
      go_enter Tryd.func59, Tryd.ntmps59
      go_wp2_with fail
      refine (A1.out _).mono ?_
      rintro e w1 ⟨rfl, b1'⟩
      rw [World.size_alloc] at b1'
      have x1 := (b1'.block w.heap.size (by omega)).trans X0.out
      have B1 := B0.out.trans (b1'.mono (by omega))
      have X1 := Lib.hid x1
      have s1 : w.heap.size < w1.heap.size := by have := b1'.size; rw [World.size_alloc] at this; omega
      obtain ⟨c0, c1, c2, c3, c4, c5, c6, c7, c8, c9⟩ := Wp.ten_of x1
      clear x1
      go_wp2_with fail
      refine (A2.out _).mono ?_
      rintro e w2 ⟨rfl, b2'⟩
      have x2 := (b2'.block w.heap.size s1).trans X1.out
      have B2 := B1.trans (b2'.mono B1.size)
      clear c0 c1 c2 c3 c4 c5 c6 c7 c8 c9
      obtain ⟨c0, c1, c2, c3, c4, c5, c6, c7, c8, c9⟩ := Wp.ten_of x2
      clear x2
      go_wp2_with fail
      go_ret
      exact ⟨rfl, B2⟩
    · rw [if_neg hn] at h4 h5
      go_enter Tryd.func59, Tryd.ntmps59
      go_wp2_with fail
      refine (A1.out _).mono ?_
      rintro e w1 ⟨rfl, b1'⟩
      rw [World.size_alloc] at b1'
      have x1 := (b1'.block w.heap.size (by omega)).trans X0.out
      have B1 := B0.out.trans (b1'.mono (by omega))
      have X1 := Lib.hid x1
      have s1 : w.heap.size < w1.heap.size := by have := b1'.size; rw [World.size_alloc] at this; omega
      obtain ⟨c0, c1, c2, c3, c4, c5, c6, c7, c8, c9⟩ := Wp.ten_of x1
      clear x1
      go_wp2_with fail
      refine (A2.out _).mono ?_
      rintro e w2 ⟨rfl, b2'⟩
      have x2 := (b2'.block w.heap.size s1).trans X1.out
      have B2 := B1.trans (b2'.mono B1.size)
      clear c0 c1 c2 c3 c4 c5 c6 c7 c8 c9
      obtain ⟨c0, c1, c2, c3, c4, c5, c6, c7, c8, c9⟩ := Wp.ten_of x2
      clear x2
      go_wp2_with fail
      go_ret
      exact ⟨rfl, B2⟩
end Go.Proofs.YtpaleljnkejdgaaDoor
