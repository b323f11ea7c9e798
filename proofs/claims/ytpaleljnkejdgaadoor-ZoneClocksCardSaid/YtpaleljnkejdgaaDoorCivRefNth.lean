/-
  The walks of the document's own answer for the calendar (bellmanref05): Nth and Of. No condition but those that the theorems state.
-/

import Derived.Test.YtpaleljnkejdgaaDoorCivRefOf
namespace Go.Proofs.YtpaleljnkejdgaaDoor
open Go.RowKit

/-- What the document's loop over a month's days has found ahead of day d. -/
structure Wp.Found (f n d sn last : Int) : Prop where
  s0 : 0 ≤ sn
  s1 : sn ≤ n
  none : sn = 0 → last = 0 ∧ d ≤ f
  some : 1 ≤ sn → last = f + 7 * (sn - 1) ∧ last < d
  more : sn < n → d ≤ f + 7 * sn
theorem Wp.Found.start {f n : Int} (hf : 1 ≤ f) (hn : 1 ≤ n) : Wp.Found f n 1 0 0 := ⟨by omega, by omega, by omega, by omega, by omega⟩
theorem Wp.Found.hit {f n d sn last : Int} (h : Wp.Found f n d sn last) (hf : 1 ≤ f) (hf7 : f ≤ 7) (hd : 1 ≤ d) (hm : (d - f) % 7 = 0) (hs : sn < n) : Wp.Found f n (d + 1) (sn + 1) d := by
  obtain ⟨a, b, c, e, g⟩ := h
  have hde : d = f + 7 * sn := by
    by_cases h0 : sn = 0
    · have := c h0; have := g hs; omega
    · have := e (by omega); have := g hs; omega
  exact ⟨by omega, by omega, by omega, by omega, by omega⟩
theorem Wp.Found.full {f n d sn last : Int} (h : Wp.Found f n d sn last) (hn : 1 ≤ n) (hs : ¬ sn < n) : Wp.Found f n (d + 1) sn last := by
  obtain ⟨a, b, c, e, g⟩ := h
  refine ⟨a, b, by omega, fun h1 => ?_, by omega⟩
  have := e h1; omega
theorem Wp.Found.miss {f n d sn last : Int} (h : Wp.Found f n d sn last) (hm : ¬ (d - f) % 7 = 0) : Wp.Found f n (d + 1) sn last := by
  obtain ⟨a, b, c, e, g⟩ := h
  refine ⟨a, b, fun h0 => ?_, fun h1 => ?_, fun h2 => ?_⟩
  · have := c h0
    have : d ≠ f := by rintro rfl; simp at hm
    omega
  · have := e h1; omega
  · have := g h2
    have : d ≠ f + 7 * sn := by rintro rfl; omega
    omega
theorem Wp.first_bd (y m k : Int) : 1 ≤ Wp.firstOf y m k ∧ Wp.firstOf y m k ≤ 7 := by unfold Wp.firstOf; omega
theorem Wp.match_iff {y m k d : Int} (k1 : 0 ≤ k) (k2 : k < 7) : Wp.wd (Wp.num y m d) = k ↔ (d - Wp.firstOf y m k) % 7 = 0 := by
  unfold Wp.firstOf Wp.wd
  have : Wp.num y m d = Wp.num y m 1 + (d - 1) := by unfold Wp.num; omega
  rw [this]
  omega
theorem Wp.Found.done {y m k n sn last : Int} (h : Wp.Found (Wp.firstOf y m k) n (Wp.dy y m + 1) sn last) (hm : 1 ≤ m ∧ m ≤ 12) (hn : 1 ≤ n) (hn5 : n ≤ 5) : last = Wp.nthD y m k n := by
  have hf := Wp.first_bd y m k
  have hb := Wp.dy_bd (y := y) hm.1 hm.2
  unfold Wp.nthD
  generalize Wp.firstOf y m k = f at *
  generalize Wp.dy y m = b at *
  obtain ⟨a, c0, c, e, g⟩ := h
  by_cases hs : sn < n
  · have := g hs
    have h4 : sn = 4 := by omega
    have := e (by omega)
    rw [if_pos (by omega)]; omega
  · have := e (by omega)
    rw [if_neg (by omega)]; omega

set_option maxHeartbeats 2000000 in
theorem rciv_Nth_yes (y m k n : Int) (w : World) (hm : Wp.monB y m = true) (k1 : 0 ≤ k) (k2 : k < 7) (n1 : 1 ≤ n) (n2 : n ≤ 5) :
    Calls Tryd.prog 117 #[.int .i64 y, .int .i64 m, .int .i64 k, .int .i64 n] w fun e w' => e = .returned (.tuple #[.int .i64 (Wp.nthD y m k n), .int .i64 0]) ∧ Below w.heap.size w w' := by
  obtain ⟨h1, h2, h3, h4⟩ := Wp.monB_iff.1 hm
  obtain ⟨f1, f2⟩ := Wp.first_bd y m k
  have hb := Wp.dy_bd (y := y) h3 h4
  have Hd := Lib.hid (fun sn last h => Wp.Found.done (y := y) (m := m) (k := k) (n := n) (sn := sn) (last := last) h ⟨h3, h4⟩ n1 n2)
  have Hm := Lib.hid (fun d => Wp.match_iff (y := y) (m := m) (k := k) (d := d) k1 k2)
  have A1 := Lib.hid (fun w => rciv_there_mon y m w hm)
  have A2 := Lib.hid (fun w => rciv_month y m w (by omega) (by omega) h3 h4)
  have A3 := Lib.hid (fun d w (hd1 : 1 ≤ d) (hd2 : d ≤ Wp.dy y m) => by
    have := rciv_Weekday y m d w
    rw [show Wp.weekdayR y m d = (Wp.wd (Wp.num y m d), 0) from if_pos (Wp.dayB_iff.2 ⟨h1, h2, h3, h4, hd1, hd2⟩)] at this
    exact this)
  generalize Wp.nthD y m k n = r at *
  generalize Wp.dy y m = b at *
  generalize Wp.firstOf y m k = f at *
  obtain ⟨b1, b2⟩ := hb
  clear hm
  go_enter Tryd.func117, Tryd.ntmps117
  go_wp2_with fail
  refine (A1.out _).mono ?_
  rintro e w1 ⟨rfl, B1⟩
  go_wp2_with fail
  go_loopw [10, 11, 12] (fun l sn i wr => ∃ d s q : Int, 1 ≤ d ∧ d ≤ b + 1 ∧ i = .int .i64 d ∧ sn = .int .i64 s ∧ l = .int .i64 q ∧ Wp.Found f n d s q ∧ Below w.heap.size w wr) (fun _ _ i _ => (b + 1 - intOf i).toNat)
  case atStart => exact ⟨1, 0, 0, by omega, by omega, rfl, rfl, rfl, Wp.Found.start f1 n1, B1⟩
  case round =>
    obtain ⟨d, s, q, hd1, hd2, rfl, rfl, rfl, hF, hB⟩ := hrel
    have HF := Lib.hid hF
    have s0 := hF.s0
    have s1 := hF.s1
    clear hF
    by_cases hlt : d ≤ b
    · by_cases hmt : (d - f) % 7 = 0
      · have hw := (Hm.out d).2 hmt
        have A4 := Lib.hid (fun w => A3.out d w hd1 hlt)
        rw [hw] at A4
        clear hw
        by_cases hs : s < n
        · have HF2 := Lib.hid (HF.out.hit f1 f2 hd1 hmt hs)
          clear hmt
          go_wp2_with fail
          refine (A2.out _).mono ?_
          rintro e w2 ⟨rfl, b2'⟩
          go_wp2_with fail
          refine (A4.out _).mono ?_
          rintro e w3 ⟨rfl, b3⟩
          go_wp2_with fail
          exact ⟨⟨d + 1, s + 1, d, by omega, by omega, rfl, rfl, rfl, HF2.out, cv_then (cv_then hB b2' hB.size) b3 (Nat.le_trans hB.size b2'.size)⟩, by simp [intOf]; omega⟩
        · have HF2 := Lib.hid (HF.out.full n1 hs)
          have hq : decide (s < n) = false := decide_eq_false hs
          clear hmt
          go_wp2_with fail
          refine (A2.out _).mono ?_
          rintro e w2 ⟨rfl, b2'⟩
          go_wp2_with fail
          refine (A4.out _).mono ?_
          rintro e w3 ⟨rfl, b3⟩
          go_wp2_with fail
          exact ⟨⟨d + 1, s, q, by omega, by omega, rfl, rfl, rfl, HF2.out, cv_then (cv_then hB b2' hB.size) b3 (Nat.le_trans hB.size b2'.size)⟩, by simp [intOf]; omega⟩
      · have hw : Wp.wd (Wp.num y m d) ≠ k := fun e => hmt ((Hm.out d).1 e)
        have A4 := Lib.hid (fun w => A3.out d w hd1 hlt)
        have HF2 := Lib.hid (HF.out.miss hmt)
        clear hmt
        generalize Wp.wd (Wp.num y m d) = v at *
        have hq : (v == k) = false := by simpa using hw
        clear hw
        go_wp2_with fail
        refine (A2.out _).mono ?_
        rintro e w2 ⟨rfl, b2'⟩
        go_wp2_with fail
        refine (A4.out _).mono ?_
        rintro e w3 ⟨rfl, b3⟩
        go_wp2_with fail
        exact ⟨⟨d + 1, s, q, by omega, by omega, rfl, rfl, rfl, HF2.out, cv_then (cv_then hB b2' hB.size) b3 (Nat.le_trans hB.size b2'.size)⟩, by simp [intOf]; omega⟩
    · obtain rfl : d = b + 1 := by omega
      have hq := Lib.hid (Hd.out s q HF.out)
      have hdq : decide (b + 1 ≤ b) = false := decide_eq_false (by omega)
      go_wp2_with fail
      refine (A2.out _).mono ?_
      rintro e w2 ⟨rfl, b2'⟩
      go_wp2_with fail
      go_ret2
      rw [← hq.out]
      exact ⟨rfl, cv_then hB b2' hB.size⟩
end Go.Proofs.YtpaleljnkejdgaaDoor
