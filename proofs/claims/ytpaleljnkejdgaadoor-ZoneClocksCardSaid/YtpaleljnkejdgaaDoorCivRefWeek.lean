/-
  The walks of the document's own answer for the calendar (bellmanref05): Nth, refused; Of and Week. No condition but those that the theorems state.
-/
import Derived.Test.YtpaleljnkejdgaaDoorCivRefNth
namespace Go.Proofs.YtpaleljnkejdgaaDoor
open Go.RowKit

set_option maxHeartbeats 1000000 in
theorem rciv_Nth_no (y m k n : Int) (w : World) (h : ¬ (Wp.monB y m = true ∧ 0 ≤ k ∧ k < 7 ∧ 1 ≤ n ∧ n ≤ 5)) :
    Calls Tryd.prog 117 #[.int .i64 y, .int .i64 m, .int .i64 k, .int .i64 n] w fun e w' => e = .returned (.tuple #[.int .i64 0, .int .i64 1]) ∧ Below w.heap.size w w' := by
  cases hm : Wp.monB y m with
  | false =>
    have A1 := Lib.hid (fun w => rciv_there_mono y m w hm)
    clear h hm
    go_enter Tryd.func117, Tryd.ntmps117
    go_wp2_with fail
    refine (A1.out _).mono ?_
    rintro e w1 ⟨rfl, B1⟩
    go_wp2_with fail
    go_ret2
    exact ⟨rfl, B1⟩
  | true =>
    have A1 := Lib.hid (fun w => rciv_there_mon y m w hm)
    have h' : k < 0 ∨ (0 ≤ k ∧ 6 < k) ∨ (0 ≤ k ∧ k ≤ 6 ∧ n < 1) ∨ (0 ≤ k ∧ k ≤ 6 ∧ 1 ≤ n ∧ 5 < n) := by
      by_cases g : 0 ≤ k ∧ k < 7 ∧ 1 ≤ n ∧ n ≤ 5
      · exact absurd ⟨hm, g⟩ h
      · omega
    clear h hm
    rcases h' with h | ⟨h1, h⟩ | ⟨h1, h2, h⟩ | ⟨h1, h2, h3, h⟩
    all_goals
      go_enter Tryd.func117, Tryd.ntmps117
      go_wp2_with fail
      refine (A1.out _).mono ?_
      rintro e w1 ⟨rfl, B1⟩
      go_wp2_with fail
      go_ret2
      exact ⟨rfl, B1⟩
theorem rciv_Nth (y m k n : Int) (w : World) :
    Calls Tryd.prog 117 #[.int .i64 y, .int .i64 m, .int .i64 k, .int .i64 n] w fun e w' => e = .returned (.tuple #[.int .i64 (Wp.nthR y m k n).1, .int .i64 (Wp.nthR y m k n).2]) ∧ Below w.heap.size w w' := by
  by_cases h : Wp.monB y m = true ∧ 0 ≤ k ∧ k < 7 ∧ 1 ≤ n ∧ n ≤ 5
  · rw [show Wp.nthR y m k n = (Wp.nthD y m k n, 0) from if_pos h]
    exact rciv_Nth_yes y m k n w h.1 h.2.1 h.2.2.1 h.2.2.2.1 h.2.2.2.2
  · rw [show Wp.nthR y m k n = (0, 1) from if_neg h]
    exact rciv_Nth_no y m k n w h

theorem rciv_Of_no (t : Int) (w : World) (h : Wp.isT t = false) :
    Calls Tryd.prog 56 #[.int .i64 t] w fun e w' => e = .returned (.tuple #[.agg (Wp.momC Wp.Mom.zero), .int .i64 1]) ∧ Below w.heap.size w w' := by
  have HT := Lib.hid h
  clear h
  go_enter Tryd.func56, Tryd.ntmps56
  go_wp2_with fail
  refine (rciv_Is _ _).mono ?_
  rintro e w1 ⟨rfl, rfl⟩
  rw [HT.out]
  go_wp2_with fail
  refine bodyPost_ret (cv_ret rfl _ _ w.heap.size 52 _ _ rfl (cv_new _ _) Tryd.underlying52 rfl (by kernel_rfl)) rfl ?_
  exact ⟨rfl, (Below.refl _ _).alloc (Nat.le_refl _) _⟩
theorem Wp.pow_half (j : Nat) (h : j ≤ 14) : (j = 0 ∧ (2 : Int) ^ j / 2 = 0) ∨ ∃ i, j = i + 1 ∧ (2 : Int) ^ j / 2 = 2 ^ i ∧ 1 ≤ (2 : Int) ^ i ∧ (2 : Int) ^ i ≤ 8192 := by
  match j, h with
  | 0, _ => left; exact ⟨rfl, rfl⟩
  | 1, _ => right; exact ⟨0, rfl, by decide, by decide, by decide⟩
  | 2, _ => right; exact ⟨1, rfl, by decide, by decide, by decide⟩
  | 3, _ => right; exact ⟨2, rfl, by decide, by decide, by decide⟩
  | 4, _ => right; exact ⟨3, rfl, by decide, by decide, by decide⟩
  | 5, _ => right; exact ⟨4, rfl, by decide, by decide, by decide⟩
  | 6, _ => right; exact ⟨5, rfl, by decide, by decide, by decide⟩
  | 7, _ => right; exact ⟨6, rfl, by decide, by decide, by decide⟩
  | 8, _ => right; exact ⟨7, rfl, by decide, by decide, by decide⟩
  | 9, _ => right; exact ⟨8, rfl, by decide, by decide, by decide⟩
  | 10, _ => right; exact ⟨9, rfl, by decide, by decide, by decide⟩
  | 11, _ => right; exact ⟨10, rfl, by decide, by decide, by decide⟩
  | 12, _ => right; exact ⟨11, rfl, by decide, by decide, by decide⟩
  | 13, _ => right; exact ⟨12, rfl, by decide, by decide, by decide⟩
  | 14, _ => right; exact ⟨13, rfl, by decide, by decide, by decide⟩
set_option maxHeartbeats 2000000 in
theorem rciv_Of_yes (t : Int) (m : Wp.Mom) (w : World) (h : Wp.IsOf t m) :
    Calls Tryd.prog 56 #[.int .i64 t] w fun e w' => e = .returned (.tuple #[.agg (Wp.momC m), .int .i64 0]) ∧ Below w.heap.size w w' := by
  have hT := h.isT
  obtain ⟨h1, h2⟩ := Wp.isT_yes hT
  obtain ⟨n1, n2, n3, n4⟩ := h.parts
  have hd := (Wp.momOk_iff.1 h.ok).1
  have hk := h.k
  obtain ⟨y, mo, d, ho, mi, s, k⟩ := m
  simp only [] at hd hk n1 n2 n3 n4
  unfold Wp.momC
  simp only []
  have hr := hd.range
  have hlo := hd.lo
  have hhi := hd.hi
  have hiy := hd.in_year
  have hlp := Wp.lp_01 y
  have hy1 := hd.y1
  have hy2 := hd.y2
  have hm1 := hd.m1
  have hm2 := hd.m2
  have hd1 := hd.d1
  have hd2 := hd.d2
  have hnum := (show Wp.num y mo d = Wp.bg y + Wp.ah y mo + d - 1 from rfl)
  have b1 := Wp.bg_mono hy1
  rw [Wp.bg_one] at b1
  have Hlt := Lib.hid (show ∀ x : Int, x ≤ y ↔ Wp.bg x ≤ Wp.num y mo d from fun x => by
    constructor
    · intro hx; exact Int.le_trans (Wp.bg_mono hx) hlo
    · intro hx
      refine Int.not_lt.1 fun hc => ?_
      have := Wp.bg_mono (show y + 1 ≤ x by omega)
      omega)
  have Hle := Lib.hid (show ∀ x : Int, 1 ≤ x → x ≤ mo → (x < mo ↔ Wp.dy y x ≤ Wp.num y mo d - Wp.bg y - Wp.ah y x) from fun x hx1 hx2 => by
    have a1 := Wp.ah_succ y x
    constructor
    · intro hx
      have := Wp.ah_mono (y := y) (a := x + 1) (b := mo) (by omega) (by omega) (by omega)
      omega
    · intro hx
      refine Int.not_le.1 fun hc => ?_
      obtain rfl : x = mo := by omega
      omega)
  have H1 := Lib.hid (Wp.ah_one y)
  have A2 := Lib.hid (fun x w hx1 hx2 => rciv_ahead x w hx1 hx2)
  have A3 := Lib.hid (fun x w hx1 hx2 => rciv_month y x w (by omega) (by omega) hx1 hx2)
  have A4 := Lib.hid (fun x hx1 hx2 => Wp.ah_bd (y := y) (m := x) hx1 hx2)
  have A5 := Lib.hid (fun x => Wp.ah_succ y x)
  have A6 := Lib.hid (fun x hx1 hx2 => Wp.dy_bd (y := y) (m := x) hx1 hx2)
  have hbig : Wp.bg y ≤ 3652058 := by omega
  have hin : Wp.num y mo d - Wp.bg y ≤ 365 := by omega
  have Hdd := Lib.hid (show Wp.num y mo d - Wp.bg y - Wp.ah y mo + 1 = d by omega)
  have Hk := Lib.hid (show (Wp.num y mo d + 1) % 7 = k by rw [hk, Wp.wd_comm])
  clear hk hnum hhi hiy hlp hd2 hd h
  generalize Wp.num y mo d = N at *
  obtain ⟨u, hu⟩ : ∃ u, u = t + 62135596800 := ⟨_, rfl⟩
  rw [← hu] at n1 n2 n3 n4
  have u1 : 0 ≤ u := by omega
  have u2 : u ≤ 315537897599 := by omega
  have HT := Lib.hid hT
  have Hu := Lib.hid hu
  have N1 := Lib.hid n1
  have N2 := Lib.hid n2
  have N3 := Lib.hid n3
  have N4 := Lib.hid n4
  clear hT hu n1 n2 n3 n4
  have X0 := Lib.hid (cv_new w (.cells #[.int .i64 0, .int .i64 0, .int .i64 0, .int .i64 0, .int .i64 0, .int .i64 0, .int .i64 0] 52))
  have B0 := Lib.hid ((Below.refl w.heap.size w).alloc (Nat.le_refl _) (.cells #[.int .i64 0, .int .i64 0, .int .i64 0, .int .i64 0, .int .i64 0, .int .i64 0, .int .i64 0] 52))
  have S0 : w.heap.size < (w.alloc (.cells #[.int .i64 0, .int .i64 0, .int .i64 0, .int .i64 0, .int .i64 0, .int .i64 0, .int .i64 0] 52)).heap.size := by simp
  obtain ⟨w0, hw0⟩ : ∃ w0, w.alloc (.cells #[.int .i64 0, .int .i64 0, .int .i64 0, .int .i64 0, .int .i64 0, .int .i64 0, .int .i64 0] 52) = w0 := ⟨_, rfl⟩
  rw [hw0] at X0 B0 S0
  have Hw0 := Lib.hid hw0
  clear hw0
  go_enter Tryd.func56, Tryd.ntmps56
  go_wp2_with fail
  rw [Hw0.out]
  refine (rciv_Is _ _).mono ?_
  rintro e w1 ⟨rfl, rfl⟩
  rw [HT.out]
  go_wp2_with fail
  rw [← Hu.out, ← N1.out]
  go_loopw [6, 7] (fun a b wr => ∃ (x : Int) (j : Nat), 1 ≤ x ∧ x ≤ y ∧ y < x + 2 ^ j ∧ j ≤ 14 ∧ a = .int .i64 x ∧ b = .int .i64 (2 ^ j / 2) ∧ wr = w0) (fun _ b _ => (intOf b).toNat)
  case atStart => exact ⟨1, 14, by omega, hy1, by simp; omega, by omega, rfl, rfl, rfl⟩
  case round =>
    obtain ⟨x, j, hx1, hx2, hx3, hj, rfl, rfl, rfl⟩ := hrel
    obtain ⟨w0, rfl⟩ : ∃ wo : World, wo = wr := ⟨_, rfl⟩
    rcases Wp.pow_half j hj with ⟨rfl, hp⟩ | ⟨i, rfl, hp, hp1, hp2⟩
    · rw [hp]
      obtain rfl : x = y := by simp at hx3; omega
      clear hp hx3
      have A2' := Lib.hid (fun w => A2.out x w hx1 (by omega))
      generalize Wp.bg x = b at *
      go_wp2_with fail
      refine (A2'.out _).mono ?_
      rintro e w1 ⟨rfl, rfl⟩
      go_wp2_with fail
      go_loopw [8, 9] (fun l c wr => ∃ q : Int, 1 ≤ q ∧ q ≤ mo ∧ c = .int .i64 q ∧ l = .int .i64 (N - b - Wp.ah x q) ∧ Below (w.heap.size + 1) w0 wr) (fun _ c _ => (mo - intOf c).toNat)
      case atStart => exact ⟨1, by omega, hm1, rfl, by rw [H1.out, Int.sub_zero], Below.refl _ _⟩
      case round =>
        obtain ⟨q, hq1, hq2, rfl, rfl, hB⟩ := hrel
        have hab := A4.out q hq1 (by omega)
        have hdb := A6.out q hq1 (by omega)
        have hcmp := Hle.out q hq1 hq2
        have Hs := Lib.hid (A5.out q)
        have A3' := Lib.hid (fun w => A3.out q w hq1 (by omega))
        by_cases hlt : q < mo
        · have hge := hcmp.1 hlt
          clear hcmp
          generalize Wp.ah x q = a at *
          generalize Wp.dy x q = z at *
          go_wp2_with fail
          refine (A3'.out _).mono ?_
          rintro e w2 ⟨rfl, b2⟩
          go_wp2_with fail
          refine (A3'.out _).mono ?_
          rintro e w3 ⟨rfl, b3⟩
          go_wp2_with fail
          refine ⟨⟨q + 1, by omega, by omega, rfl, ?_, cv_then (cv_then hB b2 (by have := hB.size; omega)) b3 (by have := hB.size; have := b2.size; omega)⟩, by simp [intOf]; omega⟩
          congr 1
          have := Hs.out
          omega
        · obtain rfl : q = mo := by omega
          have hnge : decide (Wp.dy x q ≤ N - b - Wp.ah x q) = false := decide_eq_false (fun hc => hlt (hcmp.2 hc))
          clear hcmp
          generalize Wp.ah x q = a at *
          generalize Wp.dy x q = z at *
          go_wp2_with fail
          refine (A3'.out _).mono ?_
          rintro e w2 ⟨rfl, b2⟩
          have hx2 := (b2.block w.heap.size (by have := hB.size; omega)).trans ((hB.block w.heap.size (by omega)).trans X0.out)
          obtain ⟨f0, f1, f2, f3, f4, f5, f6⟩ := Wp.sevenF_of hx2
          obtain ⟨c0, c1, c2, c3, c4, c5, c6⟩ := Wp.seven_of hx2
          have HX := Lib.hid hx2
          clear hx2
          go_wp2_with fail
          refine bodyPost_ret (cv_ret rfl _ _ w.heap.size 52 _ _ rfl (seven_set HX.out _ _ _ _ _ _ _) Tryd.underlying52 rfl (by kernel_rfl)) rfl ?_
          refine ⟨?_, seven_below (B0.out.trans ((hB.mono (by omega)).trans (b2.mono (by have := hB.size; omega)))) (Nat.le_refl _) _ _ _ _ _ _ _⟩
          have q1 : u % 86400 / 3600 = ho := N2.out.symm
          have q2 : u % 86400 / 60 % 60 = mi := by rw [N3.out]; omega
          have q3 : u % 60 = s := by rw [N4.out]; omega
          rw [Hdd.out, Hk.out, q1, q2, q3]
          rfl
    · rw [hp]
      have hpow : (2 : Int) ^ (i + 1) = 2 * 2 ^ i := by rw [Int.pow_succ]; omega
      rw [hpow] at hx3
      clear hp hpow
      obtain ⟨p, hpe⟩ : ∃ p, p = (2 : Int) ^ i := ⟨_, rfl⟩
      rw [← hpe] at hx3 hp1 hp2 ⊢
      have HP := Lib.hid hpe
      clear hpe
      by_cases hle : x + p ≤ y
      · have hb := (Hlt.out (x + p)).1 hle
        have A2' := Lib.hid (fun w => A2.out (x + p) w (by omega) (by omega))
        generalize Wp.bg (x + p) = b at *
        go_wp2_with fail
        refine (A2'.out _).mono ?_
        rintro e w1 ⟨rfl, rfl⟩
        go_wp2_with fail
        exact ⟨⟨x + p, i, by omega, by omega, by rw [← HP.out]; omega, by omega, rfl, by rw [← HP.out], trivial⟩, by simp [intOf]; omega⟩
      · by_cases hy : x + p ≤ 9999
        · have hb : ¬ Wp.bg (x + p) ≤ N := fun hc => hle ((Hlt.out (x + p)).2 hc)
          have A2' := Lib.hid (fun w => A2.out (x + p) w (by omega) (by omega))
          generalize Wp.bg (x + p) = b at *
          have hd : decide (b ≤ N) = false := decide_eq_false hb
          go_wp2_with fail
          refine (A2'.out _).mono ?_
          rintro e w1 ⟨rfl, rfl⟩
          go_wp2_with fail
          exact ⟨⟨x, i, by omega, by omega, by rw [← HP.out]; omega, by omega, rfl, by rw [← HP.out], trivial⟩, by simp [intOf]; omega⟩
        · have hd : decide (x + p ≤ 9999) = false := decide_eq_false hy
          go_wp2_with fail
          exact ⟨⟨x, i, by omega, by omega, by rw [← HP.out]; omega, by omega, rfl, by rw [← HP.out], trivial⟩, by simp [intOf]; omega⟩
end Go.Proofs.YtpaleljnkejdgaaDoor
