
/-
  The walk of heap's sink: a timer is put right, downwards, in a block of the call's own. Condition: the list is of a size that a machine holds.
-/
import Derived.Test.YtlbifinkjghgaaaHpPut
import Derived.RegionTactic
import Derived.BigRegion
namespace Go.Proofs.Ytlbifinkjghgaaa
open Go.RowKit Go.Lib Go.Sort Go.Shelf

/-- Which one is ahead after so many kids were looked at. -/
def Hp.best (l : List (Int × Int × Int × Int)) (i : Nat) : Nat → Nat
  | 0 => i
  | m + 1 => Hp.bet l (Hp.best l i m) (2 * i + 1 + m)
theorem Hp.best_lt {l : List (Int × Int × Int × Int)} {i : Nat} (hi : i < l.length) : ∀ m, Hp.best l i m < l.length
  | 0 => hi
  | m + 1 => by
    have ih := Hp.best_lt hi m
    by_cases h : 2 * i + 1 + m < l.length ∧ Hp.lt (Hp.g l (2 * i + 1 + m)) (Hp.g l (Hp.best l i m)) = true
    · rw [show Hp.best l i (m + 1) = 2 * i + 1 + m from if_pos h]; exact h.1
    · rw [show Hp.best l i (m + 1) = Hp.best l i m from if_neg h]; exact ih
theorem Hp.best_end {l : List (Int × Int × Int × Int)} {i m : Nat} (hm : m ≤ 2) (h : m = 2 ∨ l.length ≤ 2 * i + 1 + m) : Hp.best l i m = Hp.first l i := by
  have h0 : m = 0 ∨ m = 1 ∨ m = 2 := by omega
  unfold Hp.first
  rcases h0 with rfl | rfl | rfl
  · have e1 : Hp.bet l i (2 * i + 1) = i := if_neg (by omega)
    rw [e1, show Hp.bet l i (2 * i + 2) = i from if_neg (by omega)]; rfl
  · rw [show Hp.bet l (Hp.bet l i (2 * i + 1)) (2 * i + 2) = Hp.bet l i (2 * i + 1) from if_neg (by omega)]; rfl
  · rfl
set_option maxHeartbeats 4000000 in
theorem hp_sink_walk (l : List (Int × Int × Int × Int)) (i g c : Nat) (rest : List Value) (w : World) (hi : i < l.length) (hn : l.length ≤ 1000000) (h : Hp.Blk w g l rest) (hneq : Hp.first l i ≠ i) (l' : List (Int × Int × Int × Int))
    (ih : ∀ W, Hp.Blk W g (Hp.swap l i (Hp.first l i)) rest → Calls Try.prog 13 #[.slice (some ⟨g, 0, none⟩) l.length c, .int .i64 (Hp.first l i : Nat)] W (Hp.Put l' rest g W)) :
    Calls Try.prog 13 #[.slice (some ⟨g, 0, none⟩) l.length c, .int .i64 i] w (Hp.Put l' rest g w) := by
  have HI := Lib.hid ih
  have HB := Lib.hid h
  have HL := Lib.hid (@Hp.best_lt l i hi)
  have HE := Lib.hid (fun m (hm : m ≤ 2) h => @Hp.best_end l i m hm h)
  have HS := Lib.hid (fun m => show Hp.best l i (m + 1) = Hp.bet l (Hp.best l i m) (2 * i + 1 + m) from rfl)
  have hg := h.lt
  have hf := (Hp.first_spec l i).resolve_left (fun e => hneq e.1)
  have hf2 := hf.2.1
  have hf3 := hf.2.2.1
  have HI0 := Lib.hid (show Hp.best l i 0 = i from rfl)
  have HSw := Lib.hid (fun W h => Hp.Blk.swap (w := W) (g := g) (rest := rest) h i (Hp.first l i) hi hf3)
  have HGw := Lib.hid (fun W => hp_grown_swap W g l i (Hp.first l i))
  have HWd := Lib.hid (fun W => show Hp.swapW W g l i (Hp.first l i) = (Hp.put (Hp.put W g i (Hp.g l (Hp.first l i))) g (Hp.first l i) (Hp.g l i)).drew from rfl)
  generalize Hp.first l i = q at *
  generalize Hp.best l i = F at *
  have HLi := Lib.hid (show i < l.length ∧ q < l.length from ⟨hi, hf3⟩)
  obtain ⟨n, hnl⟩ : ∃ n, n = l.length := ⟨_, rfl⟩
  have Hn := Lib.hid hnl
  rw [← hnl] at hn hi hf3 HI
  rw [← hnl]
  clear hnl ih h hf hneq
  have mixed : Try.prog.follows .mixedOrders = true := by kernel_rfl
  go_enter Try.func13, Try.ntmps13
  go_wp2_with fail
  go_loopw [4, 5] (fun a b wr => ∃ m k : Nat, m ≤ 2 ∧ k = 2 * i + 1 + m ∧ a = .int .i64 (F m) ∧ b = .int .i64 k ∧ Below w.heap.size w wr) (fun _ b _ => 2 * i + 3 - (RowKit.intOf b).toNat)
  case atStart => exact ⟨0, 2 * i + 1, by omega, by omega, by rw [HI0.out], by congr 1, Below.refl _ _⟩
  case round =>
    obtain ⟨m, k, hm, hk, rfl, rfl, hBw⟩ := hrel
    have BW := Lib.hid hBw
    have hz := hBw.size
    clear hBw
    have HK := Lib.hid hk
    by_cases hin : m < 2 ∧ k < n
    · obtain ⟨hm2, hkn⟩ := hin
      have hkl : k < l.length := by rw [← Hn.out]; exact hkn
      have hfl : F m < l.length := HL.out m
      have hBr := HB.out.below BW.out hg
      have hx := hBr.cell k hkl
      have hy := hBr.cell (F m) hfl
      have HR := Lib.hid (show F (m + 1) = if Hp.lt l[k] l[F m] = true then k else F m by rw [HS.out, ← HK.out]; unfold Hp.bet; rw [Hp.g_eq _ _ hkl, Hp.g_eq _ _ hfl]; simp [hkl])
      have CA := Lib.hid (fun W => hp_ahead l[k] l[F m] W)
      have hfn : F m < n := by rw [Hn.out]; exact hfl
      generalize l[k] = x at hx HR CA
      generalize l[F m] = y at hy HR CA
      obtain ⟨x1, x2, x3, x4⟩ := x
      obtain ⟨y1, y2, y3, y4⟩ := y
      generalize Hp.lt (x1, x2, x3, x4) (y1, y2, y3, y4) = b at HR CA
      have X1 := fun n os => (hx.grown n os).1
      have X2 := fun n os => (hx.grown n os).2.1
      have X3 := fun n os => (hx.grown n os).2.2.1
      have X4 := fun n os => (hx.grown n os).2.2.2
      have Y1 := fun n os => (hy.grown n os).1
      have Y2 := fun n os => (hy.grown n os).2.1
      have Y3 := fun n os => (hy.grown n os).2.2.1
      have Y4 := fun n os => (hy.grown n os).2.2.2
      simp only [] at X1 X2 X3 X4 Y1 Y2 Y3 Y4 CA
      clear hx hy hBr
      clear hkl hfl
      generalize F m = f at hfn HR Y1 Y2 Y3 Y4 ⊢
      have k1 : (k : Int) < (n : Int) := by omega
      have k2 : (0 : Int) ≤ (k : Int) := by omega
      have k3 : (f : Int) < (n : Int) := by omega
      have k4 : (0 : Int) ≤ (f : Int) := by omega
      have k5 : decide ((k : Int) ≤ 2 * (i : Int) + 2) = true := by simp; omega
      clear hk
      go_wp2_with fail
      go_quiet_grown (first | (go_at_call 25; refine Calls.grown_of (CA.out _)))
      clear X1 X2 X3 X4 Y1 Y2 Y3 Y4
      have B3 := Lib.hid (BW.out.trans ((hp_grown_below ⟨nq, osq, rfl⟩).mono hz))
      cases b with
      | true =>
        have HR2 := Lib.hid (HR.out.trans (if_pos rfl))
        clear k5
        go_wp2_with fail
        exact ⟨⟨m + 1, k + 1, by omega, by rw [HK.out]; omega, by rw [HR2.out], by go_num, B3.out⟩, by simp [RowKit.intOf]; have := HK.out; omega⟩
      | false =>
        have HR2 := Lib.hid (HR.out.trans (if_neg (by simp)))
        clear k5
        go_wp2_with fail
        exact ⟨⟨m + 1, k + 1, by omega, by rw [HK.out]; omega, by rw [HR2.out], by go_num, B3.out⟩, by simp [RowKit.intOf]; have := HK.out; omega⟩
    · have hq : F m = q := HE.out m hm (by rw [← Hn.out]; omega)
      have hBr := HB.out.below BW.out hg
      have hx := hBr.cell i HLi.out.1
      have hy := hBr.cell q HLi.out.2
      rw [← Hp.g_eq _ _ HLi.out.1] at hx
      rw [← Hp.g_eq _ _ HLi.out.2] at hy
      have hs := HSw.out wr hBr
      have hgw := HGw.out wr
      rw [HWd.out] at hs hgw
      unfold Hp.put at hs hgw
      have fz := hBr.frozen
      generalize Hp.g l i = x at *
      generalize Hp.g l q = y at *
      obtain ⟨x1, x2, x3, x4⟩ := x
      obtain ⟨y1, y2, y3, y4⟩ := y
      simp only [] at hs hgw
      have HS2 := Lib.hid hs
      have HG2 := Lib.hid hgw
      clear hs hgw hBr
      obtain ⟨e1, e2, e3, e4⟩ := hx
      obtain ⟨d1, d2, d3, d4⟩ := hy
      simp only [] at e1 e2 e3 e4 d1 d2 d3 d4
      rw [hq]
      clear hq
      have hi2 : (i : Int) < (n : Int) := by omega
      have hq2 : (q : Int) < (n : Int) := by omega
      have hi3 : (0 : Int) ≤ (i : Int) := by omega
      have hq3 : (0 : Int) ≤ (q : Int) := by omega
      have n1 : ¬ i = q := by omega
      have n2 : ¬ q = i := by omega
      have n3 : ¬ i * 4 = q * 4 := by omega
      have n4 : ¬ q * 4 = i * 4 := by omega
      have q2 : ((q : Int) != (i : Int)) = true := by simp; omega
      have hex : (decide ((k : Int) ≤ 2 * (i : Int) + 2) = false) ∨ (decide ((k : Int) ≤ 2 * (i : Int) + 2) = true ∧ decide (k < n) = false) := by
        by_cases hk3 : k ≤ 2 * i + 2
        · right; refine ⟨by simp; omega, by simp; omega⟩
        · left; simp; omega
      clear hk hin
      rcases hex with t1 | ⟨t1, t2⟩
      · go_wp2_with fail
        go_region
        clear e1 e2 e3 e4 d1 d2 d3 d4 fz
        go_wp2_with fail
        refine (HI.out _ HS2.out).mono ?_
        rintro e w5 ⟨rfl, hb5, hg5⟩
        have HB5 := Lib.hid hb5
        have HG5 := Lib.hid (hp_grown_trans (hp_grown_of_below BW.out _) (hp_grown_trans HG2.out hg5))
        clear hb5 hg5
        go_wp2_with fail
        refine bodyPost_end (hp_ret0 rfl _ _ _) rfl ⟨rfl, HB5.out, HG5.out⟩
      · go_wp2_with fail
        go_region
        clear e1 e2 e3 e4 d1 d2 d3 d4 fz
        go_wp2_with fail
        refine (HI.out _ HS2.out).mono ?_
        rintro e w5 ⟨rfl, hb5, hg5⟩
        have HB5 := Lib.hid hb5
        have HG5 := Lib.hid (hp_grown_trans (hp_grown_of_below BW.out _) (hp_grown_trans HG2.out hg5))
        clear hb5 hg5
        go_wp2_with fail
        refine bodyPost_end (hp_ret0 rfl _ _ _) rfl ⟨rfl, HB5.out, HG5.out⟩
set_option maxHeartbeats 4000000 in
theorem hp_sink_stay (l : List (Int × Int × Int × Int)) (i g c : Nat) (rest : List Value) (w : World) (hi : i < l.length) (hn : l.length ≤ 1000000) (h : Hp.Blk w g l rest) (heq : Hp.first l i = i) :
    Calls Try.prog 13 #[.slice (some ⟨g, 0, none⟩) l.length c, .int .i64 i] w (Hp.Put l rest g w) := by
  have HB := Lib.hid h
  have HL := Lib.hid (@Hp.best_lt l i hi)
  have HE := Lib.hid (fun m (hm : m ≤ 2) h => @Hp.best_end l i m hm h)
  have HS := Lib.hid (fun m => show Hp.best l i (m + 1) = Hp.bet l (Hp.best l i m) (2 * i + 1 + m) from rfl)
  have hg := h.lt
  rw [heq] at HE
  have HI0 := Lib.hid (show Hp.best l i 0 = i from rfl)
  generalize Hp.best l i = F at *
  obtain ⟨n, hnl⟩ : ∃ n, n = l.length := ⟨_, rfl⟩
  have Hn := Lib.hid hnl
  rw [← hnl] at hn hi
  rw [← hnl]
  clear hnl h heq
  have mixed : Try.prog.follows .mixedOrders = true := by kernel_rfl
  go_enter Try.func13, Try.ntmps13
  go_wp2_with fail
  go_loopw [4, 5] (fun a b wr => ∃ m k : Nat, m ≤ 2 ∧ k = 2 * i + 1 + m ∧ a = .int .i64 (F m) ∧ b = .int .i64 k ∧ Below w.heap.size w wr) (fun _ b _ => 2 * i + 3 - (RowKit.intOf b).toNat)
  case atStart => exact ⟨0, 2 * i + 1, by omega, by omega, by rw [HI0.out], by congr 1, Below.refl _ _⟩
  case round =>
    obtain ⟨m, k, hm, hk, rfl, rfl, hBw⟩ := hrel
    have BW := Lib.hid hBw
    have hz := hBw.size
    clear hBw
    have HK := Lib.hid hk
    by_cases hin : m < 2 ∧ k < n
    · obtain ⟨hm2, hkn⟩ := hin
      have hkl : k < l.length := by rw [← Hn.out]; exact hkn
      have hfl : F m < l.length := HL.out m
      have hBr := HB.out.below BW.out hg
      have hx := hBr.cell k hkl
      have hy := hBr.cell (F m) hfl
      have HR := Lib.hid (show F (m + 1) = if Hp.lt l[k] l[F m] = true then k else F m by rw [HS.out, ← HK.out]; unfold Hp.bet; rw [Hp.g_eq _ _ hkl, Hp.g_eq _ _ hfl]; simp [hkl])
      have CA := Lib.hid (fun W => hp_ahead l[k] l[F m] W)
      have hfn : F m < n := by rw [Hn.out]; exact hfl
      generalize l[k] = x at hx HR CA
      generalize l[F m] = y at hy HR CA
      obtain ⟨x1, x2, x3, x4⟩ := x
      obtain ⟨y1, y2, y3, y4⟩ := y
      generalize Hp.lt (x1, x2, x3, x4) (y1, y2, y3, y4) = b at HR CA
      have X1 := fun n os => (hx.grown n os).1
      have X2 := fun n os => (hx.grown n os).2.1
      have X3 := fun n os => (hx.grown n os).2.2.1
      have X4 := fun n os => (hx.grown n os).2.2.2
      have Y1 := fun n os => (hy.grown n os).1
      have Y2 := fun n os => (hy.grown n os).2.1
      have Y3 := fun n os => (hy.grown n os).2.2.1
      have Y4 := fun n os => (hy.grown n os).2.2.2
      simp only [] at X1 X2 X3 X4 Y1 Y2 Y3 Y4 CA
      clear hx hy hBr
      clear hkl hfl
      generalize F m = f at hfn HR Y1 Y2 Y3 Y4 ⊢
      have k1 : (k : Int) < (n : Int) := by omega
      have k2 : (0 : Int) ≤ (k : Int) := by omega
      have k3 : (f : Int) < (n : Int) := by omega
      have k4 : (0 : Int) ≤ (f : Int) := by omega
      have k5 : decide ((k : Int) ≤ 2 * (i : Int) + 2) = true := by simp; omega
      clear hk
      go_wp2_with fail
      go_quiet_grown (first | (go_at_call 25; refine Calls.grown_of (CA.out _)))
      clear X1 X2 X3 X4 Y1 Y2 Y3 Y4
      have B3 := Lib.hid (BW.out.trans ((hp_grown_below ⟨nq, osq, rfl⟩).mono hz))
      cases b with
      | true =>
        have HR2 := Lib.hid (HR.out.trans (if_pos rfl))
        clear k5
        go_wp2_with fail
        exact ⟨⟨m + 1, k + 1, by omega, by rw [HK.out]; omega, by rw [HR2.out], by go_num, B3.out⟩, by simp [RowKit.intOf]; have := HK.out; omega⟩
      | false =>
        have HR2 := Lib.hid (HR.out.trans (if_neg (by simp)))
        clear k5
        go_wp2_with fail
        exact ⟨⟨m + 1, k + 1, by omega, by rw [HK.out]; omega, by rw [HR2.out], by go_num, B3.out⟩, by simp [RowKit.intOf]; have := HK.out; omega⟩
    · have hq : F m = i := HE.out m hm (by rw [← Hn.out]; omega)
      rw [hq]
      clear hq
      have hex : (decide ((k : Int) ≤ 2 * (i : Int) + 2) = false) ∨ (decide ((k : Int) ≤ 2 * (i : Int) + 2) = true ∧ decide (k < n) = false) := by
        by_cases hk3 : k ≤ 2 * i + 2
        · right; refine ⟨by simp; omega, by simp; omega⟩
        · left; simp; omega
      have HG5 := Lib.hid (hp_grown_of_below BW.out (some g))
      have HB5 := Lib.hid (HB.out.below BW.out hg)
      clear hk hin
      rcases hex with t1 | ⟨t1, t2⟩
      · go_wp2_with fail
        refine bodyPost_end (hp_ret0 rfl _ _ _) rfl ⟨rfl, HB5.out, HG5.out⟩
      · go_wp2_with fail
        refine bodyPost_end (hp_ret0 rfl _ _ _) rfl ⟨rfl, HB5.out, HG5.out⟩
/-- sink, whatever is ahead. -/
theorem hp_sink : ∀ (k : Nat) (l : List (Int × Int × Int × Int)) (i g c : Nat) (rest : List Value) (w : World), i < l.length → l.length ≤ 1000000 → l.length ≤ k + i → Hp.Blk w g l rest →
    Calls Try.prog 13 #[.slice (some ⟨g, 0, none⟩) l.length c, .int .i64 i] w (Hp.Put (Hp.sinkF k l i) rest g w) := by
  intro k
  induction k with
  | zero => intro l i g c rest w h1 _ h3; omega
  | succ k ih =>
    intro l i g c rest w h1 h2 h3 h
    unfold Hp.sinkF
    by_cases e : Hp.first l i = i
    · rw [if_pos e]
      exact hp_sink_stay l i g c rest w h1 h2 h e
    · rw [if_neg e]
      have hf := (Hp.first_spec l i).resolve_left (fun x => e x.1)
      have hl := Hp.swap_len l i (Hp.first l i)
      refine hp_sink_walk l i g c rest w h1 h2 h e _ fun W hW => ?_
      have := ih (Hp.swap l i (Hp.first l i)) (Hp.first l i) g c rest W (by rw [hl]; exact hf.2.2.1) (by rw [hl]; exact h2) (by rw [hl]; have := hf.2.1; omega) hW
      rw [hl] at this
      exact this
end Go.Proofs.Ytlbifinkjghgaaa
