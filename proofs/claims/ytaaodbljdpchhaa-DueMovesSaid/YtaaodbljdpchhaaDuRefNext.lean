/-
  The walk of the document's Next for timers. Condition: the list is of a size that a machine holds.
-/
import Derived.Test.YtaaodbljdpchhaaDuRefDrain
namespace Go.Proofs.Ytaaodbljdpchhaa
open Go.RowKit Go.Lib Go.Sort Go.Shelf

set_option maxHeartbeats 4000000 in
set_option maxRecDepth 100000 in
theorem ref_Next16 (l : List (Int × Int × Int × Int)) (p : Option Addr) (c : Nat) (w : World) (hA : Hp.At w p l) (hn : l.length ≤ 140737488351232) :
    Calls Try.prog 33 #[.slice p l.length c] w fun e w' => e = .returned (.tuple #[.agg #[.int .i64 (Hp.poT l).1, .int .i64 (Hp.poT l).2.1, .int .u8 (Hp.poT l).2.2.1, .int .i64 (Hp.poT l).2.2.2], .int .i64 (Hp.poC l)]) ∧ Below w.heap.size w w' := by
  have HT := Lib.hid (show Hp.poT l = if Hp.poC l = 0 then Hp.g l 0 else (0, 0, 0, 0) from rfl)
  have HOk := Lib.hid (fun h : Hp.Ok l => (show Hp.poC l = if l.length = 0 then 3 else 0 from if_pos h))
  have HNo := Lib.hid (fun h : ¬ Hp.Ok l => (show Hp.poC l = 2 from if_neg h))
  have CK := Lib.hid (fun W h => ref_Sorted15 l p c W h hn)
  generalize Hp.poT l = T at *
  generalize Hp.poC l = Z at *
  have hb0 := hp_box w (.cells #[.int .i64 0, .int .i64 0, .int .u8 0, .int .i64 0] 31)
  have x0 := hp_new w (.cells #[.int .i64 0, .int .i64 0, .int .u8 0, .int .i64 0] 31)
  obtain ⟨W0, hW0⟩ : ∃ W0, w.alloc (.cells #[.int .i64 0, .int .i64 0, .int .u8 0, .int .i64 0] 31) = W0 := ⟨_, rfl⟩
  have s0 : W0.heap.size = w.heap.size + 1 := by rw [← hW0, World.size_alloc]
  have HW0 := Lib.hid hW0
  rw [hW0] at hb0 x0
  have A0 := Lib.hid (hA.below hb0)
  have B0 := Lib.hid hb0
  have X0 := Lib.hid x0
  have S0 := Lib.hid s0
  clear hb0 x0 s0 hW0 hA
  by_cases hok : Hp.Ok l
  · have E1 := Lib.hid (HOk.out hok)
    have hSo : Hp.soL l = Hp.srt l := if_pos hok
    rw [Hp.chk_ok hok, hSo] at CK
    have hlen := hok.1
    have hSl := Hp.srt_len l
    have HSp := Lib.hid (fun h0 => Hp.srt_pop hok h0)
    clear hok HOk HNo hSo
    by_cases h0 : l.length = 0
    · have E2 := Lib.hid (E1.out.trans (if_pos h0))
      have E4 := Lib.hid (show T = (0, 0, 0, 0) by rw [HT.out, E2.out]; rfl)
      have hS0 : Hp.srt l = [] := List.length_eq_zero_iff.1 (hSl.trans h0)
      rw [h0, hS0] at CK
      rw [h0]
      clear h0 HT E1 hSl HSp hS0
      go_enter Try.func33, Try.ntmps33
      go_wp2_with fail
      rw [HW0.out]
      refine (CK.out _ A0.out).mono ?_
      rintro e w1 ⟨p1, c1, rfl, hS, hb⟩
      have hlt1 : w.heap.size < w1.heap.size := by have := S0.out; have := hb.size; omega
      have B1 := Lib.hid (hp_then B0.out hb B0.out.size)
      have X1 := Lib.hid ((hb.block w.heap.size (by have := S0.out; omega)).trans X0.out)
      clear hb
      obtain ⟨x1, x2, x3, x4⟩ := Hp.box X1.out
      have fz := hp_box_frozen X1.out
      have hfb := Hp.fill_box X1.out (0, 0, 0, 0)
      have hfB := Hp.fill_below B1.out (Nat.le_refl _) (by omega) (0, 0, 0, 0)
      unfold Hp.fillW at hfb hfB
      simp only [] at hfb hfB
      have FB := Lib.hid hfb
      have FW := Lib.hid (hp_below_undrew hfB)
      clear hfb hfB
      go_wp2_with fail
      refine bodyPost_ret (du_ret rfl _ _ w.heap.size 31 _ _ rfl FB.out Try.underlying31 rfl (by kernel_rfl)) rfl ?_
      rw [E2.out, E4.out]
      exact ⟨rfl, FW.out⟩
    · have E2 := Lib.hid (E1.out.trans (if_neg h0))
      have hl0 : 0 < l.length := by omega
      have hT : T = Hp.g l 0 := by
        rw [HT.out, E2.out]
        exact if_pos rfl
      have hS1 := HSp.out hl0
      rw [← hT] at hS1
      have HS1 := Lib.hid hS1
      generalize Hp.srt l = S at *
      have AL := Lib.hid (fun W q (h : Hp.At W q S) => by have := h.get 0 (by rw [hS1]; simp); rw [show S[0]'(by rw [hS1]; simp) = T by simp [hS1]] at this; exact this)
      unfold Hp.Got at CK
      rw [hSl] at CK
      clear hT HT E1 h0 hS1 hSl HSp
      generalize l.length = n at *
      have q1 : ((n : Int) == 0) = false := by simp; omega
      have q2 : (0 : Int) < (n : Int) := by omega
      go_enter Try.func33, Try.ntmps33
      go_wp2_with fail
      rw [HW0.out]
      refine (CK.out _ A0.out).mono ?_
      rintro e w1 ⟨p1, c1, rfl, hS, hb⟩
      have hlt1 : w.heap.size < w1.heap.size := by have := S0.out; have := hb.size; omega
      have B1 := Lib.hid (hp_then B0.out hb B0.out.size)
      have X1 := Lib.hid ((hb.block w.heap.size (by have := S0.out; omega)).trans X0.out)
      obtain ⟨b, off, rfl, e1, e2, e3, e4⟩ := AL.out _ _ hS
      clear hb
      obtain ⟨x1, x2, x3, x4⟩ := Hp.box X1.out
      have fz := hp_box_frozen X1.out
      obtain ⟨t1, t2, t3, t4⟩ := T
      simp only [Nat.zero_mul, Nat.add_zero] at e1 e2 e3 e4
      have hfb := Hp.fill_box X1.out (t1, t2, t3, t4)
      have hfB := Hp.fill_below B1.out (Nat.le_refl _) (by omega) (t1, t2, t3, t4)
      unfold Hp.fillW at hfb hfB
      simp only [] at hfb hfB
      have FB := Lib.hid hfb
      have FW := Lib.hid (hp_below_undrew hfB)
      clear hfb hfB
      go_wp2_with fail
      refine bodyPost_ret (du_ret rfl _ _ w.heap.size 31 _ _ rfl FB.out Try.underlying31 rfl (by kernel_rfl)) rfl ?_
      rw [E2.out]
      exact ⟨rfl, FW.out⟩
  · have E2 := Lib.hid (HNo.out hok)
    have E4 := Lib.hid (show T = (0, 0, 0, 0) by rw [HT.out, E2.out]; rfl)
    rw [Hp.chk_bad hok, show Hp.soL l = [] from if_neg hok] at CK
    clear hok HOk HNo HT
    generalize l.length = n at *
    go_enter Try.func33, Try.ntmps33
    go_wp2_with fail
    rw [HW0.out]
    refine (CK.out _ A0.out).mono ?_
    rintro e w1 ⟨p1, c1, rfl, hS, hb⟩
    have hlt1 : w.heap.size < w1.heap.size := by have := S0.out; have := hb.size; omega
    have B1 := Lib.hid (hp_then B0.out hb B0.out.size)
    have X1 := Lib.hid ((hb.block w.heap.size (by have := S0.out; omega)).trans X0.out)
    clear hb
    obtain ⟨x1, x2, x3, x4⟩ := Hp.box X1.out
    have fz := hp_box_frozen X1.out
    have hfb := Hp.fill_box X1.out (0, 0, 0, 0)
    have hfB := Hp.fill_below B1.out (Nat.le_refl _) (by omega) (0, 0, 0, 0)
    unfold Hp.fillW at hfb hfB
    simp only [] at hfb hfB
    have FB := Lib.hid hfb
    have FW := Lib.hid (hp_below_undrew hfB)
    clear hfb hfB
    go_wp2_with fail
    refine bodyPost_ret (du_ret rfl _ _ w.heap.size 31 _ _ rfl FB.out Try.underlying31 rfl (by kernel_rfl)) rfl ?_
    rw [E2.out, E4.out]
    exact ⟨rfl, FW.out⟩
end Go.Proofs.Ytaaodbljdpchhaa
