/-
  The walk of HeapBack: whatever a heap and a timer are, the law answers true. Condition: a list is of a size that a machine holds.
-/
import Derived.Test.YtaaodbljdpchhaaHpLives
namespace Go.Proofs.Ytaaodbljdpchhaa
open Go.RowKit Go.Lib Go.Sort Go.Shelf

theorem Hp.pu_zero {l : List (Int × Int × Int × Int)} {t : Int × Int × Int × Int} (h : Hp.puC l t.2.1 = 0) : Hp.Ok l ∧ t.2.1 ∉ Hp.sq l ∧ l.length < 4096 ∧ Hp.puL l t = Hp.pushF l t := by
  have hok : Hp.Ok l := Classical.byContradiction fun e => by rw [show Hp.puC l t.2.1 = 2 from if_neg e] at h; cases h
  rw [show Hp.puC l t.2.1 = if 0 ≤ Hp.plc l t.2.1 then 4 else if l.length = 4096 then 8 else 0 from if_pos hok] at h
  by_cases hp : 0 ≤ Hp.plc l t.2.1
  · rw [if_pos hp] at h; cases h
  · rw [if_neg hp] at h
    by_cases hl : l.length = 4096
    · rw [if_pos hl] at h; cases h
    · refine ⟨hok, Hp.plc_neg.1 (by omega), by have := hok.1; omega, ?_⟩
      have hz : Hp.puC l t.2.1 = 0 := (show Hp.puC l t.2.1 = if 0 ≤ Hp.plc l t.2.1 then 4 else if l.length = 4096 then 8 else 0 from if_pos hok).trans ((if_neg hp).trans (if_neg hl))
      exact if_pos hz
/-- What was pushed is cancelled. -/
theorem Hp.back {l : List (Int × Int × Int × Int)} {t : Int × Int × Int × Int} (hok : Hp.Ok l) (ht : t.2.1 ∉ Hp.sq l) (hl : l.length < 4096) :
    Hp.caC (Hp.pushF l t) t.2.1 = 0 ∧ Hp.caT (Hp.pushF l t) t.2.1 = t ∧ Hp.Ok (Hp.pushF l t) ∧ Hp.Ok (Hp.caL (Hp.pushF l t) t.2.1) ∧ Hp.srt (Hp.caL (Hp.pushF l t) t.2.1) = Hp.srt l := by
  have hg := Hp.ok_push hok hl ht
  have hmem : t ∈ Hp.pushF l t := (Hp.pushF_perm l t).mem_iff.2 List.mem_cons_self
  obtain ⟨h1, h2⟩ := Hp.idx_of hg.2.1 hmem
  have hc : Hp.caC (Hp.pushF l t) t.2.1 = 0 := (show Hp.caC (Hp.pushF l t) t.2.1 = if Hp.idx (Hp.pushF l t) t.2.1 < (Hp.pushF l t).length then 0 else 3 from if_pos hg).trans (if_pos h1)
  have hL : Hp.caL (Hp.pushF l t) t.2.1 = Hp.woF (Hp.pushF l t) (Hp.idx (Hp.pushF l t) t.2.1) := if_pos hc
  have hT : Hp.caT (Hp.pushF l t) t.2.1 = Hp.g (Hp.pushF l t) (Hp.idx (Hp.pushF l t) t.2.1) := if_pos hc
  rw [hL, hT]
  have hp := (Hp.wo_perm _ _ h1).trans (Hp.pushF_perm l t)
  rw [h2] at hp
  exact ⟨hc, h2, hg, Hp.ok_wo hg h1, Hp.srt_eq (List.Perm.cons_inv hp) hok.2.1⟩
set_option maxHeartbeats 4000000 in
set_option maxRecDepth 100000 in
theorem heapBack_law (h : List (Int × Int × Int × Int)) (t : Int × Int × Int × Int) (p : Option Addr) (c : Nat) (w : World) (hA : Hp.At w p h) (hn : h.length ≤ 140737488351232) :
    Calls Try.prog 5 #[.slice p h.length c, .agg #[.int .i64 t.1, .int .i64 t.2.1, .int .u8 t.2.2.1, .int .i64 t.2.2.2]] w fun e w' => e = .returned (.bool true) ∧ Below w.heap.size w w' := by
  have CL := Lib.hid hp_lives
  have CS := Lib.hid (fun W (hA : Hp.At W p h) => (hp_Sorted h p c W hA hn).mono fun _ _ h => h.got)
  have CP := Lib.hid (fun W (hA : Hp.At W p h) => hp_Push h t p c W hA hn)
  have hX := hp_new w (.cells #[.int .i64 t.1, .int .i64 t.2.1, .int .u8 t.2.2.1, .int .i64 t.2.2.2] 31)
  have hB := hp_box w (.cells #[.int .i64 t.1, .int .i64 t.2.1, .int .u8 t.2.2.1, .int .i64 t.2.2.2] 31)
  have A0 := Lib.hid (hA.below hB)
  obtain ⟨W0, hW0⟩ : ∃ W0, w.alloc (.cells #[.int .i64 t.1, .int .i64 t.2.1, .int .u8 t.2.2.1, .int .i64 t.2.2.2] 31) = W0 := ⟨_, rfl⟩
  rw [hW0] at A0 hX hB
  have X0 : Hid (Hp.Box W0 w.heap.size t) := Lib.hid hX
  have B0 := Lib.hid hB
  have HW0 := Lib.hid hW0
  clear hX hB hW0 hA
  by_cases hp : Hp.puC h t.2.1 = 0
  · obtain ⟨hok, hts, hlen, hL⟩ := Hp.pu_zero hp
    obtain ⟨k1, k2, k3, k4, k5⟩ := Hp.back hok hts hlen
    rw [hp, hL] at CP
    rw [Hp.chk_ok hok, show Hp.soL h = Hp.srt h from if_pos hok] at CS
    have hpl : (Hp.pushF h t).length ≤ 140737488351232 := by rw [(Hp.pushF_perm h t).length_eq]; simp; omega
    have CC := Lib.hid (fun W p2 c2 (hA : Hp.At W p2 (Hp.pushF h t)) => hp_Cancel (Hp.pushF h t) t.2.1 p2 c2 W hA hpl)
    rw [k1, k2] at CC
    have CK := Lib.hid (fun W p2 c2 (hA : Hp.At W p2 (Hp.pushF h t)) => hp_Check (Hp.pushF h t) p2 c2 W hA hpl)
    rw [Hp.chk_ok k3] at CK
    have hcl : (Hp.caL (Hp.pushF h t) t.2.1).length ≤ 140737488351232 := by have := k4.1; omega
    have CS2 := Lib.hid (fun W p2 c2 (hA : Hp.At W p2 (Hp.caL (Hp.pushF h t) t.2.1)) => (hp_Sorted _ p2 c2 W hA hcl).mono fun _ _ h => h.got)
    rw [Hp.chk_ok k4, show Hp.soL (Hp.caL (Hp.pushF h t) t.2.1) = Hp.srt (Hp.caL (Hp.pushF h t) t.2.1) from if_pos k4, k5] at CS2
    have CK2 := Lib.hid (fun W p2 c2 (hA : Hp.At W p2 (Hp.caL (Hp.pushF h t) t.2.1)) => hp_Check _ p2 c2 W hA hcl)
    rw [Hp.chk_ok k4] at CK2
    have CE := Lib.hid (fun W a b n m hA hB => hp_Same_self (Hp.srt h) a b n m W hA hB (by rw [Hp.srt_len]; omega))
    generalize Hp.caL (Hp.pushF h t) t.2.1 = K at *
    generalize Hp.pushF h t = G at *
    generalize Hp.srt h = S at *
    obtain ⟨t1, t2, t3, t4⟩ := t
    simp only [] at CP CC HW0 ⊢
    clear hp hok hts hlen hL k1 k2 k3 k4 k5 hpl hcl hn
    generalize h.length = n at *
    go_enter Try.func5, Try.ntmps5
    go_wp2_with fail
    rw [HW0.out]
    refine (CL.out _).mono ?_
    rintro e w1 ⟨rfl, hb⟩
    have A1 := Lib.hid (A0.out.below hb)
    have X1 := Lib.hid (X0.out.below hb)
    have B1 := Lib.hid (hp_then B0.out hb B0.out.size)
    clear hb
    go_wp2_with fail
    refine (CS.out _ A1.out).mono ?_
    rintro e w2 ⟨p2, c2, rfl, hA, hb⟩
    have S2 := Lib.hid hA
    have A2 := Lib.hid (A1.out.below hb)
    have X2 := Lib.hid (X1.out.below hb)
    have B2 := Lib.hid (hp_then B1.out hb B1.out.size)
    clear hA hb
    obtain ⟨x1, x2, x3, x4⟩ := X2.out.cells
    go_wp2_with fail
    refine (CP.out _ A2.out).mono ?_
    rintro e w3 ⟨p3, c3, rfl, hA, hb⟩
    have G3 := Lib.hid hA
    have S3 := Lib.hid (S2.out.below hb)
    have X3 := Lib.hid (X2.out.below hb)
    have B3 := Lib.hid (hp_then B2.out hb B2.out.size)
    clear hA hb x1 x2 x3 x4
    obtain ⟨x1, x2, x3, x4⟩ := X3.out.cells
    go_wp2_with fail
    refine (CC.out _ _ _ G3.out).mono ?_
    rintro e w4 ⟨p4, c4, rfl, hA, hb⟩
    have hbx := hp_box w4 (.cells #[.int .i64 t1, .int .i64 t2, .int .u8 t3, .int .i64 t4] 31)
    have K4 := Lib.hid (hA.below hbx)
    have G4 := Lib.hid ((G3.out.below hb).below hbx)
    have S4 := Lib.hid ((S3.out.below hb).below hbx)
    have X4 := Lib.hid ((X3.out.below hb).below hbx)
    have Y4 : Hid (Hp.Box (w4.alloc (.cells #[.int .i64 t1, .int .i64 t2, .int .u8 t3, .int .i64 t4] 31)) w4.heap.size (t1, t2, t3, t4)) := Lib.hid (hp_new w4 _)
    have B4 := Lib.hid (hp_then (hp_then B3.out hb B3.out.size) hbx (hp_then B3.out hb B3.out.size).size)
    clear hA hb hbx x1 x2 x3 x4
    go_wp2_with fail
    refine (CS2.out _ _ _ K4.out).mono ?_
    rintro e w5 ⟨p5, c5, rfl, hA, hb⟩
    have T5 := Lib.hid hA
    have K5 := Lib.hid (K4.out.below hb)
    have G5 := Lib.hid (G4.out.below hb)
    have S5 := Lib.hid (S4.out.below hb)
    have B5 := Lib.hid (hp_then B4.out hb B4.out.size)
    obtain ⟨x1, x2, x3, x4⟩ := (X4.out.below hb).cells
    obtain ⟨y1, y2, y3, y4⟩ := (Y4.out.below hb).cells
    clear hA hb
    go_wp2_with fail
    refine (CE.out _ _ _ _ _ S5.out T5.out).mono ?_
    rintro e w6 ⟨rfl, hb⟩
    have K6 := Lib.hid (K5.out.below hb)
    have G6 := Lib.hid (G5.out.below hb)
    have B6 := Lib.hid (hp_then B5.out hb B5.out.size)
    clear hb x1 x2 x3 x4 y1 y2 y3 y4
    go_wp2_with fail
    refine (CK.out _ _ _ G6.out).mono ?_
    rintro e w7 ⟨rfl, hb⟩
    have K7 := Lib.hid (K6.out.below hb)
    have B7 := Lib.hid (hp_then B6.out hb B6.out.size)
    clear hb
    go_wp2_with fail
    refine (CK2.out _ _ _ K7.out).mono ?_
    rintro e w8 ⟨rfl, hb⟩
    have B8 := Lib.hid (hp_then B7.out hb B7.out.size)
    clear hb
    go_wp2_with fail
    go_ret
    exact ⟨rfl, B8.out⟩
  · have q1 : (Hp.puC h t.2.1 == 0) = false := by simpa using hp
    have q2 : (Hp.puC h t.2.1 != 0) = true := by simpa using hp
    generalize Hp.puC h t.2.1 = pc at *
    generalize Hp.puL h t = pl at *
    generalize Hp.chk h = sc at *
    generalize Hp.soL h = so at *
    obtain ⟨t1, t2, t3, t4⟩ := t
    simp only [] at CP HW0 ⊢
    clear hp hn
    generalize h.length = n at *
    by_cases hs : sc = 0
    · subst hs
      go_enter Try.func5, Try.ntmps5
      go_wp2_with fail
      rw [HW0.out]
      refine (CL.out _).mono ?_
      rintro e w1 ⟨rfl, hb⟩
      have A1 := Lib.hid (A0.out.below hb)
      have X1 := Lib.hid (X0.out.below hb)
      have B1 := Lib.hid (hp_then B0.out hb B0.out.size)
      clear hb
      go_wp2_with fail
      refine (CS.out _ A1.out).mono ?_
      rintro e w2 ⟨p2, c2, rfl, hA, hb⟩
      have A2 := Lib.hid (A1.out.below hb)
      have X2 := Lib.hid (X1.out.below hb)
      have B2 := Lib.hid (hp_then B1.out hb B1.out.size)
      clear hA hb
      obtain ⟨x1, x2, x3, x4⟩ := X2.out.cells
      go_wp2_with fail
      refine (CP.out _ A2.out).mono ?_
      rintro e w3 ⟨p3, c3, rfl, hA, hb⟩
      have B3 := Lib.hid (hp_then B2.out hb B2.out.size)
      clear hA hb x1 x2 x3 x4
      go_wp2_with fail
      go_ret
      exact ⟨rfl, B3.out⟩
    · have r1 : (sc == 0) = false := by simpa using hs
      have r2 : (sc != 0) = true := by simpa using hs
      clear hs
      go_enter Try.func5, Try.ntmps5
      go_wp2_with fail
      rw [HW0.out]
      refine (CL.out _).mono ?_
      rintro e w1 ⟨rfl, hb⟩
      have A1 := Lib.hid (A0.out.below hb)
      have X1 := Lib.hid (X0.out.below hb)
      have B1 := Lib.hid (hp_then B0.out hb B0.out.size)
      clear hb
      go_wp2_with fail
      refine (CS.out _ A1.out).mono ?_
      rintro e w2 ⟨p2, c2, rfl, hA, hb⟩
      have A2 := Lib.hid (A1.out.below hb)
      have X2 := Lib.hid (X1.out.below hb)
      have B2 := Lib.hid (hp_then B1.out hb B1.out.size)
      clear hA hb
      obtain ⟨x1, x2, x3, x4⟩ := X2.out.cells
      go_wp2_with fail
      refine (CP.out _ A2.out).mono ?_
      rintro e w3 ⟨p3, c3, rfl, hA, hb⟩
      have B3 := Lib.hid (hp_then B2.out hb B2.out.size)
      clear hA hb x1 x2 x3 x4
      go_wp2_with fail
      go_ret
      exact ⟨rfl, B3.out⟩
end Go.Proofs.Ytaaodbljdpchhaa
