/-
  The walk of DueDrains: whatever timers and a time are, the law answers true. Condition: a list is of a size that a machine holds.
-/
import Derived.Test.YtaaodbljdpchhaaDuRefNext
namespace Go.Proofs.Ytaaodbljdpchhaa
open Go.RowKit Go.Lib Go.Sort Go.Shelf

theorem Du.rest_ok (l : List (Int × Int × Int × Int)) (k : Nat) : Hp.Ok ((Hp.soL l).drop k) ∧ Hp.srt ((Hp.soL l).drop k) = (Hp.soL l).drop k := by
  by_cases h : Hp.Ok l
  · rw [show Hp.soL l = Hp.srt l from if_pos h]
    exact Du.list_ok h (List.drop_sublist _ _)
  · rw [show Hp.soL l = [] from if_neg h, List.drop_nil]
    exact ⟨⟨by simp, List.nodup_nil, fun j hj => by simp at hj⟩, rfl⟩
set_option maxHeartbeats 4000000 in
set_option maxRecDepth 100000 in
theorem dueDrains_law (l : List (Int × Int × Int × Int)) (now : Int) (p : Option Addr) (c : Nat) (w : World) (hA : Hp.At w p l) (hn : l.length ≤ 140737488351232) :
    Calls Try.prog 7 #[.slice p l.length c, .int .i64 now] w fun e w' => e = .returned (.bool true) ∧ Below w.heap.size w w' := by
  have CL := Lib.hid du_lives
  have A0 := Lib.hid hA
  by_cases hl : l.length ≤ 100
  · have C1 := Lib.hid (fun W q d (h : Hp.At W q l) => due_Drain l now q d W h hn)
    have C2 := Lib.hid (fun W (h : Hp.At W p l) => ref_Drain16' l now p c W h hn)
    have C3 := Lib.hid (fun W q d (h : Hp.At W q l) => due_Count l now q d W h hn)
    have C4 := Lib.hid (fun W (h : Hp.At W p l) => ref_Count16 l now p c W h hn)
    have C5 := Lib.hid (fun W q d (h : Hp.At W q l) => due_Next l q d W h hn)
    have C6 := Lib.hid (fun W (h : Hp.At W p l) => ref_Next16 l p c W h hn)
    have C9 := Lib.hid (fun q1 q2 d1 d2 W hA hB => hp_Same_self l q1 q2 d1 d2 W hA hB hn)
    obtain ⟨okX, srX⟩ := Du.rest_ok l (Du.due (Hp.soL l) now).length
    have hDl : (Du.due (Hp.soL l) now).length ≤ 140737488351232 := by have := Du.due_take (Hp.soL l) now; have := @Du.soL_le l; omega
    have C7 := Lib.hid (fun q1 q2 d1 d2 W hA hB => ref_Is15 (List.drop (Du.due (Hp.soL l) now).length (Hp.soL l)) (List.drop (Du.due (Hp.soL l) now).length (Hp.soL l)) q1 q2 d1 d2 W hA hB okX (by have := okX.1; omega))
    rw [srX, decide_eq_true rfl] at C7
    have C8 := Lib.hid (fun q1 q2 d1 d2 W hA hB => hp_Same_self (Du.due (Hp.soL l) now) q1 q2 d1 d2 W hA hB hDl)
    clear okX srX hDl
    generalize List.drop (Du.due (Hp.soL l) now).length (Hp.soL l) = X at *
    generalize Du.due (Hp.soL l) now = D at *
    generalize Hp.chk l = z at *
    generalize Hp.poT l = T at *
    generalize Hp.poC l = Z at *
    obtain ⟨t1, t2, t3, t4⟩ := T
    simp only [] at C5 C6
    obtain ⟨n, hnl⟩ : ∃ n, n = l.length := ⟨_, rfl⟩
    have Hn := Lib.hid hnl
    have HN := Lib.hid (show l.length ≤ 1000000 by omega)
    rw [← hnl] at C1 C2 C3 C4 C5 C6 C9 hl
    rw [← hnl]
    have q1 : ¬ (100 : Int) < (n : Int) := by omega
    clear hnl hA hn hl
    have HO0 := Lib.hid (Hp.own_made w)
    have HB0 := Lib.hid (hp_box w (.cells #[] 31))
    have HA0 := Lib.hid (A0.out.below HB0.out)
    go_enter Try.func7, Try.ntmps7
    go_wp2_with (at_builtin; refine Hp.listW rfl _ _ rfl [] l _ _ _ _ w.heap.size rfl rfl HO0.out HA0.out Hn.out (Nat.zero_le _) HN.out HB0.out.size ?_)
    intro v0 w1 hO hg
    have hb := hp_grown_own HB0.out HO0.out hg HB0.out.size
    obtain ⟨pg, cg, hv, hAg⟩ := hO.at
    try rw [List.nil_append] at hAg hv
    rw [← Hn.out] at hv
    subst hv
    have G1 := Lib.hid hAg
    have A1 := Lib.hid (A0.out.below hb)
    have B1 := Lib.hid hb
    clear hO hg hb hAg HO0 HB0 HA0
    go_wp2_with fail
    refine (C1.out _ _ _ G1.out).mono ?_
    rintro e w2 ⟨p2, c2, q2, d2, rfl, hA, hA2, hb⟩
    have G2 := Lib.hid (G1.out.below hb)
    have A2 := Lib.hid (A1.out.below hb)
    have B2 := Lib.hid (hp_then B1.out hb B1.out.size)
    have X2 := Lib.hid hA
    have D2 := Lib.hid hA2
    clear hb hA hA2 G1 A1 B1
    go_wp2_with fail
    refine (C2.out _ A2.out).mono ?_
    rintro e w3 ⟨p3, c3, q3, d3, rfl, hA, hA2, hb⟩
    have G3 := Lib.hid (G2.out.below hb)
    have A3 := Lib.hid (A2.out.below hb)
    have X3 := Lib.hid (X2.out.below hb)
    have D3 := Lib.hid (D2.out.below hb)
    have B3 := Lib.hid (hp_then B2.out hb B2.out.size)
    have Y3 := Lib.hid hA
    have E3 := Lib.hid hA2
    clear hb hA hA2 G2 A2 X2 D2 B2
    go_wp2_with fail
    refine (C3.out _ _ _ G3.out).mono ?_
    rintro e w4 ⟨rfl, hb⟩
    have G4 := Lib.hid (G3.out.below hb)
    have A4 := Lib.hid (A3.out.below hb)
    have X4 := Lib.hid (X3.out.below hb)
    have D4 := Lib.hid (D3.out.below hb)
    have Y4 := Lib.hid (Y3.out.below hb)
    have E4 := Lib.hid (E3.out.below hb)
    have B4 := Lib.hid (hp_then B3.out hb B3.out.size)
    clear hb G3 A3 X3 D3 Y3 E3 B3
    go_wp2_with fail
    refine (C4.out _ A4.out).mono ?_
    rintro e w5 ⟨rfl, hb⟩
    have G5 := Lib.hid (G4.out.below hb)
    have A5 := Lib.hid (A4.out.below hb)
    have X5 := Lib.hid (X4.out.below hb)
    have D5 := Lib.hid (D4.out.below hb)
    have Y5 := Lib.hid (Y4.out.below hb)
    have E5 := Lib.hid (E4.out.below hb)
    have B5 := Lib.hid (hp_then B4.out hb B4.out.size)
    clear hb G4 A4 X4 D4 Y4 E4 B4
    go_wp2_with fail
    refine (C5.out _ _ _ G5.out).mono ?_
    rintro e w6 ⟨rfl, hb⟩
    have G6 := Lib.hid (G5.out.below hb)
    have A6 := Lib.hid (A5.out.below hb)
    have X6 := Lib.hid (X5.out.below hb)
    have D6 := Lib.hid (D5.out.below hb)
    have Y6 := Lib.hid (Y5.out.below hb)
    have E6 := Lib.hid (E5.out.below hb)
    have B6 := Lib.hid (hp_then B5.out hb B5.out.size)
    clear hb G5 A5 X5 D5 Y5 E5 B5
    have hbx := hp_box w6 (.cells #[.int .i64 t1, .int .i64 t2, .int .u8 t3, .int .i64 t4] 31)
    have hnw := hp_new w6 (.cells #[.int .i64 t1, .int .i64 t2, .int .u8 t3, .int .i64 t4] 31)
    obtain ⟨w7, hw7⟩ : ∃ W, w6.alloc (.cells #[.int .i64 t1, .int .i64 t2, .int .u8 t3, .int .i64 t4] 31) = W := ⟨_, rfl⟩
    rw [hw7] at hbx hnw
    have HW7 := Lib.hid hw7
    have G7 := Lib.hid (G6.out.below hbx)
    have A7 := Lib.hid (A6.out.below hbx)
    have X7 := Lib.hid (X6.out.below hbx)
    have D7 := Lib.hid (D6.out.below hbx)
    have Y7 := Lib.hid (Y6.out.below hbx)
    have E7 := Lib.hid (E6.out.below hbx)
    have B7 := Lib.hid (hp_then B6.out hbx B6.out.size)
    have T7 : Hid (Hp.Box w7 w6.heap.size (t1, t2, t3, t4)) := Lib.hid hnw
    clear hbx hnw hw7 G6 A6 X6 D6 Y6 E6 B6
    go_wp2_with fail
    rw [HW7.out]
    refine (C6.out _ A7.out).mono ?_
    rintro e w8 ⟨rfl, hb⟩
    have G8 := Lib.hid (G7.out.below hb)
    have A8 := Lib.hid (A7.out.below hb)
    have X8 := Lib.hid (X7.out.below hb)
    have D8 := Lib.hid (D7.out.below hb)
    have Y8 := Lib.hid (Y7.out.below hb)
    have E8 := Lib.hid (E7.out.below hb)
    have T8 := Lib.hid (T7.out.below hb)
    have B8 := Lib.hid (hp_then B7.out hb B7.out.size)
    clear hb G7 A7 X7 D7 Y7 E7 T7 B7
    have hbx := hp_box w8 (.cells #[.int .i64 t1, .int .i64 t2, .int .u8 t3, .int .i64 t4] 31)
    have hnw := hp_new w8 (.cells #[.int .i64 t1, .int .i64 t2, .int .u8 t3, .int .i64 t4] 31)
    obtain ⟨w9, hw9⟩ : ∃ W, w8.alloc (.cells #[.int .i64 t1, .int .i64 t2, .int .u8 t3, .int .i64 t4] 31) = W := ⟨_, rfl⟩
    rw [hw9] at hbx hnw
    have HW9 := Lib.hid hw9
    have G9 := Lib.hid (G8.out.below hbx)
    have A9 := Lib.hid (A8.out.below hbx)
    have X9 := Lib.hid (X8.out.below hbx)
    have D9 := Lib.hid (D8.out.below hbx)
    have Y9 := Lib.hid (Y8.out.below hbx)
    have E9 := Lib.hid (E8.out.below hbx)
    have T9 := Lib.hid (T8.out.below hbx)
    have B9 := Lib.hid (hp_then B8.out hbx B8.out.size)
    have U9 : Hid (Hp.Box w9 w8.heap.size (t1, t2, t3, t4)) := Lib.hid hnw
    clear hbx hnw hw9 G8 A8 X8 D8 Y8 E8 T8 B8
    go_wp2_with fail
    rw [HW9.out]
    refine (CL.out _).mono ?_
    rintro e w10 ⟨rfl, hb⟩
    have G10 := Lib.hid (G9.out.below hb)
    have A10 := Lib.hid (A9.out.below hb)
    have X10 := Lib.hid (X9.out.below hb)
    have D10 := Lib.hid (D9.out.below hb)
    have Y10 := Lib.hid (Y9.out.below hb)
    have E10 := Lib.hid (E9.out.below hb)
    have T10 := Lib.hid (T9.out.below hb)
    have U10 := Lib.hid (U9.out.below hb)
    have B10 := Lib.hid (hp_then B9.out hb B9.out.size)
    clear hb G9 A9 X9 D9 Y9 E9 T9 U9 B9
    go_wp2_with fail
    refine (C7.out _ _ _ _ _ X10.out Y10.out).mono ?_
    rintro e w11 ⟨rfl, hb⟩
    have G11 := Lib.hid (G10.out.below hb)
    have A11 := Lib.hid (A10.out.below hb)
    have X11 := Lib.hid (X10.out.below hb)
    have D11 := Lib.hid (D10.out.below hb)
    have Y11 := Lib.hid (Y10.out.below hb)
    have E11 := Lib.hid (E10.out.below hb)
    have T11 := Lib.hid (T10.out.below hb)
    have U11 := Lib.hid (U10.out.below hb)
    have B11 := Lib.hid (hp_then B10.out hb B10.out.size)
    clear hb G10 A10 X10 D10 Y10 E10 T10 U10 B10
    go_wp2_with fail
    refine (C8.out _ _ _ _ _ D11.out E11.out).mono ?_
    rintro e w12 ⟨rfl, hb⟩
    have G12 := Lib.hid (G11.out.below hb)
    have A12 := Lib.hid (A11.out.below hb)
    have X12 := Lib.hid (X11.out.below hb)
    have D12 := Lib.hid (D11.out.below hb)
    have Y12 := Lib.hid (Y11.out.below hb)
    have E12 := Lib.hid (E11.out.below hb)
    have T12 := Lib.hid (T11.out.below hb)
    have U12 := Lib.hid (U11.out.below hb)
    have B12 := Lib.hid (hp_then B11.out hb B11.out.size)
    clear hb G11 A11 X11 D11 Y11 E11 T11 U11 B11
    obtain ⟨x1, x2, x3, x4⟩ := T12.out.cells
    obtain ⟨y1, y2, y3, y4⟩ := U12.out.cells
    go_wp2_with fail
    refine (C9.out _ _ _ _ _ G12.out A12.out).mono ?_
    rintro e w13 ⟨rfl, hb⟩
    have G13 := Lib.hid (G12.out.below hb)
    have A13 := Lib.hid (A12.out.below hb)
    have X13 := Lib.hid (X12.out.below hb)
    have D13 := Lib.hid (D12.out.below hb)
    have Y13 := Lib.hid (Y12.out.below hb)
    have E13 := Lib.hid (E12.out.below hb)
    have T13 := Lib.hid (T12.out.below hb)
    have U13 := Lib.hid (U12.out.below hb)
    have B13 := Lib.hid (hp_then B12.out hb B12.out.size)
    clear hb G12 A12 X12 D12 Y12 E12 T12 U12 B12
    clear x1 x2 x3 x4 y1 y2 y3 y4
    go_wp2_with fail
    go_ret
    exact ⟨rfl, B13.out⟩
  · clear hA hn
    generalize l.length = n at *
    have q1 : (100 : Int) < (n : Int) := by omega
    clear hl
    go_enter Try.func7, Try.ntmps7
    go_wp2_with fail
    refine (CL.out _).mono ?_
    rintro e w1 ⟨rfl, hb⟩
    have B1 := Lib.hid hb
    clear hb
    go_wp2_with fail
    go_ret
    exact ⟨rfl, B1.out⟩
end Go.Proofs.Ytaaodbljdpchhaa
