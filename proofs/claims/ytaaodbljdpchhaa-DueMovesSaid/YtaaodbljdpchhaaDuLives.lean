/-
  The walk of layer 16's lives: the answers that the document gives. No condition.
-/
import Derived.Test.YtaaodbljdpchhaaDuOf
import Derived.Test.YtaaodbljdpchhaaDuSmall
namespace Go.Proofs.Ytaaodbljdpchhaa
open Go.RowKit Go.Lib Go.Sort Go.Shelf

theorem Du.mo_eval {l k r : List (Int × Int × Int × Int)} {s d : Int} {x : Int × Int × Int × Int} {z : Int} (hc : Hp.caL l s = k ∧ Hp.caT l s = x ∧ Hp.caC l s = 0) (hp : Hp.puL k (d, x.2.1, x.2.2.1, x.2.2.2) = r ∧ Hp.puC k x.2.1 = z) : Du.moL l s d = r ∧ Du.moC l s d = z := by
  unfold Du.moL Du.moC Du.moT
  rw [if_pos hc.2.2, if_pos hc.2.2, hc.1, hc.2.1]
  exact hp
theorem Du.mo_none {l r : List (Int × Int × Int × Int)} {s d : Int} {x : Int × Int × Int × Int} {z : Int} (hc : Hp.caL l s = r ∧ Hp.caT l s = x ∧ Hp.caC l s = z) (hz : z ≠ 0) : Du.moL l s d = r ∧ Du.moC l s d = z := by
  unfold Du.moL Du.moC
  rw [if_neg (by rw [hc.2.2]; exact hz), if_neg (by rw [hc.2.2]; exact hz)]
  exact ⟨hc.1, hc.2.2⟩
set_option maxHeartbeats 4000000 in
set_option maxRecDepth 100000 in
theorem du_lives (w : World) : Calls Try.prog 27 #[] w fun e w' => e = .returned (.bool true) ∧ Below w.heap.size w w' := by
  have E1 := Hp.mk_eval (l := [(9, 3, 1, 4), (3, 1, 1, 4), (5, 2, 0, 0)]) (r := [(3, 1, 1, 4), (9, 3, 1, 4), (5, 2, 0, 0)]) (by decide +kernel) (by decide +kernel) (by decide +kernel)
  have C1 := Lib.hid (fun W p c (h : Hp.At W p [(9, 3, 1, 4), (3, 1, 1, 4), (5, 2, 0, 0)]) => hp_Make [(9, 3, 1, 4), (3, 1, 1, 4), (5, 2, 0, 0)] p c W h (by decide +kernel))
  rw [E1.1, E1.2] at C1
  have E2 := Hp.po_eval (l := [(3, 1, 1, 4), (9, 3, 1, 4), (5, 2, 0, 0)]) (r := [(5, 2, 0, 0), (9, 3, 1, 4)]) (x := (3, 1, 1, 4)) (z := 0) (by decide +kernel) (by decide +kernel) (by decide +kernel) (by decide +kernel)
  have C2 := Lib.hid (fun W p c (h : Hp.At W p [(3, 1, 1, 4), (9, 3, 1, 4), (5, 2, 0, 0)]) => due_Next [(3, 1, 1, 4), (9, 3, 1, 4), (5, 2, 0, 0)] p c W h (by decide +kernel))
  rw [E2.2.1, E2.2.2] at C2
  have E3 := Hp.so_eval (l := [(3, 1, 1, 4), (9, 3, 1, 4), (5, 2, 0, 0)]) (r := [(3, 1, 1, 4), (5, 2, 0, 0), (9, 3, 1, 4)]) (by decide +kernel) (by decide +kernel)
  have D3 : Du.due [(3, 1, 1, 4), (5, 2, 0, 0), (9, 3, 1, 4)] 5 = [(3, 1, 1, 4), (5, 2, 0, 0)] := by decide +kernel
  have C3 := Lib.hid (fun W p c (h : Hp.At W p [(3, 1, 1, 4), (9, 3, 1, 4), (5, 2, 0, 0)]) => due_Drain [(3, 1, 1, 4), (9, 3, 1, 4), (5, 2, 0, 0)] 5 p c W h (by decide +kernel))
  rw [E3.1, E3.2, D3, show List.drop ([(3, 1, 1, 4), (5, 2, 0, 0)] : List (Int × Int × Int × Int)).length ([(3, 1, 1, 4), (5, 2, 0, 0), (9, 3, 1, 4)] : List (Int × Int × Int × Int)) = ([(9, 3, 1, 4)] : List (Int × Int × Int × Int)) from rfl] at C3
  have D4 : Du.due [(3, 1, 1, 4), (5, 2, 0, 0), (9, 3, 1, 4)] 4 = [(3, 1, 1, 4)] := by decide +kernel
  have C4 := Lib.hid (fun W p c (h : Hp.At W p [(3, 1, 1, 4), (9, 3, 1, 4), (5, 2, 0, 0)]) => due_Count [(3, 1, 1, 4), (9, 3, 1, 4), (5, 2, 0, 0)] 4 p c W h (by decide +kernel))
  rw [E3.1, E3.2, D4] at C4
  have E5 := Du.mo_eval (d := 20) (Hp.ca_eval (l := [(3, 1, 1, 4), (9, 3, 1, 4), (5, 2, 0, 0)]) (r := [(5, 2, 0, 0), (9, 3, 1, 4)]) (s := 1) (x := (3, 1, 1, 4)) (z := 0) (by decide +kernel) (by decide +kernel) (by decide +kernel) (by decide +kernel)) (Hp.pu_eval (l := [(5, 2, 0, 0), (9, 3, 1, 4)]) (r := [(5, 2, 0, 0), (9, 3, 1, 4), (20, 1, 1, 4)]) (t := (20, 1, 1, 4)) (z := 0) (by decide +kernel) (by decide +kernel) (by decide +kernel) (by decide +kernel))
  have C5 := Lib.hid (fun W p c (h : Hp.At W p [(3, 1, 1, 4), (9, 3, 1, 4), (5, 2, 0, 0)]) => due_Move [(3, 1, 1, 4), (9, 3, 1, 4), (5, 2, 0, 0)] 1 20 p c W h (by decide +kernel))
  rw [E5.1, E5.2] at C5
  have E6 := Hp.po_eval (l := [(5, 2, 0, 0), (9, 3, 1, 4), (20, 1, 1, 4)]) (r := [(9, 3, 1, 4), (20, 1, 1, 4)]) (x := (5, 2, 0, 0)) (z := 0) (by decide +kernel) (by decide +kernel) (by decide +kernel) (by decide +kernel)
  have C6 := Lib.hid (fun W p c (h : Hp.At W p [(5, 2, 0, 0), (9, 3, 1, 4), (20, 1, 1, 4)]) => due_Next [(5, 2, 0, 0), (9, 3, 1, 4), (20, 1, 1, 4)] p c W h (by decide +kernel))
  rw [E6.2.1, E6.2.2] at C6
  have D7 : List.filter (Du.is 1 4) [(3, 1, 1, 4), (5, 2, 0, 0), (9, 3, 1, 4)] = [(3, 1, 1, 4), (9, 3, 1, 4)] := by decide +kernel
  have C7 := Lib.hid (fun W p c (h : Hp.At W p [(3, 1, 1, 4), (9, 3, 1, 4), (5, 2, 0, 0)]) => due_Of [(3, 1, 1, 4), (9, 3, 1, 4), (5, 2, 0, 0)] 1 4 p c W h (by decide +kernel))
  rw [E3.1, E3.2, D7] at C7
  have D8 : List.filter (fun x => !Du.is 1 4 x) [(3, 1, 1, 4), (5, 2, 0, 0), (9, 3, 1, 4)] = [(5, 2, 0, 0)] := by decide +kernel
  have C8 := Lib.hid (fun W p c (h : Hp.At W p [(3, 1, 1, 4), (9, 3, 1, 4), (5, 2, 0, 0)]) => due_Clear [(3, 1, 1, 4), (9, 3, 1, 4), (5, 2, 0, 0)] 1 4 p c W h (by decide +kernel))
  rw [E3.1, E3.2, D8, show ((([(3, 1, 1, 4), (5, 2, 0, 0), (9, 3, 1, 4)] : List (Int × Int × Int × Int)).length : Int) - (([(5, 2, 0, 0)] : List (Int × Int × Int × Int)).length : Int)) = 2 from rfl] at C8
  have E9 := Hp.po_eval (l := []) (r := []) (x := (0, 0, 0, 0)) (z := 3) (by decide +kernel) (by decide +kernel) (by decide +kernel) (by decide +kernel)
  have C9 := Lib.hid (fun W => due_Next [] none 0 W (Hp.At.nil _ _) (by decide +kernel))
  rw [E9.2.1, E9.2.2] at C9
  have E10 := Du.mo_none (d := 0) (Hp.ca_eval (l := [(3, 1, 1, 4), (9, 3, 1, 4), (5, 2, 0, 0)]) (r := [(3, 1, 1, 4), (9, 3, 1, 4), (5, 2, 0, 0)]) (s := 7) (x := (0, 0, 0, 0)) (z := 3) (by decide +kernel) (by decide +kernel) (by decide +kernel) (by decide +kernel)) (by decide)
  have C10 := Lib.hid (fun W p c (h : Hp.At W p [(3, 1, 1, 4), (9, 3, 1, 4), (5, 2, 0, 0)]) => due_Move [(3, 1, 1, 4), (9, 3, 1, 4), (5, 2, 0, 0)] 7 0 p c W h (by decide +kernel))
  rw [E10.1, E10.2] at C10
  have CSc := Lib.hid (fun W p q c d hA hB => hp_Same_self [(9, 3, 1, 4)] p q c d W hA hB (by decide +kernel))
  have CSab := Lib.hid (fun W p q c d hA hB => hp_Same_self [(3, 1, 1, 4), (5, 2, 0, 0)] p q c d W hA hB (by decide +kernel))
  have CSac := Lib.hid (fun W p q c d hA hB => hp_Same_self [(3, 1, 1, 4), (9, 3, 1, 4)] p q c d W hA hB (by decide +kernel))
  clear E1 E2 E3 D3 D4 E5 E6 D7 D8 E9 E10
  have hb0 : Below w.heap.size w (((w.alloc (.cells #[.int .i64 3, .int .i64 1, .int .u8 1, .int .i64 4] 31)).alloc (.cells #[.int .i64 5, .int .i64 2, .int .u8 0, .int .i64 0] 31)).alloc (.cells #[.int .i64 9, .int .i64 3, .int .u8 1, .int .i64 4] 31)) := (((Below.refl _ _).alloc (Nat.le_refl _) _).alloc (by rw [World.size_alloc]; omega) _).alloc (by rw [World.size_alloc, World.size_alloc]; omega) _
  have ha0 : Hp.Box (((w.alloc (.cells #[.int .i64 3, .int .i64 1, .int .u8 1, .int .i64 4] 31)).alloc (.cells #[.int .i64 5, .int .i64 2, .int .u8 0, .int .i64 0] 31)).alloc (.cells #[.int .i64 9, .int .i64 3, .int .u8 1, .int .i64 4] 31)) w.heap.size (3, 1, 1, 4) := by
    unfold Hp.Box
    rw [hp_past _ _ _ (by rw [World.size_alloc, World.size_alloc]; omega), hp_past _ _ _ (by rw [World.size_alloc]; omega)]
    exact hp_new _ _
  have hc0 : Hp.Box (((w.alloc (.cells #[.int .i64 3, .int .i64 1, .int .u8 1, .int .i64 4] 31)).alloc (.cells #[.int .i64 5, .int .i64 2, .int .u8 0, .int .i64 0] 31)).alloc (.cells #[.int .i64 9, .int .i64 3, .int .u8 1, .int .i64 4] 31)) (w.heap.size + 1) (5, 2, 0, 0) := by
    unfold Hp.Box
    rw [hp_past _ _ _ (by rw [World.size_alloc, World.size_alloc]; omega)]
    have := hp_new (w.alloc (.cells #[.int .i64 3, .int .i64 1, .int .u8 1, .int .i64 4] 31)) (.cells #[.int .i64 5, .int .i64 2, .int .u8 0, .int .i64 0] 31)
    rw [World.size_alloc] at this
    exact this
  have hd0 : Hp.Box (((w.alloc (.cells #[.int .i64 3, .int .i64 1, .int .u8 1, .int .i64 4] 31)).alloc (.cells #[.int .i64 5, .int .i64 2, .int .u8 0, .int .i64 0] 31)).alloc (.cells #[.int .i64 9, .int .i64 3, .int .u8 1, .int .i64 4] 31)) (w.heap.size + 1 + 1) (9, 3, 1, 4) := by
    unfold Hp.Box
    have := hp_new ((w.alloc (.cells #[.int .i64 3, .int .i64 1, .int .u8 1, .int .i64 4] 31)).alloc (.cells #[.int .i64 5, .int .i64 2, .int .u8 0, .int .i64 0] 31)) (.cells #[.int .i64 9, .int .i64 3, .int .u8 1, .int .i64 4] 31)
    rw [World.size_alloc, World.size_alloc] at this
    exact this
  obtain ⟨W0, hW0⟩ : ∃ W0, ((w.alloc (.cells #[.int .i64 3, .int .i64 1, .int .u8 1, .int .i64 4] 31)).alloc (.cells #[.int .i64 5, .int .i64 2, .int .u8 0, .int .i64 0] 31)).alloc (.cells #[.int .i64 9, .int .i64 3, .int .u8 1, .int .i64 4] 31) = W0 := ⟨_, rfl⟩
  rw [hW0] at hb0 ha0 hc0 hd0
  have HW0 := Lib.hid hW0
  have B0 := Lib.hid hb0
  have XA := Lib.hid ha0
  have XB := Lib.hid hc0
  have XC := Lib.hid hd0
  clear hW0 hb0 ha0 hc0 hd0
  go_enter Try.func27, Try.ntmps27
  go_upto_region 2 with fail
  rw [HW0.out]
  obtain ⟨XA0_1, XA1_1, XA2_1, XA3_1⟩ := XA.out.cells
  obtain ⟨XB0_1, XB1_1, XB2_1, XB3_1⟩ := XB.out.cells
  obtain ⟨XC0_1, XC1_1, XC2_1, XC3_1⟩ := XC.out.cells
  have bx := hp_box W0 (.cells #[.int .i64 9, .int .i64 3, .int .u8 1, .int .i64 4, .int .i64 3, .int .i64 1, .int .u8 1, .int .i64 4, .int .i64 5, .int .i64 2, .int .u8 0, .int .i64 0] 31)
  have XA_1 := Lib.hid (XA.out.below bx)
  have XB_1 := Lib.hid (XB.out.below bx)
  have XC_1 := Lib.hid (XC.out.below bx)
  have B_1 := Lib.hid (hp_then B0.out bx B0.out.size)
  have hal := Hp.at_lit W0 [(9, 3, 1, 4), (3, 1, 1, 4), (5, 2, 0, 0)] #[.int .i64 9, .int .i64 3, .int .u8 1, .int .i64 4, .int .i64 3, .int .i64 1, .int .u8 1, .int .i64 4, .int .i64 5, .int .i64 2, .int .u8 0, .int .i64 0] rfl
  have AL_1 := Lib.hid hal
  clear hal
  clear XA XB XC B0 bx
  obtain ⟨XA0_2, XA1_2, XA2_2, XA3_2⟩ := XA_1.out.cells
  obtain ⟨XB0_2, XB1_2, XB2_2, XB3_2⟩ := XB_1.out.cells
  obtain ⟨XC0_2, XC1_2, XC2_2, XC3_2⟩ := XC_1.out.cells
  go_wp2_with fail
  refine (C1.out _ _ _ AL_1.out).mono ?_
  rintro e w2 ⟨p2, c2, rfl, hA, hb⟩
  clear XA0_1 XA1_1 XA2_1 XA3_1 XB0_1 XB1_1 XB2_1 XB3_1 XC0_1 XC1_1 XC2_1 XC3_1 XA0_2 XA1_2 XA2_2 XA3_2 XB0_2 XB1_2 XB2_2 XB3_2 XC0_2 XC1_2 XC2_2 XC3_2
  have AL_2 := Lib.hid (AL_1.out.below hb)
  have XA_2 := Lib.hid (XA_1.out.below hb)
  have XB_2 := Lib.hid (XB_1.out.below hb)
  have XC_2 := Lib.hid (XC_1.out.below hb)
  have B_2 := Lib.hid (hp_then B_1.out hb B_1.out.size)
  have AH_2 := Lib.hid hA
  clear AL_1 XA_1 XB_1 XC_1 B_1 hb hA
  obtain ⟨XA0_3, XA1_3, XA2_3, XA3_3⟩ := XA_2.out.cells
  obtain ⟨XB0_3, XB1_3, XB2_3, XB3_3⟩ := XB_2.out.cells
  obtain ⟨XC0_3, XC1_3, XC2_3, XC3_3⟩ := XC_2.out.cells
  go_wp2_with fail
  refine (C2.out _ _ _ AH_2.out).mono ?_
  rintro e w3 ⟨rfl, hb⟩
  clear XA0_3 XA1_3 XA2_3 XA3_3 XB0_3 XB1_3 XB2_3 XB3_3 XC0_3 XC1_3 XC2_3 XC3_3
  have AH_3 := Lib.hid (AH_2.out.below hb)
  have XA_3 := Lib.hid (XA_2.out.below hb)
  have XB_3 := Lib.hid (XB_2.out.below hb)
  have XC_3 := Lib.hid (XC_2.out.below hb)
  have B_3 := Lib.hid (hp_then B_2.out hb B_2.out.size)
  clear AH_2 XA_2 XB_2 XC_2 B_2 hb
  obtain ⟨XA0_4, XA1_4, XA2_4, XA3_4⟩ := XA_3.out.cells
  obtain ⟨XB0_4, XB1_4, XB2_4, XB3_4⟩ := XB_3.out.cells
  obtain ⟨XC0_4, XC1_4, XC2_4, XC3_4⟩ := XC_3.out.cells
  have bx := hp_box w3 (.cells #[.int .i64 3, .int .i64 1, .int .u8 1, .int .i64 4] 31)
  have AH_4 := Lib.hid (AH_3.out.below bx)
  have XA_4 := Lib.hid (XA_3.out.below bx)
  have XB_4 := Lib.hid (XB_3.out.below bx)
  have XC_4 := Lib.hid (XC_3.out.below bx)
  have B_4 := Lib.hid (hp_then B_3.out bx B_3.out.size)
  have XT_4 : Hid (Hp.Box (w3.alloc (.cells #[.int .i64 3, .int .i64 1, .int .u8 1, .int .i64 4] 31)) w3.heap.size (3, 1, 1, 4)) := Lib.hid (hp_new w3 _)
  clear AH_3 XA_3 XB_3 XC_3 B_3 bx
  obtain ⟨XA0_5, XA1_5, XA2_5, XA3_5⟩ := XA_4.out.cells
  obtain ⟨XB0_5, XB1_5, XB2_5, XB3_5⟩ := XB_4.out.cells
  obtain ⟨XC0_5, XC1_5, XC2_5, XC3_5⟩ := XC_4.out.cells
  obtain ⟨XT0_5, XT1_5, XT2_5, XT3_5⟩ := XT_4.out.cells
  go_wp2_with fail
  refine (C3.out _ _ _ AH_4.out).mono ?_
  rintro e w5 ⟨p5, c5, q5, d5, rfl, hA, hA2, hb⟩
  clear XA0_4 XA1_4 XA2_4 XA3_4 XB0_4 XB1_4 XB2_4 XB3_4 XC0_4 XC1_4 XC2_4 XC3_4 XA0_5 XA1_5 XA2_5 XA3_5 XB0_5 XB1_5 XB2_5 XB3_5 XC0_5 XC1_5 XC2_5 XC3_5 XT0_5 XT1_5 XT2_5 XT3_5
  have AH_5 := Lib.hid (AH_4.out.below hb)
  have XA_5 := Lib.hid (XA_4.out.below hb)
  have XB_5 := Lib.hid (XB_4.out.below hb)
  have XC_5 := Lib.hid (XC_4.out.below hb)
  have XT_5 := Lib.hid (XT_4.out.below hb)
  have B_5 := Lib.hid (hp_then B_4.out hb B_4.out.size)
  have AG_5 := Lib.hid hA
  have AD_5 := Lib.hid hA2
  clear AH_4 XA_4 XB_4 XC_4 XT_4 B_4 hb hA hA2
  obtain ⟨XA0_6, XA1_6, XA2_6, XA3_6⟩ := XA_5.out.cells
  obtain ⟨XB0_6, XB1_6, XB2_6, XB3_6⟩ := XB_5.out.cells
  obtain ⟨XC0_6, XC1_6, XC2_6, XC3_6⟩ := XC_5.out.cells
  obtain ⟨XT0_6, XT1_6, XT2_6, XT3_6⟩ := XT_5.out.cells
  go_wp2_with fail
  refine (C4.out _ _ _ AH_5.out).mono ?_
  rintro e w6 ⟨rfl, hb⟩
  clear XA0_6 XA1_6 XA2_6 XA3_6 XB0_6 XB1_6 XB2_6 XB3_6 XC0_6 XC1_6 XC2_6 XC3_6 XT0_6 XT1_6 XT2_6 XT3_6
  have AH_6 := Lib.hid (AH_5.out.below hb)
  have AG_6 := Lib.hid (AG_5.out.below hb)
  have AD_6 := Lib.hid (AD_5.out.below hb)
  have XA_6 := Lib.hid (XA_5.out.below hb)
  have XB_6 := Lib.hid (XB_5.out.below hb)
  have XC_6 := Lib.hid (XC_5.out.below hb)
  have XT_6 := Lib.hid (XT_5.out.below hb)
  have B_6 := Lib.hid (hp_then B_5.out hb B_5.out.size)
  clear AH_5 AG_5 AD_5 XA_5 XB_5 XC_5 XT_5 B_5 hb
  obtain ⟨XA0_7, XA1_7, XA2_7, XA3_7⟩ := XA_6.out.cells
  obtain ⟨XB0_7, XB1_7, XB2_7, XB3_7⟩ := XB_6.out.cells
  obtain ⟨XC0_7, XC1_7, XC2_7, XC3_7⟩ := XC_6.out.cells
  obtain ⟨XT0_7, XT1_7, XT2_7, XT3_7⟩ := XT_6.out.cells
  go_wp2_with fail
  refine (C5.out _ _ _ AH_6.out).mono ?_
  rintro e w7 ⟨p7, c7, rfl, hA, hb⟩
  clear XA0_7 XA1_7 XA2_7 XA3_7 XB0_7 XB1_7 XB2_7 XB3_7 XC0_7 XC1_7 XC2_7 XC3_7 XT0_7 XT1_7 XT2_7 XT3_7
  have AH_7 := Lib.hid (AH_6.out.below hb)
  have AG_7 := Lib.hid (AG_6.out.below hb)
  have AD_7 := Lib.hid (AD_6.out.below hb)
  have XA_7 := Lib.hid (XA_6.out.below hb)
  have XB_7 := Lib.hid (XB_6.out.below hb)
  have XC_7 := Lib.hid (XC_6.out.below hb)
  have XT_7 := Lib.hid (XT_6.out.below hb)
  have B_7 := Lib.hid (hp_then B_6.out hb B_6.out.size)
  have AM_7 := Lib.hid hA
  clear AH_6 AG_6 AD_6 XA_6 XB_6 XC_6 XT_6 B_6 hb hA
  obtain ⟨XA0_8, XA1_8, XA2_8, XA3_8⟩ := XA_7.out.cells
  obtain ⟨XB0_8, XB1_8, XB2_8, XB3_8⟩ := XB_7.out.cells
  obtain ⟨XC0_8, XC1_8, XC2_8, XC3_8⟩ := XC_7.out.cells
  obtain ⟨XT0_8, XT1_8, XT2_8, XT3_8⟩ := XT_7.out.cells
  go_wp2_with fail
  refine (C6.out _ _ _ AM_7.out).mono ?_
  rintro e w8 ⟨rfl, hb⟩
  clear XA0_8 XA1_8 XA2_8 XA3_8 XB0_8 XB1_8 XB2_8 XB3_8 XC0_8 XC1_8 XC2_8 XC3_8 XT0_8 XT1_8 XT2_8 XT3_8
  have AH_8 := Lib.hid (AH_7.out.below hb)
  have AG_8 := Lib.hid (AG_7.out.below hb)
  have AD_8 := Lib.hid (AD_7.out.below hb)
  have AM_8 := Lib.hid (AM_7.out.below hb)
  have XA_8 := Lib.hid (XA_7.out.below hb)
  have XB_8 := Lib.hid (XB_7.out.below hb)
  have XC_8 := Lib.hid (XC_7.out.below hb)
  have XT_8 := Lib.hid (XT_7.out.below hb)
  have B_8 := Lib.hid (hp_then B_7.out hb B_7.out.size)
  clear AH_7 AG_7 AD_7 AM_7 XA_7 XB_7 XC_7 XT_7 B_7 hb
  obtain ⟨XA0_9, XA1_9, XA2_9, XA3_9⟩ := XA_8.out.cells
  obtain ⟨XB0_9, XB1_9, XB2_9, XB3_9⟩ := XB_8.out.cells
  obtain ⟨XC0_9, XC1_9, XC2_9, XC3_9⟩ := XC_8.out.cells
  obtain ⟨XT0_9, XT1_9, XT2_9, XT3_9⟩ := XT_8.out.cells
  have bx := hp_box w8 (.cells #[.int .i64 5, .int .i64 2, .int .u8 0, .int .i64 0] 31)
  have AH_9 := Lib.hid (AH_8.out.below bx)
  have AG_9 := Lib.hid (AG_8.out.below bx)
  have AD_9 := Lib.hid (AD_8.out.below bx)
  have XA_9 := Lib.hid (XA_8.out.below bx)
  have XB_9 := Lib.hid (XB_8.out.below bx)
  have XC_9 := Lib.hid (XC_8.out.below bx)
  have XT_9 := Lib.hid (XT_8.out.below bx)
  have B_9 := Lib.hid (hp_then B_8.out bx B_8.out.size)
  have XU_9 : Hid (Hp.Box (w8.alloc (.cells #[.int .i64 5, .int .i64 2, .int .u8 0, .int .i64 0] 31)) w8.heap.size (5, 2, 0, 0)) := Lib.hid (hp_new w8 _)
  clear AH_8 AG_8 AD_8 XA_8 XB_8 XC_8 XT_8 B_8 bx
  obtain ⟨XA0_10, XA1_10, XA2_10, XA3_10⟩ := XA_9.out.cells
  obtain ⟨XB0_10, XB1_10, XB2_10, XB3_10⟩ := XB_9.out.cells
  obtain ⟨XC0_10, XC1_10, XC2_10, XC3_10⟩ := XC_9.out.cells
  obtain ⟨XT0_10, XT1_10, XT2_10, XT3_10⟩ := XT_9.out.cells
  obtain ⟨XU0_10, XU1_10, XU2_10, XU3_10⟩ := XU_9.out.cells
  go_wp2_with fail
  refine (C7.out _ _ _ AH_9.out).mono ?_
  rintro e w10 ⟨p10, c10, rfl, hA, hb⟩
  clear XA0_9 XA1_9 XA2_9 XA3_9 XB0_9 XB1_9 XB2_9 XB3_9 XC0_9 XC1_9 XC2_9 XC3_9 XT0_9 XT1_9 XT2_9 XT3_9 XA0_10 XA1_10 XA2_10 XA3_10 XB0_10 XB1_10 XB2_10 XB3_10 XC0_10 XC1_10 XC2_10 XC3_10 XT0_10 XT1_10 XT2_10 XT3_10 XU0_10 XU1_10 XU2_10 XU3_10
  have AH_10 := Lib.hid (AH_9.out.below hb)
  have AG_10 := Lib.hid (AG_9.out.below hb)
  have AD_10 := Lib.hid (AD_9.out.below hb)
  have XA_10 := Lib.hid (XA_9.out.below hb)
  have XB_10 := Lib.hid (XB_9.out.below hb)
  have XC_10 := Lib.hid (XC_9.out.below hb)
  have XT_10 := Lib.hid (XT_9.out.below hb)
  have XU_10 := Lib.hid (XU_9.out.below hb)
  have B_10 := Lib.hid (hp_then B_9.out hb B_9.out.size)
  have AO_10 := Lib.hid hA
  clear AH_9 AG_9 AD_9 XA_9 XB_9 XC_9 XT_9 XU_9 B_9 hb hA
  obtain ⟨XA0_11, XA1_11, XA2_11, XA3_11⟩ := XA_10.out.cells
  obtain ⟨XB0_11, XB1_11, XB2_11, XB3_11⟩ := XB_10.out.cells
  obtain ⟨XC0_11, XC1_11, XC2_11, XC3_11⟩ := XC_10.out.cells
  obtain ⟨XT0_11, XT1_11, XT2_11, XT3_11⟩ := XT_10.out.cells
  obtain ⟨XU0_11, XU1_11, XU2_11, XU3_11⟩ := XU_10.out.cells
  go_wp2_with fail
  refine (C8.out _ _ _ AH_10.out).mono ?_
  rintro e w11 ⟨p11, c11, rfl, hA, hb⟩
  clear XA0_11 XA1_11 XA2_11 XA3_11 XB0_11 XB1_11 XB2_11 XB3_11 XC0_11 XC1_11 XC2_11 XC3_11 XT0_11 XT1_11 XT2_11 XT3_11 XU0_11 XU1_11 XU2_11 XU3_11
  have AH_11 := Lib.hid (AH_10.out.below hb)
  have AG_11 := Lib.hid (AG_10.out.below hb)
  have AD_11 := Lib.hid (AD_10.out.below hb)
  have AO_11 := Lib.hid (AO_10.out.below hb)
  have XA_11 := Lib.hid (XA_10.out.below hb)
  have XB_11 := Lib.hid (XB_10.out.below hb)
  have XC_11 := Lib.hid (XC_10.out.below hb)
  have XT_11 := Lib.hid (XT_10.out.below hb)
  have XU_11 := Lib.hid (XU_10.out.below hb)
  have B_11 := Lib.hid (hp_then B_10.out hb B_10.out.size)
  have AX_11 := Lib.hid hA
  clear AH_10 AG_10 AD_10 AO_10 XA_10 XB_10 XC_10 XT_10 XU_10 B_10 hb hA
  obtain ⟨XA0_12, XA1_12, XA2_12, XA3_12⟩ := XA_11.out.cells
  obtain ⟨XB0_12, XB1_12, XB2_12, XB3_12⟩ := XB_11.out.cells
  obtain ⟨XC0_12, XC1_12, XC2_12, XC3_12⟩ := XC_11.out.cells
  obtain ⟨XT0_12, XT1_12, XT2_12, XT3_12⟩ := XT_11.out.cells
  obtain ⟨XU0_12, XU1_12, XU2_12, XU3_12⟩ := XU_11.out.cells
  go_wp2_with fail
  refine (C9.out _).mono ?_
  rintro e w12 ⟨rfl, hb⟩
  clear XA0_12 XA1_12 XA2_12 XA3_12 XB0_12 XB1_12 XB2_12 XB3_12 XC0_12 XC1_12 XC2_12 XC3_12 XT0_12 XT1_12 XT2_12 XT3_12 XU0_12 XU1_12 XU2_12 XU3_12
  have AH_12 := Lib.hid (AH_11.out.below hb)
  have AG_12 := Lib.hid (AG_11.out.below hb)
  have AD_12 := Lib.hid (AD_11.out.below hb)
  have AO_12 := Lib.hid (AO_11.out.below hb)
  have XA_12 := Lib.hid (XA_11.out.below hb)
  have XB_12 := Lib.hid (XB_11.out.below hb)
  have XC_12 := Lib.hid (XC_11.out.below hb)
  have XT_12 := Lib.hid (XT_11.out.below hb)
  have XU_12 := Lib.hid (XU_11.out.below hb)
  have B_12 := Lib.hid (hp_then B_11.out hb B_11.out.size)
  clear AH_11 AG_11 AD_11 AO_11 XA_11 XB_11 XC_11 XT_11 XU_11 B_11 hb
  obtain ⟨XA0_13, XA1_13, XA2_13, XA3_13⟩ := XA_12.out.cells
  obtain ⟨XB0_13, XB1_13, XB2_13, XB3_13⟩ := XB_12.out.cells
  obtain ⟨XC0_13, XC1_13, XC2_13, XC3_13⟩ := XC_12.out.cells
  obtain ⟨XT0_13, XT1_13, XT2_13, XT3_13⟩ := XT_12.out.cells
  obtain ⟨XU0_13, XU1_13, XU2_13, XU3_13⟩ := XU_12.out.cells
  have bx := hp_box w12 (.cells #[.int .i64 0, .int .i64 0, .int .u8 0, .int .i64 0] 31)
  have AH_13 := Lib.hid (AH_12.out.below bx)
  have AG_13 := Lib.hid (AG_12.out.below bx)
  have AD_13 := Lib.hid (AD_12.out.below bx)
  have AO_13 := Lib.hid (AO_12.out.below bx)
  have XA_13 := Lib.hid (XA_12.out.below bx)
  have XB_13 := Lib.hid (XB_12.out.below bx)
  have XC_13 := Lib.hid (XC_12.out.below bx)
  have XT_13 := Lib.hid (XT_12.out.below bx)
  have XU_13 := Lib.hid (XU_12.out.below bx)
  have B_13 := Lib.hid (hp_then B_12.out bx B_12.out.size)
  clear AH_12 AG_12 AD_12 AO_12 XA_12 XB_12 XC_12 XT_12 XU_12 B_12 bx
  obtain ⟨XA0_14, XA1_14, XA2_14, XA3_14⟩ := XA_13.out.cells
  obtain ⟨XB0_14, XB1_14, XB2_14, XB3_14⟩ := XB_13.out.cells
  obtain ⟨XC0_14, XC1_14, XC2_14, XC3_14⟩ := XC_13.out.cells
  obtain ⟨XT0_14, XT1_14, XT2_14, XT3_14⟩ := XT_13.out.cells
  obtain ⟨XU0_14, XU1_14, XU2_14, XU3_14⟩ := XU_13.out.cells
  go_wp2_with fail
  refine (C10.out _ _ _ AH_13.out).mono ?_
  rintro e w14 ⟨p14, c14, rfl, hA, hb⟩
  clear XA0_13 XA1_13 XA2_13 XA3_13 XB0_13 XB1_13 XB2_13 XB3_13 XC0_13 XC1_13 XC2_13 XC3_13 XT0_13 XT1_13 XT2_13 XT3_13 XU0_13 XU1_13 XU2_13 XU3_13 XA0_14 XA1_14 XA2_14 XA3_14 XB0_14 XB1_14 XB2_14 XB3_14 XC0_14 XC1_14 XC2_14 XC3_14 XT0_14 XT1_14 XT2_14 XT3_14 XU0_14 XU1_14 XU2_14 XU3_14
  have AH_14 := Lib.hid (AH_13.out.below hb)
  have AG_14 := Lib.hid (AG_13.out.below hb)
  have AD_14 := Lib.hid (AD_13.out.below hb)
  have AO_14 := Lib.hid (AO_13.out.below hb)
  have XA_14 := Lib.hid (XA_13.out.below hb)
  have XB_14 := Lib.hid (XB_13.out.below hb)
  have XC_14 := Lib.hid (XC_13.out.below hb)
  have XT_14 := Lib.hid (XT_13.out.below hb)
  have XU_14 := Lib.hid (XU_13.out.below hb)
  have B_14 := Lib.hid (hp_then B_13.out hb B_13.out.size)
  have AY_14 := Lib.hid hA
  clear AH_13 AG_13 AD_13 AO_13 XA_13 XB_13 XC_13 XT_13 XU_13 B_13 hb hA
  obtain ⟨XA0_15, XA1_15, XA2_15, XA3_15⟩ := XA_14.out.cells
  obtain ⟨XB0_15, XB1_15, XB2_15, XB3_15⟩ := XB_14.out.cells
  obtain ⟨XC0_15, XC1_15, XC2_15, XC3_15⟩ := XC_14.out.cells
  obtain ⟨XT0_15, XT1_15, XT2_15, XT3_15⟩ := XT_14.out.cells
  obtain ⟨XU0_15, XU1_15, XU2_15, XU3_15⟩ := XU_14.out.cells
  have bx := hp_box w14 (.cells #[.int .i64 9, .int .i64 3, .int .u8 1, .int .i64 4] 31)
  have AG_15 := Lib.hid (AG_14.out.below bx)
  have AD_15 := Lib.hid (AD_14.out.below bx)
  have AO_15 := Lib.hid (AO_14.out.below bx)
  have XA_15 := Lib.hid (XA_14.out.below bx)
  have XB_15 := Lib.hid (XB_14.out.below bx)
  have XC_15 := Lib.hid (XC_14.out.below bx)
  have XT_15 := Lib.hid (XT_14.out.below bx)
  have XU_15 := Lib.hid (XU_14.out.below bx)
  have B_15 := Lib.hid (hp_then B_14.out bx B_14.out.size)
  have hal := Hp.at_lit w14 [(9, 3, 1, 4)] #[.int .i64 9, .int .i64 3, .int .u8 1, .int .i64 4] rfl
  have AL_15 := Lib.hid hal
  clear hal
  clear AG_14 AD_14 AO_14 XA_14 XB_14 XC_14 XT_14 XU_14 B_14 bx
  obtain ⟨XA0_16, XA1_16, XA2_16, XA3_16⟩ := XA_15.out.cells
  obtain ⟨XB0_16, XB1_16, XB2_16, XB3_16⟩ := XB_15.out.cells
  obtain ⟨XC0_16, XC1_16, XC2_16, XC3_16⟩ := XC_15.out.cells
  obtain ⟨XT0_16, XT1_16, XT2_16, XT3_16⟩ := XT_15.out.cells
  obtain ⟨XU0_16, XU1_16, XU2_16, XU3_16⟩ := XU_15.out.cells
  go_wp2_with fail
  refine (CSc.out _ _ _ _ _ AG_15.out AL_15.out).mono ?_
  rintro e w16 ⟨rfl, hb⟩
  clear XA0_15 XA1_15 XA2_15 XA3_15 XB0_15 XB1_15 XB2_15 XB3_15 XC0_15 XC1_15 XC2_15 XC3_15 XT0_15 XT1_15 XT2_15 XT3_15 XU0_15 XU1_15 XU2_15 XU3_15 XA0_16 XA1_16 XA2_16 XA3_16 XB0_16 XB1_16 XB2_16 XB3_16 XC0_16 XC1_16 XC2_16 XC3_16 XT0_16 XT1_16 XT2_16 XT3_16 XU0_16 XU1_16 XU2_16 XU3_16
  have AG_16 := Lib.hid (AG_15.out.below hb)
  have AD_16 := Lib.hid (AD_15.out.below hb)
  have AO_16 := Lib.hid (AO_15.out.below hb)
  have AL_16 := Lib.hid (AL_15.out.below hb)
  have XA_16 := Lib.hid (XA_15.out.below hb)
  have XB_16 := Lib.hid (XB_15.out.below hb)
  have XC_16 := Lib.hid (XC_15.out.below hb)
  have XT_16 := Lib.hid (XT_15.out.below hb)
  have XU_16 := Lib.hid (XU_15.out.below hb)
  have B_16 := Lib.hid (hp_then B_15.out hb B_15.out.size)
  clear AG_15 AD_15 AO_15 AL_15 XA_15 XB_15 XC_15 XT_15 XU_15 B_15 hb
  obtain ⟨XA0_17, XA1_17, XA2_17, XA3_17⟩ := XA_16.out.cells
  obtain ⟨XB0_17, XB1_17, XB2_17, XB3_17⟩ := XB_16.out.cells
  obtain ⟨XC0_17, XC1_17, XC2_17, XC3_17⟩ := XC_16.out.cells
  obtain ⟨XT0_17, XT1_17, XT2_17, XT3_17⟩ := XT_16.out.cells
  obtain ⟨XU0_17, XU1_17, XU2_17, XU3_17⟩ := XU_16.out.cells
  have bx := hp_box w16 (.cells #[.int .i64 3, .int .i64 1, .int .u8 1, .int .i64 4, .int .i64 5, .int .i64 2, .int .u8 0, .int .i64 0] 31)
  have AD_17 := Lib.hid (AD_16.out.below bx)
  have AO_17 := Lib.hid (AO_16.out.below bx)
  have XA_17 := Lib.hid (XA_16.out.below bx)
  have XB_17 := Lib.hid (XB_16.out.below bx)
  have XC_17 := Lib.hid (XC_16.out.below bx)
  have XT_17 := Lib.hid (XT_16.out.below bx)
  have XU_17 := Lib.hid (XU_16.out.below bx)
  have B_17 := Lib.hid (hp_then B_16.out bx B_16.out.size)
  have hal := Hp.at_lit w16 [(3, 1, 1, 4), (5, 2, 0, 0)] #[.int .i64 3, .int .i64 1, .int .u8 1, .int .i64 4, .int .i64 5, .int .i64 2, .int .u8 0, .int .i64 0] rfl
  have AL_17 := Lib.hid hal
  clear hal
  clear AD_16 AO_16 XA_16 XB_16 XC_16 XT_16 XU_16 B_16 bx
  obtain ⟨XA0_18, XA1_18, XA2_18, XA3_18⟩ := XA_17.out.cells
  obtain ⟨XB0_18, XB1_18, XB2_18, XB3_18⟩ := XB_17.out.cells
  obtain ⟨XC0_18, XC1_18, XC2_18, XC3_18⟩ := XC_17.out.cells
  obtain ⟨XT0_18, XT1_18, XT2_18, XT3_18⟩ := XT_17.out.cells
  obtain ⟨XU0_18, XU1_18, XU2_18, XU3_18⟩ := XU_17.out.cells
  go_wp2_with fail
  refine (CSab.out _ _ _ _ _ AD_17.out AL_17.out).mono ?_
  rintro e w18 ⟨rfl, hb⟩
  clear XA0_17 XA1_17 XA2_17 XA3_17 XB0_17 XB1_17 XB2_17 XB3_17 XC0_17 XC1_17 XC2_17 XC3_17 XT0_17 XT1_17 XT2_17 XT3_17 XU0_17 XU1_17 XU2_17 XU3_17 XA0_18 XA1_18 XA2_18 XA3_18 XB0_18 XB1_18 XB2_18 XB3_18 XC0_18 XC1_18 XC2_18 XC3_18 XT0_18 XT1_18 XT2_18 XT3_18 XU0_18 XU1_18 XU2_18 XU3_18
  have AD_18 := Lib.hid (AD_17.out.below hb)
  have AO_18 := Lib.hid (AO_17.out.below hb)
  have AL_18 := Lib.hid (AL_17.out.below hb)
  have XA_18 := Lib.hid (XA_17.out.below hb)
  have XB_18 := Lib.hid (XB_17.out.below hb)
  have XC_18 := Lib.hid (XC_17.out.below hb)
  have XT_18 := Lib.hid (XT_17.out.below hb)
  have XU_18 := Lib.hid (XU_17.out.below hb)
  have B_18 := Lib.hid (hp_then B_17.out hb B_17.out.size)
  clear AD_17 AO_17 AL_17 XA_17 XB_17 XC_17 XT_17 XU_17 B_17 hb
  obtain ⟨XA0_19, XA1_19, XA2_19, XA3_19⟩ := XA_18.out.cells
  obtain ⟨XB0_19, XB1_19, XB2_19, XB3_19⟩ := XB_18.out.cells
  obtain ⟨XC0_19, XC1_19, XC2_19, XC3_19⟩ := XC_18.out.cells
  obtain ⟨XT0_19, XT1_19, XT2_19, XT3_19⟩ := XT_18.out.cells
  obtain ⟨XU0_19, XU1_19, XU2_19, XU3_19⟩ := XU_18.out.cells
  have bx := hp_box w18 (.cells #[.int .i64 3, .int .i64 1, .int .u8 1, .int .i64 4, .int .i64 9, .int .i64 3, .int .u8 1, .int .i64 4] 31)
  have AO_19 := Lib.hid (AO_18.out.below bx)
  have XA_19 := Lib.hid (XA_18.out.below bx)
  have XB_19 := Lib.hid (XB_18.out.below bx)
  have XC_19 := Lib.hid (XC_18.out.below bx)
  have XT_19 := Lib.hid (XT_18.out.below bx)
  have XU_19 := Lib.hid (XU_18.out.below bx)
  have B_19 := Lib.hid (hp_then B_18.out bx B_18.out.size)
  have hal := Hp.at_lit w18 [(3, 1, 1, 4), (9, 3, 1, 4)] #[.int .i64 3, .int .i64 1, .int .u8 1, .int .i64 4, .int .i64 9, .int .i64 3, .int .u8 1, .int .i64 4] rfl
  have AL_19 := Lib.hid hal
  clear hal
  clear AO_18 XA_18 XB_18 XC_18 XT_18 XU_18 B_18 bx
  obtain ⟨XA0_20, XA1_20, XA2_20, XA3_20⟩ := XA_19.out.cells
  obtain ⟨XB0_20, XB1_20, XB2_20, XB3_20⟩ := XB_19.out.cells
  obtain ⟨XC0_20, XC1_20, XC2_20, XC3_20⟩ := XC_19.out.cells
  obtain ⟨XT0_20, XT1_20, XT2_20, XT3_20⟩ := XT_19.out.cells
  obtain ⟨XU0_20, XU1_20, XU2_20, XU3_20⟩ := XU_19.out.cells
  go_wp2_with fail
  refine (CSac.out _ _ _ _ _ AO_19.out AL_19.out).mono ?_
  rintro e w20 ⟨rfl, hb⟩
  clear XA0_19 XA1_19 XA2_19 XA3_19 XB0_19 XB1_19 XB2_19 XB3_19 XC0_19 XC1_19 XC2_19 XC3_19 XT0_19 XT1_19 XT2_19 XT3_19 XU0_19 XU1_19 XU2_19 XU3_19 XA0_20 XA1_20 XA2_20 XA3_20 XB0_20 XB1_20 XB2_20 XB3_20 XC0_20 XC1_20 XC2_20 XC3_20 XT0_20 XT1_20 XT2_20 XT3_20 XU0_20 XU1_20 XU2_20 XU3_20
  have AO_20 := Lib.hid (AO_19.out.below hb)
  have AL_20 := Lib.hid (AL_19.out.below hb)
  have XA_20 := Lib.hid (XA_19.out.below hb)
  have XB_20 := Lib.hid (XB_19.out.below hb)
  have XC_20 := Lib.hid (XC_19.out.below hb)
  have XT_20 := Lib.hid (XT_19.out.below hb)
  have XU_20 := Lib.hid (XU_19.out.below hb)
  have B_20 := Lib.hid (hp_then B_19.out hb B_19.out.size)
  clear AO_19 AL_19 XA_19 XB_19 XC_19 XT_19 XU_19 B_19 hb
  obtain ⟨XA0_21, XA1_21, XA2_21, XA3_21⟩ := XA_20.out.cells
  obtain ⟨XB0_21, XB1_21, XB2_21, XB3_21⟩ := XB_20.out.cells
  obtain ⟨XC0_21, XC1_21, XC2_21, XC3_21⟩ := XC_20.out.cells
  obtain ⟨XT0_21, XT1_21, XT2_21, XT3_21⟩ := XT_20.out.cells
  obtain ⟨XU0_21, XU1_21, XU2_21, XU3_21⟩ := XU_20.out.cells
  go_wp2_with fail
  go_ret
  exact ⟨rfl, B_20.out⟩
end Go.Proofs.Ytaaodbljdpchhaa
