
/-
  The walk of layer 15's lives: the answers that the document gives. No condition.
-/
import Derived.Test.YtaaodbljdpchhaaHpRefs
namespace Go.Proofs.Ytaaodbljdpchhaa
open Go.RowKit Go.Lib Go.Sort Go.Shelf

/-- A box of one timer. -/
def Hp.Box (W : World) (g : Nat) (x : Int × Int × Int × Int) : Prop := W.heap[g]? = some (.cells #[.int .i64 x.1, .int .i64 x.2.1, .int .u8 x.2.2.1, .int .i64 x.2.2.2] 31 (0, 0))
theorem Hp.Box.below {W W' : World} {g : Nat} {x : Int × Int × Int × Int} (h : Hp.Box W g x) (hb : Below W.heap.size W W') : Hp.Box W' g x := (hb.block g (Array.getElem?_eq_some_iff.1 h).1).trans h
theorem Hp.Box.cells {W : World} {g : Nat} {x1 x2 x3 x4 : Int} (h : Hp.Box W g (x1, x2, x3, x4)) : W.cell? ⟨g, 0, none⟩ = some (.int .i64 x1) ∧ W.cell? ⟨g, 1, none⟩ = some (.int .i64 x2) ∧ W.cell? ⟨g, 2, none⟩ = some (.int .u8 x3) ∧ W.cell? ⟨g, 3, none⟩ = some (.int .i64 x4) := Hp.box h
theorem Hp.at_lit (w : World) (l : List (Int × Int × Int × Int)) (cs : Array Value) (h : cs.toList = Hp.rcs l) : Hp.At (w.alloc (.cells cs 31)) (some ⟨w.heap.size, 0, none⟩) l := by
  refine Or.inr ⟨w.heap.size, 0, rfl, fun i hi => ?_⟩
  have hg := Hp.rcs_get l i hi
  rw [← h] at hg
  have hn := hp_new w (.cells cs 31)
  have key : ∀ j v, cs.toList[j]? = some v → (w.alloc (.cells cs 31)).cell? ⟨w.heap.size, j, none⟩ = some v := fun j v hv => by rw [Lib.cell_of_heap hn, ← Array.getElem?_toList]; exact hv
  rw [Nat.zero_add]
  exact ⟨key _ _ hg.1, key _ _ hg.2.1, key _ _ hg.2.2.1, key _ _ hg.2.2.2⟩
theorem hp_Same_self (a : List (Int × Int × Int × Int)) (p q : Option Addr) (c d : Nat) (w : World) (hA : Hp.At w p a) (hB : Hp.At w q a) (hn : a.length ≤ 140737488351232) :
    Calls Try.prog 20 #[.slice p a.length c, .slice q a.length d] w fun e w' => e = .returned (.bool true) ∧ Below w.heap.size w w' :=
  (hp_Same a a p q c d w hA hB hn hn).mono fun e w' ⟨h1, h2⟩ => ⟨by rw [h1, decide_eq_true rfl], h2⟩
/-- Whether a list is a right heap, by reckoning. -/
def Hp.okB (l : List (Int × Int × Int × Int)) : Bool := decide (l.length ≤ 4096) && decide (Hp.sq l).Nodup && (List.range l.length).all fun j => !Hp.lt (Hp.g l j) (Hp.g l ((j - 1) / 2))
theorem Hp.okB_iff (l : List (Int × Int × Int × Int)) : Hp.okB l = true ↔ Hp.Ok l := by
  unfold Hp.okB Hp.Ok Hp.Heap Hp.edge
  simp only [Bool.and_eq_true, decide_eq_true_eq, List.all_eq_true, List.mem_range, Bool.not_eq_true', and_assoc]
theorem Hp.chk_okB {l : List (Int × Int × Int × Int)} {z : Int} (h : (if Hp.okB l = true then 0 else 2) = z) : Hp.chk l = z := by
  by_cases hb : Hp.okB l = true
  · rw [if_pos hb] at h; rw [Hp.chk_ok ((Hp.okB_iff l).1 hb)]; exact h
  · rw [if_neg hb] at h; rw [Hp.chk_bad (fun e => hb ((Hp.okB_iff l).2 e))]; exact h
theorem Hp.tw_b (l : List (Int × Int × Int × Int)) : Hp.tw l = !decide (Hp.sq l).Nodup := by
  by_cases h : (Hp.sq l).Nodup
  · rw [Hp.tw_false.2 h, decide_eq_true h]; rfl
  · rw [Hp.tw_true.2 h, decide_eq_false h]; rfl
theorem Hp.mk_eval {l r : List (Int × Int × Int × Int)} (h1 : decide (Hp.sq l).Nodup = true) (h2 : decide (l.length ≤ 4096) = true) (h3 : Hp.makeF l = r) : Hp.mkL l = r ∧ Hp.mkC l = 0 := by
  have ht : ¬ Hp.tw l = true := by rw [Hp.tw_b, h1]; simp
  have hl : ¬ 4096 < l.length := by have := of_decide_eq_true h2; omega
  unfold Hp.mkL Hp.mkC
  rw [if_neg ht, if_neg ht, if_neg hl, if_neg hl, h3]
  exact ⟨rfl, rfl⟩
theorem Hp.pu_eval {l r : List (Int × Int × Int × Int)} {t : Int × Int × Int × Int} {z : Int} (h1 : Hp.okB l = true) (h2 : (if 0 ≤ Hp.plc l t.2.1 then 4 else if l.length = 4096 then 8 else 0) = z) (h3 : (if z = 0 then Hp.pushF l t else l) = r) (hz : z ≠ 2) : Hp.puL l t = r ∧ Hp.puC l t.2.1 = z := by
  have hc : Hp.puC l t.2.1 = z := (if_pos ((Hp.okB_iff l).1 h1)).trans h2
  refine ⟨?_, hc⟩
  unfold Hp.puL
  rw [hc, if_neg hz]
  exact h3
theorem Hp.po_eval {l r : List (Int × Int × Int × Int)} {x : Int × Int × Int × Int} {z : Int} (h1 : Hp.okB l = true) (h2 : (if l.length = 0 then 3 else 0) = z) (h3 : (if z = 0 then Hp.woF l 0 else []) = r) (h4 : (if z = 0 then Hp.g l 0 else (0, 0, 0, 0)) = x) : Hp.poL l = r ∧ Hp.poT l = x ∧ Hp.poC l = z := by
  have hc : Hp.poC l = z := (if_pos ((Hp.okB_iff l).1 h1)).trans h2
  unfold Hp.poL Hp.poT
  rw [hc]
  exact ⟨h3, h4, rfl⟩
theorem Hp.ca_eval {l r : List (Int × Int × Int × Int)} {s : Int} {x : Int × Int × Int × Int} {z : Int} (h1 : Hp.okB l = true) (h2 : (if Hp.idx l s < l.length then 0 else 3) = z) (h3 : (if z = 0 then Hp.woF l (Hp.idx l s) else if z = 2 then [] else l) = r) (h4 : (if z = 0 then Hp.g l (Hp.idx l s) else (0, 0, 0, 0)) = x) : Hp.caL l s = r ∧ Hp.caT l s = x ∧ Hp.caC l s = z := by
  have hc : Hp.caC l s = z := (if_pos ((Hp.okB_iff l).1 h1)).trans h2
  unfold Hp.caL Hp.caT
  rw [hc]
  exact ⟨h3, h4, rfl⟩
theorem Hp.so_eval {l r : List (Int × Int × Int × Int)} (h1 : Hp.okB l = true) (h3 : Hp.srt l = r) : Hp.soL l = r ∧ Hp.chk l = 0 := ⟨(if_pos ((Hp.okB_iff l).1 h1)).trans h3, Hp.chk_ok ((Hp.okB_iff l).1 h1)⟩
set_option maxHeartbeats 4000000 in
set_option maxRecDepth 100000 in
theorem hp_lives (w : World) : Calls Try.prog 14 #[] w fun e w' => e = .returned (.bool true) ∧ Below w.heap.size w w' := by
  have E1 := Hp.mk_eval (l := [(5, 1, 0, 0), (3, 2, 0, 7)]) (r := [(3, 2, 0, 7), (5, 1, 0, 0)]) (by decide +kernel) (by decide +kernel) (by decide +kernel)
  have C1 := Lib.hid (fun W p c (h : Hp.At W p [(5, 1, 0, 0), (3, 2, 0, 7)]) => hp_Make [(5, 1, 0, 0), (3, 2, 0, 7)] p c W h (by decide +kernel))
  rw [E1.1, E1.2] at C1
  have E2 := Hp.pu_eval (l := [(3, 2, 0, 7), (5, 1, 0, 0)]) (r := [(3, 2, 0, 7), (5, 1, 0, 0), (5, 0, 0, 0)]) (t := (5, 0, 0, 0)) (z := 0) (by decide +kernel) (by decide +kernel) (by decide +kernel) (by decide +kernel)
  have C2 := Lib.hid (fun W p c (h : Hp.At W p [(3, 2, 0, 7), (5, 1, 0, 0)]) => hp_Push [(3, 2, 0, 7), (5, 1, 0, 0)] (5, 0, 0, 0) p c W h (by decide +kernel))
  rw [E2.1, E2.2] at C2
  have E3 := Hp.so_eval (l := [(3, 2, 0, 7), (5, 1, 0, 0), (5, 0, 0, 0)]) (r := [(3, 2, 0, 7), (5, 0, 0, 0), (5, 1, 0, 0)]) (by decide +kernel) (by decide +kernel)
  have C3 := Lib.hid (fun W p c (h : Hp.At W p [(3, 2, 0, 7), (5, 1, 0, 0), (5, 0, 0, 0)]) => (hp_Sorted [(3, 2, 0, 7), (5, 1, 0, 0), (5, 0, 0, 0)] p c W h (by decide +kernel)).mono fun _ _ h => h.got)
  rw [E3.1, E3.2] at C3
  have E4 := Hp.po_eval (l := [(3, 2, 0, 7), (5, 1, 0, 0), (5, 0, 0, 0)]) (r := [(5, 0, 0, 0), (5, 1, 0, 0)]) (x := (3, 2, 0, 7)) (z := 0) (by decide +kernel) (by decide +kernel) (by decide +kernel) (by decide +kernel)
  have C4 := Lib.hid (fun W p c (h : Hp.At W p [(3, 2, 0, 7), (5, 1, 0, 0), (5, 0, 0, 0)]) => hp_Pop [(3, 2, 0, 7), (5, 1, 0, 0), (5, 0, 0, 0)] p c W h (by decide +kernel))
  rw [E4.1, E4.2.1, E4.2.2] at C4
  have E5 := Hp.ca_eval (l := [(5, 0, 0, 0), (5, 1, 0, 0)]) (r := [(5, 0, 0, 0)]) (s := 1) (x := (5, 1, 0, 0)) (z := 0) (by decide +kernel) (by decide +kernel) (by decide +kernel) (by decide +kernel)
  have C5 := Lib.hid (fun W p c (h : Hp.At W p [(5, 0, 0, 0), (5, 1, 0, 0)]) => hp_Cancel [(5, 0, 0, 0), (5, 1, 0, 0)] 1 p c W h (by decide +kernel))
  rw [E5.1, E5.2.1, E5.2.2] at C5
  have E6 := Hp.pu_eval (l := [(5, 0, 0, 0)]) (r := [(5, 0, 0, 0)]) (t := (5, 0, 0, 0)) (z := 4) (by decide +kernel) (by decide +kernel) (by decide +kernel) (by decide +kernel)
  have C6 := Lib.hid (fun W p c (h : Hp.At W p [(5, 0, 0, 0)]) => hp_Push [(5, 0, 0, 0)] (5, 0, 0, 0) p c W h (by decide +kernel))
  rw [E6.1, E6.2] at C6
  have E7 := Hp.ca_eval (l := [(5, 0, 0, 0)]) (r := [(5, 0, 0, 0)]) (s := 9) (x := (0, 0, 0, 0)) (z := 3) (by decide +kernel) (by decide +kernel) (by decide +kernel) (by decide +kernel)
  have C7 := Lib.hid (fun W p c (h : Hp.At W p [(5, 0, 0, 0)]) => hp_Cancel [(5, 0, 0, 0)] 9 p c W h (by decide +kernel))
  rw [E7.1, E7.2.1, E7.2.2] at C7
  have E8 := Hp.po_eval (l := []) (r := []) (x := (0, 0, 0, 0)) (z := 3) (by decide +kernel) (by decide +kernel) (by decide +kernel) (by decide +kernel)
  have C8 := Lib.hid (fun W => hp_Pop [] none 0 W (Hp.At.nil _ _) (by decide +kernel))
  rw [E8.1, E8.2.1, E8.2.2] at C8
  have CS := Lib.hid (fun W p q c d hA hB => hp_Same_self [(3, 2, 0, 7), (5, 0, 0, 0), (5, 1, 0, 0)] p q c d W hA hB (by decide +kernel))
  have E9 : Hp.chk [(3, 2, 0, 7), (5, 1, 0, 0), (5, 0, 0, 0)] = 0 := Hp.chk_okB (by decide +kernel)
  have C9 := Lib.hid (fun W p c (h : Hp.At W p [(3, 2, 0, 7), (5, 1, 0, 0), (5, 0, 0, 0)]) => hp_Check [(3, 2, 0, 7), (5, 1, 0, 0), (5, 0, 0, 0)] p c W h (by decide +kernel))
  rw [E9] at C9
  have E10 : Hp.chk [(5, 1, 0, 0), (3, 2, 0, 7)] = 2 := Hp.chk_okB (by decide +kernel)
  have C10 := Lib.hid (fun W p c (h : Hp.At W p [(5, 1, 0, 0), (3, 2, 0, 7)]) => hp_Check [(5, 1, 0, 0), (3, 2, 0, 7)] p c W h (by decide +kernel))
  rw [E10] at C10
  clear E1 E2 E3 E4 E5 E6 E7 E8 E9 E10
  have hb0 : Below w.heap.size w (((w.alloc (.cells #[.int .i64 5, .int .i64 1, .int .u8 0, .int .i64 0] 31)).alloc (.cells #[.int .i64 3, .int .i64 2, .int .u8 0, .int .i64 7] 31)).alloc (.cells #[.int .i64 5, .int .i64 0, .int .u8 0, .int .i64 0] 31)) := (((Below.refl _ _).alloc (Nat.le_refl _) _).alloc (by rw [World.size_alloc]; omega) _).alloc (by rw [World.size_alloc, World.size_alloc]; omega) _
  have ha0 : Hp.Box (((w.alloc (.cells #[.int .i64 5, .int .i64 1, .int .u8 0, .int .i64 0] 31)).alloc (.cells #[.int .i64 3, .int .i64 2, .int .u8 0, .int .i64 7] 31)).alloc (.cells #[.int .i64 5, .int .i64 0, .int .u8 0, .int .i64 0] 31)) w.heap.size (5, 1, 0, 0) := by
    unfold Hp.Box
    rw [hp_past _ _ _ (by rw [World.size_alloc, World.size_alloc]; omega), hp_past _ _ _ (by rw [World.size_alloc]; omega)]
    exact hp_new _ _
  have hc0 : Hp.Box (((w.alloc (.cells #[.int .i64 5, .int .i64 1, .int .u8 0, .int .i64 0] 31)).alloc (.cells #[.int .i64 3, .int .i64 2, .int .u8 0, .int .i64 7] 31)).alloc (.cells #[.int .i64 5, .int .i64 0, .int .u8 0, .int .i64 0] 31)) (w.heap.size + 1) (3, 2, 0, 7) := by
    unfold Hp.Box
    rw [hp_past _ _ _ (by rw [World.size_alloc, World.size_alloc]; omega)]
    have := hp_new (w.alloc (.cells #[.int .i64 5, .int .i64 1, .int .u8 0, .int .i64 0] 31)) (.cells #[.int .i64 3, .int .i64 2, .int .u8 0, .int .i64 7] 31)
    rw [World.size_alloc] at this
    exact this
  have hd0 : Hp.Box (((w.alloc (.cells #[.int .i64 5, .int .i64 1, .int .u8 0, .int .i64 0] 31)).alloc (.cells #[.int .i64 3, .int .i64 2, .int .u8 0, .int .i64 7] 31)).alloc (.cells #[.int .i64 5, .int .i64 0, .int .u8 0, .int .i64 0] 31)) (w.heap.size + 1 + 1) (5, 0, 0, 0) := by
    unfold Hp.Box
    have := hp_new ((w.alloc (.cells #[.int .i64 5, .int .i64 1, .int .u8 0, .int .i64 0] 31)).alloc (.cells #[.int .i64 3, .int .i64 2, .int .u8 0, .int .i64 7] 31)) (.cells #[.int .i64 5, .int .i64 0, .int .u8 0, .int .i64 0] 31)
    rw [World.size_alloc, World.size_alloc] at this
    exact this
  obtain ⟨W0, hW0⟩ : ∃ W0, ((w.alloc (.cells #[.int .i64 5, .int .i64 1, .int .u8 0, .int .i64 0] 31)).alloc (.cells #[.int .i64 3, .int .i64 2, .int .u8 0, .int .i64 7] 31)).alloc (.cells #[.int .i64 5, .int .i64 0, .int .u8 0, .int .i64 0] 31) = W0 := ⟨_, rfl⟩
  rw [hW0] at hb0 ha0 hc0 hd0
  have HW0 := Lib.hid hW0
  have B0 := Lib.hid hb0
  have XA := Lib.hid ha0
  have XB := Lib.hid hc0
  have XC := Lib.hid hd0
  clear hW0 hb0 ha0 hc0 hd0
  go_enter Try.func14, Try.ntmps14
  go_upto_region 2 with fail
  rw [HW0.out]
  obtain ⟨XA0_1, XA1_1, XA2_1, XA3_1⟩ := XA.out.cells
  obtain ⟨XB0_1, XB1_1, XB2_1, XB3_1⟩ := XB.out.cells
  obtain ⟨XC0_1, XC1_1, XC2_1, XC3_1⟩ := XC.out.cells
  have bx := hp_box W0 (.cells #[.int .i64 5, .int .i64 1, .int .u8 0, .int .i64 0, .int .i64 3, .int .i64 2, .int .u8 0, .int .i64 7] 31)
  have XA_1 := Lib.hid (XA.out.below bx)
  have XB_1 := Lib.hid (XB.out.below bx)
  have XC_1 := Lib.hid (XC.out.below bx)
  have B_1 := Lib.hid (hp_then B0.out bx B0.out.size)
  have hal := Hp.at_lit W0 [(5, 1, 0, 0), (3, 2, 0, 7)] #[.int .i64 5, .int .i64 1, .int .u8 0, .int .i64 0, .int .i64 3, .int .i64 2, .int .u8 0, .int .i64 7] rfl
  have AL_1 := Lib.hid hal
  clear hal
  clear XA XB XC B0 bx
  obtain ⟨XA0_2, XA1_2, XA2_2, XA3_2⟩ := XA_1.out.cells
  obtain ⟨XB0_2, XB1_2, XB2_2, XB3_2⟩ := XB_1.out.cells
  obtain ⟨XC0_2, XC1_2, XC2_2, XC3_2⟩ := XC_1.out.cells
  go_wp2_with fail
  refine (C1.out _ _ _ AL_1.out).mono ?_
  rintro e w2 ⟨p2, c2, rfl, hA, hb⟩
  clear XA0_1 XA1_1 XA2_1 XA3_1 XB0_1 XB1_1 XB2_1 XB3_1 XC0_1 XC1_1 XC2_1 XC3_1 XA0_2 XA1_2 XA2_2 XA3_2 XB0_2 XB1_2 XB2_2 XB3_2 XC0_2 XC1_2 XC2_2 XC3_2
  have AL_2 := Lib.hid (AL_1.out.below hb)
  have XA_2 := Lib.hid (XA_1.out.below hb)
  have XB_2 := Lib.hid (XB_1.out.below hb)
  have XC_2 := Lib.hid (XC_1.out.below hb)
  have B_2 := Lib.hid (hp_then B_1.out hb B_1.out.size)
  have A1_2 := Lib.hid hA
  clear AL_1 XA_1 XB_1 XC_1 B_1 hb hA
  obtain ⟨XA0_3, XA1_3, XA2_3, XA3_3⟩ := XA_2.out.cells
  obtain ⟨XB0_3, XB1_3, XB2_3, XB3_3⟩ := XB_2.out.cells
  obtain ⟨XC0_3, XC1_3, XC2_3, XC3_3⟩ := XC_2.out.cells
  go_wp2_with fail
  refine (C2.out _ _ _ A1_2.out).mono ?_
  rintro e w3 ⟨p3, c3, rfl, hA, hb⟩
  clear XA0_3 XA1_3 XA2_3 XA3_3 XB0_3 XB1_3 XB2_3 XB3_3 XC0_3 XC1_3 XC2_3 XC3_3
  have A1_3 := Lib.hid (A1_2.out.below hb)
  have XA_3 := Lib.hid (XA_2.out.below hb)
  have XB_3 := Lib.hid (XB_2.out.below hb)
  have XC_3 := Lib.hid (XC_2.out.below hb)
  have B_3 := Lib.hid (hp_then B_2.out hb B_2.out.size)
  have A2_3 := Lib.hid hA
  clear A1_2 XA_2 XB_2 XC_2 B_2 hb hA
  obtain ⟨XA0_4, XA1_4, XA2_4, XA3_4⟩ := XA_3.out.cells
  obtain ⟨XB0_4, XB1_4, XB2_4, XB3_4⟩ := XB_3.out.cells
  obtain ⟨XC0_4, XC1_4, XC2_4, XC3_4⟩ := XC_3.out.cells
  go_wp2_with fail
  refine (C3.out _ _ _ A2_3.out).mono ?_
  rintro e w4 ⟨p4, c4, rfl, hA, hb⟩
  clear XA0_4 XA1_4 XA2_4 XA3_4 XB0_4 XB1_4 XB2_4 XB3_4 XC0_4 XC1_4 XC2_4 XC3_4
  have A2_4 := Lib.hid (A2_3.out.below hb)
  have XA_4 := Lib.hid (XA_3.out.below hb)
  have XB_4 := Lib.hid (XB_3.out.below hb)
  have XC_4 := Lib.hid (XC_3.out.below hb)
  have B_4 := Lib.hid (hp_then B_3.out hb B_3.out.size)
  have AS_4 := Lib.hid hA
  clear A2_3 XA_3 XB_3 XC_3 B_3 hb hA
  obtain ⟨XA0_5, XA1_5, XA2_5, XA3_5⟩ := XA_4.out.cells
  obtain ⟨XB0_5, XB1_5, XB2_5, XB3_5⟩ := XB_4.out.cells
  obtain ⟨XC0_5, XC1_5, XC2_5, XC3_5⟩ := XC_4.out.cells
  go_wp2_with fail
  refine (C4.out _ _ _ A2_4.out).mono ?_
  rintro e w5 ⟨p5, c5, rfl, _, hA, hb⟩
  clear XA0_5 XA1_5 XA2_5 XA3_5 XB0_5 XB1_5 XB2_5 XB3_5 XC0_5 XC1_5 XC2_5 XC3_5
  have A2_5 := Lib.hid (A2_4.out.below hb)
  have AS_5 := Lib.hid (AS_4.out.below hb)
  have XA_5 := Lib.hid (XA_4.out.below hb)
  have XB_5 := Lib.hid (XB_4.out.below hb)
  have XC_5 := Lib.hid (XC_4.out.below hb)
  have B_5 := Lib.hid (hp_then B_4.out hb B_4.out.size)
  have AG_5 := Lib.hid hA
  clear A2_4 AS_4 XA_4 XB_4 XC_4 B_4 hb hA
  obtain ⟨XA0_6, XA1_6, XA2_6, XA3_6⟩ := XA_5.out.cells
  obtain ⟨XB0_6, XB1_6, XB2_6, XB3_6⟩ := XB_5.out.cells
  obtain ⟨XC0_6, XC1_6, XC2_6, XC3_6⟩ := XC_5.out.cells
  have bx := hp_box w5 (.cells #[.int .i64 3, .int .i64 2, .int .u8 0, .int .i64 7] 31)
  have A2_6 := Lib.hid (A2_5.out.below bx)
  have AS_6 := Lib.hid (AS_5.out.below bx)
  have AG_6 := Lib.hid (AG_5.out.below bx)
  have XA_6 := Lib.hid (XA_5.out.below bx)
  have XB_6 := Lib.hid (XB_5.out.below bx)
  have XC_6 := Lib.hid (XC_5.out.below bx)
  have B_6 := Lib.hid (hp_then B_5.out bx B_5.out.size)
  have XT_6 : Hid (Hp.Box (w5.alloc (.cells #[.int .i64 3, .int .i64 2, .int .u8 0, .int .i64 7] 31)) w5.heap.size (3, 2, 0, 7)) := Lib.hid (hp_new w5 _)
  clear A2_5 AS_5 AG_5 XA_5 XB_5 XC_5 B_5 bx
  obtain ⟨XA0_7, XA1_7, XA2_7, XA3_7⟩ := XA_6.out.cells
  obtain ⟨XB0_7, XB1_7, XB2_7, XB3_7⟩ := XB_6.out.cells
  obtain ⟨XC0_7, XC1_7, XC2_7, XC3_7⟩ := XC_6.out.cells
  obtain ⟨XT0_7, XT1_7, XT2_7, XT3_7⟩ := XT_6.out.cells
  go_wp2_with fail
  refine (C5.out _ _ _ AG_6.out).mono ?_
  rintro e w7 ⟨p7, c7, rfl, _, hA, hb⟩
  clear XA0_6 XA1_6 XA2_6 XA3_6 XB0_6 XB1_6 XB2_6 XB3_6 XC0_6 XC1_6 XC2_6 XC3_6 XA0_7 XA1_7 XA2_7 XA3_7 XB0_7 XB1_7 XB2_7 XB3_7 XC0_7 XC1_7 XC2_7 XC3_7 XT0_7 XT1_7 XT2_7 XT3_7
  have A2_7 := Lib.hid (A2_6.out.below hb)
  have AS_7 := Lib.hid (AS_6.out.below hb)
  have AG_7 := Lib.hid (AG_6.out.below hb)
  have XA_7 := Lib.hid (XA_6.out.below hb)
  have XB_7 := Lib.hid (XB_6.out.below hb)
  have XC_7 := Lib.hid (XC_6.out.below hb)
  have XT_7 := Lib.hid (XT_6.out.below hb)
  have B_7 := Lib.hid (hp_then B_6.out hb B_6.out.size)
  have AK_7 := Lib.hid hA
  clear A2_6 AS_6 AG_6 XA_6 XB_6 XC_6 XT_6 B_6 hb hA
  obtain ⟨XA0_8, XA1_8, XA2_8, XA3_8⟩ := XA_7.out.cells
  obtain ⟨XB0_8, XB1_8, XB2_8, XB3_8⟩ := XB_7.out.cells
  obtain ⟨XC0_8, XC1_8, XC2_8, XC3_8⟩ := XC_7.out.cells
  obtain ⟨XT0_8, XT1_8, XT2_8, XT3_8⟩ := XT_7.out.cells
  have bx := hp_box w7 (.cells #[.int .i64 5, .int .i64 1, .int .u8 0, .int .i64 0] 31)
  have A2_8 := Lib.hid (A2_7.out.below bx)
  have AS_8 := Lib.hid (AS_7.out.below bx)
  have AK_8 := Lib.hid (AK_7.out.below bx)
  have XA_8 := Lib.hid (XA_7.out.below bx)
  have XB_8 := Lib.hid (XB_7.out.below bx)
  have XC_8 := Lib.hid (XC_7.out.below bx)
  have XT_8 := Lib.hid (XT_7.out.below bx)
  have B_8 := Lib.hid (hp_then B_7.out bx B_7.out.size)
  have XU_8 : Hid (Hp.Box (w7.alloc (.cells #[.int .i64 5, .int .i64 1, .int .u8 0, .int .i64 0] 31)) w7.heap.size (5, 1, 0, 0)) := Lib.hid (hp_new w7 _)
  clear A2_7 AS_7 AK_7 XA_7 XB_7 XC_7 XT_7 B_7 bx
  obtain ⟨XA0_9, XA1_9, XA2_9, XA3_9⟩ := XA_8.out.cells
  obtain ⟨XB0_9, XB1_9, XB2_9, XB3_9⟩ := XB_8.out.cells
  obtain ⟨XC0_9, XC1_9, XC2_9, XC3_9⟩ := XC_8.out.cells
  obtain ⟨XT0_9, XT1_9, XT2_9, XT3_9⟩ := XT_8.out.cells
  obtain ⟨XU0_9, XU1_9, XU2_9, XU3_9⟩ := XU_8.out.cells
  go_wp2_with fail
  refine (C6.out _ _ _ AK_8.out).mono ?_
  rintro e w9 ⟨p9, c9, rfl, hA, hb⟩
  clear XA0_8 XA1_8 XA2_8 XA3_8 XB0_8 XB1_8 XB2_8 XB3_8 XC0_8 XC1_8 XC2_8 XC3_8 XT0_8 XT1_8 XT2_8 XT3_8 XA0_9 XA1_9 XA2_9 XA3_9 XB0_9 XB1_9 XB2_9 XB3_9 XC0_9 XC1_9 XC2_9 XC3_9 XT0_9 XT1_9 XT2_9 XT3_9 XU0_9 XU1_9 XU2_9 XU3_9
  have A2_9 := Lib.hid (A2_8.out.below hb)
  have AS_9 := Lib.hid (AS_8.out.below hb)
  have AK_9 := Lib.hid (AK_8.out.below hb)
  have XA_9 := Lib.hid (XA_8.out.below hb)
  have XB_9 := Lib.hid (XB_8.out.below hb)
  have XC_9 := Lib.hid (XC_8.out.below hb)
  have XT_9 := Lib.hid (XT_8.out.below hb)
  have XU_9 := Lib.hid (XU_8.out.below hb)
  have B_9 := Lib.hid (hp_then B_8.out hb B_8.out.size)
  have AJ_9 := Lib.hid hA
  clear A2_8 AS_8 AK_8 XA_8 XB_8 XC_8 XT_8 XU_8 B_8 hb hA
  obtain ⟨XA0_10, XA1_10, XA2_10, XA3_10⟩ := XA_9.out.cells
  obtain ⟨XB0_10, XB1_10, XB2_10, XB3_10⟩ := XB_9.out.cells
  obtain ⟨XC0_10, XC1_10, XC2_10, XC3_10⟩ := XC_9.out.cells
  obtain ⟨XT0_10, XT1_10, XT2_10, XT3_10⟩ := XT_9.out.cells
  obtain ⟨XU0_10, XU1_10, XU2_10, XU3_10⟩ := XU_9.out.cells
  go_wp2_with fail
  refine (C7.out _ _ _ AK_9.out).mono ?_
  rintro e w10 ⟨p10, c10, rfl, _, hA, hb⟩
  clear XA0_10 XA1_10 XA2_10 XA3_10 XB0_10 XB1_10 XB2_10 XB3_10 XC0_10 XC1_10 XC2_10 XC3_10 XT0_10 XT1_10 XT2_10 XT3_10 XU0_10 XU1_10 XU2_10 XU3_10
  have A2_10 := Lib.hid (A2_9.out.below hb)
  have AS_10 := Lib.hid (AS_9.out.below hb)
  have AK_10 := Lib.hid (AK_9.out.below hb)
  have XA_10 := Lib.hid (XA_9.out.below hb)
  have XB_10 := Lib.hid (XB_9.out.below hb)
  have XC_10 := Lib.hid (XC_9.out.below hb)
  have XT_10 := Lib.hid (XT_9.out.below hb)
  have XU_10 := Lib.hid (XU_9.out.below hb)
  have B_10 := Lib.hid (hp_then B_9.out hb B_9.out.size)
  have AJ_10 := Lib.hid hA
  clear A2_9 AS_9 AK_9 XA_9 XB_9 XC_9 XT_9 XU_9 B_9 hb hA
  obtain ⟨XA0_11, XA1_11, XA2_11, XA3_11⟩ := XA_10.out.cells
  obtain ⟨XB0_11, XB1_11, XB2_11, XB3_11⟩ := XB_10.out.cells
  obtain ⟨XC0_11, XC1_11, XC2_11, XC3_11⟩ := XC_10.out.cells
  obtain ⟨XT0_11, XT1_11, XT2_11, XT3_11⟩ := XT_10.out.cells
  obtain ⟨XU0_11, XU1_11, XU2_11, XU3_11⟩ := XU_10.out.cells
  have bx := hp_box w10 (.cells #[.int .i64 0, .int .i64 0, .int .u8 0, .int .i64 0] 31)
  have A2_11 := Lib.hid (A2_10.out.below bx)
  have AS_11 := Lib.hid (AS_10.out.below bx)
  have AK_11 := Lib.hid (AK_10.out.below bx)
  have XA_11 := Lib.hid (XA_10.out.below bx)
  have XB_11 := Lib.hid (XB_10.out.below bx)
  have XC_11 := Lib.hid (XC_10.out.below bx)
  have XT_11 := Lib.hid (XT_10.out.below bx)
  have XU_11 := Lib.hid (XU_10.out.below bx)
  have B_11 := Lib.hid (hp_then B_10.out bx B_10.out.size)
  clear A2_10 AS_10 AK_10 XA_10 XB_10 XC_10 XT_10 XU_10 B_10 bx
  obtain ⟨XA0_12, XA1_12, XA2_12, XA3_12⟩ := XA_11.out.cells
  obtain ⟨XB0_12, XB1_12, XB2_12, XB3_12⟩ := XB_11.out.cells
  obtain ⟨XC0_12, XC1_12, XC2_12, XC3_12⟩ := XC_11.out.cells
  obtain ⟨XT0_12, XT1_12, XT2_12, XT3_12⟩ := XT_11.out.cells
  obtain ⟨XU0_12, XU1_12, XU2_12, XU3_12⟩ := XU_11.out.cells
  go_wp2_with fail
  refine (C8.out _).mono ?_
  rintro e w12 ⟨p12, c12, rfl, _, hA, hb⟩
  clear XA0_11 XA1_11 XA2_11 XA3_11 XB0_11 XB1_11 XB2_11 XB3_11 XC0_11 XC1_11 XC2_11 XC3_11 XT0_11 XT1_11 XT2_11 XT3_11 XU0_11 XU1_11 XU2_11 XU3_11 XA0_12 XA1_12 XA2_12 XA3_12 XB0_12 XB1_12 XB2_12 XB3_12 XC0_12 XC1_12 XC2_12 XC3_12 XT0_12 XT1_12 XT2_12 XT3_12 XU0_12 XU1_12 XU2_12 XU3_12
  have A2_12 := Lib.hid (A2_11.out.below hb)
  have AS_12 := Lib.hid (AS_11.out.below hb)
  have AK_12 := Lib.hid (AK_11.out.below hb)
  have XA_12 := Lib.hid (XA_11.out.below hb)
  have XB_12 := Lib.hid (XB_11.out.below hb)
  have XC_12 := Lib.hid (XC_11.out.below hb)
  have XT_12 := Lib.hid (XT_11.out.below hb)
  have XU_12 := Lib.hid (XU_11.out.below hb)
  have B_12 := Lib.hid (hp_then B_11.out hb B_11.out.size)
  have AJ_12 := Lib.hid hA
  clear A2_11 AS_11 AK_11 XA_11 XB_11 XC_11 XT_11 XU_11 B_11 hb hA
  obtain ⟨XA0_13, XA1_13, XA2_13, XA3_13⟩ := XA_12.out.cells
  obtain ⟨XB0_13, XB1_13, XB2_13, XB3_13⟩ := XB_12.out.cells
  obtain ⟨XC0_13, XC1_13, XC2_13, XC3_13⟩ := XC_12.out.cells
  obtain ⟨XT0_13, XT1_13, XT2_13, XT3_13⟩ := XT_12.out.cells
  obtain ⟨XU0_13, XU1_13, XU2_13, XU3_13⟩ := XU_12.out.cells
  have bx := hp_box w12 (.cells #[.int .i64 0, .int .i64 0, .int .u8 0, .int .i64 0] 31)
  have A2_13 := Lib.hid (A2_12.out.below bx)
  have AS_13 := Lib.hid (AS_12.out.below bx)
  have AK_13 := Lib.hid (AK_12.out.below bx)
  have XA_13 := Lib.hid (XA_12.out.below bx)
  have XB_13 := Lib.hid (XB_12.out.below bx)
  have XC_13 := Lib.hid (XC_12.out.below bx)
  have XT_13 := Lib.hid (XT_12.out.below bx)
  have XU_13 := Lib.hid (XU_12.out.below bx)
  have B_13 := Lib.hid (hp_then B_12.out bx B_12.out.size)
  clear A2_12 AS_12 AK_12 XA_12 XB_12 XC_12 XT_12 XU_12 B_12 bx
  obtain ⟨XA0_14, XA1_14, XA2_14, XA3_14⟩ := XA_13.out.cells
  obtain ⟨XB0_14, XB1_14, XB2_14, XB3_14⟩ := XB_13.out.cells
  obtain ⟨XC0_14, XC1_14, XC2_14, XC3_14⟩ := XC_13.out.cells
  obtain ⟨XT0_14, XT1_14, XT2_14, XT3_14⟩ := XT_13.out.cells
  obtain ⟨XU0_14, XU1_14, XU2_14, XU3_14⟩ := XU_13.out.cells
  have bx := hp_box (w12.alloc (.cells #[.int .i64 0, .int .i64 0, .int .u8 0, .int .i64 0] 31)) (.cells #[.int .i64 3, .int .i64 2, .int .u8 0, .int .i64 7, .int .i64 5, .int .i64 0, .int .u8 0, .int .i64 0, .int .i64 5, .int .i64 1, .int .u8 0, .int .i64 0] 31)
  have A2_14 := Lib.hid (A2_13.out.below bx)
  have AS_14 := Lib.hid (AS_13.out.below bx)
  have AK_14 := Lib.hid (AK_13.out.below bx)
  have XA_14 := Lib.hid (XA_13.out.below bx)
  have XB_14 := Lib.hid (XB_13.out.below bx)
  have XC_14 := Lib.hid (XC_13.out.below bx)
  have XT_14 := Lib.hid (XT_13.out.below bx)
  have XU_14 := Lib.hid (XU_13.out.below bx)
  have B_14 := Lib.hid (hp_then B_13.out bx B_13.out.size)
  have hal := Hp.at_lit (w12.alloc (.cells #[.int .i64 0, .int .i64 0, .int .u8 0, .int .i64 0] 31)) [(3, 2, 0, 7), (5, 0, 0, 0), (5, 1, 0, 0)] #[.int .i64 3, .int .i64 2, .int .u8 0, .int .i64 7, .int .i64 5, .int .i64 0, .int .u8 0, .int .i64 0, .int .i64 5, .int .i64 1, .int .u8 0, .int .i64 0] rfl
  rw [World.size_alloc] at hal
  have AL_14 := Lib.hid hal
  clear hal
  clear A2_13 AS_13 AK_13 XA_13 XB_13 XC_13 XT_13 XU_13 B_13 bx
  obtain ⟨XA0_15, XA1_15, XA2_15, XA3_15⟩ := XA_14.out.cells
  obtain ⟨XB0_15, XB1_15, XB2_15, XB3_15⟩ := XB_14.out.cells
  obtain ⟨XC0_15, XC1_15, XC2_15, XC3_15⟩ := XC_14.out.cells
  obtain ⟨XT0_15, XT1_15, XT2_15, XT3_15⟩ := XT_14.out.cells
  obtain ⟨XU0_15, XU1_15, XU2_15, XU3_15⟩ := XU_14.out.cells
  go_wp2_with fail
  refine (CS.out _ _ _ _ _ AS_14.out AL_14.out).mono ?_
  rintro e w15 ⟨rfl, hb⟩
  clear XA0_13 XA1_13 XA2_13 XA3_13 XB0_13 XB1_13 XB2_13 XB3_13 XC0_13 XC1_13 XC2_13 XC3_13 XT0_13 XT1_13 XT2_13 XT3_13 XU0_13 XU1_13 XU2_13 XU3_13 XA0_14 XA1_14 XA2_14 XA3_14 XB0_14 XB1_14 XB2_14 XB3_14 XC0_14 XC1_14 XC2_14 XC3_14 XT0_14 XT1_14 XT2_14 XT3_14 XU0_14 XU1_14 XU2_14 XU3_14 XA0_15 XA1_15 XA2_15 XA3_15 XB0_15 XB1_15 XB2_15 XB3_15 XC0_15 XC1_15 XC2_15 XC3_15 XT0_15 XT1_15 XT2_15 XT3_15 XU0_15 XU1_15 XU2_15 XU3_15
  have A2_15 := Lib.hid (A2_14.out.below hb)
  have AS_15 := Lib.hid (AS_14.out.below hb)
  have AK_15 := Lib.hid (AK_14.out.below hb)
  have AL_15 := Lib.hid (AL_14.out.below hb)
  have XA_15 := Lib.hid (XA_14.out.below hb)
  have XB_15 := Lib.hid (XB_14.out.below hb)
  have XC_15 := Lib.hid (XC_14.out.below hb)
  have XT_15 := Lib.hid (XT_14.out.below hb)
  have XU_15 := Lib.hid (XU_14.out.below hb)
  have B_15 := Lib.hid (hp_then B_14.out hb B_14.out.size)
  clear A2_14 AS_14 AK_14 AL_14 XA_14 XB_14 XC_14 XT_14 XU_14 B_14 hb
  obtain ⟨XA0_16, XA1_16, XA2_16, XA3_16⟩ := XA_15.out.cells
  obtain ⟨XB0_16, XB1_16, XB2_16, XB3_16⟩ := XB_15.out.cells
  obtain ⟨XC0_16, XC1_16, XC2_16, XC3_16⟩ := XC_15.out.cells
  obtain ⟨XT0_16, XT1_16, XT2_16, XT3_16⟩ := XT_15.out.cells
  obtain ⟨XU0_16, XU1_16, XU2_16, XU3_16⟩ := XU_15.out.cells
  go_wp2_with fail
  refine (C9.out _ _ _ A2_15.out).mono ?_
  rintro e w16 ⟨rfl, hb⟩
  clear XA0_16 XA1_16 XA2_16 XA3_16 XB0_16 XB1_16 XB2_16 XB3_16 XC0_16 XC1_16 XC2_16 XC3_16 XT0_16 XT1_16 XT2_16 XT3_16 XU0_16 XU1_16 XU2_16 XU3_16
  have A2_16 := Lib.hid (A2_15.out.below hb)
  have AS_16 := Lib.hid (AS_15.out.below hb)
  have AK_16 := Lib.hid (AK_15.out.below hb)
  have XA_16 := Lib.hid (XA_15.out.below hb)
  have XB_16 := Lib.hid (XB_15.out.below hb)
  have XC_16 := Lib.hid (XC_15.out.below hb)
  have XT_16 := Lib.hid (XT_15.out.below hb)
  have XU_16 := Lib.hid (XU_15.out.below hb)
  have B_16 := Lib.hid (hp_then B_15.out hb B_15.out.size)
  clear A2_15 AS_15 AK_15 XA_15 XB_15 XC_15 XT_15 XU_15 B_15 hb
  obtain ⟨XA0_17, XA1_17, XA2_17, XA3_17⟩ := XA_16.out.cells
  obtain ⟨XB0_17, XB1_17, XB2_17, XB3_17⟩ := XB_16.out.cells
  obtain ⟨XC0_17, XC1_17, XC2_17, XC3_17⟩ := XC_16.out.cells
  obtain ⟨XT0_17, XT1_17, XT2_17, XT3_17⟩ := XT_16.out.cells
  obtain ⟨XU0_17, XU1_17, XU2_17, XU3_17⟩ := XU_16.out.cells
  have bx := hp_box w16 (.cells #[.int .i64 5, .int .i64 1, .int .u8 0, .int .i64 0, .int .i64 3, .int .i64 2, .int .u8 0, .int .i64 7] 31)
  have A2_17 := Lib.hid (A2_16.out.below bx)
  have AS_17 := Lib.hid (AS_16.out.below bx)
  have AK_17 := Lib.hid (AK_16.out.below bx)
  have XA_17 := Lib.hid (XA_16.out.below bx)
  have XB_17 := Lib.hid (XB_16.out.below bx)
  have XC_17 := Lib.hid (XC_16.out.below bx)
  have XT_17 := Lib.hid (XT_16.out.below bx)
  have XU_17 := Lib.hid (XU_16.out.below bx)
  have B_17 := Lib.hid (hp_then B_16.out bx B_16.out.size)
  have hal := Hp.at_lit w16 [(5, 1, 0, 0), (3, 2, 0, 7)] #[.int .i64 5, .int .i64 1, .int .u8 0, .int .i64 0, .int .i64 3, .int .i64 2, .int .u8 0, .int .i64 7] rfl
  have AL_17 := Lib.hid hal
  clear hal
  clear A2_16 AS_16 AK_16 XA_16 XB_16 XC_16 XT_16 XU_16 B_16 bx
  obtain ⟨XA0_18, XA1_18, XA2_18, XA3_18⟩ := XA_17.out.cells
  obtain ⟨XB0_18, XB1_18, XB2_18, XB3_18⟩ := XB_17.out.cells
  obtain ⟨XC0_18, XC1_18, XC2_18, XC3_18⟩ := XC_17.out.cells
  obtain ⟨XT0_18, XT1_18, XT2_18, XT3_18⟩ := XT_17.out.cells
  obtain ⟨XU0_18, XU1_18, XU2_18, XU3_18⟩ := XU_17.out.cells
  go_wp2_with fail
  refine (C10.out _ _ _ AL_17.out).mono ?_
  rintro e w18 ⟨rfl, hb⟩
  clear XA0_17 XA1_17 XA2_17 XA3_17 XB0_17 XB1_17 XB2_17 XB3_17 XC0_17 XC1_17 XC2_17 XC3_17 XT0_17 XT1_17 XT2_17 XT3_17 XU0_17 XU1_17 XU2_17 XU3_17 XA0_18 XA1_18 XA2_18 XA3_18 XB0_18 XB1_18 XB2_18 XB3_18 XC0_18 XC1_18 XC2_18 XC3_18 XT0_18 XT1_18 XT2_18 XT3_18 XU0_18 XU1_18 XU2_18 XU3_18
  have A2_18 := Lib.hid (A2_17.out.below hb)
  have AS_18 := Lib.hid (AS_17.out.below hb)
  have AK_18 := Lib.hid (AK_17.out.below hb)
  have AL_18 := Lib.hid (AL_17.out.below hb)
  have XA_18 := Lib.hid (XA_17.out.below hb)
  have XB_18 := Lib.hid (XB_17.out.below hb)
  have XC_18 := Lib.hid (XC_17.out.below hb)
  have XT_18 := Lib.hid (XT_17.out.below hb)
  have XU_18 := Lib.hid (XU_17.out.below hb)
  have B_18 := Lib.hid (hp_then B_17.out hb B_17.out.size)
  clear A2_17 AS_17 AK_17 AL_17 XA_17 XB_17 XC_17 XT_17 XU_17 B_17 hb
  obtain ⟨XA0_19, XA1_19, XA2_19, XA3_19⟩ := XA_18.out.cells
  obtain ⟨XB0_19, XB1_19, XB2_19, XB3_19⟩ := XB_18.out.cells
  obtain ⟨XC0_19, XC1_19, XC2_19, XC3_19⟩ := XC_18.out.cells
  obtain ⟨XT0_19, XT1_19, XT2_19, XT3_19⟩ := XT_18.out.cells
  obtain ⟨XU0_19, XU1_19, XU2_19, XU3_19⟩ := XU_18.out.cells
  go_wp2_with fail
  go_ret
  exact ⟨rfl, B_18.out⟩
end Go.Proofs.Ytaaodbljdpchhaa
