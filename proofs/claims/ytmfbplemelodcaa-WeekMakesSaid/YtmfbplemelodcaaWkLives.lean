/-
  The walk of week's lives: the answers that the document gives. No condition.
-/
import Derived.Test.YtmfbplemelodcaaWkSame
import Derived.StillTailTactics
namespace Go.Proofs.Ytmfbplemelodcaa
open Go.RowKit Go.Lib Go.Shelf

theorem Wk.at_lit (w : World) (l : List (Int × Int)) (cs : Array Value) (t : TypeId) (h : cs.toList = Wk.rcs l) : Wk.At (w.alloc (.cells cs t)) (some ⟨w.heap.size, 0, none⟩) l := by
  refine Or.inr ⟨w.heap.size, 0, rfl, fun i hi => ?_⟩
  have hg := Wk.rcs_get l i hi
  rw [← h] at hg
  have hn := wk_new w (.cells cs t)
  rw [Lib.cell_of_heap hn, Lib.cell_of_heap hn]
  simp only [Nat.zero_add]
  rw [← Array.getElem?_toList, ← Array.getElem?_toList]
  exact hg
theorem wk_Same_self (a : List (Int × Int)) (p q : Option Addr) (c d : Nat) (w : World) (hA : Wk.At w p a) (hB : Wk.At w q a) (hn : a.length ≤ 140737488351232) :
    Calls Try.prog 17 #[.slice p a.length c, .slice q a.length d] w fun e w' => e = .returned (.bool true) ∧ Below w.heap.size w w' :=
  (wk_Same a a p q c d w hA hB hn hn).mono fun e w' ⟨h1, h2⟩ => ⟨by rw [h1, decide_eq_true rfl], h2⟩
def Wk.w0 : List (Int × Int) := [(0, 70), (600, 10080)]
set_option maxHeartbeats 4000000 in
set_option maxRecDepth 100000 in
theorem wk_lives (w : World) : Calls Try.prog 16 #[] w fun e w' => e = .returned (.bool true) ∧ Below w.heap.size w w' := by
  have C1 := Lib.hid (fun (w : World) hA => wk_Make [(600, 60), (60, 70)] (some ⟨w.heap.size, 0, none⟩) 2 (w.alloc (.cells #[.int .i64 600, .int .i64 60, .int .i64 60, .int .i64 70] 38)) hA (by decide))
  rw [show Wk.makeL [(600, 60), (60, 70)] = Wk.w0 by decide +kernel, show Wk.makeC [(600, 60), (60, 70)] = 0 by decide +kernel] at C1
  have A0 := Lib.hid (Wk.at_lit w [(600, 60), (60, 70)] #[.int .i64 600, .int .i64 60, .int .i64 60, .int .i64 70] 38 rfl)
  have B0 := Lib.hid (wk_box w (.cells #[.int .i64 600, .int .i64 60, .int .i64 60, .int .i64 70] 38))
  go_enter Try.func16, Try.ntmps16
  go_wp2_with fail
  refine (C1.out _ A0.out).mono ?_
  rintro e w1 ⟨p1, c1, rfl, hA, hB⟩
  have AW1 := Lib.hid hA
  have B1 := Lib.hid (wk_then B0.out hB B0.out.size)
  clear hA hB C1 A0 B0
  have C2 := Lib.hid (fun w p c hA => wk_Has Wk.w0 p c 69 w hA (by decide))
  rw [show Wk.hasB Wk.w0 69 = true by decide +kernel, show Wk.chk2 Wk.w0 69 = 0 by decide +kernel] at C2
  go_wp2_with fail
  refine (C2.out _ _ _ AW1.out).mono ?_
  rintro e w2 ⟨rfl, hB⟩
  have AW2 := Lib.hid (AW1.out.below hB)
  have B2 := Lib.hid (wk_then B1.out hB B1.out.size)
  clear hB AW1 B1 C2
  have C3 := Lib.hid (fun w p c hA => wk_Not Wk.w0 p c w hA (by decide))
  rw [show Wk.notL Wk.w0 = [(70, 600)] by decide +kernel, show Wk.notC Wk.w0 = 0 by decide +kernel] at C3
  go_wp2_with fail
  refine (C3.out _ _ _ AW2.out).mono ?_
  rintro e w3 ⟨p3, c3, rfl, hA, hB⟩
  have AN3 := Lib.hid hA
  have AW3 := Lib.hid (AW2.out.below hB)
  have B3 := Lib.hid (wk_then B2.out hB B2.out.size)
  clear hA hB AW2 B2 C3
  have C4 := Lib.hid (fun w p c q d hA hB => wk_And Wk.w0 [(65, 650)] p q c d w hA hB (by decide) (by decide))
  rw [show Wk.andL Wk.w0 [(65, 650)] = [(65, 70), (600, 650)] by decide +kernel, show Wk.andC Wk.w0 [(65, 650)] = 0 by decide +kernel] at C4
  have bx := wk_box w3 (.cells #[.int .i64 65, .int .i64 650] 38)
  have AL4 := Lib.hid (Wk.at_lit w3 [(65, 650)] #[.int .i64 65, .int .i64 650] 38 rfl)
  have AW4 := Lib.hid (AW3.out.below bx)
  have AN4 := Lib.hid (AN3.out.below bx)
  have B4 := Lib.hid (wk_then B3.out bx B3.out.size)
  clear bx AW3 AN3 B3
  go_wp2_with fail
  refine (C4.out _ _ _ _ _ AW4.out AL4.out).mono ?_
  rintro e w5 ⟨p5, c5, rfl, hA, hB⟩
  have AA5 := Lib.hid hA
  have AW5 := Lib.hid (AW4.out.below hB)
  have AN5 := Lib.hid (AN4.out.below hB)
  have B5 := Lib.hid (wk_then B4.out hB B4.out.size)
  clear hA hB AW4 AN4 AL4 B4 C4
  have C5 := Lib.hid (fun w p c q d hA hB => wk_Or [(70, 600)] Wk.w0 p q c d w hA hB (by decide) (by decide))
  rw [show Wk.orL [(70, 600)] Wk.w0 = [(0, 10080)] by decide +kernel, show Wk.orC [(70, 600)] Wk.w0 = 0 by decide +kernel] at C5
  go_wp2_with fail
  refine (C5.out _ _ _ _ _ AN5.out AW5.out).mono ?_
  rintro e w6 ⟨p6, c6, rfl, hA, hB⟩
  have AO6 := Lib.hid hA
  have AA6 := Lib.hid (AA5.out.below hB)
  have AW6 := Lib.hid (AW5.out.below hB)
  have AN6 := Lib.hid (AN5.out.below hB)
  have B6 := Lib.hid (wk_then B5.out hB B5.out.size)
  clear hA hB AW5 AN5 AA5 B5 C5
  have C6 := Lib.hid (fun w p c hA => wk_Sum [(70, 600)] p c w hA (by decide))
  rw [show Wk.sumR [(70, 600)] = 530 by decide +kernel, show Wk.chk [(70, 600)] = 0 by decide +kernel] at C6
  go_wp2_with fail
  refine (C6.out _ _ _ AN6.out).mono ?_
  rintro e w7 ⟨rfl, hB⟩
  have AO7 := Lib.hid (AO6.out.below hB)
  have AA7 := Lib.hid (AA6.out.below hB)
  have AW7 := Lib.hid (AW6.out.below hB)
  have AN7 := Lib.hid (AN6.out.below hB)
  have B7 := Lib.hid (wk_then B6.out hB B6.out.size)
  clear hB AW6 AN6 AA6 AO6 B6 C6
  have C7 := Lib.hid (fun w p c hA => wk_Next Wk.w0 p c 100 true w hA (by decide))
  rw [show Wk.nextN Wk.w0 100 true = 500 by decide +kernel, show Wk.nextC Wk.w0 100 true = 0 by decide +kernel] at C7
  go_wp2_with fail
  refine (C7.out _ _ _ AW7.out).mono ?_
  rintro e w8 ⟨rfl, hB⟩
  have AO8 := Lib.hid (AO7.out.below hB)
  have AA8 := Lib.hid (AA7.out.below hB)
  have AW8 := Lib.hid (AW7.out.below hB)
  have AN8 := Lib.hid (AN7.out.below hB)
  have B8 := Lib.hid (wk_then B7.out hB B7.out.size)
  clear hB AW7 AN7 AA7 AO7 B7 C7
  have C8 := Lib.hid (fun w p c hA => wk_Next Wk.w0 p c 10000 false w hA (by decide))
  rw [show Wk.nextN Wk.w0 10000 false = 150 by decide +kernel, show Wk.nextC Wk.w0 10000 false = 0 by decide +kernel] at C8
  go_wp2_with fail
  refine (C8.out _ _ _ AW8.out).mono ?_
  rintro e w9 ⟨rfl, hB⟩
  have AO9 := Lib.hid (AO8.out.below hB)
  have AA9 := Lib.hid (AA8.out.below hB)
  have AW9 := Lib.hid (AW8.out.below hB)
  have AN9 := Lib.hid (AN8.out.below hB)
  have B9 := Lib.hid (wk_then B8.out hB B8.out.size)
  clear hB AW8 AN8 AA8 AO8 B8 C8
  have C9 := Lib.hid (fun w => wk_Next [] none 0 5 true w (Wk.At.nil _ _) (by decide))
  rw [show Wk.nextN [] 5 true = 0 by decide +kernel, show Wk.nextC [] 5 true = 3 by decide +kernel] at C9
  go_wp2_with fail
  refine (C9.out _).mono ?_
  rintro e w10 ⟨rfl, hB⟩
  have AO10 := Lib.hid (AO9.out.below hB)
  have AA10 := Lib.hid (AA9.out.below hB)
  have AW10 := Lib.hid (AW9.out.below hB)
  have AN10 := Lib.hid (AN9.out.below hB)
  have B10 := Lib.hid (wk_then B9.out hB B9.out.size)
  clear hB AW9 AN9 AA9 AO9 B9 C9
  have C10 := Lib.hid (fun (w : World) hA => wk_Make [(0, 10081)] (some ⟨w.heap.size, 0, none⟩) 1 (w.alloc (.cells #[.int .i64 0, .int .i64 10081] 38)) hA (by decide))
  rw [show Wk.makeL [(0, 10081)] = [] by decide +kernel, show Wk.makeC [(0, 10081)] = 1 by decide +kernel] at C10
  have bx := wk_box w10 (.cells #[.int .i64 0, .int .i64 10081] 38)
  have AL := Lib.hid (Wk.at_lit w10 [(0, 10081)] #[.int .i64 0, .int .i64 10081] 38 rfl)
  have AO11 := Lib.hid (AO10.out.below bx)
  have AA11 := Lib.hid (AA10.out.below bx)
  have AW11 := Lib.hid (AW10.out.below bx)
  have AN11 := Lib.hid (AN10.out.below bx)
  have B11 := Lib.hid (wk_then B10.out bx B10.out.size)
  clear bx AO10 AA10 AW10 AN10 B10
  go_wp2_with fail
  refine (C10.out _ AL.out).mono ?_
  rintro e w12 ⟨p12, c12, rfl, hA, hB⟩
  have AO12 := Lib.hid (AO11.out.below hB)
  have AA12 := Lib.hid (AA11.out.below hB)
  have AW12 := Lib.hid (AW11.out.below hB)
  have AN12 := Lib.hid (AN11.out.below hB)
  have B12 := Lib.hid (wk_then B11.out hB B11.out.size)
  clear hA hB AO11 AA11 AW11 AN11 B11 C10 AL
  have bx := wk_box w12 (.cells #[.int .i64 0, .int .i64 70, .int .i64 600, .int .i64 10080] 38)
  have AL := Lib.hid (Wk.at_lit w12 [(0, 70), (600, 10080)] #[.int .i64 0, .int .i64 70, .int .i64 600, .int .i64 10080] 38 rfl)
  have AS := Lib.hid (AW12.out.below bx)
  have BS := Lib.hid (wk_then B12.out bx B12.out.size)
  have AOx := Lib.hid (AO12.out.below bx)
  have AAx := Lib.hid (AA12.out.below bx)
  have AWx := Lib.hid (AW12.out.below bx)
  have ANx := Lib.hid (AN12.out.below bx)
  have CS := Lib.hid (fun w p c q d hA hB => wk_Same_self Wk.w0 p q c d w hA hB (by decide))
  clear bx B12 AO12 AA12 AW12 AN12
  go_wp2_with fail
  refine (CS.out _ _ _ _ _ AS.out AL.out).mono ?_
  rintro e w13 ⟨rfl, hB⟩
  have AO13 := Lib.hid (AOx.out.below hB)
  have AA13 := Lib.hid (AAx.out.below hB)
  have AW13 := Lib.hid (AWx.out.below hB)
  have AN13 := Lib.hid (ANx.out.below hB)
  have B13 := Lib.hid (wk_then BS.out hB BS.out.size)
  clear hB AL AS BS AOx AAx AWx ANx CS
  have bx := wk_box w13 (.cells #[.int .i64 70, .int .i64 600] 38)
  have AL := Lib.hid (Wk.at_lit w13 [(70, 600)] #[.int .i64 70, .int .i64 600] 38 rfl)
  have AS := Lib.hid (AN13.out.below bx)
  have BS := Lib.hid (wk_then B13.out bx B13.out.size)
  have AOx := Lib.hid (AO13.out.below bx)
  have AAx := Lib.hid (AA13.out.below bx)
  have AWx := Lib.hid (AW13.out.below bx)
  have ANx := Lib.hid (AN13.out.below bx)
  have CS := Lib.hid (fun w p c q d hA hB => wk_Same_self [(70, 600)] p q c d w hA hB (by decide))
  clear bx B13 AO13 AA13 AW13 AN13
  go_wp2_with fail
  refine (CS.out _ _ _ _ _ AS.out AL.out).mono ?_
  rintro e w14 ⟨rfl, hB⟩
  have AO14 := Lib.hid (AOx.out.below hB)
  have AA14 := Lib.hid (AAx.out.below hB)
  have AW14 := Lib.hid (AWx.out.below hB)
  have AN14 := Lib.hid (ANx.out.below hB)
  have B14 := Lib.hid (wk_then BS.out hB BS.out.size)
  clear hB AL AS BS AOx AAx AWx ANx CS
  have bx := wk_box w14 (.cells #[.int .i64 65, .int .i64 70, .int .i64 600, .int .i64 650] 38)
  have AL := Lib.hid (Wk.at_lit w14 [(65, 70), (600, 650)] #[.int .i64 65, .int .i64 70, .int .i64 600, .int .i64 650] 38 rfl)
  have AS := Lib.hid (AA14.out.below bx)
  have BS := Lib.hid (wk_then B14.out bx B14.out.size)
  have AOx := Lib.hid (AO14.out.below bx)
  have AAx := Lib.hid (AA14.out.below bx)
  have AWx := Lib.hid (AW14.out.below bx)
  have ANx := Lib.hid (AN14.out.below bx)
  have CS := Lib.hid (fun w p c q d hA hB => wk_Same_self [(65, 70), (600, 650)] p q c d w hA hB (by decide))
  clear bx B14 AO14 AA14 AW14 AN14
  go_wp2_with fail
  refine (CS.out _ _ _ _ _ AS.out AL.out).mono ?_
  rintro e w15 ⟨rfl, hB⟩
  have AO15 := Lib.hid (AOx.out.below hB)
  have AA15 := Lib.hid (AAx.out.below hB)
  have AW15 := Lib.hid (AWx.out.below hB)
  have AN15 := Lib.hid (ANx.out.below hB)
  have B15 := Lib.hid (wk_then BS.out hB BS.out.size)
  clear hB AL AS BS AOx AAx AWx ANx CS
  have bx := wk_box w15 (.cells #[.int .i64 0, .int .i64 10080] 38)
  have AL := Lib.hid (Wk.at_lit w15 [(0, 10080)] #[.int .i64 0, .int .i64 10080] 38 rfl)
  have AS := Lib.hid (AO15.out.below bx)
  have BS := Lib.hid (wk_then B15.out bx B15.out.size)
  have AOx := Lib.hid (AO15.out.below bx)
  have AAx := Lib.hid (AA15.out.below bx)
  have AWx := Lib.hid (AW15.out.below bx)
  have ANx := Lib.hid (AN15.out.below bx)
  have CS := Lib.hid (fun w p c q d hA hB => wk_Same_self [(0, 10080)] p q c d w hA hB (by decide))
  clear bx B15 AO15 AA15 AW15 AN15
  go_wp2_with fail
  refine (CS.out _ _ _ _ _ AS.out AL.out).mono ?_
  rintro e w16 ⟨rfl, hB⟩
  have AO16 := Lib.hid (AOx.out.below hB)
  have AA16 := Lib.hid (AAx.out.below hB)
  have AW16 := Lib.hid (AWx.out.below hB)
  have AN16 := Lib.hid (ANx.out.below hB)
  have B16 := Lib.hid (wk_then BS.out hB BS.out.size)
  clear hB AL AS BS AOx AAx AWx ANx CS
  have CC := Lib.hid (fun w p c hA => wk_Check Wk.w0 p c w hA (by decide))
  rw [show Wk.chk Wk.w0 = 0 by decide +kernel] at CC
  go_wp2_with fail
  refine (CC.out _ _ _ AW16.out).mono ?_
  rintro e w17 ⟨rfl, hB⟩
  have B17 := Lib.hid (wk_then B16.out hB B16.out.size)
  clear hB
  go_wp2_with fail
  go_ret
  exact ⟨rfl, B17.out⟩
end Go.Proofs.Ytmfbplemelodcaa
