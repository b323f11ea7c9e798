/-
  The walk of WeekMakes: whatever ranges, a week and a minute are, the law answers true. Condition: lists are of a size that a machine holds.
-/
import Derived.Test.YtmfbplemelodcaaWkRMake
namespace Go.Proofs.Ytmfbplemelodcaa
open Go.RowKit Go.Lib Go.Shelf

set_option maxHeartbeats 4000000 in
set_option maxRecDepth 100000 in
theorem weekMakes_law (l v : List (Int × Int)) (p q : Option Addr) (c d : Nat) (m : Int) (b : Bool) (w : World) (hA : Wk.At w p l) (hB : Wk.At w q v) (hn : l.length ≤ 140737488351232) (hm : v.length ≤ 140737488351232) :
    Calls Try.prog 3 #[.slice p l.length c, .slice q v.length d, .int .i64 m, .bool b] w fun e w' => e = .returned (.bool true) ∧ Below w.heap.size w w' := by
  have CL := Lib.hid (fun w => wk_lives w)
  have CM := Lib.hid (fun w hA => wk_Make l p c w hA hn)
  have RM := Lib.hid (fun w hA => ref_Make l p c w hA hn)
  have CH := Lib.hid (fun w hA => wk_Has v q d m w hA hm)
  have RH := Lib.hid (fun w hA => ref_Has v q d m w hA hm)
  have CS := Lib.hid (fun w hA => wk_Sum v q d w hA hm)
  have RS := Lib.hid (fun w hA => ref_Sum v q d w hA hm)
  have CN := Lib.hid (fun w hA => wk_Next v q d m b w hA hm)
  have RN := Lib.hid (fun w hA => ref_Next v q d m b w hA hm)
  have CC := Lib.hid (fun w hA => wk_Check v q d w hA hm)
  have RC := Lib.hid (fun w hA => ref_Check v q d w hA hm)
  have CE := Lib.hid (fun p q c d w hA hB => wk_Same_self (Wk.makeL l) p q c d w hA hB (Wk.makeL_len l))
  have AL0 := Lib.hid hA
  have AV0 := Lib.hid hB
  clear hA hB hn hm
  generalize Wk.makeL l = M at *
  generalize Wk.makeC l = x1 at *
  generalize Wk.hasB v m = x2 at *
  generalize Wk.chk2 v m = x3 at *
  generalize Wk.sumR v = x4 at *
  generalize Wk.chk v = x5 at *
  generalize Wk.nextN v m b = x6 at *
  generalize Wk.nextC v m b = x7 at *
  obtain ⟨nl, hnl⟩ : ∃ x, x = l.length := ⟨_, rfl⟩
  obtain ⟨nv, hnv⟩ : ∃ x, x = v.length := ⟨_, rfl⟩
  obtain ⟨nm, hnm⟩ : ∃ x, x = M.length := ⟨_, rfl⟩
  have Hnm := Lib.hid hnm
  rw [← hnl] at CM RM
  rw [← hnv] at CH RH CS RS CN RN CC RC
  rw [← hnm] at CE
  rw [← hnl, ← hnv]
  clear hnl hnv hnm
  go_enter Try.func3, Try.ntmps3
  go_wp2_with fail
  refine (CM.out _ AL0.out).mono ?_
  rintro e w1 ⟨p1, c1, rfl, hA, hB⟩
  rw [← Hnm.out]
  have AX1 := Lib.hid hA
  have AL1 := Lib.hid (AL0.out.below hB)
  have AV1 := Lib.hid (AV0.out.below hB)
  have B1 := Lib.hid hB
  clear hA hB AL0 AV0
  go_wp2_with fail
  refine (RM.out _ AL1.out).mono ?_
  rintro e w2 ⟨p2, c2, rfl, hA, hB⟩
  rw [← Hnm.out]
  have AY2 := Lib.hid hA
  have AL2 := Lib.hid (AL1.out.below hB)
  have AV2 := Lib.hid (AV1.out.below hB)
  have AX2 := Lib.hid (AX1.out.below hB)
  have B2 := Lib.hid (wk_then B1.out hB B1.out.size)
  clear hA hB AL1 AV1 AX1 B1
  go_wp2_with fail
  refine (CH.out _ AV2.out).mono ?_
  rintro e w3 ⟨rfl, hB⟩
  have AL3 := Lib.hid (AL2.out.below hB)
  have AV3 := Lib.hid (AV2.out.below hB)
  have AX3 := Lib.hid (AX2.out.below hB)
  have AY3 := Lib.hid (AY2.out.below hB)
  have B3 := Lib.hid (wk_then B2.out hB B2.out.size)
  clear hB AL2 AV2 AX2 AY2 B2
  go_wp2_with fail
  refine (RH.out _ AV3.out).mono ?_
  rintro e w4 ⟨rfl, hB⟩
  have AL4 := Lib.hid (AL3.out.below hB)
  have AV4 := Lib.hid (AV3.out.below hB)
  have AX4 := Lib.hid (AX3.out.below hB)
  have AY4 := Lib.hid (AY3.out.below hB)
  have B4 := Lib.hid (wk_then B3.out hB B3.out.size)
  clear hB AL3 AV3 AX3 AY3 B3
  go_wp2_with fail
  refine (CS.out _ AV4.out).mono ?_
  rintro e w5 ⟨rfl, hB⟩
  have AL5 := Lib.hid (AL4.out.below hB)
  have AV5 := Lib.hid (AV4.out.below hB)
  have AX5 := Lib.hid (AX4.out.below hB)
  have AY5 := Lib.hid (AY4.out.below hB)
  have B5 := Lib.hid (wk_then B4.out hB B4.out.size)
  clear hB AL4 AV4 AX4 AY4 B4
  go_wp2_with fail
  refine (RS.out _ AV5.out).mono ?_
  rintro e w6 ⟨rfl, hB⟩
  have AL6 := Lib.hid (AL5.out.below hB)
  have AV6 := Lib.hid (AV5.out.below hB)
  have AX6 := Lib.hid (AX5.out.below hB)
  have AY6 := Lib.hid (AY5.out.below hB)
  have B6 := Lib.hid (wk_then B5.out hB B5.out.size)
  clear hB AL5 AV5 AX5 AY5 B5
  go_wp2_with fail
  refine (CN.out _ AV6.out).mono ?_
  rintro e w7 ⟨rfl, hB⟩
  have AL7 := Lib.hid (AL6.out.below hB)
  have AV7 := Lib.hid (AV6.out.below hB)
  have AX7 := Lib.hid (AX6.out.below hB)
  have AY7 := Lib.hid (AY6.out.below hB)
  have B7 := Lib.hid (wk_then B6.out hB B6.out.size)
  clear hB AL6 AV6 AX6 AY6 B6
  go_wp2_with fail
  refine (RN.out _ AV7.out).mono ?_
  rintro e w8 ⟨rfl, hB⟩
  have AL8 := Lib.hid (AL7.out.below hB)
  have AV8 := Lib.hid (AV7.out.below hB)
  have AX8 := Lib.hid (AX7.out.below hB)
  have AY8 := Lib.hid (AY7.out.below hB)
  have B8 := Lib.hid (wk_then B7.out hB B7.out.size)
  clear hB AL7 AV7 AX7 AY7 B7
  go_wp2_with fail
  refine (CL.out _).mono ?_
  rintro e w9 ⟨rfl, hB⟩
  have AL9 := Lib.hid (AL8.out.below hB)
  have AV9 := Lib.hid (AV8.out.below hB)
  have AX9 := Lib.hid (AX8.out.below hB)
  have AY9 := Lib.hid (AY8.out.below hB)
  have B9 := Lib.hid (wk_then B8.out hB B8.out.size)
  clear hB AL8 AV8 AX8 AY8 B8
  go_wp2_with fail
  refine (CE.out _ _ _ _ _ AX9.out AY9.out).mono ?_
  rintro e w10 ⟨rfl, hB⟩
  have AL10 := Lib.hid (AL9.out.below hB)
  have AV10 := Lib.hid (AV9.out.below hB)
  have AX10 := Lib.hid (AX9.out.below hB)
  have AY10 := Lib.hid (AY9.out.below hB)
  have B10 := Lib.hid (wk_then B9.out hB B9.out.size)
  clear hB AL9 AV9 AX9 AY9 B9
  go_wp2_with fail
  refine (CC.out _ AV10.out).mono ?_
  rintro e w11 ⟨rfl, hB⟩
  have AL11 := Lib.hid (AL10.out.below hB)
  have AV11 := Lib.hid (AV10.out.below hB)
  have AX11 := Lib.hid (AX10.out.below hB)
  have AY11 := Lib.hid (AY10.out.below hB)
  have B11 := Lib.hid (wk_then B10.out hB B10.out.size)
  clear hB AL10 AV10 AX10 AY10 B10
  go_wp2_with fail
  refine (RC.out _ AV11.out).mono ?_
  rintro e w12 ⟨rfl, hB⟩
  have AL12 := Lib.hid (AL11.out.below hB)
  have AV12 := Lib.hid (AV11.out.below hB)
  have AX12 := Lib.hid (AX11.out.below hB)
  have AY12 := Lib.hid (AY11.out.below hB)
  have B12 := Lib.hid (wk_then B11.out hB B11.out.size)
  clear hB AL11 AV11 AX11 AY11 B11
  cases x2 <;>
  (go_wp2_with fail
   go_ret
   exact ⟨rfl, B12.out⟩)
end Go.Proofs.Ytmfbplemelodcaa
