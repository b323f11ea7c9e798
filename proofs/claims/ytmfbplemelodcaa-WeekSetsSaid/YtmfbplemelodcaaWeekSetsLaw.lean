/-
  The walk of WeekSets: whatever two weeks are, the law answers true. Condition: lists are of a size that a machine holds.
-/
import Derived.Test.YtmfbplemelodcaaWkRMake
namespace Go.Proofs.Ytmfbplemelodcaa
open Go.RowKit Go.Lib Go.Shelf

set_option maxHeartbeats 4000000 in
set_option maxRecDepth 100000 in
theorem weekSets_law (a b : List (Int × Int)) (p q : Option Addr) (c d : Nat) (w : World) (hA : Wk.At w p a) (hB : Wk.At w q b) (hn : a.length ≤ 140737488351232) (hm : b.length ≤ 140737488351232) :
    Calls Try.prog 4 #[.slice p a.length c, .slice q b.length d] w fun e w' => e = .returned (.bool true) ∧ Below w.heap.size w w' := by
  have CL := Lib.hid (fun w => wk_lives w)
  have CN := Lib.hid (fun w hA => wk_Not a p c w hA hn)
  have RN := Lib.hid (fun w hA => ref_Not a p c w hA hn)
  have CA := Lib.hid (fun w hA hB => wk_And a b p q c d w hA hB hn hm)
  have RA := Lib.hid (fun w hA hB => ref_And a b p q c d w hA hB hn hm)
  have CO := Lib.hid (fun w hA hB => wk_Or a b p q c d w hA hB hn hm)
  have RO := Lib.hid (fun w hA hB => ref_Or a b p q c d w hA hB hn hm)
  obtain ⟨l1, l2, l3⟩ := Wk.sets_len a b
  have E1 := Lib.hid (fun p q c d w hA hB => wk_Same_self (Wk.notL a) p q c d w hA hB l1)
  have E2 := Lib.hid (fun p q c d w hA hB => wk_Same_self (Wk.andL a b) p q c d w hA hB l2)
  have E3 := Lib.hid (fun p q c d w hA hB => wk_Same_self (Wk.orL a b) p q c d w hA hB l3)
  have AA0 := Lib.hid hA
  have AB0 := Lib.hid hB
  clear hA hB hn hm l1 l2 l3
  generalize Wk.notL a = L1 at *
  generalize Wk.notC a = x1 at *
  generalize Wk.andL a b = L2 at *
  generalize Wk.andC a b = x2 at *
  generalize Wk.orL a b = L3 at *
  generalize Wk.orC a b = x3 at *
  obtain ⟨na, hna⟩ : ∃ x, x = a.length := ⟨_, rfl⟩
  obtain ⟨nb, hnb⟩ : ∃ x, x = b.length := ⟨_, rfl⟩
  obtain ⟨n1, hn1⟩ : ∃ x, x = L1.length := ⟨_, rfl⟩
  obtain ⟨n2, hn2⟩ : ∃ x, x = L2.length := ⟨_, rfl⟩
  obtain ⟨n3, hn3⟩ : ∃ x, x = L3.length := ⟨_, rfl⟩
  have H1 := Lib.hid hn1
  have H2 := Lib.hid hn2
  have H3 := Lib.hid hn3
  rw [← hna] at CN RN CA RA CO RO
  rw [← hnb] at CA RA CO RO
  rw [← hn1] at E1
  rw [← hn2] at E2
  rw [← hn3] at E3
  rw [← hna, ← hnb]
  clear hna hnb hn1 hn2 hn3
  go_enter Try.func4, Try.ntmps4
  go_wp2_with fail
  refine (CN.out _ AA0.out).mono ?_
  rintro e w1 ⟨p1, c1, rfl, hA, hB⟩
  rw [← H1.out]
  have AX1 := Lib.hid hA
  have AA1 := Lib.hid (AA0.out.below hB)
  have AB1 := Lib.hid (AB0.out.below hB)
  have B1 := Lib.hid hB
  clear hA hB AA0 AB0
  go_wp2_with fail
  refine (RN.out _ AA1.out).mono ?_
  rintro e w2 ⟨p2, c2, rfl, hA, hB⟩
  rw [← H1.out]
  have AY2 := Lib.hid hA
  have AA2 := Lib.hid (AA1.out.below hB)
  have AB2 := Lib.hid (AB1.out.below hB)
  have AX2 := Lib.hid (AX1.out.below hB)
  have B2 := Lib.hid (wk_then B1.out hB B1.out.size)
  clear hA hB AA1 AB1 AX1 B1
  go_wp2_with fail
  refine (CA.out _ AA2.out AB2.out).mono ?_
  rintro e w3 ⟨p3, c3, rfl, hA, hB⟩
  rw [← H2.out]
  have AP3 := Lib.hid hA
  have AA3 := Lib.hid (AA2.out.below hB)
  have AB3 := Lib.hid (AB2.out.below hB)
  have AX3 := Lib.hid (AX2.out.below hB)
  have AY3 := Lib.hid (AY2.out.below hB)
  have B3 := Lib.hid (wk_then B2.out hB B2.out.size)
  clear hA hB AA2 AB2 AX2 AY2 B2
  go_wp2_with fail
  refine (RA.out _ AA3.out AB3.out).mono ?_
  rintro e w4 ⟨p4, c4, rfl, hA, hB⟩
  rw [← H2.out]
  have AQ4 := Lib.hid hA
  have AA4 := Lib.hid (AA3.out.below hB)
  have AB4 := Lib.hid (AB3.out.below hB)
  have AX4 := Lib.hid (AX3.out.below hB)
  have AY4 := Lib.hid (AY3.out.below hB)
  have AP4 := Lib.hid (AP3.out.below hB)
  have B4 := Lib.hid (wk_then B3.out hB B3.out.size)
  clear hA hB AA3 AB3 AX3 AY3 AP3 B3
  go_wp2_with fail
  refine (CO.out _ AA4.out AB4.out).mono ?_
  rintro e w5 ⟨p5, c5, rfl, hA, hB⟩
  rw [← H3.out]
  have AS5 := Lib.hid hA
  have AA5 := Lib.hid (AA4.out.below hB)
  have AB5 := Lib.hid (AB4.out.below hB)
  have AX5 := Lib.hid (AX4.out.below hB)
  have AY5 := Lib.hid (AY4.out.below hB)
  have AP5 := Lib.hid (AP4.out.below hB)
  have AQ5 := Lib.hid (AQ4.out.below hB)
  have B5 := Lib.hid (wk_then B4.out hB B4.out.size)
  clear hA hB AA4 AB4 AX4 AY4 AP4 AQ4 B4
  go_wp2_with fail
  refine (RO.out _ AA5.out AB5.out).mono ?_
  rintro e w6 ⟨p6, c6, rfl, hA, hB⟩
  rw [← H3.out]
  have AT6 := Lib.hid hA
  have AA6 := Lib.hid (AA5.out.below hB)
  have AB6 := Lib.hid (AB5.out.below hB)
  have AX6 := Lib.hid (AX5.out.below hB)
  have AY6 := Lib.hid (AY5.out.below hB)
  have AP6 := Lib.hid (AP5.out.below hB)
  have AQ6 := Lib.hid (AQ5.out.below hB)
  have AS6 := Lib.hid (AS5.out.below hB)
  have B6 := Lib.hid (wk_then B5.out hB B5.out.size)
  clear hA hB AA5 AB5 AX5 AY5 AP5 AQ5 AS5 B5
  go_wp2_with fail
  refine (CL.out _).mono ?_
  rintro e w7 ⟨rfl, hB⟩
  have AA7 := Lib.hid (AA6.out.below hB)
  have AB7 := Lib.hid (AB6.out.below hB)
  have AX7 := Lib.hid (AX6.out.below hB)
  have AY7 := Lib.hid (AY6.out.below hB)
  have AP7 := Lib.hid (AP6.out.below hB)
  have AQ7 := Lib.hid (AQ6.out.below hB)
  have AS7 := Lib.hid (AS6.out.below hB)
  have AT7 := Lib.hid (AT6.out.below hB)
  have B7 := Lib.hid (wk_then B6.out hB B6.out.size)
  clear hB AA6 AB6 AX6 AY6 AP6 AQ6 AS6 AT6 B6
  go_wp2_with fail
  refine (E1.out _ _ _ _ _ AX7.out AY7.out).mono ?_
  rintro e w8 ⟨rfl, hB⟩
  have AA8 := Lib.hid (AA7.out.below hB)
  have AB8 := Lib.hid (AB7.out.below hB)
  have AX8 := Lib.hid (AX7.out.below hB)
  have AY8 := Lib.hid (AY7.out.below hB)
  have AP8 := Lib.hid (AP7.out.below hB)
  have AQ8 := Lib.hid (AQ7.out.below hB)
  have AS8 := Lib.hid (AS7.out.below hB)
  have AT8 := Lib.hid (AT7.out.below hB)
  have B8 := Lib.hid (wk_then B7.out hB B7.out.size)
  clear hB AA7 AB7 AX7 AY7 AP7 AQ7 AS7 AT7 B7
  go_wp2_with fail
  refine (E2.out _ _ _ _ _ AP8.out AQ8.out).mono ?_
  rintro e w9 ⟨rfl, hB⟩
  have AA9 := Lib.hid (AA8.out.below hB)
  have AB9 := Lib.hid (AB8.out.below hB)
  have AX9 := Lib.hid (AX8.out.below hB)
  have AY9 := Lib.hid (AY8.out.below hB)
  have AP9 := Lib.hid (AP8.out.below hB)
  have AQ9 := Lib.hid (AQ8.out.below hB)
  have AS9 := Lib.hid (AS8.out.below hB)
  have AT9 := Lib.hid (AT8.out.below hB)
  have B9 := Lib.hid (wk_then B8.out hB B8.out.size)
  clear hB AA8 AB8 AX8 AY8 AP8 AQ8 AS8 AT8 B8
  go_wp2_with fail
  refine (E3.out _ _ _ _ _ AS9.out AT9.out).mono ?_
  rintro e w10 ⟨rfl, hB⟩
  have AA10 := Lib.hid (AA9.out.below hB)
  have AB10 := Lib.hid (AB9.out.below hB)
  have AX10 := Lib.hid (AX9.out.below hB)
  have AY10 := Lib.hid (AY9.out.below hB)
  have AP10 := Lib.hid (AP9.out.below hB)
  have AQ10 := Lib.hid (AQ9.out.below hB)
  have AS10 := Lib.hid (AS9.out.below hB)
  have AT10 := Lib.hid (AT9.out.below hB)
  have B10 := Lib.hid (wk_then B9.out hB B9.out.size)
  clear hB AA9 AB9 AX9 AY9 AP9 AQ9 AS9 AT9 B9
  go_wp2_with fail
  go_ret
  exact ⟨rfl, B10.out⟩
end Go.Proofs.Ytmfbplemelodcaa
