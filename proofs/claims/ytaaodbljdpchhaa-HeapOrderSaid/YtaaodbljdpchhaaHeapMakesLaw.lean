
/-
  The walk of HeapMakes: whatever two lists of timers are, the law answers true. Condition: a list is of a size that a machine holds.
-/
import Derived.Test.YtaaodbljdpchhaaHpLives
namespace Go.Proofs.Ytaaodbljdpchhaa
open Go.RowKit Go.Lib Go.Sort Go.Shelf

theorem Hp.mk_ok (l : List (Int × Int × Int × Int)) : Hp.Ok (Hp.mkL l) ∧ Hp.srt (Hp.mkL l) = Hp.mkS l := by
  have h0 : Hp.Ok [] := ⟨by simp, List.nodup_nil, fun j hj => by simp at hj⟩
  unfold Hp.mkL Hp.mkS
  by_cases ht : Hp.tw l = true
  · rw [if_pos ht, if_pos ht]; exact ⟨h0, rfl⟩
  · rw [if_neg ht, if_neg ht]
    have hn := Hp.tw_false.1 (by simpa using ht : Hp.tw l = false)
    by_cases hl : 4096 < l.length
    · rw [if_pos hl, if_pos hl]; exact ⟨h0, rfl⟩
    · rw [if_neg hl, if_neg hl]
      exact ⟨Hp.ok_make hn (by omega), Hp.srt_eq (Hp.makeF_perm l) hn⟩
theorem Hp.mkS_len (l : List (Int × Int × Int × Int)) : (Hp.mkS l).length ≤ 4096 := by
  unfold Hp.mkS
  split
  · simp
  · split
    · simp
    · rw [Hp.srt_len]; omega
theorem Hp.soL_len (l : List (Int × Int × Int × Int)) : (Hp.soL l).length ≤ 4096 := by
  by_cases h : Hp.Ok l
  · rw [show Hp.soL l = Hp.srt l from if_pos h, Hp.srt_len]; exact h.1
  · rw [show Hp.soL l = [] from if_neg h]; simp
set_option maxHeartbeats 4000000 in
set_option maxRecDepth 100000 in
theorem heapMakes_law (l h : List (Int × Int × Int × Int)) (p q : Option Addr) (c d : Nat) (w : World) (hA : Hp.At w p l) (hB : Hp.At w q h) (hn : l.length ≤ 140737488351232) (hm : h.length ≤ 140737488351232) :
    Calls Try.prog 3 #[.slice p l.length c, .slice q h.length d] w fun e w' => e = .returned (.bool true) ∧ Below w.heap.size w w' := by
  have CL := Lib.hid hp_lives
  by_cases h1 : Hp.few l.length
  · by_cases h2 : Hp.few h.length
    · have hl1 : l.length ≤ 100000 := by unfold Hp.few at h1; omega
      have CM := Lib.hid (fun W (hA : Hp.At W p l) => hp_Make l p c W hA (by omega))
      have CR := Lib.hid (fun W (hA : Hp.At W p l) => ref_Make15 l p c W hA hl1)
      have CS := Lib.hid (fun W (hB : Hp.At W q h) => (hp_Sorted h q d W hB hm).mono fun _ _ h => h.got)
      have CT := Lib.hid (fun W (hB : Hp.At W q h) => ref_Sorted15 h q d W hB hm)
      have S1 := Lib.hid (fun W => hp_small l.length c p W h1)
      have S2 := Lib.hid (fun W => hp_small h.length d q W h2)
      have CI := Lib.hid (fun W a b n m hA hB => by have := ref_Is15 (Hp.mkL l) (Hp.mkS l) a b n m W hA hB (Hp.mk_ok l).1 (by have := Hp.mkS_len l; omega); rw [decide_eq_true (Hp.mk_ok l).2] at this; exact this)
      have CE := Lib.hid (fun W a b n m hA hB => hp_Same_self (Hp.soL h) a b n m W hA hB (by have := Hp.soL_len h; omega))
      generalize Hp.mkL l = ml at *
      generalize Hp.mkS l = ms at *
      generalize Hp.mkC l = mc at *
      generalize Hp.soL h = so at *
      generalize Hp.chk h = sc at *
      have A0 := Lib.hid hA
      have D0 := Lib.hid hB
      clear hA hB h1 h2 hl1 hn hm
      generalize l.length = n at *
      generalize h.length = m at *
      go_enter Try.func3, Try.ntmps3
      go_wp2_with fail
      refine (S1.out _).mono ?_
      rintro e w1 ⟨rfl, rfl⟩
      go_wp2_with fail
      refine (S2.out _).mono ?_
      rintro e w2 ⟨rfl, rfl⟩
      go_wp2_with fail
      refine (CM.out _ A0.out).mono ?_
      rintro e w3 ⟨p3, c3, rfl, hA, hb⟩
      have M3 := Lib.hid hA
      have A3 := Lib.hid (A0.out.below hb)
      have D3 := Lib.hid (D0.out.below hb)
      have B3 := Lib.hid hb
      clear hA hb
      go_wp2_with fail
      refine (CR.out _ A3.out).mono ?_
      rintro e w4 ⟨p4, c4, rfl, hA, hb⟩
      have R4 := Lib.hid hA
      have M4 := Lib.hid (M3.out.below hb)
      have D4 := Lib.hid (D3.out.below hb)
      have B4 := Lib.hid (hp_then B3.out hb B3.out.size)
      clear hA hb
      go_wp2_with fail
      refine (CS.out _ D4.out).mono ?_
      rintro e w5 ⟨p5, c5, rfl, hA, hb⟩
      have S5 := Lib.hid hA
      have R5 := Lib.hid (R4.out.below hb)
      have M5 := Lib.hid (M4.out.below hb)
      have D5 := Lib.hid (D4.out.below hb)
      have B5 := Lib.hid (hp_then B4.out hb B4.out.size)
      clear hA hb
      go_wp2_with fail
      refine (CT.out _ D5.out).mono ?_
      rintro e w6 ⟨p6, c6, rfl, hA, hb⟩
      have T6 := Lib.hid hA
      have S6 := Lib.hid (S5.out.below hb)
      have R6 := Lib.hid (R5.out.below hb)
      have M6 := Lib.hid (M5.out.below hb)
      have B6 := Lib.hid (hp_then B5.out hb B5.out.size)
      clear hA hb
      go_wp2_with fail
      refine (CL.out _).mono ?_
      rintro e w7 ⟨rfl, hb⟩
      have T7 := Lib.hid (T6.out.below hb)
      have S7 := Lib.hid (S6.out.below hb)
      have R7 := Lib.hid (R6.out.below hb)
      have M7 := Lib.hid (M6.out.below hb)
      have B7 := Lib.hid (hp_then B6.out hb B6.out.size)
      clear hb
      go_wp2_with fail
      refine (CI.out _ _ _ _ _ M7.out R7.out).mono ?_
      rintro e w8 ⟨rfl, hb⟩
      have T8 := Lib.hid (T7.out.below hb)
      have S8 := Lib.hid (S7.out.below hb)
      have B8 := Lib.hid (hp_then B7.out hb B7.out.size)
      clear hb
      go_wp2_with fail
      refine (CE.out _ _ _ _ _ S8.out T8.out).mono ?_
      rintro e w9 ⟨rfl, hb⟩
      have B9 := Lib.hid (hp_then B8.out hb B8.out.size)
      clear hb
      go_wp2_with fail
      go_ret
      exact ⟨rfl, B9.out⟩
    · have S1 := Lib.hid (fun W => hp_small l.length c p W h1)
      have S2 := Lib.hid (fun W => hp_large h.length d q W h2)
      clear hA hB h1 h2 hn hm
      generalize l.length = n at *
      generalize h.length = m at *
      go_enter Try.func3, Try.ntmps3
      go_wp2_with fail
      refine (S1.out _).mono ?_
      rintro e w1 ⟨rfl, rfl⟩
      go_wp2_with fail
      refine (S2.out _).mono ?_
      rintro e w2 ⟨rfl, rfl⟩
      go_wp2_with fail
      refine (CL.out _).mono ?_
      rintro e w3 ⟨rfl, hb⟩
      have B3 := Lib.hid hb
      clear hb
      go_wp2_with fail
      go_ret
      exact ⟨rfl, B3.out⟩
  · have S1 := Lib.hid (fun W => hp_large l.length c p W h1)
    clear hA hB h1 hn hm
    generalize l.length = n at *
    generalize h.length = m at *
    go_enter Try.func3, Try.ntmps3
    go_wp2_with fail
    refine (S1.out _).mono ?_
    rintro e w1 ⟨rfl, rfl⟩
    go_wp2_with fail
    refine (CL.out _).mono ?_
    rintro e w3 ⟨rfl, hb⟩
    have B3 := Lib.hid hb
    clear hb
    go_wp2_with fail
    go_ret
    exact ⟨rfl, B3.out⟩
end Go.Proofs.Ytaaodbljdpchhaa
