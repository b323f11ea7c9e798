/-
  The walk of DueCleared: whatever timers, kinds and a reference are, the law answers true. Condition: a list is of a size that a machine holds.
-/
import Derived.Test.YtaaodbljdpchhaaDuLives
namespace Go.Proofs.Ytaaodbljdpchhaa
open Go.RowKit Go.Lib Go.Sort Go.Shelf

theorem Du.sub_ok {l : List (Int × Int × Int × Int)} (h : Hp.Ok l) (P : (Int × Int × Int × Int) → Bool) : Hp.Ok ((Hp.srt l).filter P) ∧ Hp.srt ((Hp.srt l).filter P) = (Hp.srt l).filter P := by
  have ha : Hp.Asc ((Hp.srt l).filter P) := List.Pairwise.sublist List.filter_sublist (Hp.srt_asc h.2.1)
  have hn : (Hp.sq ((Hp.srt l).filter P)).Nodup := List.Nodup.sublist (List.filter_sublist.map _) (Hp.sq_nodup (Hp.srt_perm l) h.2.1)
  have hl : ((Hp.srt l).filter P).length ≤ 4096 := Nat.le_trans (List.length_filter_le _ _) (by rw [Hp.srt_len]; exact h.1)
  exact ⟨Hp.ok_asc ha hn hl, Hp.asc_self ha hn⟩
theorem Du.parts (S : List (Int × Int × Int × Int)) (P : (Int × Int × Int × Int) → Bool) : (S.length : Int) - ((S.filter (fun x => !P x)).length : Int) = ((S.filter P).length : Int) := by
  induction S with
  | nil => rfl
  | cons x S ih =>
    cases h : P x
    · rw [List.filter_cons_of_pos (by simp [h]), List.filter_cons_of_neg (by simp [h])]
      simp only [List.length_cons]
      omega
    · rw [List.filter_cons_of_neg (by simp [h]), List.filter_cons_of_pos (by simp [h])]
      simp only [List.length_cons]
      omega
theorem Du.again (S : List (Int × Int × Int × Int)) (P : (Int × Int × Int × Int) → Bool) : (S.filter (fun x => !P x)).filter P = [] := by
  rw [List.filter_filter, List.filter_eq_nil_iff]
  intro x _
  simp
theorem Du.other (S : List (Int × Int × Int × Int)) {k o r : Int} (h : o ≠ k) : (S.filter (fun x => !Du.is k r x)).filter (Du.is o r) = S.filter (Du.is o r) := by
  rw [List.filter_filter]
  refine List.filter_congr fun x _ => ?_
  unfold Du.is
  by_cases e : x.2.2.1 = o
  · simp [e, h]
  · simp [e]
set_option maxHeartbeats 4000000 in
set_option maxRecDepth 100000 in
theorem dueCleared_law (l : List (Int × Int × Int × Int)) (k o r : Int) (p : Option Addr) (c : Nat) (w : World) (hA : Hp.At w p l) (hn : l.length ≤ 140737488351232) :
    Calls Try.prog 11 #[.slice p l.length c, .int .u8 k, .int .u8 o, .int .i64 r] w fun e w' => e = .returned (.bool true) ∧ Below w.heap.size w w' := by
  have CL := Lib.hid du_lives
  have A0 := Lib.hid hA
  have C1 := Lib.hid (fun W (h : Hp.At W p l) => due_Of l k r p c W h hn)
  have C2 := Lib.hid (fun W (h : Hp.At W p l) => due_Clear l k r p c W h hn)
  rw [Du.parts] at C2
  by_cases hz : Hp.chk l = 0
  · have hok := Hp.chk_iff.1 hz
    have hS : Hp.soL l = Hp.srt l := if_pos hok
    have C4 := Lib.hid (fun W (h : Hp.At W p l) => due_Of l o r p c W h hn)
    rw [hz, hS] at C1 C2 C4
    obtain ⟨okF, srF⟩ := Du.sub_ok hok (fun x => !Du.is k r x)
    have hF0 := Hp.chk_ok okF
    have hFS : Hp.soL ((Hp.srt l).filter (fun x => !Du.is k r x)) = (Hp.srt l).filter (fun x => !Du.is k r x) := (if_pos okF).trans srF
    have hFl : ((Hp.srt l).filter (fun x => !Du.is k r x)).length ≤ 140737488351232 := by have := okF.1; omega
    have C3 := Lib.hid (fun W q d (h : Hp.At W q ((Hp.srt l).filter (fun x => !Du.is k r x))) => due_Of _ k r q d W h hFl)
    have C5 := Lib.hid (fun W q d (h : Hp.At W q ((Hp.srt l).filter (fun x => !Du.is k r x))) => due_Of _ o r q d W h hFl)
    have CK := Lib.hid (fun W q d (h : Hp.At W q ((Hp.srt l).filter (fun x => !Du.is k r x))) => hp_Check _ q d W h hFl)
    rw [hF0] at C3 C5 CK
    rw [hFS] at C3 C5
    rw [Du.again] at C3
    have hAl : ((Hp.srt l).filter (Du.is o r)).length ≤ 140737488351232 := by
      have := List.length_filter_le (Du.is o r) (Hp.srt l)
      rw [Hp.srt_len] at this
      omega
    have HO := Lib.hid (fun h : o ≠ k => Du.other (Hp.srt l) (r := r) h)
    have CS := Lib.hid (fun a b n m W hA hB => hp_Same_self ((Hp.srt l).filter (Du.is o r)) a b n m W hA hB hAl)
    generalize List.filter (Du.is o r) (List.filter (fun x => !Du.is k r x) (Hp.srt l)) = B at *
    generalize List.filter (fun x => !Du.is k r x) (Hp.srt l) = F at *
    generalize List.filter (Du.is o r) (Hp.srt l) = A at *
    generalize List.filter (Du.is k r) (Hp.srt l) = D at *
    clear hz hok hS okF srF hF0 hFS hFl hAl hA hn
    generalize l.length = n at *
    by_cases hko : o = k
    · subst hko
      clear HO
      go_enter Try.func11, Try.ntmps11
      go_wp2_with fail
      refine (CL.out _).mono ?_
      rintro e w1 ⟨rfl, hb⟩
      have A1 := Lib.hid (A0.out.below hb)
      have B1 := Lib.hid hb
      clear hb
      go_wp2_with fail
      refine (C1.out _ A1.out).mono ?_
      rintro e w2 ⟨p2, c2, rfl, hA, hb⟩
      have A2 := Lib.hid (A1.out.below hb)
      have B2 := Lib.hid (hp_then B1.out hb B1.out.size)
      clear hA hb
      go_wp2_with fail
      refine (C2.out _ A2.out).mono ?_
      rintro e w3 ⟨p3, c3, rfl, hA, hb⟩
      have F3 := Lib.hid hA
      have A3 := Lib.hid (A2.out.below hb)
      have B3 := Lib.hid (hp_then B2.out hb B2.out.size)
      clear hA hb
      go_wp2_with fail
      refine (C3.out _ _ _ F3.out).mono ?_
      rintro e w4 ⟨p4, c4, rfl, hA, hb⟩
      have F4 := Lib.hid (F3.out.below hb)
      have A4 := Lib.hid (A3.out.below hb)
      have B4 := Lib.hid (hp_then B3.out hb B3.out.size)
      clear hA hb
      go_wp2_with fail
      refine (C4.out _ A4.out).mono ?_
      rintro e w5 ⟨p5, c5, rfl, hA, hb⟩
      have F5 := Lib.hid (F4.out.below hb)
      have B5 := Lib.hid (hp_then B4.out hb B4.out.size)
      clear hA hb
      go_wp2_with fail
      refine (C5.out _ _ _ F5.out).mono ?_
      rintro e w6 ⟨p6, c6, rfl, hA, hb⟩
      have F6 := Lib.hid (F5.out.below hb)
      have B6 := Lib.hid (hp_then B5.out hb B5.out.size)
      clear hA hb
      go_wp2_with fail
      refine (CK.out _ _ _ F6.out).mono ?_
      rintro e w7 ⟨rfl, hb⟩
      have B7 := Lib.hid (hp_then B6.out hb B6.out.size)
      clear hb
      go_wp2_with fail
      go_ret
      exact ⟨rfl, B7.out⟩
    · have hBA := HO.out hko
      have q1 : (o == k) = false := by simpa using hko
      rw [hBA] at C5
      clear HO hBA hko
      go_enter Try.func11, Try.ntmps11
      go_wp2_with fail
      refine (CL.out _).mono ?_
      rintro e w1 ⟨rfl, hb⟩
      have A1 := Lib.hid (A0.out.below hb)
      have B1 := Lib.hid hb
      clear hb
      go_wp2_with fail
      refine (C1.out _ A1.out).mono ?_
      rintro e w2 ⟨p2, c2, rfl, hA, hb⟩
      have A2 := Lib.hid (A1.out.below hb)
      have B2 := Lib.hid (hp_then B1.out hb B1.out.size)
      clear hA hb
      go_wp2_with fail
      refine (C2.out _ A2.out).mono ?_
      rintro e w3 ⟨p3, c3, rfl, hA, hb⟩
      have F3 := Lib.hid hA
      have A3 := Lib.hid (A2.out.below hb)
      have B3 := Lib.hid (hp_then B2.out hb B2.out.size)
      clear hA hb
      go_wp2_with fail
      refine (C3.out _ _ _ F3.out).mono ?_
      rintro e w4 ⟨p4, c4, rfl, hA, hb⟩
      have F4 := Lib.hid (F3.out.below hb)
      have A4 := Lib.hid (A3.out.below hb)
      have B4 := Lib.hid (hp_then B3.out hb B3.out.size)
      clear hA hb
      go_wp2_with fail
      refine (C4.out _ A4.out).mono ?_
      rintro e w5 ⟨p5, c5, rfl, hA, hb⟩
      have X5 := Lib.hid hA
      have F5 := Lib.hid (F4.out.below hb)
      have B5 := Lib.hid (hp_then B4.out hb B4.out.size)
      clear hA hb
      go_wp2_with fail
      refine (C5.out _ _ _ F5.out).mono ?_
      rintro e w6 ⟨p6, c6, rfl, hA, hb⟩
      have Y6 := Lib.hid hA
      have X6 := Lib.hid (X5.out.below hb)
      have F6 := Lib.hid (F5.out.below hb)
      have B6 := Lib.hid (hp_then B5.out hb B5.out.size)
      clear hA hb
      go_wp2_with fail
      refine (CS.out _ _ _ _ _ X6.out Y6.out).mono ?_
      rintro e w7 ⟨rfl, hb⟩
      have F7 := Lib.hid (F6.out.below hb)
      have B7 := Lib.hid (hp_then B6.out hb B6.out.size)
      clear hb
      go_wp2_with fail
      refine (CK.out _ _ _ F7.out).mono ?_
      rintro e w8 ⟨rfl, hb⟩
      have B8 := Lib.hid (hp_then B7.out hb B7.out.size)
      clear hb
      go_wp2_with fail
      go_ret
      exact ⟨rfl, B8.out⟩
  · have q1 : (Hp.chk l == 0) = false := by simpa using hz
    have q2 : (Hp.chk l != 0) = true := by simpa using hz
    generalize List.filter (fun x => !Du.is k r x) (Hp.soL l) = F at *
    generalize List.filter (Du.is k r) (Hp.soL l) = D at *
    generalize Hp.chk l = z at *
    clear hz hA hn
    generalize l.length = n at *
    go_enter Try.func11, Try.ntmps11
    go_wp2_with fail
    refine (CL.out _).mono ?_
    rintro e w1 ⟨rfl, hb⟩
    have A1 := Lib.hid (A0.out.below hb)
    have B1 := Lib.hid hb
    clear hb
    go_wp2_with fail
    refine (C1.out _ A1.out).mono ?_
    rintro e w2 ⟨p2, c2, rfl, hA, hb⟩
    have A2 := Lib.hid (A1.out.below hb)
    have B2 := Lib.hid (hp_then B1.out hb B1.out.size)
    clear hA hb
    go_wp2_with fail
    refine (C2.out _ A2.out).mono ?_
    rintro e w3 ⟨p3, c3, rfl, hA, hb⟩
    have B3 := Lib.hid (hp_then B2.out hb B2.out.size)
    clear hA hb
    go_wp2_with fail
    go_ret
    exact ⟨rfl, B3.out⟩
end Go.Proofs.Ytaaodbljdpchhaa
