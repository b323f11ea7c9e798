/-
  The walk of DueMoves: whatever timers, numbers, a time, a kind and a reference are, the law answers true. Condition: a list is of a size that a machine holds.
-/
import Derived.Test.YtaaodbljdpchhaaDuRefMove
import Derived.Test.YtaaodbljdpchhaaDueClearedLaw
namespace Go.Proofs.Ytaaodbljdpchhaa
open Go.RowKit Go.Lib Go.Sort Go.Shelf

theorem Du.set_perm {α : Type} : ∀ {l : List α} {i : Nat} (_ : i < l.length) (a : α), (l.set i a).Perm (a :: l.eraseIdx i)
  | _ :: _, 0, _, _ => List.Perm.refl _
  | x :: l, i + 1, h, a => ((Du.set_perm (l := l) (i := i) (by simpa using h) a).cons x).trans (List.Perm.swap a x _)
theorem Du.nil_ok : Hp.Ok [] := ⟨by simp, List.nodup_nil, fun j hj => by simp at hj⟩
/-- Move's answer is the document's. -/
theorem Du.moved (l : List (Int × Int × Int × Int)) (s d : Int) : Hp.Ok (Du.moL l s d) ∧ Hp.srt (Du.moL l s d) = Du.mvL (Hp.soL l) (Hp.chk l) s d ∧ Du.moC l s d = Du.mvC (Hp.soL l) (Hp.chk l) s := by
  by_cases hok : Hp.Ok l
  · have hS : Hp.soL l = Hp.srt l := if_pos hok
    have hn : (Hp.sq (Hp.srt l)).Nodup := Hp.sq_nodup (Hp.srt_perm l) hok.2.1
    have hiff : Hp.idx (Hp.srt l) s < (Hp.srt l).length ↔ Hp.idx l s < l.length := by
      rw [Hp.idx_iff, Hp.idx_iff]
      exact (Hp.sq_perm (Hp.srt_perm l)).mem_iff
    rw [hS, Hp.chk_ok hok]
    have hcc : Hp.caC l s = if Hp.idx l s < l.length then 0 else 3 := if_pos hok
    by_cases hi : Hp.idx l s < l.length
    · rw [if_pos hi] at hcc
      have hL : Hp.caL l s = Hp.woF l (Hp.idx l s) := if_pos hcc
      have hT : Hp.caT l s = Hp.g l (Hp.idx l s) := if_pos hcc
      have ht : (Hp.g l (Hp.idx l s)).2.1 = s := Hp.idx_get hi
      have hw := Hp.wo_sq hok.2.1 hi
      have hwo := Hp.ok_wo hok hi
      have hwp := Hp.wo_perm l (Hp.idx l s) hi
      have hwl := hwp.length_eq
      simp only [List.length_cons] at hwl
      have hl4 := hok.1
      have hj := hiff.2 hi
      have hmem : Hp.g l (Hp.idx l s) ∈ Hp.srt l := (Hp.srt_perm l).mem_iff.2 (hwp.mem_iff.1 List.mem_cons_self)
      have hid := Hp.idx_of hn hmem
      rw [ht] at hid
      have hgS := hid.2
      generalize Hp.g l (Hp.idx l s) = t at *
      generalize Hp.woF l (Hp.idx l s) = W at *
      have hni : (d, t.2.1, t.2.2.1, t.2.2.2).2.1 ∉ Hp.sq W := hw.2
      have hpc : Hp.puC W (d, t.2.1, t.2.2.1, t.2.2.2).2.1 = 0 := (show Hp.puC W (d, t.2.1, t.2.2.1, t.2.2.2).2.1 = if 0 ≤ Hp.plc W (d, t.2.1, t.2.2.1, t.2.2.2).2.1 then 4 else if W.length = 4096 then 8 else 0 from if_pos hwo).trans ((if_neg (by have := Hp.plc_neg.2 hni; omega)).trans (if_neg (by omega)))
      have hpl : Hp.puL W (d, t.2.1, t.2.2.1, t.2.2.2) = Hp.pushF W (d, t.2.1, t.2.2.1, t.2.2.2) := if_pos hpc
      have hmo : Du.moL l s d = Hp.pushF W (d, t.2.1, t.2.2.1, t.2.2.2) := by
        unfold Du.moL Du.moT
        rw [if_pos hcc, hL, hT, hpl]
      have hmc : Du.moC l s d = 0 := by
        unfold Du.moC Du.moT
        rw [if_pos hcc, hL, hT, hpc]
      have hmv : Du.mvL (Hp.srt l) 0 s d = Hp.srt ((Hp.srt l).set (Hp.idx (Hp.srt l) s) (d, t.2.1, t.2.2.1, t.2.2.2)) := by
        unfold Du.mvL
        rw [if_neg (by simp), if_pos hj, hgS]
      have hmvc : Du.mvC (Hp.srt l) 0 s = 0 := by
        unfold Du.mvC
        rw [if_neg (by simp), if_pos hj]
      have hop := Hp.ok_push (t := (d, t.2.1, t.2.2.1, t.2.2.2)) hwo (by omega) hni
      rw [hmo, hmc, hmv, hmvc]
      refine ⟨hop, ?_, rfl⟩
      have hgj : (Hp.srt l)[Hp.idx (Hp.srt l) s] = t := by rw [← Hp.g_eq _ _ hj]; exact hgS
      have p1 := Du.set_perm hj (Hp.srt l)[Hp.idx (Hp.srt l) s]
      rw [List.set_getElem_self, hgj] at p1
      have p2 : W.Perm ((Hp.srt l).eraseIdx (Hp.idx (Hp.srt l) s)) := List.Perm.cons_inv (hwp.trans ((Hp.srt_perm l).symm.trans p1))
      have p3 := Du.set_perm hj (d, t.2.1, t.2.2.1, t.2.2.2)
      exact (Hp.srt_eq (p3.trans ((p2.cons _).symm.trans (Hp.pushF_perm W _).symm)) hop.2.1).symm
    · rw [if_neg hi] at hcc
      have hL : Hp.caL l s = l := (if_neg (by rw [hcc]; decide)).trans (if_neg (by rw [hcc]; decide))
      have hmo : Du.moL l s d = l := (if_neg (by rw [hcc]; decide)).trans hL
      have hmc : Du.moC l s d = 3 := (if_neg (by rw [hcc]; decide)).trans hcc
      have hj : ¬ Hp.idx (Hp.srt l) s < (Hp.srt l).length := fun h => hi (hiff.1 h)
      have hmv : Du.mvL (Hp.srt l) 0 s d = Hp.srt l := by
        unfold Du.mvL
        rw [if_neg (by simp), if_neg hj]
      have hmvc : Du.mvC (Hp.srt l) 0 s = 3 := by
        unfold Du.mvC
        rw [if_neg (by simp), if_neg hj]
      rw [hmo, hmc, hmv, hmvc]
      exact ⟨hok, rfl, rfl⟩
  · have hcc : Hp.caC l s = 2 := if_neg hok
    have hL : Hp.caL l s = [] := (if_neg (by rw [hcc]; decide)).trans (if_pos hcc)
    have hmo : Du.moL l s d = [] := (if_neg (by rw [hcc]; decide)).trans hL
    have hmc : Du.moC l s d = 2 := (if_neg (by rw [hcc]; decide)).trans hcc
    rw [hmo, hmc, Hp.chk_bad hok]
    exact ⟨Du.nil_ok, rfl, rfl⟩
theorem Du.some_ok (l : List (Int × Int × Int × Int)) (P : (Int × Int × Int × Int) → Bool) : Hp.Ok ((Hp.soL l).filter P) ∧ Hp.srt ((Hp.soL l).filter P) = (Hp.soL l).filter P := by
  by_cases h : Hp.Ok l
  · rw [show Hp.soL l = Hp.srt l from if_pos h]
    exact Du.list_ok h List.filter_sublist
  · rw [show Hp.soL l = [] from if_neg h]
    exact ⟨Du.nil_ok, rfl⟩
set_option maxHeartbeats 4000000 in
set_option maxRecDepth 100000 in
theorem dueMoves_law (l : List (Int × Int × Int × Int)) (s d k r : Int) (p : Option Addr) (c : Nat) (w : World) (hA : Hp.At w p l) (hn : l.length ≤ 140737488351232) :
    Calls Try.prog 8 #[.slice p l.length c, .int .i64 s, .int .i64 d, .int .u8 k, .int .i64 r] w fun e w' => e = .returned (.bool true) ∧ Below w.heap.size w w' := by
  have CL := Lib.hid du_lives
  have A0 := Lib.hid hA
  by_cases hl : l.length ≤ 100
  · have C1 := Lib.hid (fun W (h : Hp.At W p l) => due_Move l s d p c W h hn)
    have C2 := Lib.hid (fun W (h : Hp.At W p l) => ref_Move16 l s d p c W h hn)
    have C3 := Lib.hid (fun W (h : Hp.At W p l) => due_Of l k r p c W h hn)
    have C4 := Lib.hid (fun W (h : Hp.At W p l) => ref_Of16 l k r p c W h hn)
    have C5 := Lib.hid (fun W (h : Hp.At W p l) => due_Clear l k r p c W h hn)
    have C6 := Lib.hid (fun W (h : Hp.At W p l) => ref_Clear16 l k r p c W h hn)
    obtain ⟨okM, srM, cM⟩ := Du.moved l s d
    rw [← srM, ← cM] at C2
    obtain ⟨okF, srF⟩ := Du.some_ok l (fun x => !Du.is k r x)
    have hDl : ((Hp.soL l).filter (Du.is k r)).length ≤ 140737488351232 := by have := List.length_filter_le (Du.is k r) (Hp.soL l); have := @Du.soL_le l; omega
    have C7 := Lib.hid (fun q1 q2 d1 d2 W hA hB => ref_Is15 (Du.moL l s d) (Hp.srt (Du.moL l s d)) q1 q2 d1 d2 W hA hB okM (by rw [Hp.srt_len]; have := okM.1; omega))
    rw [decide_eq_true rfl] at C7
    have C8 := Lib.hid (fun q1 q2 d1 d2 W hA hB => hp_Same_self ((Hp.soL l).filter (Du.is k r)) q1 q2 d1 d2 W hA hB hDl)
    have C9 := Lib.hid (fun q1 q2 d1 d2 W hA hB => ref_Is15 ((Hp.soL l).filter (fun x => !Du.is k r x)) ((Hp.soL l).filter (fun x => !Du.is k r x)) q1 q2 d1 d2 W hA hB okF (by have := okF.1; omega))
    rw [srF, decide_eq_true rfl] at C9
    clear okM srM cM okF srF hDl
    rw [Du.parts] at C5 C6
    generalize List.filter (fun x => !Du.is k r x) (Hp.soL l) = F at *
    generalize List.filter (Du.is k r) (Hp.soL l) = D at *
    generalize Hp.chk l = z at *
    generalize Hp.srt (Du.moL l s d) = N at *
    generalize Du.moL l s d = M at *
    generalize Du.moC l s d = Z at *
    clear hA hn
    generalize l.length = n at *
    have q1 : ¬ (100 : Int) < (n : Int) := by omega
    clear hl
    go_enter Try.func8, Try.ntmps8
    go_wp2_with fail
    refine (C1.out _ A0.out).mono ?_
    rintro e w1 ⟨p1, c1, rfl, hA, hb⟩
    have A1 := Lib.hid (A0.out.below hb)
    have B1 := Lib.hid hb
    have M1 := Lib.hid hA
    clear hb hA A0
    go_wp2_with fail
    refine (C2.out _ A1.out).mono ?_
    rintro e w2 ⟨p2, c2, rfl, hA, hb⟩
    have A2 := Lib.hid (A1.out.below hb)
    have M2 := Lib.hid (M1.out.below hb)
    have B2 := Lib.hid (hp_then B1.out hb B1.out.size)
    have N2 := Lib.hid hA
    clear hb hA A1 M1 B1
    go_wp2_with fail
    refine (C3.out _ A2.out).mono ?_
    rintro e w3 ⟨p3, c3, rfl, hA, hb⟩
    have A3 := Lib.hid (A2.out.below hb)
    have M3 := Lib.hid (M2.out.below hb)
    have N3 := Lib.hid (N2.out.below hb)
    have B3 := Lib.hid (hp_then B2.out hb B2.out.size)
    have D3 := Lib.hid hA
    clear hb hA A2 M2 N2 B2
    go_wp2_with fail
    refine (C4.out _ A3.out).mono ?_
    rintro e w4 ⟨p4, c4, rfl, hA, hb⟩
    have A4 := Lib.hid (A3.out.below hb)
    have M4 := Lib.hid (M3.out.below hb)
    have N4 := Lib.hid (N3.out.below hb)
    have D4 := Lib.hid (D3.out.below hb)
    have B4 := Lib.hid (hp_then B3.out hb B3.out.size)
    have E4 := Lib.hid hA
    clear hb hA A3 M3 N3 D3 B3
    go_wp2_with fail
    refine (C5.out _ A4.out).mono ?_
    rintro e w5 ⟨p5, c5, rfl, hA, hb⟩
    have A5 := Lib.hid (A4.out.below hb)
    have M5 := Lib.hid (M4.out.below hb)
    have N5 := Lib.hid (N4.out.below hb)
    have D5 := Lib.hid (D4.out.below hb)
    have E5 := Lib.hid (E4.out.below hb)
    have B5 := Lib.hid (hp_then B4.out hb B4.out.size)
    have F5 := Lib.hid hA
    clear hb hA A4 M4 N4 D4 E4 B4
    go_wp2_with fail
    refine (C6.out _ A5.out).mono ?_
    rintro e w6 ⟨p6, c6, rfl, hA, hb⟩
    have A6 := Lib.hid (A5.out.below hb)
    have M6 := Lib.hid (M5.out.below hb)
    have N6 := Lib.hid (N5.out.below hb)
    have D6 := Lib.hid (D5.out.below hb)
    have E6 := Lib.hid (E5.out.below hb)
    have F6 := Lib.hid (F5.out.below hb)
    have B6 := Lib.hid (hp_then B5.out hb B5.out.size)
    have G6 := Lib.hid hA
    clear hb hA A5 M5 N5 D5 E5 F5 B5
    go_wp2_with fail
    refine (CL.out _).mono ?_
    rintro e w7 ⟨rfl, hb⟩
    have A7 := Lib.hid (A6.out.below hb)
    have M7 := Lib.hid (M6.out.below hb)
    have N7 := Lib.hid (N6.out.below hb)
    have D7 := Lib.hid (D6.out.below hb)
    have E7 := Lib.hid (E6.out.below hb)
    have F7 := Lib.hid (F6.out.below hb)
    have G7 := Lib.hid (G6.out.below hb)
    have B7 := Lib.hid (hp_then B6.out hb B6.out.size)
    clear hb A6 M6 N6 D6 E6 F6 G6 B6
    go_wp2_with fail
    refine (C7.out _ _ _ _ _ M7.out N7.out).mono ?_
    rintro e w8 ⟨rfl, hb⟩
    have A8 := Lib.hid (A7.out.below hb)
    have M8 := Lib.hid (M7.out.below hb)
    have N8 := Lib.hid (N7.out.below hb)
    have D8 := Lib.hid (D7.out.below hb)
    have E8 := Lib.hid (E7.out.below hb)
    have F8 := Lib.hid (F7.out.below hb)
    have G8 := Lib.hid (G7.out.below hb)
    have B8 := Lib.hid (hp_then B7.out hb B7.out.size)
    clear hb A7 M7 N7 D7 E7 F7 G7 B7
    go_wp2_with fail
    refine (C8.out _ _ _ _ _ D8.out E8.out).mono ?_
    rintro e w9 ⟨rfl, hb⟩
    have A9 := Lib.hid (A8.out.below hb)
    have M9 := Lib.hid (M8.out.below hb)
    have N9 := Lib.hid (N8.out.below hb)
    have D9 := Lib.hid (D8.out.below hb)
    have E9 := Lib.hid (E8.out.below hb)
    have F9 := Lib.hid (F8.out.below hb)
    have G9 := Lib.hid (G8.out.below hb)
    have B9 := Lib.hid (hp_then B8.out hb B8.out.size)
    clear hb A8 M8 N8 D8 E8 F8 G8 B8
    go_wp2_with fail
    refine (C9.out _ _ _ _ _ F9.out G9.out).mono ?_
    rintro e w10 ⟨rfl, hb⟩
    have A10 := Lib.hid (A9.out.below hb)
    have M10 := Lib.hid (M9.out.below hb)
    have N10 := Lib.hid (N9.out.below hb)
    have D10 := Lib.hid (D9.out.below hb)
    have E10 := Lib.hid (E9.out.below hb)
    have F10 := Lib.hid (F9.out.below hb)
    have G10 := Lib.hid (G9.out.below hb)
    have B10 := Lib.hid (hp_then B9.out hb B9.out.size)
    clear hb A9 M9 N9 D9 E9 F9 G9 B9
    go_wp2_with fail
    go_ret
    exact ⟨rfl, B10.out⟩
  · clear hA hn
    generalize l.length = n at *
    have q1 : (100 : Int) < (n : Int) := by omega
    clear hl
    go_enter Try.func8, Try.ntmps8
    go_wp2_with fail
    refine (CL.out _).mono ?_
    rintro e w1 ⟨rfl, hb⟩
    have B1 := Lib.hid hb
    clear hb
    go_wp2_with fail
    go_ret
    exact ⟨rfl, B1.out⟩
end Go.Proofs.Ytaaodbljdpchhaa
