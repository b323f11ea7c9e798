/-
  The walk of DuePieces: whatever timers and times are, the law answers true. Condition: a list is of a size that a machine holds.
-/
import Derived.Test.YtaaodbljdpchhaaDuLives
namespace Go.Proofs.Ytaaodbljdpchhaa
open Go.RowKit Go.Lib Go.Sort Go.Shelf

theorem Du.list_ok {l T : List (Int × Int × Int × Int)} (h : Hp.Ok l) (hT : T.Sublist (Hp.srt l)) : Hp.Ok T ∧ Hp.srt T = T := by
  have ha : Hp.Asc T := List.Pairwise.sublist hT (Hp.srt_asc h.2.1)
  have hn : (Hp.sq T).Nodup := List.Nodup.sublist (hT.map _) (Hp.sq_nodup (Hp.srt_perm l) h.2.1)
  have hl : T.length ≤ 4096 := Nat.le_trans hT.length_le (by rw [Hp.srt_len]; exact h.1)
  exact ⟨Hp.ok_asc ha hn hl, Hp.asc_self ha hn⟩
theorem Du.pieces (a b : Int) (hab : a ≤ b) : ∀ S : List (Int × Int × Int × Int), Du.due S a ++ Du.due (S.drop (Du.due S a).length) b = Du.due S b ∧ (S.drop (Du.due S a).length).drop (Du.due (S.drop (Du.due S a).length) b).length = S.drop (Du.due S b).length
  | [] => ⟨rfl, rfl⟩
  | x :: S => by
    have ih := Du.pieces a b hab S
    unfold Du.due at ih ⊢
    by_cases h : x.1 ≤ a
    · have h2 : x.1 ≤ b := by omega
      rw [List.takeWhile_cons_of_pos (by simpa using h), List.takeWhile_cons_of_pos (p := fun x : Int × Int × Int × Int => decide (x.1 ≤ b)) (by simpa using h2)]
      simp only [List.length_cons, List.drop_succ_cons, List.cons_append]
      exact ⟨by rw [ih.1], ih.2⟩
    · rw [List.takeWhile_cons_of_neg (by simpa using h)]
      exact ⟨rfl, rfl⟩
/-- append of timers as an operation that is wanted. -/
theorem Du.listG {ops : Array Oper} {rest : List Oper} {o : Oper} {a : Act} {w : World} {Q : Exit → Act → World → Prop} (hw : Region.wanted o (yielded ops a.tmps) = true) (s x : Operand) (hop : o.op = Op.call { callee := Callee.builtin Builtin.append, args := #[s, x], argTypes := #[22, 22] })
    (l m : List (Int × Int × Int × Int)) (v : Value) (q : Option Addr) (n c : Nat) (base : Nat) (hs : a.eval s = v) (hx : a.eval x = .slice q n c)
    (hO : Hp.Own w base v l) (hA : Hp.At w q m) (hn : n = m.length) (hl : l.length ≤ 1000000) (hm : m.length ≤ 1000000) (hb : base ≤ w.heap.size)
    (h : ∀ v' w', Hp.Own w' base v' (l ++ m) → w.grownBy w' v.ownBlock → wpList Try.prog ops Q rest (a.put o.dst v') w') : wpList Try.prog ops Q (o :: rest) a w := by
  obtain ⟨v', w', hr, h2, h3, _⟩ := Hp.append l m v q n c base o.type w hO hA hn hl hm hb
  refine wpList_step fun K hK => ?_
  rw [if_pos hw]
  unfold Oper.wp
  simp [execOp, hop, resolve, invoke, builtin, hs, hx, hr, Result.andThen]
  exact hK _ _ (h v' w' h2 h3)
set_option maxHeartbeats 4000000 in
set_option maxRecDepth 100000 in
theorem duePieces_law (l : List (Int × Int × Int × Int)) (a b : Int) (p : Option Addr) (c : Nat) (w : World) (hA : Hp.At w p l) (hn : l.length ≤ 140737488351232) :
    Calls Try.prog 9 #[.slice p l.length c, .int .i64 a, .int .i64 b] w fun e w' => e = .returned (.bool true) ∧ Below w.heap.size w w' := by
  have CL := Lib.hid du_lives
  have A0 := Lib.hid hA
  by_cases hl : l.length ≤ 200
  · by_cases hab : a ≤ b
    · have C1 := Lib.hid (fun W (h : Hp.At W p l) => due_Drain l a p c W h hn)
      have C3 := Lib.hid (fun W (h : Hp.At W p l) => due_Drain l b p c W h hn)
      have q1 : ¬ b < a := by omega
      by_cases hz : Hp.chk l = 0
      · have hok := Hp.chk_iff.1 hz
        have hS : Hp.soL l = Hp.srt l := if_pos hok
        rw [hz, hS] at C1 C3
        obtain ⟨hp1, hp2⟩ := Du.pieces a b hab (Hp.srt l)
        obtain ⟨okX, srX⟩ := Du.list_ok hok (List.drop_sublist (Du.due (Hp.srt l) a).length (Hp.srt l))
        obtain ⟨okZ, srZ⟩ := Du.list_ok hok (List.drop_sublist (Du.due (Hp.srt l) b).length (Hp.srt l))
        have hXl : (List.drop (Du.due (Hp.srt l) a).length (Hp.srt l)).length ≤ 140737488351232 := by have := okX.1; omega
        have C2 := Lib.hid (fun W q d (h : Hp.At W q (List.drop (Du.due (Hp.srt l) a).length (Hp.srt l))) => due_Drain _ b q d W h hXl)
        have hXs : Hp.soL (List.drop (Du.due (Hp.srt l) a).length (Hp.srt l)) = List.drop (Du.due (Hp.srt l) a).length (Hp.srt l) := (if_pos okX).trans srX
        rw [Hp.chk_ok okX, hXs, hp2] at C2
        have hZl : (List.drop (Du.due (Hp.srt l) b).length (Hp.srt l)).length ≤ 140737488351232 := by have := okZ.1; omega
        have hZs : Hp.soL (List.drop (Du.due (Hp.srt l) b).length (Hp.srt l)) = List.drop (Du.due (Hp.srt l) b).length (Hp.srt l) := (if_pos okZ).trans srZ
        have C4 := Lib.hid (fun W q d (h : Hp.At W q (List.drop (Du.due (Hp.srt l) b).length (Hp.srt l))) => (hp_Sorted _ q d W h hZl).mono fun _ _ h => h.got)
        rw [Hp.chk_ok okZ, hZs] at C4
        have hal : (Du.due (Hp.srt l) b).length ≤ 200 := by have := Du.due_take (Hp.srt l) b; rw [Hp.srt_len] at this; omega
        have hll := congrArg List.length hp1
        rw [List.length_append] at hll
        have CA := Lib.hid (fun q1 q2 n m W hA hB => hp_Same_self (Du.due (Hp.srt l) b) q1 q2 n m W hA hB (by omega))
        have CZ := Lib.hid (fun q1 q2 n m W hA hB => hp_Same_self (List.drop (Du.due (Hp.srt l) b).length (Hp.srt l)) q1 q2 n m W hA hB hZl)
        generalize List.drop (Du.due (Hp.srt l) b).length (Hp.srt l) = Z at *
        generalize List.drop (Du.due (Hp.srt l) a).length (Hp.srt l) = X at *
        generalize Du.due (Hp.srt l) b = D at *
        generalize Du.due (Hp.srt l) a = L at *
        generalize Du.due X b = M at *
        have HD := Lib.hid hp1
        have HLl := Lib.hid (show L.length ≤ 1000000 by omega)
        have HMl := Lib.hid (show M.length ≤ 1000000 by omega)
        clear hp1 hp2 hz hok hS okX srX okZ srZ hXl hZl hXs hZs hal hll hA hab
        generalize l.length = n at *
        have q2 : ¬ (200 : Int) < (n : Int) := by omega
        clear hl hn
        go_enter Try.func9, Try.ntmps9
        go_wp2_with fail
        refine (CL.out _).mono ?_
        rintro e w1 ⟨rfl, hb⟩
        have A1 := Lib.hid (A0.out.below hb)
        have B1 := Lib.hid hb
        clear hb
        go_wp2_with fail
        refine (C1.out _ A1.out).mono ?_
        rintro e w2 ⟨p2, c2, q2, d2, rfl, hA, hA2, hb⟩
        have A2 := Lib.hid (A1.out.below hb)
        have X2 := Lib.hid hA
        have L2 := Lib.hid hA2
        have B2 := Lib.hid (hp_then B1.out hb B1.out.size)
        clear hb hA hA2
        go_wp2_with fail
        refine (C2.out _ _ _ X2.out).mono ?_
        rintro e w3 ⟨p3, c3, q3, d3, rfl, hA, hA2, hb⟩
        have A3 := Lib.hid (A2.out.below hb)
        have L3 := Lib.hid (L2.out.below hb)
        have Y3 := Lib.hid hA
        have M3 := Lib.hid hA2
        have B3 := Lib.hid (hp_then B2.out hb B2.out.size)
        clear hb hA hA2
        go_wp2_with fail
        refine (C3.out _ A3.out).mono ?_
        rintro e w4 ⟨p4, c4, q4, d4, rfl, hA, hA2, hb⟩
        have L4 := Lib.hid (L3.out.below hb)
        have Y4 := Lib.hid (Y3.out.below hb)
        have M4 := Lib.hid (M3.out.below hb)
        have Z4 := Lib.hid hA
        have D4 := Lib.hid hA2
        have B4 := Lib.hid (hp_then B3.out hb B3.out.size)
        clear hb hA hA2
        go_wp2_with fail
        refine (C4.out _ _ _ Y4.out).mono ?_
        rintro e w5 ⟨p5, c5, rfl, hA, hb⟩
        have L5 := Lib.hid (L4.out.below hb)
        have M5 := Lib.hid (M4.out.below hb)
        have Z5 := Lib.hid (Z4.out.below hb)
        have D5 := Lib.hid (D4.out.below hb)
        have S5 := Lib.hid hA
        have B5 := Lib.hid (hp_then B4.out hb B4.out.size)
        clear hb hA
        go_wp2_with fail
        refine (C4.out _ _ _ Z5.out).mono ?_
        rintro e w6 ⟨p6, c6, rfl, hA, hb⟩
        have L6 := Lib.hid (L5.out.below hb)
        have M6 := Lib.hid (M5.out.below hb)
        have D6 := Lib.hid (D5.out.below hb)
        have S6 := Lib.hid (S5.out.below hb)
        have T6 := Lib.hid hA
        have B6 := Lib.hid (hp_then B5.out hb B5.out.size)
        clear hb hA
        have hO0 := Hp.own_made w6
        have hbx := hp_box w6 (.cells #[] 31)
        have HO0 := Lib.hid hO0
        have HBX := Lib.hid hbx
        have L7 := Lib.hid (L6.out.below hbx)
        clear hO0 hbx
        go_wp2_with (at_builtin; refine Du.listG (by first | kernel_rfl | rfl | simp [Region.wanted, yielded]) _ _ rfl [] L _ _ _ _ w6.heap.size rfl rfl HO0.out L7.out rfl (Nat.zero_le _) HLl.out (by rw [World.size_alloc]; omega) ?_)
        intro v1 w7 hO1 hg1
        have e1 := hp_grown_own HBX.out HO0.out hg1 (by rw [World.size_alloc]; omega)
        have HO1 := Lib.hid hO1
        have M7 := Lib.hid (M6.out.below e1)
        have E1 := Lib.hid e1
        clear hO1 hg1 e1
        have hsz7 := E1.out.size
        obtain ⟨q7, m7, d7, rfl⟩ : ∃ q7 m7 d7, v1 = .slice q7 m7 d7 := by
          obtain ⟨x, y, h, _⟩ := HO1.out.at
          exact ⟨x, _, y, h⟩
        go_wp2_with (at_builtin; refine Du.listG (by first | kernel_rfl | rfl | simp [Region.wanted, yielded]) _ _ rfl L M _ _ _ _ w6.heap.size rfl rfl HO1.out M7.out rfl HLl.out HMl.out hsz7 ?_)
        intro v2 w8 hO2 hg2
        rw [HD.out] at hO2
        have e2 := hp_grown_own E1.out HO1.out hg2 hsz7
        obtain ⟨p8, c8, rfl, hA8⟩ := hO2.at
        have N8 := Lib.hid hA8
        have D8 := Lib.hid (D6.out.below e2)
        have S8 := Lib.hid (S6.out.below e2)
        have T8 := Lib.hid (T6.out.below e2)
        have B8 := Lib.hid (hp_then B6.out e2 B6.out.size)
        clear hO2 hg2 e2 hA8 hsz7
        go_wp2_with fail
        refine (CA.out _ _ _ _ _ N8.out D8.out).mono ?_
        rintro e w9 ⟨rfl, hb⟩
        have S9 := Lib.hid (S8.out.below hb)
        have T9 := Lib.hid (T8.out.below hb)
        have B9 := Lib.hid (hp_then B8.out hb B8.out.size)
        clear hb
        go_wp2_with fail
        refine (CZ.out _ _ _ _ _ S9.out T9.out).mono ?_
        rintro e w10 ⟨rfl, hb⟩
        have B10 := Lib.hid (hp_then B9.out hb B9.out.size)
        clear hb
        go_wp2_with fail
        go_ret
        exact ⟨rfl, B10.out⟩
      · have r1 : (Hp.chk l == 0) = false := by simpa using hz
        have r2 : (Hp.chk l != 0) = true := by simpa using hz
        rw [Du.len0 hz] at C1 C3
        have hd : ∀ t, Du.due ([] : List (Int × Int × Int × Int)) t = [] := fun _ => rfl
        have hok0 : Hp.Ok [] := ⟨by simp, List.nodup_nil, fun j hj => by simp at hj⟩
        have hs0 : Hp.soL [] = [] := (if_pos hok0).trans rfl
        have C2 := Lib.hid (fun W q d (h : Hp.At W q []) => due_Drain [] b q d W h (by simp))
        rw [Hp.chk_ok hok0, hs0, hd] at C2
        rw [hd] at C1 C3
        generalize Hp.chk l = z at *
        clear hz hd hok0 hs0 hA hab
        generalize l.length = n at *
        have q2 : ¬ (200 : Int) < (n : Int) := by omega
        clear hl hn
        go_enter Try.func9, Try.ntmps9
        go_wp2_with fail
        refine (CL.out _).mono ?_
        rintro e w1 ⟨rfl, hb⟩
        have A1 := Lib.hid (A0.out.below hb)
        have B1 := Lib.hid hb
        clear hb
        go_wp2_with fail
        refine (C1.out _ A1.out).mono ?_
        rintro e w2 ⟨p2, c2, q2, d2, rfl, hA, hA2, hb⟩
        have A2 := Lib.hid (A1.out.below hb)
        have X2 := Lib.hid hA
        have L2 := Lib.hid hA2
        have B2 := Lib.hid (hp_then B1.out hb B1.out.size)
        clear hb hA hA2
        go_wp2_with fail
        refine (C2.out _ _ _ X2.out).mono ?_
        rintro e w3 ⟨p3, c3, q3, d3, rfl, hA, hA2, hb⟩
        have A3 := Lib.hid (A2.out.below hb)
        have Y3 := Lib.hid hA
        have M3 := Lib.hid hA2
        have B3 := Lib.hid (hp_then B2.out hb B2.out.size)
        clear hb hA hA2
        go_wp2_with fail
        refine (C3.out _ A3.out).mono ?_
        rintro e w4 ⟨p4, c4, q4, d4, rfl, hA, hA2, hb⟩
        have Z4 := Lib.hid hA
        have D4 := Lib.hid hA2
        have B4 := Lib.hid (hp_then B3.out hb B3.out.size)
        clear hb hA hA2
        go_wp2_with fail
        go_ret
        exact ⟨rfl, B4.out⟩
    · clear hA
      generalize l.length = n at *
      have q1 : ¬ (200 : Int) < (n : Int) := by omega
      have q2 : b < a := by omega
      clear hab hl hn
      go_enter Try.func9, Try.ntmps9
      go_wp2_with fail
      refine (CL.out _).mono ?_
      rintro e w1 ⟨rfl, hb⟩
      have B1 := Lib.hid hb
      clear hb
      go_wp2_with fail
      go_ret
      exact ⟨rfl, B1.out⟩
  · clear hA
    generalize l.length = n at *
    have q1 : (200 : Int) < (n : Int) := by omega
    clear hl hn
    go_enter Try.func9, Try.ntmps9
    go_wp2_with fail
    refine (CL.out _).mono ?_
    rintro e w1 ⟨rfl, hb⟩
    have B1 := Lib.hid hb
    clear hb
    go_wp2_with fail
    go_ret
    exact ⟨rfl, B1.out⟩
end Go.Proofs.Ytaaodbljdpchhaa
