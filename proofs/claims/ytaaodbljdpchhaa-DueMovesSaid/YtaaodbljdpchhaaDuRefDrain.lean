/-
  The walks of the document's Drain, Count and Next for timers. Condition: the list is of a size that a machine holds.
-/
import Derived.Test.YtaaodbljdpchhaaDuRefs
namespace Go.Proofs.Ytaaodbljdpchhaa
open Go.RowKit Go.Lib Go.Sort Go.Shelf

/-- append of timers as an operation of a plain region, with what becomes of the block. -/
theorem Du.listW2 {ops : Array Oper} {rest : List Oper} {o : Oper} {a : Act} {w : World} {Q : Exit → Act → World → Prop} (hgd : o.guard = none) (s x : Operand) (hop : o.op = Op.call { callee := Callee.builtin Builtin.append, args := #[s, x], argTypes := #[22, 22] })
    (l m : List (Int × Int × Int × Int)) (v : Value) (q : Option Addr) (n c : Nat) (base : Nat) (hs : a.eval s = v) (hx : a.eval x = .slice q n c)
    (hO : Hp.Own w base v l) (hA : Hp.At w q m) (hn : n = m.length) (hl : l.length ≤ 1000000) (hm : m.length ≤ 1000000) (hb : base ≤ w.heap.size)
    (h : ∀ v' w', Hp.Own w' base v' (l ++ m) → w.grownBy w' v.ownBlock → (v'.ownBlock = v.ownBlock ∨ v'.ownBlock = some w.heap.size) → wpList Try.prog ops Q rest (a.put o.dst v') w') : wpList Try.prog ops Q (o :: rest) a w := by
  obtain ⟨v', w', hr, h2, h3, h4⟩ := Hp.append l m v q n c base o.type w hO hA hn hl hm hb
  refine wpList_plain hgd fun K hK => ?_
  unfold Oper.wp
  simp [execOp, hop, resolve, invoke, builtin, hs, hx, hr, Result.andThen]
  exact hK _ _ (h v' w' h2 h3 h4)
/-- Two rows of the call's own do not lie in one block. -/
def Du.Apart (u v : Value) : Prop := ∀ g, u.ownBlock = some g → v.ownBlock ≠ some g
theorem Du.Apart.symm {u v : Value} (h : Du.Apart u v) : Du.Apart v u := fun g h1 h2 => h g h2 h1
theorem Du.two {w w' : World} {base : Nat} {u v v' : Value} {l : List (Int × Int × Int × Int)} (hu : Hp.Own w base u l) (ha : Du.Apart u v) (hg : w.grownBy w' v.ownBlock) (hv : v'.ownBlock = v.ownBlock ∨ v'.ownBlock = some w.heap.size) : Hp.Own w' base u l ∧ Du.Apart u v' := by
  refine ⟨Du.own_grown hu hg ha, fun g h1 h2 => ?_⟩
  rcases hv with h | h
  · exact ha g h1 (h ▸ h2)
  · rw [h] at h2
    have := (hu.lt g h1).2
    cases h2
    omega
/-- What the document's Drain leaves, timer by timer. -/
def Du.Two (S : List (Int × Int × Int × Int)) (now : Int) (base : Nat) (w0 : World) (u v : Value) (j : Nat) (W : World) : Prop :=
  Hp.Own W base u ((S.take j).filter (fun x => !decide (x.1 ≤ now))) ∧ Hp.Own W base v ((S.take j).filter (fun x => decide (x.1 ≤ now))) ∧ Du.Apart u v ∧ Below base w0 W
set_option maxHeartbeats 4000000 in
set_option maxRecDepth 100000 in
theorem ref_Drain16 (l : List (Int × Int × Int × Int)) (now : Int) (p : Option Addr) (c : Nat) (w : World) (hA : Hp.At w p l) (hn : l.length ≤ 140737488351232) :
    Calls Try.prog 29 #[.slice p l.length c, .int .i64 now] w (Du.Drained ((Hp.soL l).filter (fun x => !decide (x.1 ≤ now))) ((Hp.soL l).filter (fun x => decide (x.1 ≤ now))) (Hp.chk l) w) := by
  have CS := Lib.hid (ref_Sorted15 l p c w hA hn)
  have HL := Lib.hid (@Du.soL_le l)
  generalize Hp.soL l = S at *
  generalize Hp.chk l = z at *
  clear hA hn
  generalize l.length = n at *
  obtain ⟨m, hm⟩ : ∃ m, m = S.length := ⟨_, rfl⟩
  have Hm := Lib.hid hm
  unfold Hp.Got at CS
  rw [← hm] at CS HL
  have hm4 := HL.out
  have hm5 : (m : Int) ≤ 4096 := by omega
  clear hm
  go_enter Try.func29, Try.ntmps29
  go_wp2_with fail
  refine CS.out.mono ?_
  rintro e w1 ⟨p1, c1, rfl, hA, hb⟩
  have A1 := Lib.hid hA
  have B1 := Lib.hid hb
  clear hA hb
  go_wp2_with fail
  go_loopw [9, 10, 20] (fun u v i wr => ∃ j : Nat, j ≤ m ∧ i = .int .i64 j ∧ Hid (Du.Two S now w1.heap.size w1 u v j wr) ∧ (∃ q a b, u = .slice q a b) ∧ (∃ q a b, v = .slice q a b)) (fun _ _ i _ => m - (RowKit.intOf i).toNat)
  case atStart => exact ⟨0, Nat.zero_le _, rfl, Lib.hid ⟨by simpa using Hp.Own.nil _ _, by simpa using Hp.Own.nil _ _, (fun g h => by cases h), Below.refl _ _⟩, ⟨none, 0, 0, rfl⟩, none, 0, 0, rfl⟩
  case round =>
    obtain ⟨j, hj, rfl, HO, ⟨q, a, b, rfl⟩, q', a', b', rfl⟩ := hrel
    by_cases hlt : j < m
    · have hjl : j < S.length := by rw [← Hm.out]; exact hlt
      have hjz : (j : Int) < (m : Int) := by omega
      have hj0 : (0 : Int) ≤ (j : Int) := by omega
      obtain ⟨b1, o1, rfl, hx⟩ := (A1.out.below HO.out.2.2.2).get j hjl
      have hF1 := Du.take_filter (fun x => !decide (x.1 ≤ now)) hjl
      have hF2 := Du.take_filter (fun x => decide (x.1 ≤ now)) hjl
      have hle1 : ((S.take j).filter (fun x => !decide (x.1 ≤ now))).length ≤ 1000000 := by
        have := List.length_filter_le (fun x => !decide (x.1 ≤ now)) (S.take j)
        rw [List.length_take] at this
        omega
      have hle2 : ((S.take j).filter (fun x => decide (x.1 ≤ now))).length ≤ 1000000 := by
        have := List.length_filter_le (fun x => decide (x.1 ≤ now)) (S.take j)
        rw [List.length_take] at this
        omega
      generalize S[j] = x at *
      obtain ⟨x1, x2, x3, x4⟩ := x
      obtain ⟨e1, e2, e3, e4⟩ := hx
      simp only [] at e1 e2 e3 e4 hF1 hF2
      have hbx := hp_box wr (.cells #[.int .i64 x1, .int .i64 x2, .int .u8 x3, .int .i64 x4] 31)
      have hbx2 := hp_box (wr.alloc (.cells #[.int .i64 x1, .int .i64 x2, .int .u8 x3, .int .i64 x4] 31)) (.cells #[.int .i64 x1, .int .i64 x2, .int .u8 x3, .int .i64 x4] 31)
      have O1 := Lib.hid ((HO.out.1.below hbx).below hbx2)
      have O2 := Lib.hid ((HO.out.2.1.below hbx).below hbx2)
      have B2 := Lib.hid (HO.out.2.2.2.trans (hbx.mono HO.out.2.2.2.size))
      have B3 := Lib.hid (B2.out.trans (hbx2.mono B2.out.size))
      have hal := Hp.at_lit (wr.alloc (.cells #[.int .i64 x1, .int .i64 x2, .int .u8 x3, .int .i64 x4] 31)) [(x1, x2, x3, x4)] #[.int .i64 x1, .int .i64 x2, .int .u8 x3, .int .i64 x4] rfl
      rw [World.size_alloc] at hal
      have HA3 := Lib.hid hal
      have AP := Lib.hid HO.out.2.2.1
      have HLe1 := Lib.hid hle1
      have HLe2 := Lib.hid hle2
      clear hbx hbx2 hal hle1 hle2 hjl
      by_cases h3 : x1 ≤ now
      · rw [if_pos (by simpa using h3)] at hF2
        rw [if_neg (by simp [h3]), List.append_nil] at hF1
        have HF1 := Lib.hid hF1
        have HF2 := Lib.hid hF2
        clear hF1 hF2
        go_wp2_with (at_builtin; refine Du.listW2 rfl _ _ rfl _ [(x1, x2, x3, x4)] _ _ 1 _ w1.heap.size rfl rfl O2.out HA3.out rfl HLe2.out (show 1 ≤ 1000000 by decide) B3.out.size ?_)
        intro v' w' hO4 hg4 hv4
        have hb4 := hp_grown_own B3.out O2.out hg4 B3.out.size
        rw [← HF2.out] at hO4
        have h2 := Du.two (v' := v') O1.out AP.out hg4 (by rw [World.size_alloc, World.size_alloc]; exact hv4)
        have h3' := h2.1
        rw [← HF1.out] at h3'
        obtain ⟨pv, cv, hv, _⟩ := hO4.at
        cases hv
        have HO4 : Hid (Du.Two S now w1.heap.size w1 _ _ (j + 1) w') := Lib.hid ⟨h3', hO4, h2.2, hb4⟩
        clear hO4 hg4 hb4 hv4 h2 h3' e1 e2 e3 e4
        go_wp2_with fail
        exact ⟨⟨j + 1, by omega, by go_num, HO4, ⟨_, _, _, rfl⟩, _, _, _, rfl⟩, by simp [RowKit.intOf]; omega⟩
      · rw [if_pos (by simp [h3])] at hF1
        rw [if_neg (by simp [h3]), List.append_nil] at hF2
        have HF1 := Lib.hid hF1
        have HF2 := Lib.hid hF2
        clear hF1 hF2
        go_wp2_with (at_builtin; refine Du.listW2 rfl _ _ rfl _ [(x1, x2, x3, x4)] _ _ 1 _ w1.heap.size rfl rfl O1.out HA3.out rfl HLe1.out (show 1 ≤ 1000000 by decide) B3.out.size ?_)
        intro v' w' hO4 hg4 hv4
        have hb4 := hp_grown_own B3.out O1.out hg4 B3.out.size
        rw [← HF1.out] at hO4
        have h2 := Du.two (v' := v') O2.out AP.out.symm hg4 (by rw [World.size_alloc, World.size_alloc]; exact hv4)
        have h3' := h2.1
        rw [← HF2.out] at h3'
        obtain ⟨pv, cv, hv, _⟩ := hO4.at
        cases hv
        have HO4 : Hid (Du.Two S now w1.heap.size w1 _ _ (j + 1) w') := Lib.hid ⟨hO4, h3', h2.2.symm, hb4⟩
        clear hO4 hg4 hb4 hv4 h2 h3' e1 e2 e3 e4
        go_wp2_with fail
        exact ⟨⟨j + 1, by omega, by go_num, HO4, ⟨_, _, _, rfl⟩, _, _, _, rfl⟩, by simp [RowKit.intOf]; omega⟩
    · obtain rfl : j = m := by omega
      obtain ⟨hO1, hO2, _, hB⟩ := HO.out
      rw [Hm.out, List.take_length] at hO1 hO2
      obtain ⟨pv, cv, hv, hA1⟩ := hO1.at
      cases hv
      obtain ⟨pu, cu, hu, hA2⟩ := hO2.at
      cases hu
      have A2 := Lib.hid (And.intro hA1 hA2)
      have B2 := Lib.hid (B1.out.trans (hB.mono B1.out.size))
      clear hO1 hO2 hB hA1 hA2
      go_wp2_with fail
      go_ret3
      exact ⟨_, _, _, _, rfl, A2.out.1, A2.out.2, B2.out⟩
/-- What is due of timers that are in order. -/
theorem Du.due_filter {now : Int} : ∀ {S : List (Int × Int × Int × Int)}, Hp.Asc S → Du.due S now = S.filter (fun x => decide (x.1 ≤ now)) ∧ S.drop (Du.due S now).length = S.filter (fun x => !decide (x.1 ≤ now))
  | [], _ => ⟨rfl, rfl⟩
  | y :: S, ha => by
    have hp := List.pairwise_cons.1 ha
    by_cases hy : y.1 ≤ now
    · have ih := Du.due_filter (now := now) hp.2
      unfold Du.due at ih ⊢
      rw [List.takeWhile_cons_of_pos (by simpa using hy), List.filter_cons_of_pos (by simpa using hy), List.filter_cons_of_neg (by simp [hy]), List.length_cons, List.drop_succ_cons]
      exact ⟨by rw [ih.1], ih.2⟩
    · have hall : ∀ x ∈ y :: S, ¬ x.1 ≤ now := by
        intro x hx
        rcases List.mem_cons.1 hx with rfl | h
        · exact hy
        · have := Hp.lt_iff.1 (hp.1 x h)
          omega
      unfold Du.due
      rw [List.takeWhile_cons_of_neg (by simpa using hy)]
      refine ⟨(List.filter_eq_nil_iff.2 fun x hx => by simpa using hall x hx).symm, ?_⟩
      exact (List.filter_eq_self.2 fun x hx => by simp [hall x hx]).symm
theorem Du.soL_asc (l : List (Int × Int × Int × Int)) : Hp.Asc (Hp.soL l) := by
  by_cases h : Hp.Ok l
  · rw [show Hp.soL l = Hp.srt l from if_pos h]; exact Hp.srt_asc h.2.1
  · rw [show Hp.soL l = [] from if_neg h]; exact List.Pairwise.nil
theorem ref_Drain16' (l : List (Int × Int × Int × Int)) (now : Int) (p : Option Addr) (c : Nat) (w : World) (hA : Hp.At w p l) (hn : l.length ≤ 140737488351232) :
    Calls Try.prog 29 #[.slice p l.length c, .int .i64 now] w (Du.Drained ((Hp.soL l).drop (Du.due (Hp.soL l) now).length) (Du.due (Hp.soL l) now) (Hp.chk l) w) := by
  have h := ref_Drain16 l now p c w hA hn
  have hf := Du.due_filter (now := now) (Du.soL_asc l)
  rw [hf.2, hf.1]
  exact h
set_option maxHeartbeats 1000000 in
theorem ref_Count16 (l : List (Int × Int × Int × Int)) (now : Int) (p : Option Addr) (c : Nat) (w : World) (hA : Hp.At w p l) (hn : l.length ≤ 140737488351232) :
    Calls Try.prog 31 #[.slice p l.length c, .int .i64 now] w fun e w' => e = .returned (.tuple #[.int .i64 ((Du.due (Hp.soL l) now).length : Int), .int .i64 (Hp.chk l)]) ∧ Below w.heap.size w w' := by
  have CD := Lib.hid (ref_Drain16' l now p c w hA hn)
  generalize Du.due (Hp.soL l) now = D at *
  generalize List.drop D.length (Hp.soL l) = X at *
  generalize Hp.chk l = z at *
  clear hA hn
  generalize l.length = n at *
  go_enter Try.func31, Try.ntmps31
  go_wp2_with fail
  refine CD.out.mono ?_
  rintro e w1 ⟨p1, c1, q1, d1, rfl, _, _, hb⟩
  have B1 := Lib.hid hb
  clear hb
  go_wp2_with fail
  go_ret2
  exact ⟨rfl, B1.out⟩
end Go.Proofs.Ytaaodbljdpchhaa
