/-
  The walk of TopDue: whatever timers and times are, the law answers true. Condition: the lists are of a size that a machine holds.
-/
import Derived.Test.YtlbifinkjghgaaaTnMath
import Derived.Test.YtlbifinkjghgaaaDuDrainF
import Derived.Test.YtlbifinkjghgaaaBegins
namespace Go.Proofs.Ytlbifinkjghgaaa
open Go.RowKit Go.Lib Go.Sort Go.Shelf

/-- The world in which a box of one timer has been written. -/
def Tn.put (w : World) (g : Nat) (y : Int × Int × Int × Int) : World := (((w.setCell ⟨g, 0, none⟩ (.int .i64 y.1)).setCell ⟨g, 1, none⟩ (.int .i64 y.2.1)).setCell ⟨g, 2, none⟩ (.int .u8 y.2.2.1)).setCell ⟨g, 3, none⟩ (.int .i64 y.2.2.2)
theorem Tn.put_grown (w : World) (g : Nat) (y : Int × Int × Int × Int) : w.grownBy (Tn.put w g y) (some g) :=
  hp_grown_trans (hp_grown_trans (hp_grown_trans (hp_grown_set _ _ _ _) (hp_grown_set _ _ _ _)) (hp_grown_set _ _ _ _)) (hp_grown_set _ _ _ _)
theorem Tn.put_box {w : World} {g : Nat} {z : Int × Int × Int × Int} (h : Hp.Box w g z) (y : Int × Int × Int × Int) : Hp.Box (Tn.put w g y) g y := hp_box_set h _ _ _ _
theorem Tn.put_at {w : World} {g : Nat} {p : Option Addr} {l : List (Int × Int × Int × Int)} (h : Hp.At w p l) (hp : ∀ b off, p = some ⟨b, off, none⟩ → l ≠ [] → b ≠ g) (y : Int × Int × Int × Int) : Hp.At (Tn.put w g y) p l := by
  by_cases hl : l = []
  · subst hl; exact Hp.At.nil _ _
  · exact h.grownBy (Tn.put_grown w g y) fun b off e h2 => by cases h2; exact hp _ _ e hl rfl
theorem Tn.put_nums {w : World} {g : Nat} {p : Option Addr} {l : List Int} (h : Wp.At Wp.mkN w p l) (hp : ∀ b off, p = some ⟨b, off, none⟩ → l ≠ [] → b ≠ g) (y : Int × Int × Int × Int) : Wp.At Wp.mkN (Tn.put w g y) p l := by
  rcases h with h | ⟨b, off, e, hc⟩
  · exact Or.inl h
  · refine Or.inr ⟨b, off, e, fun i hi => ?_⟩
    have hne := hp b off e (by intro h; rw [h] at hi; simp at hi)
    have hlt := World.block_lt_of_cell? w _ (hc i hi)
    exact (World.cell?_of_block (a := ⟨b, off + i, none⟩) ((Tn.put_grown w g y).block b hlt (fun h => by cases h; exact hne rfl))).trans (hc i hi)
theorem Tn.lit2 (w : World) (a b : Int) : Wp.At Wp.mkN (w.alloc (.cells #[.int .i64 a, .int .i64 b] 2)) (some ⟨w.heap.size, 0, none⟩) [a, b] := by
  refine Or.inr ⟨w.heap.size, 0, rfl, fun i hi => ?_⟩
  rw [Nat.zero_add, Lib.cell_of_heap (hp_new w _)]
  have h : i = 0 ∨ i = 1 := by simp at hi; omega
  rcases h with rfl | rfl <;> rfl
set_option maxHeartbeats 8000000 in
set_option maxRecDepth 100000 in
theorem topDue_law (l : List (Int × Int × Int × Int)) (ts : List Int) (gone : Int) (p q : Option Addr) (c d : Nat) (w : World) (hA : Hp.At w p l) (hT : Wp.At Wp.mkN w q ts) (hn : l.length ≤ 140737488351232) (hnt : ts.length ≤ 140737488351232) (hb : ∀ x ∈ l, x.1 ≤ 9223372036854775807) :
    Calls Try.prog 3 #[.slice p l.length c, .slice q ts.length d, .int .i64 gone] w fun e w' => e = .returned (.bool true) ∧ Below w.heap.size w w' := by
  have CB := Lib.hid begins_any
  have A0 := Lib.hid hA
  have T0 := Lib.hid hT
  by_cases hl : l.length ≤ 100
  · by_cases ht : ts.length ≤ 20
    · have C1 := Lib.hid (fun W (h : Hp.At W p l) => hp_Make l p c W h (by omega))
      by_cases hz : Hp.mkC l = 0
      · have hlast : ∀ i (hi : i < (ts ++ [4611686018427387904, 9223372036854775807]).length), i + 1 = (ts ++ [4611686018427387904, 9223372036854775807]).length → (ts ++ [4611686018427387904, 9223372036854775807])[i] = 9223372036854775807 := by
          intro i hi e
          have e2 : i = ts.length + 1 := by simp at e; omega
          subst e2
          simp
        have HLast := Lib.hid hlast
        have hU : (ts ++ [4611686018427387904, 9223372036854775807]).length = ts.length + 2 := by simp
        obtain ⟨hI, hcc⟩ := Tn.first (gone := gone) hz (U := ts ++ [4611686018427387904, 9223372036854775807]) (by rw [hU]; omega) hb
        have hKl : (Hp.caL (Hp.mkL l) gone).length ≤ 100 := by rcases hcc with h | h <;> omega
        have hMl : (Hp.mkL l).length ≤ 140737488351232 := by rw [(Hp.mk_zero hz).2.2, (Hp.makeF_perm l).length_eq]; omega
        have C2 := Lib.hid (fun W q2 c2 (h : Hp.At W q2 (Hp.mkL l)) => hp_Cancel (Hp.mkL l) gone q2 c2 W h hMl)
        rw [hz] at C1
        have HI := Lib.hid hI
        have HB := Lib.hid hb
        have HTs := Lib.hid (show ts.length ≤ 1000000 by omega)
        have HU := Lib.hid hU
        generalize Hp.caL (Hp.mkL l) gone = K at *
        generalize Hp.caT (Hp.mkL l) gone = T at *
        generalize Hp.caC (Hp.mkL l) gone = cc at *
        generalize Hp.mkL l = M0 at *
        obtain ⟨t1, t2, t3, t4⟩ := T
        try simp only [] at C2
        clear hI hlast hU hMl hz hA hT hb hn hnt
        generalize l.length = n at *
        obtain ⟨m, hm⟩ : ∃ m, m = ts.length := ⟨_, rfl⟩
        have Hm := Lib.hid hm
        rw [← hm] at ht HU
        rw [← hm]
        clear hm
        have q1 : ¬ (100 : Int) < (n : Int) := by omega
        have q2 : ¬ (20 : Int) < (m : Int) := by omega
        rcases hcc with ⟨hcc, hkl⟩ | ⟨hcc, hkl⟩
        · have hk1 : K.length + 1 = n := hkl
          have hcase : (cc == 0) = true := by simp [hcc]
          have hn1 : (K.length : Int) = (n : Int) - 1 := by omega
          subst hcc
          go_enter Try.func3, Try.ntmps3
          go_wp2_with fail
          refine (CB.out _).mono ?_
          rintro e w1 ⟨rfl, hb⟩
          have A1 := Lib.hid (A0.out.below hb)
          have T1 := Lib.hid (T0.out.below hb)
          have B1 := Lib.hid hb
          clear hb
          go_wp2_with fail
          refine (C1.out _ A1.out).mono ?_
          rintro e w2 ⟨p2, c2, rfl, hA, hb⟩
          have M2 := Lib.hid hA
          have T2 := Lib.hid (T1.out.below hb)
          have B2 := Lib.hid (hp_then B1.out hb B1.out.size)
          clear hA hb
          go_wp2_with fail
          refine (C2.out _ _ _ M2.out).mono ?_
          rintro e w3 ⟨p3, c3, rfl, _, hA, hb⟩
          have hx1 := hp_box w3 (.cells #[.int .i64 t1, .int .i64 t2, .int .u8 t3, .int .i64 t4] 29)
          have hx2 := hp_box (w3.alloc (.cells #[.int .i64 t1, .int .i64 t2, .int .u8 t3, .int .i64 t4] 29)) (.cells #[.int .i64 0, .int .i64 0, .int .u8 0, .int .i64 0] 29)
          have hx3 := hp_box ((w3.alloc (.cells #[.int .i64 t1, .int .i64 t2, .int .u8 t3, .int .i64 t4] 29)).alloc (.cells #[.int .i64 0, .int .i64 0, .int .u8 0, .int .i64 0] 29)) (.cells #[] 2)
          have hbox := hp_new (w3.alloc (.cells #[.int .i64 t1, .int .i64 t2, .int .u8 t3, .int .i64 t4] 29)) (.cells #[.int .i64 0, .int .i64 0, .int .u8 0, .int .i64 0] 29)
          have hmade := Tn.made ((w3.alloc (.cells #[.int .i64 t1, .int .i64 t2, .int .u8 t3, .int .i64 t4] 29)).alloc (.cells #[.int .i64 0, .int .i64 0, .int .u8 0, .int .i64 0] 29))
          obtain ⟨x, hx⟩ : ∃ x, x = w3.heap.size + 1 := ⟨_, rfl⟩
          have hX : (w3.alloc (.cells #[.int .i64 t1, .int .i64 t2, .int .u8 t3, .int .i64 t4] 29)).heap.size = w3.heap.size + 1 := World.size_alloc _ _
          have hX2 : ((w3.alloc (.cells #[.int .i64 t1, .int .i64 t2, .int .u8 t3, .int .i64 t4] 29)).alloc (.cells #[.int .i64 0, .int .i64 0, .int .u8 0, .int .i64 0] 29)).heap.size = w3.heap.size + 1 + 1 := by rw [World.size_alloc, World.size_alloc]
          rw [hX] at hbox
          rw [hX2] at hmade
          have hb3 := hp_then B2.out hb B2.out.size
          have H3 := Lib.hid (((hA.below hx1).below hx2).below hx3)
          have T3 := Lib.hid ((((T2.out.below hb).below hx1).below hx2).below hx3)
          have hb6 := hp_then (hp_then (hp_then hb3 hx1 hb3.size) hx2 (hp_then hb3 hx1 hb3.size).size) hx3 (hp_then (hp_then hb3 hx1 hb3.size) hx2 (hp_then hb3 hx1 hb3.size).size).size
          have B3 := Lib.hid hb6
          have HM := Lib.hid hmade
          have hbx3 : Hp.Box (((w3.alloc (.cells #[.int .i64 t1, .int .i64 t2, .int .u8 t3, .int .i64 t4] 29)).alloc (.cells #[.int .i64 0, .int .i64 0, .int .u8 0, .int .i64 0] 29)).alloc (.cells #[] 2)) (w3.heap.size + 1) (0, 0, 0, 0) := (show Hp.Box ((w3.alloc (.cells #[.int .i64 t1, .int .i64 t2, .int .u8 t3, .int .i64 t4] 29)).alloc (.cells #[.int .i64 0, .int .i64 0, .int .u8 0, .int .i64 0] 29)) (w3.heap.size + 1) (0, 0, 0, 0) from hbox).below hx3
          have X3 := Lib.hid hbx3
          have HP3 := Lib.hid (show ∀ b off, p3 = some ⟨b, off, none⟩ → K ≠ [] → b ≠ w3.heap.size + 1 from fun b off e hne => by
            obtain ⟨b', o', e', hc⟩ := hA.get 0 (List.length_pos_iff.2 hne)
            rw [e] at e'
            cases e'
            have := hc.lt
            omega)
          have hw2 := B2.out.size
          have hbs := hb.size
          have HA3 := Lib.hid hA
          have HT3 := Lib.hid (T2.out.below hb)
          have HB3 := Lib.hid hb3
          have HW36 := Lib.hid (show Below w3.heap.size w3 _ from (hx1.trans (hx2.mono hx1.size)).trans (hx3.mono (Nat.le_trans hx1.size hx2.size)))
          clear hx1 hx2 hx3 hbox hmade hX hX2 hb3 hb6 hbx3 hA hb
          go_wp2_with (at_builtin; refine Tn.listW rfl _ _ rfl [] ts _ _ _ _ (w3.heap.size + 1 + 1) rfl rfl HM.out T3.out Hm.out (Nat.zero_le _) HTs.out (by simp) ?_)
          intro v4 w4 hO4 hg4
          have hb4 := HW36.out.grown hg4 HW36.out.size (fun k e => by have h := Option.some.inj (show some (w3.heap.size + 1 + 1) = some k from e); omega)
          have hX4 : Hp.Box w4 (w3.heap.size + 1) (0, 0, 0, 0) := (hg4.block (w3.heap.size + 1) (Array.getElem?_eq_some_iff.1 X3.out).1 (fun e => by have h := Option.some.inj (show some (w3.heap.size + 1) = some (w3.heap.size + 1 + 1) from e); omega)).trans X3.out
          have hsz4 := hg4.size
          simp only [World.size_alloc] at hsz4
          obtain ⟨x, hx⟩ : ∃ x, x = w3.heap.size + 1 := ⟨_, rfl⟩
          have hbx4 := hp_box w4 (.cells #[.int .i64 4611686018427387904, .int .i64 9223372036854775807] 2)
          have O5 := Lib.hid (show Tn.Own (w4.alloc (.cells #[.int .i64 4611686018427387904, .int .i64 9223372036854775807] 2)) (w3.heap.size + 1 + 1) v4 ts from World.ownsRow.alloc hO4 _)
          have L5 := Lib.hid (Tn.lit2 w4 4611686018427387904 9223372036854775807)
          have B5 := Lib.hid (hb4.trans (hbx4.mono hb4.size))
          have X5 := Lib.hid (hX4.below hbx4)
          obtain ⟨pa, na, ca, rfl⟩ : ∃ pa na ca, v4 = .slice pa na ca := by
            obtain ⟨a, b, h, _⟩ := hO4.at
            exact ⟨a, _, b, h⟩
          clear hO4 hg4 hb4 hX4 hbx4 HM X3 H3 T3 HW36 B3
          go_wp2_with (at_builtin; refine Tn.listW rfl _ _ rfl ts [4611686018427387904, 9223372036854775807] _ _ 2 _ (w3.heap.size + 1 + 1) rfl rfl O5.out L5.out rfl HTs.out (by decide) (by rw [World.size_alloc]; omega) ?_)
          intro v5 w5 hO5 hg5
          have hb5 := B5.out.grown hg5 B5.out.size (fun k e => by have := (World.ownsRow.lt O5.out k e).1; omega)
          have hx5 : Hp.Box w5 (w3.heap.size + 1) (0, 0, 0, 0) := (hg5.block (w3.heap.size + 1) (Array.getElem?_eq_some_iff.1 X5.out).1 (fun e => by have := (World.ownsRow.lt O5.out _ e.symm).1; omega)).trans X5.out
          obtain ⟨pu, cu, rfl, hAu⟩ := hO5.at
          have hlu : ∀ b off, pu = some ⟨b, off, none⟩ → (ts ++ [4611686018427387904, 9223372036854775807]) ≠ [] → b ≠ w3.heap.size + 1 := fun b off e _ => by have := (World.ownsRow.lt hO5 b (by rw [e]; rfl)).1; omega
          rw [← hx] at hx5 hlu HP3 ⊢
          have hxw : w.heap.size ≤ x := by have := HB3.out.size; omega
          have S0 := Lib.hid (show Hp.At w5 p3 K ∧ (∀ b off, p3 = some ⟨b, off, none⟩ → K ≠ [] → b ≠ x) ∧ Hp.Box w5 x (0, 0, 0, 0) ∧ Wp.At Wp.mkN w5 pu (ts ++ [4611686018427387904, 9223372036854775807]) ∧ Below w.heap.size w w5 from ⟨HA3.out.below hb5, HP3.out, hx5, hAu, HB3.out.trans (hb5.mono HB3.out.size)⟩)
          have HLU := Lib.hid hlu
          have HXW := Lib.hid hxw
          have Hn1 := Lib.hid hn1
          have HK1 := Lib.hid hKl
          clear hx5 hlu hAu hO5 hg5 hb5 hx hn1 hk1 hkl hKl hxw HA3 HT3 HB3 B5 L5 O5 X5 HP3 T2 M2 B2 A1 T1 B1 Hm HTs ht
          generalize (ts ++ [4611686018427387904, 9223372036854775807]) = U at *
          obtain ⟨N, hN⟩ : ∃ N, N = U.length := ⟨_, rfl⟩
          have HN := Lib.hid hN
          have hN22 : N ≤ 22 := by have := HU.out; omega
          rw [← hN]
          clear hN HU
          go_wp2_with fail
          go_loopw [7, 13, 57] (fun v7 v13 v57 wr => ∃ (i nn : Nat) (H : List (Int × Int × Int × Int)) (pp : Option Addr) (cc : Nat) (z : Int × Int × Int × Int), i ≤ N ∧ v57 = .int .i64 i ∧ v13 = .int .i64 nn ∧ v7 = .slice pp H.length cc ∧ Hid (Tn.Inv U K.length gone i nn H) ∧ Hid (Hp.At wr pp H ∧ (∀ b off, pp = some ⟨b, off, none⟩ → H ≠ [] → b ≠ x) ∧ Hp.Box wr x z ∧ Wp.At Wp.mkN wr pu U ∧ Below w.heap.size w wr)) (fun _ _ v57 _ => N - (intOf v57).toNat)
          case atStart => exact ⟨0, 0, K, p3, _, (0, 0, 0, 0), Nat.zero_le _, rfl, rfl, rfl, HI, S0⟩
          case round =>
            clear S0
            obtain ⟨i, nn, H, pp, cc, z, hi, rfl, rfl, rfl, HInv, HS⟩ := hrel
            have hmany := HInv.out.2.2.2.1
            have hnn : nn ≤ 100 := by have := HK1.out; omega
            have hHl : H.length ≤ 140737488351232 := by have := HK1.out; omega
            by_cases hlt : i < N
            · have hil : i < U.length := by rw [← HN.out]; exact hlt
              obtain ⟨hchk, hinv, hall, hord⟩ := Tn.next HInv.out hil (HLast.out i hil)
              obtain ⟨s1, s2, s3, s4, s5⟩ := HS.out
              have CD := Lib.hid (due_DrainF H U[i] pp cc wr s1 hHl)
              rw [hchk] at CD
              have hcell : ∃ b off, pu = some ⟨b, off, none⟩ ∧ wr.cell? ⟨b, off + i, none⟩ = some (.int .i64 U[i]) := by
                rcases s4 with h | ⟨b, off, h1, h2⟩
                · rw [h] at hil; simp at hil
                · exact ⟨b, off, h1, (h2 i hil).trans rfl⟩
              obtain ⟨ub, uo, hpu, hcell⟩ := hcell
              have hdl : (Du.due (Hp.soL H) U[i]).length ≤ 100 := by have := hinv.2.2.2.1; have := HK1.out; omega
              have HIn2 := Lib.hid hinv
              have HAll := Lib.hid hall
              have HOrd := Lib.hid hord
              generalize U[i] = tt at *
              generalize Du.due (Hp.soL H) tt = D at *
              generalize List.drop D.length (Hp.soL H) = G at *
              clear hchk hinv hall hord s1 s2 s3 s4 s5 hmany HInv
              generalize H.length = hl at *
              subst hpu
              go_wp2_with fail
              refine CD.out.mono ?_
              rintro e w6 ⟨p6, c6, q6, d6, rfl, hA6, hD6, hb6, hp6, hq6⟩
              obtain ⟨-, -, s3, s4, s5⟩ := HS.out
              have hxl := (Array.getElem?_eq_some_iff.1 s3).1
              have HS6 := Lib.hid (show Hp.At w6 p6 G ∧ (∀ b off, p6 = some ⟨b, off, none⟩ → G ≠ [] → b ≠ x) ∧ Hp.Box w6 x z ∧ Wp.At Wp.mkN w6 (some ⟨ub, uo, none⟩) U ∧ Below w.heap.size w w6 from ⟨hA6, fun b off e _ => by have := hp6 b off e; omega, s3.below hb6, s4.below hb6, s5.trans (hb6.mono s5.size)⟩)
              have HD6 := Lib.hid (show Hp.At w6 q6 D ∧ (∀ b off, q6 = some ⟨b, off, none⟩ → D ≠ [] → b ≠ x) from ⟨hD6, fun b off e _ => by have := hq6 b off e; omega⟩)
              clear hA6 hD6 hb6 hp6 hq6 s3 s4 s5 hxl CD HS hcell
              obtain ⟨M, hM⟩ : ∃ M, M = D.length := ⟨_, rfl⟩
              have HM := Lib.hid hM
              rw [← hM] at hdl ⊢
              clear hM
              go_wp2_with fail
              go_loopw [13, 72] (fun v13 v72 wq => ∃ (j : Nat) (z' : Int × Int × Int × Int), j ≤ M ∧ v72 = .int .i64 j ∧ v13 = .int .i64 ((nn + j : Nat) : Int) ∧ Hid (0 < j → ∀ h : j - 1 < D.length, z' = D[j - 1]) ∧ Hid (Hp.At wq p6 G ∧ Hp.Box wq x z' ∧ Wp.At Wp.mkN wq (some ⟨ub, uo, none⟩) U ∧ Below w.heap.size w wq ∧ Hp.At wq q6 D)) (fun _ v72 _ => M - (intOf v72).toNat)
              case atStart => exact ⟨0, z, Nat.zero_le _, rfl, rfl, Lib.hid (fun h => absurd h (by omega)), Lib.hid ⟨HS6.out.1, HS6.out.2.2.1, HS6.out.2.2.2.1, HS6.out.2.2.2.2, HD6.out.1⟩⟩
              case round =>
                obtain ⟨j, z', hj, rfl, rfl, HZ, HQ⟩ := hrel
                by_cases hjl : j < M
                · have hjd : j < D.length := by rw [← HM.out]; exact hjl
                  obtain ⟨a1, a2, a3, a4, a5⟩ := HQ.out
                  obtain ⟨db, dof, rfl, ⟨e0, e1, e2, e3⟩⟩ := a5.get j hjd
                  obtain ⟨hs, htt⟩ := HAll.out j hjd
                  have hlt2 : 0 < j → Hp.lt z' D[j] = true := fun h => by
                    have h1 := HOrd.out (j - 1) (by omega) (by omega)
                    have h2 := HZ.out h (by omega)
                    rw [h2]
                    have e : j - 1 + 1 = j := by omega
                    simp only [e] at h1
                    exact h1
                  have hlast : ∀ h : j + 1 - 1 < D.length, D[j] = D[j + 1 - 1] := fun h => by congr 1
                  generalize hy : D[j] = y at *
                  obtain ⟨y1, y2, y3, y4⟩ := y
                  obtain ⟨z1, z2, z3, z4⟩ := z'
                  simp only [] at e0 e1 e2 e3 hs htt
                  have HY := Lib.hid (hp_box wr (.cells #[.int .i64 y1, .int .i64 y2, .int .u8 y3, .int .i64 y4] 29))
                  have HN2 := Lib.hid (hp_new wr (.cells #[.int .i64 y1, .int .i64 y2, .int .u8 y3, .int .i64 y4] 29))
                  have hbz := a2.below HY.out
                  have HQ2 := Lib.hid (show Hp.At (Tn.put (wr.alloc (.cells #[.int .i64 y1, .int .i64 y2, .int .u8 y3, .int .i64 y4] 29)) x (y1, y2, y3, y4)) p6 G ∧ Hp.Box (Tn.put (wr.alloc (.cells #[.int .i64 y1, .int .i64 y2, .int .u8 y3, .int .i64 y4] 29)) x (y1, y2, y3, y4)) x (y1, y2, y3, y4) ∧ Wp.At Wp.mkN (Tn.put (wr.alloc (.cells #[.int .i64 y1, .int .i64 y2, .int .u8 y3, .int .i64 y4] 29)) x (y1, y2, y3, y4)) (some ⟨ub, uo, none⟩) U ∧ Below w.heap.size w (Tn.put (wr.alloc (.cells #[.int .i64 y1, .int .i64 y2, .int .u8 y3, .int .i64 y4] 29)) x (y1, y2, y3, y4)) ∧ Hp.At (Tn.put (wr.alloc (.cells #[.int .i64 y1, .int .i64 y2, .int .u8 y3, .int .i64 y4] 29)) x (y1, y2, y3, y4)) (some ⟨db, dof, none⟩) D from
                    ⟨Tn.put_at (a1.below HY.out) HS6.out.2.1 _, Tn.put_box hbz _, Tn.put_nums (a3.below HY.out) HLU.out _, (hp_then a4 HY.out a4.size).grown (Tn.put_grown _ x _) (Nat.le_trans a4.size HY.out.size) (fun k e => by cases e; exact HXW.out), Tn.put_at (a5.below HY.out) HD6.out.2 _⟩)
                  have HLs := Lib.hid (show 0 < j + 1 → ∀ h : j + 1 - 1 < D.length, (y1, y2, y3, y4) = D[j + 1 - 1] from fun _ h => hy.symm.trans (hlast h))
                  obtain ⟨n0, n1, n2, n3⟩ := Hp.box HN2.out
                  obtain ⟨k0, k1, k2, k3⟩ := hbz.cells
                  have g0 := hp_box_frozen hbz 0
                  have g1 := hp_box_frozen hbz 1
                  have g2 := hp_box_frozen hbz 2
                  have g3 := hp_box_frozen hbz 3
                  have f1 : (y2 == gone) = false := beq_eq_false_iff_ne.2 hs
                  have f2 : ¬ tt < y1 := by omega
                  have hcs : (¬ (0 : Int) < (j : Int)) ∨ ((0 : Int) < (j : Int) ∧ ((¬ y1 < z1 ∧ (y1 == z1) = false) ∨ (¬ y1 < z1 ∧ (y1 == z1) = true ∧ ¬ y2 ≤ z2))) := by
                    by_cases hj0 : 0 < j
                    · right
                      refine ⟨by omega, ?_⟩
                      have h := Hp.lt_iff.1 (hlt2 hj0)
                      simp only [] at h
                      rcases h with h | ⟨h1, h2⟩
                      · left; exact ⟨by omega, beq_eq_false_iff_ne.2 (by omega)⟩
                      · right; exact ⟨by omega, by rw [beq_iff_eq]; omega, by omega⟩
                    · left; omega
                  clear hs htt hlt2 hlast hy a1 a2 a3 a4 a5 hbz HQ HZ HAll HOrd
                  rcases hcs with c1 | ⟨c1, ⟨c2, c3⟩ | ⟨c2, c3, c4⟩⟩
                  all_goals
                    go_wp2_with fail
                    exact ⟨⟨j + 1, (y1, y2, y3, y4), by omega, by go_num, by go_num, HLs, HQ2⟩, by simp [intOf]; omega⟩
                · obtain rfl : j = M := by omega
                  have HS7 := Lib.hid (show Hp.At wr p6 G ∧ (∀ b off, p6 = some ⟨b, off, none⟩ → G ≠ [] → b ≠ x) ∧ Hp.Box wr x z' ∧ Wp.At Wp.mkN wr (some ⟨ub, uo, none⟩) U ∧ Below w.heap.size w wr from ⟨HQ.out.1, HS6.out.2.1, HQ.out.2.1, HQ.out.2.2.1, HQ.out.2.2.2.1⟩)
                  have HI7 := Lib.hid (show Tn.Inv U K.length gone (i + 1) (nn + j) G by rw [HM.out]; exact HIn2.out)
                  clear HS6 HD6 HIn2 HAll HOrd HZ HQ
                  go_wp2_with fail
                  exact ⟨⟨i + 1, nn + j, G, p6, _, z', by omega, by go_num, by go_num, rfl, HI7, HS7⟩, by simp [intOf]; omega⟩
            · obtain rfl : i = N := by omega
              have hH : H = [] := HInv.out.2.2.2.2 HN.out
              subst hH
              have hfin : (nn : Int) = (n : Int) - 1 := by have := Hn1.out; rw [List.length_nil] at hmany; omega
              have HB9 := Lib.hid HS.out.2.2.2.2
              clear hmany
              go_wp2_with fail
              go_ret
              exact ⟨rfl, HB9.out⟩
        · have hk1 : K.length  = n := hkl
          have hcase : (cc == 0) = false := by simp [hcc]
          have hn1 : (K.length : Int) = (n : Int) := by omega
          subst hcc
          go_enter Try.func3, Try.ntmps3
          go_wp2_with fail
          refine (CB.out _).mono ?_
          rintro e w1 ⟨rfl, hb⟩
          have A1 := Lib.hid (A0.out.below hb)
          have T1 := Lib.hid (T0.out.below hb)
          have B1 := Lib.hid hb
          clear hb
          go_wp2_with fail
          refine (C1.out _ A1.out).mono ?_
          rintro e w2 ⟨p2, c2, rfl, hA, hb⟩
          have M2 := Lib.hid hA
          have T2 := Lib.hid (T1.out.below hb)
          have B2 := Lib.hid (hp_then B1.out hb B1.out.size)
          clear hA hb
          go_wp2_with fail
          refine (C2.out _ _ _ M2.out).mono ?_
          rintro e w3 ⟨p3, c3, rfl, _, hA, hb⟩
          have hx1 := hp_box w3 (.cells #[.int .i64 t1, .int .i64 t2, .int .u8 t3, .int .i64 t4] 29)
          have hx2 := hp_box (w3.alloc (.cells #[.int .i64 t1, .int .i64 t2, .int .u8 t3, .int .i64 t4] 29)) (.cells #[.int .i64 0, .int .i64 0, .int .u8 0, .int .i64 0] 29)
          have hx3 := hp_box ((w3.alloc (.cells #[.int .i64 t1, .int .i64 t2, .int .u8 t3, .int .i64 t4] 29)).alloc (.cells #[.int .i64 0, .int .i64 0, .int .u8 0, .int .i64 0] 29)) (.cells #[] 2)
          have hbox := hp_new (w3.alloc (.cells #[.int .i64 t1, .int .i64 t2, .int .u8 t3, .int .i64 t4] 29)) (.cells #[.int .i64 0, .int .i64 0, .int .u8 0, .int .i64 0] 29)
          have hmade := Tn.made ((w3.alloc (.cells #[.int .i64 t1, .int .i64 t2, .int .u8 t3, .int .i64 t4] 29)).alloc (.cells #[.int .i64 0, .int .i64 0, .int .u8 0, .int .i64 0] 29))
          obtain ⟨x, hx⟩ : ∃ x, x = w3.heap.size + 1 := ⟨_, rfl⟩
          have hX : (w3.alloc (.cells #[.int .i64 t1, .int .i64 t2, .int .u8 t3, .int .i64 t4] 29)).heap.size = w3.heap.size + 1 := World.size_alloc _ _
          have hX2 : ((w3.alloc (.cells #[.int .i64 t1, .int .i64 t2, .int .u8 t3, .int .i64 t4] 29)).alloc (.cells #[.int .i64 0, .int .i64 0, .int .u8 0, .int .i64 0] 29)).heap.size = w3.heap.size + 1 + 1 := by rw [World.size_alloc, World.size_alloc]
          rw [hX] at hbox
          rw [hX2] at hmade
          have hb3 := hp_then B2.out hb B2.out.size
          have H3 := Lib.hid (((hA.below hx1).below hx2).below hx3)
          have T3 := Lib.hid ((((T2.out.below hb).below hx1).below hx2).below hx3)
          have hb6 := hp_then (hp_then (hp_then hb3 hx1 hb3.size) hx2 (hp_then hb3 hx1 hb3.size).size) hx3 (hp_then (hp_then hb3 hx1 hb3.size) hx2 (hp_then hb3 hx1 hb3.size).size).size
          have B3 := Lib.hid hb6
          have HM := Lib.hid hmade
          have hbx3 : Hp.Box (((w3.alloc (.cells #[.int .i64 t1, .int .i64 t2, .int .u8 t3, .int .i64 t4] 29)).alloc (.cells #[.int .i64 0, .int .i64 0, .int .u8 0, .int .i64 0] 29)).alloc (.cells #[] 2)) (w3.heap.size + 1) (0, 0, 0, 0) := (show Hp.Box ((w3.alloc (.cells #[.int .i64 t1, .int .i64 t2, .int .u8 t3, .int .i64 t4] 29)).alloc (.cells #[.int .i64 0, .int .i64 0, .int .u8 0, .int .i64 0] 29)) (w3.heap.size + 1) (0, 0, 0, 0) from hbox).below hx3
          have X3 := Lib.hid hbx3
          have HP3 := Lib.hid (show ∀ b off, p3 = some ⟨b, off, none⟩ → K ≠ [] → b ≠ w3.heap.size + 1 from fun b off e hne => by
            obtain ⟨b', o', e', hc⟩ := hA.get 0 (List.length_pos_iff.2 hne)
            rw [e] at e'
            cases e'
            have := hc.lt
            omega)
          have hw2 := B2.out.size
          have hbs := hb.size
          have HA3 := Lib.hid hA
          have HT3 := Lib.hid (T2.out.below hb)
          have HB3 := Lib.hid hb3
          have HW36 := Lib.hid (show Below w3.heap.size w3 _ from (hx1.trans (hx2.mono hx1.size)).trans (hx3.mono (Nat.le_trans hx1.size hx2.size)))
          clear hx1 hx2 hx3 hbox hmade hX hX2 hb3 hb6 hbx3 hA hb
          go_wp2_with (at_builtin; refine Tn.listW rfl _ _ rfl [] ts _ _ _ _ (w3.heap.size + 1 + 1) rfl rfl HM.out T3.out Hm.out (Nat.zero_le _) HTs.out (by simp) ?_)
          intro v4 w4 hO4 hg4
          have hb4 := HW36.out.grown hg4 HW36.out.size (fun k e => by have h := Option.some.inj (show some (w3.heap.size + 1 + 1) = some k from e); omega)
          have hX4 : Hp.Box w4 (w3.heap.size + 1) (0, 0, 0, 0) := (hg4.block (w3.heap.size + 1) (Array.getElem?_eq_some_iff.1 X3.out).1 (fun e => by have h := Option.some.inj (show some (w3.heap.size + 1) = some (w3.heap.size + 1 + 1) from e); omega)).trans X3.out
          have hsz4 := hg4.size
          simp only [World.size_alloc] at hsz4
          obtain ⟨x, hx⟩ : ∃ x, x = w3.heap.size + 1 := ⟨_, rfl⟩
          have hbx4 := hp_box w4 (.cells #[.int .i64 4611686018427387904, .int .i64 9223372036854775807] 2)
          have O5 := Lib.hid (show Tn.Own (w4.alloc (.cells #[.int .i64 4611686018427387904, .int .i64 9223372036854775807] 2)) (w3.heap.size + 1 + 1) v4 ts from World.ownsRow.alloc hO4 _)
          have L5 := Lib.hid (Tn.lit2 w4 4611686018427387904 9223372036854775807)
          have B5 := Lib.hid (hb4.trans (hbx4.mono hb4.size))
          have X5 := Lib.hid (hX4.below hbx4)
          obtain ⟨pa, na, ca, rfl⟩ : ∃ pa na ca, v4 = .slice pa na ca := by
            obtain ⟨a, b, h, _⟩ := hO4.at
            exact ⟨a, _, b, h⟩
          clear hO4 hg4 hb4 hX4 hbx4 HM X3 H3 T3 HW36 B3
          go_wp2_with (at_builtin; refine Tn.listW rfl _ _ rfl ts [4611686018427387904, 9223372036854775807] _ _ 2 _ (w3.heap.size + 1 + 1) rfl rfl O5.out L5.out rfl HTs.out (by decide) (by rw [World.size_alloc]; omega) ?_)
          intro v5 w5 hO5 hg5
          have hb5 := B5.out.grown hg5 B5.out.size (fun k e => by have := (World.ownsRow.lt O5.out k e).1; omega)
          have hx5 : Hp.Box w5 (w3.heap.size + 1) (0, 0, 0, 0) := (hg5.block (w3.heap.size + 1) (Array.getElem?_eq_some_iff.1 X5.out).1 (fun e => by have := (World.ownsRow.lt O5.out _ e.symm).1; omega)).trans X5.out
          obtain ⟨pu, cu, rfl, hAu⟩ := hO5.at
          have hlu : ∀ b off, pu = some ⟨b, off, none⟩ → (ts ++ [4611686018427387904, 9223372036854775807]) ≠ [] → b ≠ w3.heap.size + 1 := fun b off e _ => by have := (World.ownsRow.lt hO5 b (by rw [e]; rfl)).1; omega
          rw [← hx] at hx5 hlu HP3 ⊢
          have hxw : w.heap.size ≤ x := by have := HB3.out.size; omega
          have S0 := Lib.hid (show Hp.At w5 p3 K ∧ (∀ b off, p3 = some ⟨b, off, none⟩ → K ≠ [] → b ≠ x) ∧ Hp.Box w5 x (0, 0, 0, 0) ∧ Wp.At Wp.mkN w5 pu (ts ++ [4611686018427387904, 9223372036854775807]) ∧ Below w.heap.size w w5 from ⟨HA3.out.below hb5, HP3.out, hx5, hAu, HB3.out.trans (hb5.mono HB3.out.size)⟩)
          have HLU := Lib.hid hlu
          have HXW := Lib.hid hxw
          have Hn1 := Lib.hid hn1
          have HK1 := Lib.hid hKl
          have HKL := Lib.hid hk1
          clear hx5 hlu hAu hO5 hg5 hb5 hx hn1 hk1 hkl hKl hxw HA3 HT3 HB3 B5 L5 O5 X5 HP3 T2 M2 B2 A1 T1 B1 Hm HTs ht
          generalize (ts ++ [4611686018427387904, 9223372036854775807]) = U at *
          obtain ⟨N, hN⟩ : ∃ N, N = U.length := ⟨_, rfl⟩
          have HN := Lib.hid hN
          have hN22 : N ≤ 22 := by have := HU.out; omega
          rw [← hN]
          clear hN HU
          go_wp2_with fail
          go_loopw [7, 13, 57] (fun v7 v13 v57 wr => ∃ (i nn : Nat) (H : List (Int × Int × Int × Int)) (pp : Option Addr) (cc : Nat) (z : Int × Int × Int × Int), i ≤ N ∧ v57 = .int .i64 i ∧ v13 = .int .i64 nn ∧ v7 = .slice pp H.length cc ∧ Hid (Tn.Inv U K.length gone i nn H) ∧ Hid (Hp.At wr pp H ∧ (∀ b off, pp = some ⟨b, off, none⟩ → H ≠ [] → b ≠ x) ∧ Hp.Box wr x z ∧ Wp.At Wp.mkN wr pu U ∧ Below w.heap.size w wr)) (fun _ _ v57 _ => N - (intOf v57).toNat)
          case atStart => exact ⟨0, 0, K, p3, c3, (0, 0, 0, 0), Nat.zero_le _, rfl, rfl, (by rw [show K.length = n from HKL.out]), HI, S0⟩
          case round =>
            clear S0
            obtain ⟨i, nn, H, pp, cc, z, hi, rfl, rfl, rfl, HInv, HS⟩ := hrel
            have hmany := HInv.out.2.2.2.1
            have hnn : nn ≤ 100 := by have := HK1.out; omega
            have hHl : H.length ≤ 140737488351232 := by have := HK1.out; omega
            by_cases hlt : i < N
            · have hil : i < U.length := by rw [← HN.out]; exact hlt
              obtain ⟨hchk, hinv, hall, hord⟩ := Tn.next HInv.out hil (HLast.out i hil)
              obtain ⟨s1, s2, s3, s4, s5⟩ := HS.out
              have CD := Lib.hid (due_DrainF H U[i] pp cc wr s1 hHl)
              rw [hchk] at CD
              have hcell : ∃ b off, pu = some ⟨b, off, none⟩ ∧ wr.cell? ⟨b, off + i, none⟩ = some (.int .i64 U[i]) := by
                rcases s4 with h | ⟨b, off, h1, h2⟩
                · rw [h] at hil; simp at hil
                · exact ⟨b, off, h1, (h2 i hil).trans rfl⟩
              obtain ⟨ub, uo, hpu, hcell⟩ := hcell
              have hdl : (Du.due (Hp.soL H) U[i]).length ≤ 100 := by have := hinv.2.2.2.1; have := HK1.out; omega
              have HIn2 := Lib.hid hinv
              have HAll := Lib.hid hall
              have HOrd := Lib.hid hord
              generalize U[i] = tt at *
              generalize Du.due (Hp.soL H) tt = D at *
              generalize List.drop D.length (Hp.soL H) = G at *
              clear hchk hinv hall hord s1 s2 s3 s4 s5 hmany HInv
              generalize H.length = hl at *
              subst hpu
              go_wp2_with fail
              refine CD.out.mono ?_
              rintro e w6 ⟨p6, c6, q6, d6, rfl, hA6, hD6, hb6, hp6, hq6⟩
              obtain ⟨-, -, s3, s4, s5⟩ := HS.out
              have hxl := (Array.getElem?_eq_some_iff.1 s3).1
              have HS6 := Lib.hid (show Hp.At w6 p6 G ∧ (∀ b off, p6 = some ⟨b, off, none⟩ → G ≠ [] → b ≠ x) ∧ Hp.Box w6 x z ∧ Wp.At Wp.mkN w6 (some ⟨ub, uo, none⟩) U ∧ Below w.heap.size w w6 from ⟨hA6, fun b off e _ => by have := hp6 b off e; omega, s3.below hb6, s4.below hb6, s5.trans (hb6.mono s5.size)⟩)
              have HD6 := Lib.hid (show Hp.At w6 q6 D ∧ (∀ b off, q6 = some ⟨b, off, none⟩ → D ≠ [] → b ≠ x) from ⟨hD6, fun b off e _ => by have := hq6 b off e; omega⟩)
              clear hA6 hD6 hb6 hp6 hq6 s3 s4 s5 hxl CD HS hcell
              obtain ⟨M, hM⟩ : ∃ M, M = D.length := ⟨_, rfl⟩
              have HM := Lib.hid hM
              rw [← hM] at hdl ⊢
              clear hM
              go_wp2_with fail
              go_loopw [13, 72] (fun v13 v72 wq => ∃ (j : Nat) (z' : Int × Int × Int × Int), j ≤ M ∧ v72 = .int .i64 j ∧ v13 = .int .i64 ((nn + j : Nat) : Int) ∧ Hid (0 < j → ∀ h : j - 1 < D.length, z' = D[j - 1]) ∧ Hid (Hp.At wq p6 G ∧ Hp.Box wq x z' ∧ Wp.At Wp.mkN wq (some ⟨ub, uo, none⟩) U ∧ Below w.heap.size w wq ∧ Hp.At wq q6 D)) (fun _ v72 _ => M - (intOf v72).toNat)
              case atStart => exact ⟨0, z, Nat.zero_le _, rfl, rfl, Lib.hid (fun h => absurd h (by omega)), Lib.hid ⟨HS6.out.1, HS6.out.2.2.1, HS6.out.2.2.2.1, HS6.out.2.2.2.2, HD6.out.1⟩⟩
              case round =>
                obtain ⟨j, z', hj, rfl, rfl, HZ, HQ⟩ := hrel
                by_cases hjl : j < M
                · have hjd : j < D.length := by rw [← HM.out]; exact hjl
                  obtain ⟨a1, a2, a3, a4, a5⟩ := HQ.out
                  obtain ⟨db, dof, rfl, ⟨e0, e1, e2, e3⟩⟩ := a5.get j hjd
                  obtain ⟨hs, htt⟩ := HAll.out j hjd
                  have hlt2 : 0 < j → Hp.lt z' D[j] = true := fun h => by
                    have h1 := HOrd.out (j - 1) (by omega) (by omega)
                    have h2 := HZ.out h (by omega)
                    rw [h2]
                    have e : j - 1 + 1 = j := by omega
                    simp only [e] at h1
                    exact h1
                  have hlast : ∀ h : j + 1 - 1 < D.length, D[j] = D[j + 1 - 1] := fun h => by congr 1
                  generalize hy : D[j] = y at *
                  obtain ⟨y1, y2, y3, y4⟩ := y
                  obtain ⟨z1, z2, z3, z4⟩ := z'
                  simp only [] at e0 e1 e2 e3 hs htt
                  have HY := Lib.hid (hp_box wr (.cells #[.int .i64 y1, .int .i64 y2, .int .u8 y3, .int .i64 y4] 29))
                  have HN2 := Lib.hid (hp_new wr (.cells #[.int .i64 y1, .int .i64 y2, .int .u8 y3, .int .i64 y4] 29))
                  have hbz := a2.below HY.out
                  have HQ2 := Lib.hid (show Hp.At (Tn.put (wr.alloc (.cells #[.int .i64 y1, .int .i64 y2, .int .u8 y3, .int .i64 y4] 29)) x (y1, y2, y3, y4)) p6 G ∧ Hp.Box (Tn.put (wr.alloc (.cells #[.int .i64 y1, .int .i64 y2, .int .u8 y3, .int .i64 y4] 29)) x (y1, y2, y3, y4)) x (y1, y2, y3, y4) ∧ Wp.At Wp.mkN (Tn.put (wr.alloc (.cells #[.int .i64 y1, .int .i64 y2, .int .u8 y3, .int .i64 y4] 29)) x (y1, y2, y3, y4)) (some ⟨ub, uo, none⟩) U ∧ Below w.heap.size w (Tn.put (wr.alloc (.cells #[.int .i64 y1, .int .i64 y2, .int .u8 y3, .int .i64 y4] 29)) x (y1, y2, y3, y4)) ∧ Hp.At (Tn.put (wr.alloc (.cells #[.int .i64 y1, .int .i64 y2, .int .u8 y3, .int .i64 y4] 29)) x (y1, y2, y3, y4)) (some ⟨db, dof, none⟩) D from
                    ⟨Tn.put_at (a1.below HY.out) HS6.out.2.1 _, Tn.put_box hbz _, Tn.put_nums (a3.below HY.out) HLU.out _, (hp_then a4 HY.out a4.size).grown (Tn.put_grown _ x _) (Nat.le_trans a4.size HY.out.size) (fun k e => by cases e; exact HXW.out), Tn.put_at (a5.below HY.out) HD6.out.2 _⟩)
                  have HLs := Lib.hid (show 0 < j + 1 → ∀ h : j + 1 - 1 < D.length, (y1, y2, y3, y4) = D[j + 1 - 1] from fun _ h => hy.symm.trans (hlast h))
                  obtain ⟨n0, n1, n2, n3⟩ := Hp.box HN2.out
                  obtain ⟨k0, k1, k2, k3⟩ := hbz.cells
                  have g0 := hp_box_frozen hbz 0
                  have g1 := hp_box_frozen hbz 1
                  have g2 := hp_box_frozen hbz 2
                  have g3 := hp_box_frozen hbz 3
                  have f1 : (y2 == gone) = false := beq_eq_false_iff_ne.2 hs
                  have f2 : ¬ tt < y1 := by omega
                  have hcs : (¬ (0 : Int) < (j : Int)) ∨ ((0 : Int) < (j : Int) ∧ ((¬ y1 < z1 ∧ (y1 == z1) = false) ∨ (¬ y1 < z1 ∧ (y1 == z1) = true ∧ ¬ y2 ≤ z2))) := by
                    by_cases hj0 : 0 < j
                    · right
                      refine ⟨by omega, ?_⟩
                      have h := Hp.lt_iff.1 (hlt2 hj0)
                      simp only [] at h
                      rcases h with h | ⟨h1, h2⟩
                      · left; exact ⟨by omega, beq_eq_false_iff_ne.2 (by omega)⟩
                      · right; exact ⟨by omega, by rw [beq_iff_eq]; omega, by omega⟩
                    · left; omega
                  clear hs htt hlt2 hlast hy a1 a2 a3 a4 a5 hbz HQ HZ HAll HOrd
                  rcases hcs with c1 | ⟨c1, ⟨c2, c3⟩ | ⟨c2, c3, c4⟩⟩
                  all_goals
                    go_wp2_with fail
                    exact ⟨⟨j + 1, (y1, y2, y3, y4), by omega, by go_num, by go_num, HLs, HQ2⟩, by simp [intOf]; omega⟩
                · obtain rfl : j = M := by omega
                  have HS7 := Lib.hid (show Hp.At wr p6 G ∧ (∀ b off, p6 = some ⟨b, off, none⟩ → G ≠ [] → b ≠ x) ∧ Hp.Box wr x z' ∧ Wp.At Wp.mkN wr (some ⟨ub, uo, none⟩) U ∧ Below w.heap.size w wr from ⟨HQ.out.1, HS6.out.2.1, HQ.out.2.1, HQ.out.2.2.1, HQ.out.2.2.2.1⟩)
                  have HI7 := Lib.hid (show Tn.Inv U K.length gone (i + 1) (nn + j) G by rw [HM.out]; exact HIn2.out)
                  clear HS6 HD6 HIn2 HAll HOrd HZ HQ
                  go_wp2_with fail
                  exact ⟨⟨i + 1, nn + j, G, p6, _, z', by omega, by go_num, by go_num, rfl, HI7, HS7⟩, by simp [intOf]; omega⟩
            · obtain rfl : i = N := by omega
              have hH : H = [] := HInv.out.2.2.2.2 HN.out
              subst hH
              have hfin : (nn : Int) = (n : Int) := by have := Hn1.out; rw [List.length_nil] at hmany; omega
              have HB9 := Lib.hid HS.out.2.2.2.2
              clear hmany
              go_wp2_with fail
              go_ret
              exact ⟨rfl, HB9.out⟩
      · have r1 : (Hp.mkC l == 0) = false := by simpa using hz
        have r2 : (Hp.mkC l != 0) = true := by simpa using hz
        generalize Hp.mkC l = z at *
        clear hz hA hT hb
        generalize l.length = n at *
        generalize ts.length = m at *
        have q1 : ¬ (100 : Int) < (n : Int) := by omega
        have q2 : ¬ (20 : Int) < (m : Int) := by omega
        clear hl ht hn hnt
        go_enter Try.func3, Try.ntmps3
        go_wp2_with fail
        refine (CB.out _).mono ?_
        rintro e w1 ⟨rfl, hb⟩
        have A1 := Lib.hid (A0.out.below hb)
        have T1 := Lib.hid (T0.out.below hb)
        have B1 := Lib.hid hb
        clear hb
        go_wp2_with fail
        refine (C1.out _ A1.out).mono ?_
        rintro e w2 ⟨p2, c2, rfl, hA, hb⟩
        have B2 := Lib.hid (hp_then B1.out hb B1.out.size)
        clear hA hb
        go_wp2_with fail
        go_ret
        exact ⟨rfl, B2.out⟩
    · clear hA hT hb
      generalize l.length = n at *
      generalize ts.length = m at *
      have q1 : ¬ (100 : Int) < (n : Int) := by omega
      have q2 : (20 : Int) < (m : Int) := by omega
      clear hl ht hn hnt
      go_enter Try.func3, Try.ntmps3
      go_wp2_with fail
      refine (CB.out _).mono ?_
      rintro e w1 ⟨rfl, hb⟩
      have A1 := Lib.hid (A0.out.below hb)
      have T1 := Lib.hid (T0.out.below hb)
      have B1 := Lib.hid hb
      clear hb
      go_wp2_with fail
      go_ret
      exact ⟨rfl, B1.out⟩
  · clear hA hT hb
    generalize l.length = n at *
    generalize ts.length = m at *
    have q1 : (100 : Int) < (n : Int) := by omega
    clear hl hn hnt
    go_enter Try.func3, Try.ntmps3
    go_wp2_with fail
    refine (CB.out _).mono ?_
    rintro e w1 ⟨rfl, hb⟩
    have A1 := Lib.hid (A0.out.below hb)
    have T1 := Lib.hid (T0.out.below hb)
    have B1 := Lib.hid hb
    clear hb
    go_wp2_with fail
    go_ret
    exact ⟨rfl, B1.out⟩
end Go.Proofs.Ytlbifinkjghgaaa
