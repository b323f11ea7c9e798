
/-
  The walk of heap.Push: a right heap with one timer more, or why there is none. Condition: the list is of a size that a machine holds.
-/
import Derived.Test.YtaaodbljdpchhaaHpMake
namespace Go.Proofs.Ytaaodbljdpchhaa
open Go.RowKit Go.Lib Go.Sort Go.Shelf

noncomputable def Hp.puC (l : List (Int × Int × Int × Int)) (s : Int) : Int := @ite _ (Hp.Ok l) (Classical.propDecidable _) (if 0 ≤ Hp.plc l s then 4 else if l.length = 4096 then 8 else 0) 2
noncomputable def Hp.puL (l : List (Int × Int × Int × Int)) (t : Int × Int × Int × Int) : List (Int × Int × Int × Int) := if Hp.puC l t.2.1 = 0 then Hp.pushF l t else if Hp.puC l t.2.1 = 2 then [] else l
theorem Hp.one {w : World} {g : Nat} {x : Int × Int × Int × Int} (h : Hp.At1 w g 0 x) : Hp.At w (some ⟨g, 0, none⟩) [x] := by
  refine Or.inr ⟨g, 0, rfl, fun i hi => ?_⟩
  obtain rfl : i = 0 := by simp at hi; omega
  exact h
theorem Hp.one_new (w : World) (x : Int × Int × Int × Int) : Hp.At (w.alloc (.cells #[.int .i64 x.1, .int .i64 x.2.1, .int .u8 x.2.2.1, .int .i64 x.2.2.2] 31)) (some ⟨w.heap.size, 0, none⟩) [x] := Hp.one (Hp.boxed (hp_new w _))
theorem Hp.At.below' {w w' : World} {p : Option Addr} {l : List (Int × Int × Int × Int)} (h : Hp.At w p l) (hb : Below w.drew.heap.size w.drew w') : Hp.At w' p l := Hp.At.below (w := w.drew) h hb
theorem hp_grown_own {w0 w w' : World} {base : Nat} {v : Value} {l : List (Int × Int × Int × Int)} (h : Below base w0 w) (hO : Hp.Own w base v l) (hg : w.grownBy w' v.ownBlock) (hb : base ≤ w.heap.size) : Below base w0 w' := h.grown hg hb (fun k hk => (hO.lt k hk).1)
set_option maxHeartbeats 4000000 in
set_option maxRecDepth 100000 in
theorem hp_Push (l : List (Int × Int × Int × Int)) (t : Int × Int × Int × Int) (p : Option Addr) (c : Nat) (w : World) (hA : Hp.At w p l) (hn : l.length ≤ 140737488351232) :
    Calls Try.prog 25 #[.slice p l.length c, .agg #[.int .i64 t.1, .int .i64 t.2.1, .int .u8 t.2.2.1, .int .i64 t.2.2.2]] w (Hp.Got (Hp.puL l t) (Hp.puC l t.2.1) w) := by
  have HL := Lib.hid (show Hp.puL l t = if Hp.puC l t.2.1 = 0 then Hp.pushF l t else if Hp.puC l t.2.1 = 2 then [] else l from rfl)
  have HOk := Lib.hid (fun h : Hp.Ok l => (show Hp.puC l t.2.1 = if 0 ≤ Hp.plc l t.2.1 then 4 else if l.length = 4096 then 8 else 0 from if_pos h))
  have HNo := Lib.hid (fun h : ¬ Hp.Ok l => (show Hp.puC l t.2.1 = 2 from if_neg h))
  have CK := Lib.hid (fun W h => hp_Check l p c W h hn)
  have CP := Lib.hid (fun W h => hp_place l p c t.2.1 W h hn)
  have HPF := Lib.hid (show Hp.pushF l t = Hp.riseF l.length (l ++ [t]) l.length from rfl)
  have HPl := Lib.hid (show (Hp.pushF l t).length = l.length + 1 by rw [(Hp.pushF_perm l t).length_eq]; rfl)
  generalize Hp.pushF l t = F at *
  generalize Hp.puL l t = R at *
  obtain ⟨t1, t2, t3, t4⟩ := t
  simp only [] at HL HOk HNo CP ⊢
  generalize Hp.puC l t2 = Z at *
  have hb0 := hp_box w (.cells #[.int .i64 t1, .int .i64 t2, .int .u8 t3, .int .i64 t4] 31)
  have x0 := hp_new w (.cells #[.int .i64 t1, .int .i64 t2, .int .u8 t3, .int .i64 t4] 31)
  obtain ⟨W0, hW0⟩ : ∃ W0, w.alloc (.cells #[.int .i64 t1, .int .i64 t2, .int .u8 t3, .int .i64 t4] 31) = W0 := ⟨_, rfl⟩
  have s0 : W0.heap.size = w.heap.size + 1 := by rw [← hW0, World.size_alloc]
  have HW0 := Lib.hid hW0
  rw [hW0] at hb0 x0
  have A0 := Lib.hid (hA.below hb0)
  have B0 := Lib.hid hb0
  have X0 := Lib.hid x0
  have S0 := Lib.hid s0
  clear hb0 x0 s0 hW0 hA
  by_cases hok : Hp.Ok l
  · have E1 := Lib.hid (HOk.out hok)
    rw [Hp.chk_ok hok] at CK
    have hlen := hok.1
    have CC := Lib.hid (fun W h => hp_Clone l p c W h (by omega))
    clear hok HOk HNo
    by_cases hpl : 0 ≤ Hp.plc l t2
    · have E2 := Lib.hid (E1.out.trans (if_pos hpl))
      have E3 := Lib.hid (show R = l by rw [HL.out, E2.out]; rfl)
      clear E1 HL
      generalize Hp.plc l t2 = pl at *
      obtain ⟨n, hnl⟩ : ∃ n, n = l.length := ⟨_, rfl⟩
      have Hn := Lib.hid hnl
      rw [← hnl] at CK CP CC
      rw [← hnl]
      clear hnl hlen hn
      go_enter Try.func25, Try.ntmps25
      go_wp2_with fail
      rw [HW0.out]
      refine (CK.out _ A0.out).mono ?_
      rintro e w1 ⟨rfl, hb⟩
      have A1 := Lib.hid (A0.out.below hb)
      have B1 := Lib.hid (hp_then B0.out hb B0.out.size)
      obtain ⟨x1, x2, x3, x4⟩ := Hp.box ((hb.block w.heap.size (by have := S0.out; omega)).trans X0.out)
      clear hb
      go_wp2_with fail
      refine (CP.out _ A1.out).mono ?_
      rintro e w2 ⟨rfl, hb⟩
      have A2 := Lib.hid (A1.out.below hb)
      have B2 := Lib.hid (hp_then B1.out hb B1.out.size)
      clear hb x1 x2 x3 x4
      go_wp2_with fail
      refine (CC.out _ A2.out).mono ?_
      rintro e w3 ⟨v, rfl, hO, hb⟩
      have O3 := Lib.hid hO
      have B3 := Lib.hid (hp_then B2.out hb B2.out.size)
      clear hb hO
      go_wp2_with fail
      go_ret2
      obtain ⟨pv, cv, rfl, hA3⟩ := O3.out.at
      rw [E2.out, E3.out]
      exact ⟨pv, cv, rfl, hA3, B3.out⟩
    · have E2 := Lib.hid (E1.out.trans (if_neg hpl))
      clear E1
      have hpz : Hp.plc l t2 < 0 := by omega
      generalize Hp.plc l t2 = pl at *
      clear hpl
      by_cases hfull : l.length = 4096
      · have E4 := Lib.hid (E2.out.trans (if_pos hfull))
        have E3 := Lib.hid (show R = l by rw [HL.out, E4.out]; rfl)
        have HF := Lib.hid hfull
        rw [hfull] at CK CP CC
        rw [hfull]
        clear E2 HL hfull hlen hn
        go_enter Try.func25, Try.ntmps25
        go_wp2_with fail
        rw [HW0.out]
        refine (CK.out _ A0.out).mono ?_
        rintro e w1 ⟨rfl, hb⟩
        have A1 := Lib.hid (A0.out.below hb)
        have B1 := Lib.hid (hp_then B0.out hb B0.out.size)
        obtain ⟨x1, x2, x3, x4⟩ := Hp.box ((hb.block w.heap.size (by have := S0.out; omega)).trans X0.out)
        clear hb
        go_wp2_with fail
        refine (CP.out _ A1.out).mono ?_
        rintro e w2 ⟨rfl, hb⟩
        have A2 := Lib.hid (A1.out.below hb)
        have B2 := Lib.hid (hp_then B1.out hb B1.out.size)
        clear hb x1 x2 x3 x4
        go_wp2_with fail
        refine (CC.out _ A2.out).mono ?_
        rintro e w3 ⟨v, rfl, hO, hb⟩
        have O3 := Lib.hid hO
        have B3 := Lib.hid (hp_then B2.out hb B2.out.size)
        clear hb hO
        go_wp2_with fail
        go_ret2
        obtain ⟨pv, cv, rfl, hA3⟩ := O3.out.at
        rw [E4.out, E3.out]
        exact ⟨pv, cv, rfl, hA3, B3.out⟩
      · have E4 := Lib.hid (E2.out.trans (if_neg hfull))
        have E3 := Lib.hid (show R = F by rw [HL.out, E4.out]; rfl)
        clear E2 HL
        obtain ⟨n, hnl⟩ : ∃ n, n = l.length := ⟨_, rfl⟩
        have Hn := Lib.hid hnl
        rw [← hnl] at CK CP CC hlen hfull HPF HPl
        rw [← hnl]
        clear hnl hn
        have q1 : ((n : Int) == 4096) = false := by simp; omega
        clear hfull
        go_enter Try.func25, Try.ntmps25
        go_wp2_with fail
        rw [HW0.out]
        refine (CK.out _ A0.out).mono ?_
        rintro e w1 ⟨rfl, hb⟩
        have A1 := Lib.hid (A0.out.below hb)
        have B1 := Lib.hid (hp_then B0.out hb B0.out.size)
        have hx1 := (hb.block w.heap.size (by have := S0.out; omega)).trans X0.out
        have hlt1 : w.heap.size < w1.heap.size := by have := S0.out; have := hb.size; omega
        have X1 := Lib.hid hx1
        obtain ⟨x1, x2, x3, x4⟩ := Hp.box hx1
        clear hb hx1
        go_wp2_with fail
        refine (CP.out _ A1.out).mono ?_
        rintro e w2 ⟨rfl, hb⟩
        have A2 := Lib.hid (A1.out.below hb)
        have B2 := Lib.hid (hp_then B1.out hb B1.out.size)
        have X2 := Lib.hid ((hb.block w.heap.size hlt1).trans X1.out)
        have hlt2 : w.heap.size < w2.heap.size := by have := hb.size; omega
        clear hb x1 x2 x3 x4 hlt1
        obtain ⟨x1, x2, x3, x4⟩ := Hp.box X2.out
        have hln : l.length ≤ 1000000 := by rw [← Hn.out]; omega
        have hone : [(t1, t2, t3, t4)].length ≤ 1000000 := by simp
        have HK := Lib.hid (fun (W : World) (hW : Below w2.heap.size w2 W) => Hp.box ((hW.block w.heap.size hlt2).trans X2.out))
        go_wp2_with fail
        go_region_held3 (fun w' => w'.cell? ⟨w.heap.size, 0, none⟩ = some (.int .i64 t1) ∧ w'.cell? ⟨w.heap.size, 1, none⟩ = some (.int .i64 t2) ∧ w'.cell? ⟨w.heap.size, 2, none⟩ = some (.int .u8 t3) ∧ w'.cell? ⟨w.heap.size, 3, none⟩ = some (.int .i64 t4))
          (first | (with_reducible exact HK.out _ e6) | (with_reducible exact HK.out _ e1) | (with_reducible exact HK.out _ (e1.alloc e1.size _)) | (with_reducible exact HK.out _ (Below.refl _ w2).drew) | (go_keep; done))
          (first
            | (go_at_call 42; (with_reducible refine (CC.out _ (A2.out.below (Below.refl _ w2).drew)).mono ?_); rintro e w5 ⟨v5, rfl, hO5, hb5⟩; have e1 : Below w2.heap.size w2 w5 := (Below.refl _ w2).drew.trans hb5; have hoA : Hp.Own (w5.alloc (.cells #[.int .i64 t1, .int .i64 t2, .int .u8 t3, .int .i64 t4] 31)) w2.heap.size v5 l := hO5.below (hp_box w5 _))
            | (go_at_call 42; (with_reducible refine (CC.out _ (A2.out.below ((hp_box w2 (.cells #[.int .i64 t1, .int .i64 t2, .int .u8 t3, .int .i64 t4] 31)).drew))).mono ?_); rintro e w5 ⟨v5, rfl, hO5, hb5⟩; have e2 := hp_then ((hp_box w2 (.cells #[.int .i64 t1, .int .i64 t2, .int .u8 t3, .int .i64 t4] 31)).drew) hb5 (Nat.le_trans (Nat.le_succ _) (Nat.le_of_eq (World.size_alloc w2 _).symm)); have e1 := e2; clear e2; have hoB : Hp.Own w5 w2.heap.size v5 l := hO5.mono (Nat.le_trans (Nat.le_succ _) (Nat.le_of_eq (World.size_alloc w2 _).symm)); have hatB : Hp.At w5 (some ⟨w2.heap.size, 0, none⟩) [(t1, t2, t3, t4)] := (Hp.one_new w2 (t1, t2, t3, t4)).below' hb5)
            | (refine Hp.step rfl _ _ rfl l [(t1, t2, t3, t4)] v5 _ _ _ w2.heap.size rfl rfl hoA (Hp.one_new w5 (t1, t2, t3, t4)) rfl hln hone (e1.alloc e1.size _).size ?_; intro v6 w6 hO6 hg6; have e6 := hp_grown_own (e1.alloc e1.size _) hoA hg6 (e1.alloc e1.size _).size)
            | (refine Hp.step rfl _ _ rfl l [(t1, t2, t3, t4)] v5 _ _ _ w2.heap.size rfl rfl hoB hatB rfl hln hone e1.size ?_; intro v6 w6 hO6 hg6; have e6 := hp_grown_own e1 hoB hg6 e1.size))
        all_goals
          have HO6 := Lib.hid hO6
          have E6 := Lib.hid e6
          clear hO6 hg6 e6 e1 hO5 hb5 x1 x2 x3 x4
          rcases HO6.out.blk with ⟨h0, _⟩ | ⟨g, cap, rest, rfl, hg, hBk, _, _⟩
          · exact absurd h0 (by simp)
          rw [show (l ++ [(t1, t2, t3, t4)]).length = n + 1 by rw [List.length_append, ← Hn.out]; rfl]
          have HB6 := Lib.hid hBk
          have hlen1 : (l ++ [(t1, t2, t3, t4)]).length = n + 1 := by rw [List.length_append, ← Hn.out]; rfl
          have CR := Lib.hid (hp_rise (l ++ [(t1, t2, t3, t4)]) n g cap rest w6 n (Nat.le_refl _) (by rw [hlen1]; omega) (by rw [hlen1]; omega) hBk)
          rw [hlen1, ← HPF.out] at CR
          clear hBk hlen1
          go_wp2_with fail
          refine CR.out.mono ?_
          rintro e w7 ⟨rfl, hb7, hg7⟩
          have hz := B2.out.size
          have B7 := Lib.hid ((B2.out.trans (E6.out.mono hz)).grown hg7 (Nat.le_trans hz E6.out.size) (fun k hk => by cases hk; omega))
          have A7 := Lib.hid hb7.at
          clear hb7 hg7 hz
          go_wp2_with fail
          go_ret2
          rw [E4.out, E3.out]
          exact ⟨some ⟨g, 0, none⟩, cap, by rw [HPl.out]; rfl, A7.out, B7.out⟩
  · have E1 := Lib.hid (HNo.out hok)
    have E3 := Lib.hid (show R = [] by rw [HL.out, E1.out]; rfl)
    rw [Hp.chk_bad hok] at CK
    clear hok HOk HNo HL CP HPF HPl
    generalize l.length = n at *
    go_enter Try.func25, Try.ntmps25
    go_wp2_with fail
    rw [HW0.out]
    refine (CK.out _ A0.out).mono ?_
    rintro e w1 ⟨rfl, hb⟩
    have B1 := Lib.hid (hp_then B0.out hb B0.out.size)
    clear hb
    go_wp2_with fail
    go_ret2
    rw [E1.out, E3.out]
    exact ⟨none, 0, rfl, Hp.At.nil _ _, B1.out⟩
end Go.Proofs.Ytaaodbljdpchhaa
