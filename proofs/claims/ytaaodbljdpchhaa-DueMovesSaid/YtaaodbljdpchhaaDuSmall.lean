/-
  The walks of due.Next and due.Move. Condition: the list is of a size that a machine holds.
-/
import Derived.Test.YtaaodbljdpchhaaHpLives
namespace Go.Proofs.Ytaaodbljdpchhaa
open Go.RowKit Go.Lib Go.Sort Go.Shelf

theorem du_results {fn : Func} {p u : Tmp} {ty : TypeId} (h : fn.results = #[.cell p ty, .tmp u]) (tmps : Array Value) (P : Program) (w : World) :
    (results fn tmps).run P w = ((asAddr (tmps.getD p undef)).run P w).andThen fun a w' => ((loadVar ty a).run P w').andThen fun v w'' => .ok (.tuple #[v, tmps.getD u undef]) w'' := by
  simp only [results, h]
  simp [Sem.run_bind, Result.andThen]
theorem du_ret {P : Program} {fn : Func} {p u : Tmp} {ty : TypeId} (h : fn.results = #[.cell p ty, .tmp u]) (tmps : Array Value) (w : World) (g : Nat) (t : TypeId) (cs : Array Value) (d : TypeDesc) (hp : tmps.getD p undef = .pointer (some ⟨g, 0, none⟩))
    (hg : w.heap[g]? = some (.cells cs t (0, 0))) (hu : P.underlying ty = some d) (hd : (match d with | .struct _ | .array _ _ => true | _ => false) = true) (hi : (P.info? ty).map (·.size) = some cs.size) :
    (results fn tmps).run P w = .ok (.tuple #[.agg cs, tmps.getD u undef]) w := by
  have hl := run_loadVar_row w g t ty cs (0, 0) d hg hu hd hi
  have ha : (asAddr (tmps.getD p undef)).run P w = .ok ⟨g, 0, none⟩ w := by rw [hp]; rfl
  rw [du_results h, ha, Result.andThen_ok, hl, Result.andThen_ok]
set_option maxHeartbeats 4000000 in
set_option maxRecDepth 100000 in
theorem due_Next (l : List (Int × Int × Int × Int)) (p : Option Addr) (c : Nat) (w : World) (hA : Hp.At w p l) (hn : l.length ≤ 140737488351232) :
    Calls Try.prog 32 #[.slice p l.length c] w fun e w' => e = .returned (.tuple #[.agg #[.int .i64 (Hp.poT l).1, .int .i64 (Hp.poT l).2.1, .int .u8 (Hp.poT l).2.2.1, .int .i64 (Hp.poT l).2.2.2], .int .i64 (Hp.poC l)]) ∧ Below w.heap.size w w' := by
  have HT := Lib.hid (show Hp.poT l = if Hp.poC l = 0 then Hp.g l 0 else (0, 0, 0, 0) from rfl)
  have HOk := Lib.hid (fun h : Hp.Ok l => (show Hp.poC l = if l.length = 0 then 3 else 0 from if_pos h))
  have HNo := Lib.hid (fun h : ¬ Hp.Ok l => (show Hp.poC l = 2 from if_neg h))
  have CK := Lib.hid (fun W h => hp_Check l p c W h hn)
  generalize Hp.poT l = T at *
  generalize Hp.poC l = Z at *
  have hb0 := hp_box w (.cells #[.int .i64 0, .int .i64 0, .int .u8 0, .int .i64 0] 31)
  have x0 := hp_new w (.cells #[.int .i64 0, .int .i64 0, .int .u8 0, .int .i64 0] 31)
  obtain ⟨W0, hW0⟩ : ∃ W0, w.alloc (.cells #[.int .i64 0, .int .i64 0, .int .u8 0, .int .i64 0] 31) = W0 := ⟨_, rfl⟩
  have s0 : W0.heap.size = w.heap.size + 1 := by rw [← hW0, World.size_alloc]
  have HW0 := Lib.hid hW0
  rw [hW0] at hb0 x0
  have A0 := Lib.hid (hA.below hb0)
  have B0 := Lib.hid hb0
  have X0 := Lib.hid x0
  have S0 := Lib.hid s0
  clear hb0 x0 s0 hW0 hA
  by_cases hok : Hp.Ok l
  · have E1 := Lib.hid (HOk.out hok)
    rw [Hp.chk_ok hok] at CK
    have hlen := hok.1
    clear hok HOk HNo
    by_cases h0 : l.length = 0
    · have E2 := Lib.hid (E1.out.trans (if_pos h0))
      have E4 := Lib.hid (show T = (0, 0, 0, 0) by rw [HT.out, E2.out]; rfl)
      rw [h0] at CK ⊢
      clear h0 HT E1
      go_enter Try.func32, Try.ntmps32
      go_wp2_with fail
      rw [HW0.out]
      refine (CK.out _ A0.out).mono ?_
      rintro e w1 ⟨rfl, hb⟩
      have hlt1 : w.heap.size < w1.heap.size := by have := S0.out; have := hb.size; omega
      have B1 := Lib.hid (hp_then B0.out hb B0.out.size)
      have X1 := Lib.hid ((hb.block w.heap.size (by have := S0.out; omega)).trans X0.out)
      clear hb
      obtain ⟨x1, x2, x3, x4⟩ := Hp.box X1.out
      have fz := hp_box_frozen X1.out
      have hfb := Hp.fill_box X1.out (0, 0, 0, 0)
      have hfB := Hp.fill_below B1.out (Nat.le_refl _) (by omega) (0, 0, 0, 0)
      unfold Hp.fillW at hfb hfB
      simp only [] at hfb hfB
      have FB := Lib.hid hfb
      have FW := Lib.hid (hp_below_undrew hfB)
      clear hfb hfB
      go_wp2_with fail
      refine bodyPost_ret (du_ret rfl _ _ w.heap.size 31 _ _ rfl FB.out Try.underlying31 rfl (by kernel_rfl)) rfl ?_
      rw [E2.out, E4.out]
      exact ⟨rfl, FW.out⟩
    · have E2 := Lib.hid (E1.out.trans (if_neg h0))
      have hl0 : 0 < l.length := by omega
      have hT : T = l[0] := by
        rw [HT.out, E2.out]
        exact (if_pos rfl).trans (by simp [Hp.g, List.getD, hl0])
      have AL := Lib.hid (fun W (h : Hp.At W p l) => by have := h.get 0 hl0; rw [← hT] at this; exact this)
      clear hT HT E1 h0
      generalize l.length = n at *
      have q1 : ((n : Int) == 0) = false := by simp; omega
      have q2 : (0 : Int) < (n : Int) := by omega
      go_enter Try.func32, Try.ntmps32
      go_wp2_with fail
      rw [HW0.out]
      refine (CK.out _ A0.out).mono ?_
      rintro e w1 ⟨rfl, hb⟩
      have hlt1 : w.heap.size < w1.heap.size := by have := S0.out; have := hb.size; omega
      have B1 := Lib.hid (hp_then B0.out hb B0.out.size)
      have X1 := Lib.hid ((hb.block w.heap.size (by have := S0.out; omega)).trans X0.out)
      obtain ⟨b, off, rfl, e1, e2, e3, e4⟩ := AL.out _ (A0.out.below hb)
      clear hb
      obtain ⟨x1, x2, x3, x4⟩ := Hp.box X1.out
      have fz := hp_box_frozen X1.out
      obtain ⟨t1, t2, t3, t4⟩ := T
      simp only [Nat.zero_mul, Nat.add_zero] at e1 e2 e3 e4
      have hfb := Hp.fill_box X1.out (t1, t2, t3, t4)
      have hfB := Hp.fill_below B1.out (Nat.le_refl _) (by omega) (t1, t2, t3, t4)
      unfold Hp.fillW at hfb hfB
      simp only [] at hfb hfB
      have FB := Lib.hid hfb
      have FW := Lib.hid (hp_below_undrew hfB)
      clear hfb hfB
      go_wp2_with fail
      refine bodyPost_ret (du_ret rfl _ _ w.heap.size 31 _ _ rfl FB.out Try.underlying31 rfl (by kernel_rfl)) rfl ?_
      rw [E2.out]
      exact ⟨rfl, FW.out⟩
  · have E2 := Lib.hid (HNo.out hok)
    have E4 := Lib.hid (show T = (0, 0, 0, 0) by rw [HT.out, E2.out]; rfl)
    rw [Hp.chk_bad hok] at CK
    clear hok HOk HNo HT
    generalize l.length = n at *
    go_enter Try.func32, Try.ntmps32
    go_wp2_with fail
    rw [HW0.out]
    refine (CK.out _ A0.out).mono ?_
    rintro e w1 ⟨rfl, hb⟩
    have hlt1 : w.heap.size < w1.heap.size := by have := S0.out; have := hb.size; omega
    have B1 := Lib.hid (hp_then B0.out hb B0.out.size)
    have X1 := Lib.hid ((hb.block w.heap.size (by have := S0.out; omega)).trans X0.out)
    clear hb
    obtain ⟨x1, x2, x3, x4⟩ := Hp.box X1.out
    have fz := hp_box_frozen X1.out
    have hfb := Hp.fill_box X1.out (0, 0, 0, 0)
    have hfB := Hp.fill_below B1.out (Nat.le_refl _) (by omega) (0, 0, 0, 0)
    unfold Hp.fillW at hfb hfB
    simp only [] at hfb hfB
    have FB := Lib.hid hfb
    have FW := Lib.hid (hp_below_undrew hfB)
    clear hfb hfB
    go_wp2_with fail
    refine bodyPost_ret (du_ret rfl _ _ w.heap.size 31 _ _ rfl FB.out Try.underlying31 rfl (by kernel_rfl)) rfl ?_
    rw [E2.out, E4.out]
    exact ⟨rfl, FW.out⟩
/-- The timer as it is moved. -/
noncomputable def Du.moT (l : List (Int × Int × Int × Int)) (s d : Int) : Int × Int × Int × Int := (d, (Hp.caT l s).2.1, (Hp.caT l s).2.2.1, (Hp.caT l s).2.2.2)
noncomputable def Du.moL (l : List (Int × Int × Int × Int)) (s d : Int) : List (Int × Int × Int × Int) := if Hp.caC l s = 0 then Hp.puL (Hp.caL l s) (Du.moT l s d) else Hp.caL l s
noncomputable def Du.moC (l : List (Int × Int × Int × Int)) (s d : Int) : Int := if Hp.caC l s = 0 then Hp.puC (Hp.caL l s) (Du.moT l s d).2.1 else Hp.caC l s
theorem Du.caL_le {l : List (Int × Int × Int × Int)} {s : Int} (h : l.length ≤ 140737488351232) : (Hp.caL l s).length ≤ 140737488351232 := by
  unfold Hp.caL
  by_cases h0 : Hp.caC l s = 0
  · rw [if_pos h0]
    have hok : Hp.Ok l := Classical.byContradiction fun e => by rw [show Hp.caC l s = 2 from if_neg e] at h0; cases h0
    have hi : Hp.idx l s < l.length := Classical.byContradiction fun e => by rw [show Hp.caC l s = if Hp.idx l s < l.length then 0 else 3 from if_pos hok, if_neg e] at h0; cases h0
    have := (Hp.wo_perm l _ hi).length_eq
    simp at this
    omega
  · rw [if_neg h0]
    by_cases h2 : Hp.caC l s = 2
    · rw [if_pos h2]; simp
    · rw [if_neg h2]; exact h
set_option maxHeartbeats 4000000 in
set_option maxRecDepth 100000 in
theorem due_Move (l : List (Int × Int × Int × Int)) (s d : Int) (p : Option Addr) (c : Nat) (w : World) (hA : Hp.At w p l) (hn : l.length ≤ 140737488351232) :
    Calls Try.prog 34 #[.slice p l.length c, .int .i64 s, .int .i64 d] w (Hp.Got (Du.moL l s d) (Du.moC l s d) w) := by
  have HL := Lib.hid (show Du.moL l s d = if Hp.caC l s = 0 then Hp.puL (Hp.caL l s) (Du.moT l s d) else Hp.caL l s from rfl)
  have HZ := Lib.hid (show Du.moC l s d = if Hp.caC l s = 0 then Hp.puC (Hp.caL l s) (Du.moT l s d).2.1 else Hp.caC l s from rfl)
  have CC := Lib.hid (hp_Cancel l s p c w hA hn)
  have CP := Lib.hid (fun W q c2 (h : Hp.At W q (Hp.caL l s)) => hp_Push (Hp.caL l s) (Du.moT l s d) q c2 W h (Du.caL_le hn))
  generalize Du.moL l s d = R at *
  generalize Du.moC l s d = Z at *
  unfold Du.moT at *
  generalize Hp.caT l s = T at *
  generalize Hp.caL l s = K at *
  generalize Hp.caC l s = z at *
  obtain ⟨t1, t2, t3, t4⟩ := T
  clear hA hn
  generalize l.length = n at *
  simp only [] at CP HL HZ CC
  by_cases hz : z = 0
  · subst hz
    rw [if_pos rfl] at HL HZ
    go_enter Try.func34, Try.ntmps34
    go_wp2_with fail
    refine CC.out.mono ?_
    rintro e w1 ⟨p1, c1, rfl, _, hA, hb⟩
    have hbx := hp_box w1 (.cells #[.int .i64 d, .int .i64 t2, .int .u8 t3, .int .i64 t4] 31)
    have A2 := Lib.hid (hA.below hbx)
    have B2 := Lib.hid (hp_then hb hbx hb.size)
    clear hA hb hbx
    go_wp2_with fail
    refine (CP.out _ _ _ A2.out).mono ?_
    rintro e w3 ⟨p3, c3, rfl, hA, hb⟩
    have A3 := Lib.hid hA
    have B3 := Lib.hid (hp_then B2.out hb B2.out.size)
    clear hA hb
    go_wp2_with fail
    go_ret2
    rw [HL.out, HZ.out]
    exact ⟨p3, c3, rfl, A3.out, B3.out⟩
  · rw [if_neg hz] at HL HZ
    have q1 : (z == 0) = false := by simpa using hz
    have q2 : (z != 0) = true := by simpa using hz
    clear hz
    go_enter Try.func34, Try.ntmps34
    go_wp2_with fail
    refine CC.out.mono ?_
    rintro e w1 ⟨p1, c1, rfl, _, hA, hb⟩
    have hbx := hp_box w1 (.cells #[.int .i64 t1, .int .i64 t2, .int .u8 t3, .int .i64 t4] 31)
    have A2 := Lib.hid (hA.below hbx)
    have B2 := Lib.hid (hp_then hb hbx hb.size)
    clear hA hb hbx
    go_wp2_with fail
    go_ret2
    rw [HL.out, HZ.out]
    exact ⟨p1, c1, rfl, A2.out, B2.out⟩
end Go.Proofs.Ytaaodbljdpchhaa
