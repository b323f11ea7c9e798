/-
  The walk of vet's walk: yield is told of each node at its place, in the order of the tokens. Conditions: the nodes are not deeper than so many levels; lists are of a size that a machine holds.
  The walks of vet's places and of its iterator. Conditions: the nodes are at most eight levels deep; lists are of a size that a machine holds.
  The walks of vet's small calls: root, and what Depth, Count and Plain put together. Conditions: numbers are small.
-/
import Derived.Test.YteiccjakaabfnaaGreatDoorZ36
import Derived.RangeFuncNested
import Derived.RangeFuncBound
import Derived.RangeFuncCalls
import Derived.RangeFuncLeaves
import Derived.Shelf.RegionOpen
import Derived.OwnWalkIn
import Derived.TacticsInMore
import Derived.LoopNIn
import Derived.LoopIn
namespace Go.Proofs.YteiccjakaabfnaaGreatDoor
open Go.RowKit Go.Shelf
attribute [local go_sem] Oper.semAt_some

/-- What a loop's body keeps: all blocks below n₀ but for one, and all blocks of nodes. -/
def Vt.Kp (n₀ x : Nat) (A B : World) : Prop := A.heap.size ≤ B.heap.size ∧ (∀ k, k < n₀ → k ≠ x → B.heap[k]? = A.heap[k]?) ∧ ∀ (k : Nat) (cs : Array Value) (fr : Nat × Nat), A.heap[k]? = some (Obj.cells cs 37 fr) → B.heap[k]? = some (Obj.cells cs 37 fr)
theorem Vt.Kp.trans {n₀ x : Nat} {A B C : World} (h : Vt.Kp n₀ x A B) (k : Vt.Kp n₀ x B C) : Vt.Kp n₀ x A C := ⟨Nat.le_trans h.1 k.1, fun j hj hx => (k.2.1 j hj hx).trans (h.2.1 j hj hx), fun j cs fr e => k.2.2 j cs fr (h.2.2 j cs fr e)⟩
theorem Vt.Kp.refl (n₀ x : Nat) (A : World) : Vt.Kp n₀ x A A := ⟨Nat.le_refl _, fun _ _ _ => rfl, fun _ _ _ e => e⟩
theorem Vt.Kp.alloc {n₀ x : Nat} {A B : World} (h : Vt.Kp n₀ x A B) (hn : n₀ ≤ B.heap.size) (o : Obj) : Vt.Kp n₀ x A (B.alloc o) :=
  h.trans ⟨by rw [World.size_alloc]; omega, fun k hk _ => Vl.past B o k (by omega), fun k cs fr e => (Vl.past B o k (Array.getElem?_eq_some_iff.1 e).1).trans e⟩
theorem Vt.Kp.below {n₀ x : Nat} {A B C : World} (h : Vt.Kp n₀ x A B) (hn : n₀ ≤ B.heap.size) (hb : Below B.heap.size B C) : Vt.Kp n₀ x A C :=
  h.trans ⟨hb.size, fun k hk _ => hb.block k (by omega), fun k cs fr e => (hb.block k (Array.getElem?_eq_some_iff.1 e).1).trans e⟩
theorem Vt.Kp.put {n₀ x : Nat} {w : World} (hn : n₀ ≤ w.heap.size) (W : World) (l : Nat) (o o' : Obj) (hl : w.heap.size ≤ l) (h : W.heap[l]? = some o) (hc : o.isCells = false) (_ : o.isWalk = false) : Vt.Kp n₀ x W (W.putObj l o') := by
  have hg := grownBy_putObj' W l o'
  refine ⟨hg.size, fun k hk hx => ?_, fun k cs fr e => ?_⟩
  · by_cases hkl : k < W.heap.size
    · exact hg.block k hkl (fun e => by cases e; omega)
    · have := (Array.getElem?_eq_some_iff.1 h).1; omega
  · refine (hg.block k (Array.getElem?_eq_some_iff.1 e).1 (fun e2 => ?_)).trans e
    cases e2
    rw [h] at e
    cases e
    cases hc
/-- A store into the one block. -/
theorem Vt.Kp.set {n₀ x : Nat} (W : World) (i : Nat) (v : Value) {cs : Array Value} {t : TypeId} {fr : Nat × Nat} (h : W.heap[x]? = some (.cells cs t fr)) (ht : t ≠ 37) : Vt.Kp n₀ x W (W.setCell ⟨x, i, none⟩ v) := by
  refine ⟨Nat.le_of_eq (World.size_setCell _ _ _).symm, fun k _ hk => Below.heap_setCell W ⟨x, i, none⟩ v k hk, fun k cs' fr' e => ?_⟩
  refine (Below.heap_setCell W ⟨x, i, none⟩ v k (fun e2 => ?_)).trans e
  have e2 : k = x := e2
  subst e2
  rw [h] at e
  cases e
  exact absurd rfl ht
theorem Vt.cnt_take (l : List Nd.N) (k : Nat) (h : k < l.length) : Nd.cntL (l.take k) + (Nd.cntL l[k].kids + Nd.cntL l[k].els + 1) ≤ Nd.cntL l := by
  have e : l = l.take k ++ l[k] :: l.drop (k + 1) := by rw [← List.drop_eq_getElem_cons h, List.take_append_drop]
  have := congrArg Nd.cntL e
  rw [Nd.cntL_append, Nd.cntL_cons, Nd.N.cnt_eq] at this
  omega
/-- A node's cells at its place. -/
structure Vt.X where
  k : Nat
  t : ByteArray
  pp : Option Addr
  np : Nat
  cp : Nat
  pk : Option Addr
  nk : Nat
  ck : Nat
  pe : Option Addr
  ne : Nat
  ce : Nat
  p : Vt.P
def Vt.X.val (x : Vt.X) : Value := .agg #[.int .u8 (x.k : Nat), .string x.t, .slice x.pp x.np x.cp, .slice x.pk x.nk x.ck, .slice x.pe x.ne x.ce]
/-- Those that read as the node. -/
def Vt.A (w0 : World) : Type := {x : Vt.X // Nd.At w0 x.val x.p.node}
def Vt.enc {w0 : World} (a : Vt.A w0) : Array Value := #[.agg #[.int .u8 (a.1.k : Nat), .string a.1.t, .slice a.1.pp a.1.np a.1.cp, .slice a.1.pk a.1.nk a.1.ck, .slice a.1.pe a.1.ne a.1.ce, .int .i64 (a.1.p.lev : Nat), .bool a.1.p.ie]]
theorem Vt.keeps {n₀ bx : Nat} {w0 W wr : World} (h1 : w0.heap.size ≤ n₀) (h2 : w0.heap.size ≤ bx) (hW : ∀ k, k < w0.heap.size → W.heap[k]? = w0.heap[k]?) (hK : Vt.Kp n₀ bx W wr) : ∀ k, k < w0.heap.size → wr.heap[k]? = w0.heap[k]? := fun k hk => (hK.2.1 k (by omega) (by omega)).trans (hW k hk)
theorem Vt.five_at {w0 wr : World} (h : ∀ k, k < w0.heap.size → wr.heap[k]? = w0.heap[k]?) {b o : Nat} {c0 c1 c2 c3 c4 : Value} (h5 : Vl.Five w0 b o c0 c1 c2 c3 c4) : Vl.Five wr b o c0 c1 c2 c3 c4 :=
  Nd.five_keep (fun _ _ e => (World.cell?_of_block (h _ (World.block_lt_of_cell? w0 _ e))).trans e) h5
/-- What walk is called with, and what it does: the contract. -/
def Vt.WalkC (w0 : World) (y n₀ bx Nm : Nat) (J Jx : List (Vt.A w0) → World → Prop) (d : Nat) (l : List Nd.N) : Prop :=
  ∀ (q : Option Addr) (c lev : Nat) (ie : Bool) (W : World) (pre0 : List (Vt.A w0)), l.length ≤ 140737488351232 → Nd.Row w0 q l → n₀ ≤ W.heap.size → (∀ k, k < w0.heap.size → W.heap[k]? = w0.heap[k]?) → AbidesFrom W.heap.size J →
    J pre0 W → pre0.length + Nd.cntL l ≤ Nm → lev + d ≤ 1000 →
    Calls Tryz.prog 143 #[.slice q l.length c, .int .i64 (lev : Nat), .bool ie, .func (.yield y) #[] #[]] W fun e W' => (e = .returned (.bool true) ∧ ∃ ys, ys.map (fun a => a.1.p) = Vt.visL lev ie l ∧ J (pre0 ++ ys) W' ∧ Vt.Kp n₀ bx W W') ∨ (e = .returned (.bool false) ∧ ∃ pre, Jx pre W')
set_option maxRecDepth 100000 in
set_option maxHeartbeats 4000000 in
theorem vtWalk_step (d d' : Nat) (l : List Nd.N) (hd : l ≠ [] → d' = d + 1) (w0 : World) (y n₀ bx Nm : Nat) (J Jx : List (Vt.A w0) → World → Prop) (h1 : w0.heap.size ≤ n₀) (h2 : w0.heap.size ≤ bx)
    (hY : ∀ pre x W1, J pre W1 → pre.length < Nm → YieldAt Fence.wide 2 Tryz.prog y (Vt.enc x) W1 fun e W' => (e = .returned (.bool true) ∧ J (pre ++ [x]) W' ∧ Vt.Kp n₀ bx W1 W') ∨ (e = .returned (.bool false) ∧ Jx (pre ++ [x]) W'))
    (ihk : ∀ n ∈ l, Vt.WalkC w0 y n₀ bx Nm J Jx d n.kids ∧ Vt.WalkC w0 y n₀ bx Nm J Jx d n.els) : Vt.WalkC w0 y n₀ bx Nm J Jx d' l := by
  intro q c lev ie W pre0 hn hA h3 hW hJ h0 hcnt hlev
  refine (callsIn_wide (n := 3)).1 ?_
  refine callsIn_of_wp Tryz.func143 rfl trivial ?_ rfl
  simp only [Tryz.ntmps143, List.size_toArray, List.length_cons, List.length_nil, Nat.reduceAdd, Nat.reduceSub, Array.replicate_succ, Array.replicate_zero, List.push_toArray, List.append_toArray, List.nil_append, List.cons_append]
  have HA := Lib.hid hA
  have HW := Lib.hid hW
  have HY := Lib.hid hY
  have HI := Lib.hid ihk
  have HJ := Lib.hid hJ
  have HC := Lib.hid hcnt
  obtain ⟨n, hnn⟩ : ∃ n, n = l.length := ⟨_, rfl⟩
  rw [← hnn] at hn ⊢
  have HN := Lib.hid hnn
  clear hA hW hY ihk hJ hcnt hnn
  gi_wp2
  gi_loopw [10, 13] (fun _ t wr => ∃ k : Nat, k ≤ n ∧ t = .int .i64 k ∧ ∃ ys, Aside (ys.map (fun a => a.1.p) = Vt.visL lev ie (l.take k)) ∧ Hid (J (pre0 ++ ys) wr) ∧ Hid (Vt.Kp n₀ bx W wr)) (fun _ t _ => n - (intOf t).toNat)
  case atStart => exact ⟨0, Nat.zero_le _, rfl, [], (show Aside (([] : List (Vt.A w0)).map (fun a => a.1.p) = Vt.visL lev ie (l.take 0)) from by rw [List.take_zero, Vt.visL_nil]; rfl), Lib.hid (by rw [List.append_nil]; exact h0), Lib.hid (Vt.Kp.refl _ _ _)⟩
  case round =>
    obtain ⟨k, hk, rfl, ys, hE, HJk, HKp⟩ := hrel
    have HE := Lib.hid hE.out
    clear hE
    by_cases hlt : k < n
    · have hkl : k < l.length := by rw [← HN.out]; exact hlt
      have hkeep := Vt.keeps h1 h2 HW.out HKp.out
      obtain ⟨b, off, pp, cp, pk, ck, pe, ce, rfl, h5, hf, hp, hrk, hre⟩ := HA.out.get k hkl
      obtain ⟨e0, e1, e2, e3, e4⟩ := Vt.five_at hkeep h5
      have hmem := List.getElem_mem hkl
      have hsn := Vt.visL_snoc lev ie l k hkl
      have hct := Vt.cnt_take l k hkl
      have hyl : ys.length = Nd.cntL (l.take k) := by
        have := congrArg List.length HE.out
        rw [List.length_map, Vt.visL_len] at this
        exact this
      obtain ⟨x, hx⟩ : ∃ x, x = l[k] := ⟨_, rfl⟩
      rw [← hx] at e0 e1 e2 e3 e4 hsn hf hrk hre hmem hct hp h5
      rw [Vt.visN_eq] at hsn
      have hat : Nd.At w0 (.agg #[.int .u8 (x.kind : Nat), .string x.text, .slice pp x.path.length cp, .slice pk x.kids.length ck, .slice pe x.els.length ce]) x := by
        rw [Nd.At.eq]
        exact ⟨pp, cp, pk, ck, pe, ce, rfl, hf, hp, (Nd.row_iff _ _ _).2 hrk, (Nd.row_iff _ _ _).2 hre⟩
      obtain ⟨-, -, -, f4, f5, -, -, -, -⟩ := hf
      have Hsn := Lib.hid hsn
      have Hat := Lib.hid hat
      obtain ⟨xv, hxv⟩ : ∃ xv : Vt.A w0, xv = ⟨⟨x.kind, x.text, pp, x.path.length, cp, pk, x.kids.length, ck, pe, x.els.length, ce, ⟨x, lev, ie⟩⟩, hat⟩ := ⟨_, rfl⟩
      have hxp : xv.1.p = ⟨x, lev, ie⟩ := by rw [hxv]
      have hwz := HKp.out.1
      have HK0 := Lib.hid (HKp.out.alloc (Nat.le_trans h3 hwz) (.cells #[.int .u8 (x.kind : Nat), .string x.text, .slice pp x.path.length cp, .slice pk x.kids.length ck, .slice pe x.els.length ce] 37))
      have hyy := HY.out (pre0 ++ ys) xv (wr.alloc (.cells #[.int .u8 (x.kind : Nat), .string x.text, .slice pp x.path.length cp, .slice pk x.kids.length ck, .slice pe x.els.length ce] 37)) (HJ.out _ wr _ none HJk.out (World.grownBy_alloc wr _ none) (fun r e => by cases e)) (by rw [List.length_append, hyl]; have := HC.out; omega)
      have hV := Vl.new wr (.cells #[.int .u8 (x.kind : Nat), .string x.text, .slice pp x.path.length cp, .slice pk x.kids.length ck, .slice pe x.els.length ce] 37)
      rw [show Vt.enc xv = #[.agg #[.int .u8 (x.kind : Nat), .string x.text, .slice pp x.path.length cp, .slice pk x.kids.length ck, .slice pe x.els.length ce, .int .i64 (lev : Nat), .bool ie]] by rw [hxv]; rfl] at hyy
      have Hxv := Lib.hid hxp
      have Hmem := Lib.hid hmem
      have Hct := Lib.hid hct
      have Hyl := Lib.hid hyl
      obtain ⟨fn, tmps, assign, body, hy, hR⟩ := hyy
      have HR := Lib.hid hR
      have HV := Lib.hid hV
      clear hR hat hsn hx hxv hxp hmem hct hyl hp h5 hkeep hV
      gi_wp2
      refine HR.out.mono ?_
      rintro e W3 (⟨rfl, hJ3, hk3⟩ | ⟨rfl, hx⟩)
      rotate_left 1
      · clear HR HV HK0 e0 e1 e2 e3 e4 hy
        gi_wp2
        (try (refine ⟨trivial, ?_⟩; gi_wp2))
        (try (refine ⟨trivial, ?_⟩; gi_wp2))
        go_ret
        exact Or.inr ⟨rfl, _, hx⟩
      have hV3 := hk3.2.2 _ _ _ HV.out
      have HK3 := Lib.hid (HK0.out.trans hk3)
      have HV3 := Lib.hid hV3
      have HJ3 := Lib.hid hJ3
      have hw3 : W.heap.size ≤ W3.heap.size := HK3.out.1
      have hct := Hct.out
      have hyl := Hyl.out
      have hdd : d' = d + 1 := hd (fun e => by rw [e] at hkl; simp at hkl)
      have hwl : IntKind.i64.wrap ((lev : Int) + 1) = ((lev + 1 : Nat) : Int) := by rw [IntWalk.i64_in _ (by omega)]; omega
      have CK := Lib.hid (fun (ib : Bool) => (HI.out x Hmem.out).1 pk ck (lev + 1) ib W3 (pre0 ++ ys ++ [xv]) f4 hrk (Nat.le_trans h3 hw3) (Vt.keeps h1 h2 HW.out HK3.out) (fun s A B row hs hg hr => HJ.out s A B row hs hg (fun r e => ⟨Nat.le_trans hw3 (hr r e).1, (hr r e).2⟩)) HJ3.out (by rw [List.length_append, List.length_append, List.length_singleton]; have := HC.out; omega) (by omega))
      have CE := Lib.hid (fun (W4 : World) (pre : List (Vt.A w0)) (hw : Vt.Kp n₀ bx W W4) (hj : J pre W4) (hl : pre.length + Nd.cntL x.els ≤ Nm) => (HI.out x Hmem.out).2 pe ce (lev + 1) ie W4 pre f5 hre (Nat.le_trans h3 hw.1) (Vt.keeps h1 h2 HW.out hw) (fun s A B row hs hg hr => HJ.out s A B row hs hg (fun r e => ⟨Nat.le_trans hw.1 (hr r e).1, (hr r e).2⟩)) hj hl (by omega))
      clear hV3 hJ3 hk3 HR HV HK0 e0 e1 e2 e3 e4 hy
      obtain ⟨v0, v1, v2, v3, v4⟩ := Vl.five_of HV3.out
      clear hdd hct hyl
      cases ie with
      | true =>
        gi_wp2
        have ck := CK.out true
        rw [show ((lev + 1 : Nat) : Int) = (lev : Int) + 1 from by omega] at ck
        refine ⟨trivial, (callsIn_wide.2 ck).mono ?_⟩
        rintro e W4 (⟨rfl, ys1, hy1, hj1, hk1⟩ | ⟨rfl, px, hx⟩)
        rotate_left 1
        · clear v0 v1 v2 v3 v4 ck CK CE HJ3
          gi_wp2
          (try (refine ⟨trivial, ?_⟩; gi_wp2))
          (try (refine ⟨trivial, ?_⟩; gi_wp2))
          go_ret
          exact Or.inr ⟨rfl, _, hx⟩
        have hn1 : ys1.length = Nd.cntL x.kids := by
          have := congrArg List.length hy1
          rwa [List.length_map, Vt.visL_len] at this
        have HK4 := Lib.hid (HK3.out.trans hk1)
        have HV4 := Lib.hid (hk1.2.2 _ _ _ HV3.out)
        have ce := CE.out W4 (pre0 ++ ys ++ [xv] ++ ys1) HK4.out hj1 (by rw [List.length_append, List.length_append, List.length_append, List.length_singleton, hn1]; have := HC.out; have := Hct.out; have := Hyl.out; omega)
        rw [show ((lev + 1 : Nat) : Int) = (lev : Int) + 1 from by omega] at ce
        have CE4 := Lib.hid ce
        have HY1 := Lib.hid hy1
        clear v0 v1 v2 v3 v4 ck ce hy1 hj1 hk1 hn1 CK CE HJ3
        obtain ⟨v0, v1, v2, v3, v4⟩ := Vl.five_of HV4.out
        gi_wp2
        refine ⟨trivial, (callsIn_wide.2 CE4.out).mono ?_⟩
        rintro e W5 (⟨rfl, ys2, hy2, hj2, hk2⟩ | ⟨rfl, px, hx⟩)
        rotate_left 1
        · clear v0 v1 v2 v3 v4 CE4
          gi_wp2
          (try (refine ⟨trivial, ?_⟩; gi_wp2))
          (try (refine ⟨trivial, ?_⟩; gi_wp2))
          go_ret
          exact Or.inr ⟨rfl, _, hx⟩
        have HR1 := Lib.hid (show (ys ++ [xv] ++ ys1 ++ ys2).map (fun a => a.1.p) = Vt.visL lev true (l.take (k + 1)) by
          rw [Hsn.out, List.map_append, List.map_append, List.map_append, HE.out, HY1.out, hy2, List.map_cons, List.map_nil, Hxv.out]
          simp)
        have HR3 := Lib.hid (show J (pre0 ++ (ys ++ [xv] ++ ys1 ++ ys2)) W5 by simpa [List.append_assoc] using hj2)
        have HR4 := Lib.hid (HK4.out.trans hk2)
        clear v0 v1 v2 v3 v4 hy2 hj2 hk2 CE4
        gi_wp2
        go_roundw
        case rel => exact ⟨k + 1, by omega, by simp, ys ++ [xv] ++ ys1 ++ ys2, HR1.out, HR3, HR4⟩
        case measure => simp [intOf]; omega
      | false =>
        have q5 : ((x.kind : Int) == 5) = (x.kind == 5) := by
          rw [Bool.eq_iff_iff, beq_iff_eq, beq_iff_eq]
          omega
        gi_wp2
        have ck := CK.out (x.kind == 5)
        rw [show ((lev + 1 : Nat) : Int) = (lev : Int) + 1 from by omega] at ck
        refine ⟨trivial, (callsIn_wide.2 ck).mono ?_⟩
        rintro e W4 (⟨rfl, ys1, hy1, hj1, hk1⟩ | ⟨rfl, px, hx⟩)
        rotate_left 1
        · clear v0 v1 v2 v3 v4 ck CK CE HJ3
          gi_wp2
          (try (refine ⟨trivial, ?_⟩; gi_wp2))
          (try (refine ⟨trivial, ?_⟩; gi_wp2))
          go_ret
          exact Or.inr ⟨rfl, _, hx⟩
        have hn1 : ys1.length = Nd.cntL x.kids := by
          have := congrArg List.length hy1
          rwa [List.length_map, Vt.visL_len] at this
        have HK4 := Lib.hid (HK3.out.trans hk1)
        have HV4 := Lib.hid (hk1.2.2 _ _ _ HV3.out)
        have ce := CE.out W4 (pre0 ++ ys ++ [xv] ++ ys1) HK4.out hj1 (by rw [List.length_append, List.length_append, List.length_append, List.length_singleton, hn1]; have := HC.out; have := Hct.out; have := Hyl.out; omega)
        rw [show ((lev + 1 : Nat) : Int) = (lev : Int) + 1 from by omega] at ce
        have CE4 := Lib.hid ce
        have HY1 := Lib.hid hy1
        clear v0 v1 v2 v3 v4 ck ce hy1 hj1 hk1 hn1 CK CE HJ3
        obtain ⟨v0, v1, v2, v3, v4⟩ := Vl.five_of HV4.out
        gi_wp2
        refine ⟨trivial, (callsIn_wide.2 CE4.out).mono ?_⟩
        rintro e W5 (⟨rfl, ys2, hy2, hj2, hk2⟩ | ⟨rfl, px, hx⟩)
        rotate_left 1
        · clear v0 v1 v2 v3 v4 CE4
          gi_wp2
          (try (refine ⟨trivial, ?_⟩; gi_wp2))
          (try (refine ⟨trivial, ?_⟩; gi_wp2))
          go_ret
          exact Or.inr ⟨rfl, _, hx⟩
        have HR1 := Lib.hid (show (ys ++ [xv] ++ ys1 ++ ys2).map (fun a => a.1.p) = Vt.visL lev false (l.take (k + 1)) by
          rw [Hsn.out, List.map_append, List.map_append, List.map_append, HE.out, HY1.out, hy2, List.map_cons, List.map_nil, Hxv.out]
          simp)
        have HR3 := Lib.hid (show J (pre0 ++ (ys ++ [xv] ++ ys1 ++ ys2)) W5 by simpa [List.append_assoc] using hj2)
        have HR4 := Lib.hid (HK4.out.trans hk2)
        clear v0 v1 v2 v3 v4 hy2 hj2 hk2 CE4
        gi_wp2
        go_roundw
        case rel => exact ⟨k + 1, by omega, by simp, ys ++ [xv] ++ ys1 ++ ys2, HR1.out, HR3, HR4⟩
        case measure => simp [intOf]; omega
    · obtain rfl : k = n := by omega
      have E := Lib.hid (show ys.map (fun a => a.1.p) = Vt.visL lev ie l by rw [HE.out, HN.out, List.take_length])
      gi_wp2
      go_ret
      exact Or.inl ⟨rfl, ys, E.out, HJk.out, HKp.out⟩
/-- The walk, by how deep the nodes are. -/
theorem vtWalk_all (w0 : World) (y n₀ bx Nm : Nat) (J Jx : List (Vt.A w0) → World → Prop) (h1 : w0.heap.size ≤ n₀) (h2 : w0.heap.size ≤ bx)
    (hY : ∀ pre x W1, J pre W1 → pre.length < Nm → YieldAt Fence.wide 2 Tryz.prog y (Vt.enc x) W1 fun e W' => (e = .returned (.bool true) ∧ J (pre ++ [x]) W' ∧ Vt.Kp n₀ bx W1 W') ∨ (e = .returned (.bool false) ∧ Jx (pre ++ [x]) W')) :
    ∀ (d : Nat) (l : List Nd.N), Nd.okL d l = true → Vt.WalkC w0 y n₀ bx Nm J Jx d l
  | 0, l, h => by
    rw [Nd.okL, List.isEmpty_iff] at h
    subst h
    exact vtWalk_step 0 0 [] (fun h => absurd rfl h) w0 y n₀ bx Nm J Jx h1 h2 hY (fun n hn => by cases hn)
  | d + 1, l, h => by
    rw [Nd.okL, List.all_eq_true] at h
    exact vtWalk_step d (d + 1) l (fun _ => rfl) w0 y n₀ bx Nm J Jx h1 h2 hY (fun n hn => by
      have := h n hn
      rw [Bool.and_eq_true, Bool.and_eq_true] at this
      exact ⟨vtWalk_all w0 y n₀ bx Nm J Jx h1 h2 hY d n.kids this.2.1, vtWalk_all w0 y n₀ bx Nm J Jx h1 h2 hY d n.els this.2.2⟩)
end Go.Proofs.YteiccjakaabfnaaGreatDoor
namespace Go.Proofs.YteiccjakaabfnaaGreatDoor
open Go.RowKit Go.Shelf
attribute [local go_sem] Oper.semAt_some

theorem vt_places (q : Option Addr) (n c : Nat) (w : World) :
    Calls Tryz.prog 91 #[.slice q n c] w fun e w' => e = .returned (.func (.func 142) #[] #[.pointer (some ⟨w.heap.size, 0, none⟩)]) ∧ w' = w.alloc (.cells #[.slice q n c] 22) := by
  go_enter Tryz.func91, Tryz.ntmps91
  go_wp2_with fail
  go_ret
  exact ⟨rfl, rfl⟩
set_option maxRecDepth 100000 in
set_option maxHeartbeats 2000000 in
theorem vt_stops (l : List Nd.N) (q : Option Addr) (c : Nat) (w0 w : World) (n₀ bx B Nm : Nat) (hok : Nd.okL 8 l = true) (hn : l.length ≤ 140737488351232) (hA : Nd.Row w0 q l) (h1 : w0.heap.size ≤ n₀) (h2 : w0.heap.size ≤ bx) (h3 : n₀ ≤ w.heap.size) (hk : ∀ k, k < w0.heap.size → w.heap[k]? = w0.heap[k]?)
    (hB : w.cell? ⟨B, 0, none⟩ = some (.slice q l.length c)) (hcnt : Nd.cntL l ≤ Nm) :
    SeqStopsK Fence.wide 3 Tryz.prog 142 #[.pointer (some ⟨B, 0, none⟩)] Vt.enc (Vt.Kp n₀ bx) (fun ys : List (Vt.A w0) => ys.map (fun a => a.1.p) = Vt.visL 1 false l) (fun _ => True) Nm w := by
  intro y J Jx W hW hJ hJx hY h0
  have hb := (hW.cell (World.block_lt_of_cell? w _ hB)).trans hB
  have HC := Lib.hid (vtWalk_all w0 y n₀ bx Nm J Jx h1 h2 hY 8 l hok q c 1 false W [] hn hA (Nat.le_trans h3 hW.size) (fun k hk2 => (hW.block k (by omega)).trans (hk k hk2)) hJ h0 (by rw [List.length_nil, Nat.zero_add]; exact hcnt) (by omega))
  clear hY hJ hJx h0 hA hB hk hcnt hok hn
  generalize l.length = n at *
  refine callsIn_of_wp Tryz.func142 rfl trivial ?_ rfl
  simp only [Tryz.ntmps142, List.size_toArray, List.length_cons, List.length_nil, Nat.reduceAdd, Nat.reduceSub, Array.replicate_succ, Array.replicate_zero, List.push_toArray, List.append_toArray, List.nil_append, List.cons_append]
  gi_wp2
  refine ⟨trivial, (callsIn_wide.2 HC.out).mono ?_⟩
  rintro e W' (⟨rfl, ys, hy, hj, -⟩ | ⟨rfl, pre, hx⟩)
  · have HY := Lib.hid hy
    have HJ := Lib.hid (show J ys W' by simpa using hj)
    clear hy hj
    gi_wp2
    go_end0
    exact ⟨⟨_, rfl⟩, .inl ⟨_, HY.out, HJ.out⟩⟩
  · have HX := Lib.hid hx
    clear hx
    gi_wp2
    go_end0
    exact ⟨⟨_, rfl⟩, .inr ⟨_, trivial, HX.out⟩⟩
end Go.Proofs.YteiccjakaabfnaaGreatDoor
namespace Go.Proofs.YteiccjakaabfnaaGreatDoor
open Go.RowKit

set_option maxRecDepth 100000 in
theorem vtCount1 (z : Int) (v : Value) (w : World) (k : Nat) (t : ByteArray) (pp : Option Addr) (np cp : Nat) (pk : Option Addr) (nk ck : Nat) (pe : Option Addr) (ne ce lev : Nat) (ie : Bool) (hz : 0 ≤ z ∧ z ≤ 1000000000000) (hv : v = .agg #[.int .u8 (k : Nat), .string t, .slice pp np cp, .slice pk nk ck, .slice pe ne ce, .int .i64 (lev : Nat), .bool ie]) :
    Calls Tryz.prog 56 #[.int .i64 z, v] w fun e w' => e = .returned (.int .i64 (z + 1)) ∧ Below w.heap.size w w' := by
  subst hv
  have hb := (Below.refl w.heap.size w).alloc (Nat.le_refl _) (.cells #[.int .u8 (k : Nat), .string t, .slice pp np cp, .slice pk nk ck, .slice pe ne ce, .int .i64 (lev : Nat), .bool ie] 67)
  obtain ⟨hz0, hz1⟩ := hz
  go_enter Tryz.func56, Tryz.ntmps56
  go_wp2_with fail
  go_ret
  exact ⟨rfl, hb⟩
set_option maxRecDepth 100000 in
theorem vtDepth1 (z : Int) (v : Value) (w : World) (k : Nat) (t : ByteArray) (pp : Option Addr) (np cp : Nat) (pk : Option Addr) (nk ck : Nat) (pe : Option Addr) (ne ce lev : Nat) (ie : Bool) (hv : v = .agg #[.int .u8 (k : Nat), .string t, .slice pp np cp, .slice pk nk ck, .slice pe ne ce, .int .i64 (lev : Nat), .bool ie]) :
    Calls Tryz.prog 54 #[.int .i64 z, v] w fun e w' => e = .returned (.int .i64 (max z (lev : Int))) ∧ Below w.heap.size w w' := by
  subst hv
  have hb := (Below.refl w.heap.size w).alloc (Nat.le_refl _) (.cells #[.int .u8 (k : Nat), .string t, .slice pp np cp, .slice pk nk ck, .slice pe ne ce, .int .i64 (lev : Nat), .bool ie] 67)
  go_enter Tryz.func54, Tryz.ntmps54
  go_wp2_with fail
  go_ret
  exact ⟨rfl, hb⟩
set_option maxRecDepth 100000 in
theorem vtPlain1 (z : Int) (v : Value) (w : World) (k : Nat) (t : ByteArray) (pp : Option Addr) (np cp : Nat) (pk : Option Addr) (nk ck : Nat) (pe : Option Addr) (ne ce lev : Nat) (ie : Bool) (hz : 0 ≤ z ∧ z ≤ 40000000000000000) (ht : t.size ≤ 140737488351232) (hv : v = .agg #[.int .u8 (k : Nat), .string t, .slice pp np cp, .slice pk nk ck, .slice pe ne ce, .int .i64 (lev : Nat), .bool ie]) :
    Calls Tryz.prog 58 #[.int .i64 z, v] w fun e w' => e = .returned (.int .i64 (z + (t.size : Int))) ∧ Below w.heap.size w w' := by
  subst hv
  have hb := (Below.refl w.heap.size w).alloc (Nat.le_refl _) (.cells #[.int .u8 (k : Nat), .string t, .slice pp np cp, .slice pk nk ck, .slice pe ne ce, .int .i64 (lev : Nat), .bool ie] 67)
  obtain ⟨hz0, hz1⟩ := hz
  go_enter Tryz.func58, Tryz.ntmps58
  go_wp2_with fail
  go_ret
  exact ⟨rfl, hb⟩
end Go.Proofs.YteiccjakaabfnaaGreatDoor
