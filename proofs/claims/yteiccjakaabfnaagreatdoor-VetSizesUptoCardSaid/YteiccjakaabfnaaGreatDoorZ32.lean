/-
  The walks of vet's Count, Depth and Plain. Conditions: lists are of a size that a machine holds, texts of one that the walks hold.
  The walks of vet's root and of what This puts together. Condition: a node's path reads as texts.
  The walk of vet's This. Conditions: lists are of a size that a machine holds, texts of one that the walks hold.
  The walk of what vet's Roots puts together. Conditions: a node's path reads as texts; the row is the call's own.
-/
import Derived.Test.YteiccjakaabfnaaGreatDoorVtGath
import Derived.BigQuiet
namespace Go.Proofs.YteiccjakaabfnaaGreatDoor
open Go.RowKit Go.Shelf

theorem Vt.A.text {w : World} (a : Vt.A w) : a.1.t = a.1.p.node.text ∧ a.1.k = a.1.p.node.kind ∧ a.1.t.size ≤ 140737488351232 := by
  obtain ⟨x, h⟩ := a
  rw [Nd.At.eq] at h
  obtain ⟨pp, cp, pk, ck, pe, ce, e, hf, _⟩ := h
  unfold Vt.X.val at e
  simp only [Value.agg.injEq, Array.mk.injEq, List.cons.injEq, Value.int.injEq, Value.string.injEq, true_and] at e
  obtain ⟨h1, h2, _⟩ := e
  refine ⟨h2, by exact_mod_cast h1, ?_⟩
  show x.t.size ≤ _
  rw [h2]
  exact hf.2.1
/-- How many levels there are; how many bytes all texts have together. -/
def Vt.dep (ps : List Vt.P) : Nat := (ps.map (·.lev)).foldl max 0
def Vt.plen (ps : List Vt.P) : Nat := (ps.map (fun p => p.node.text.size)).sum
theorem Vt.dep_snoc (ps : List Vt.P) (p : Vt.P) : Vt.dep (ps ++ [p]) = max (Vt.dep ps) p.lev := by
  unfold Vt.dep
  rw [List.map_append, List.foldl_append]; rfl
theorem Vt.plen_snoc (ps : List Vt.P) (p : Vt.P) : Vt.plen (ps ++ [p]) = Vt.plen ps + p.node.text.size := by
  unfold Vt.plen
  rw [List.map_append, List.sum_append]; simp
theorem Vt.plen_le {w : World} : ∀ pre : List (Vt.A w), Vt.plen (pre.map (fun a => a.1.p)) ≤ pre.length * 140737488351232
  | [] => by unfold Vt.plen; simp
  | a :: pre => by
    have ih := Vt.plen_le pre
    have h := a.text
    unfold Vt.plen at ih ⊢
    rw [List.map_cons, List.map_cons, List.sum_cons, List.length_cons, ← h.1]
    have := h.2.2
    omega
def Vt.iff (b : Bool) (n : Nat) : Nat := if b then n else 0
set_option maxRecDepth 100000 in
set_option maxHeartbeats 1000000 in
theorem vtCount_any (l : List Nd.N) (q : Option Addr) (c : Nat) (w : World) (hn : l.length ≤ 140737488351232) (hA : Nd.Row w q l) (hts : ∀ t ∈ Nd.toksL l, t.text.size ≤ 4000000000) (hT : Sc.Laid w) (hM : Sc.MaxLen w) :
    Calls Tryz.prog 18 #[.slice q l.length c] w fun e w' => e = .returned (.tuple #[.int .i64 (Vt.iff (Nd.good l) (Nd.cntL l) : Nat), .int .i64 (Nd.chk l)]) ∧ Below w.heap.size w w' := by
  have CC := Lib.hid (vtGath_Count l q c w (fun pre => (pre.length : Int)) rfl (fun pre x W h _ => by
    rw [List.length_append]
    exact (vtCount1 pre.length _ W x.1.k x.1.t x.1.pp x.1.np x.1.cp x.1.pk x.1.nk x.1.ck x.1.pe x.1.ne x.1.ce x.1.p.lev x.1.p.ie ⟨by omega, by omega⟩ rfl).mono fun e w' he => ⟨by rw [he.1]; rfl, he.2⟩) hn hA hts hT hM)
  have HR : ∀ e w', Vt.GPost l w (fun pre => (pre.length : Int)) e w' → e = .returned (.tuple #[.int .i64 (Vt.iff (Nd.good l) (Nd.cntL l) : Nat), .int .i64 (Nd.chk l)]) ∧ Below w.heap.size w w' := by
    rintro e w' ⟨⟨hg, ys, hy, rfl⟩ | ⟨hg, rfl⟩, hb⟩
    · rw [hg, (Nd.chk_good).1 hg]
      have h1 := congrArg List.length hy
      rw [List.length_map, Vt.visL_len] at h1
      exact ⟨by dsimp only; rw [h1]; rfl, hb⟩
    · rw [hg, (Nd.chk_good).2 hg]
      exact ⟨rfl, hb⟩
  have HR' := Lib.hid HR
  clear hA hts hT hM HR
  generalize (Vt.GPost l w (fun pre => (pre.length : Int))) = Q at *
  generalize l.length = n at *
  go_enter Tryz.func18, Tryz.ntmps18
  go_wp2_with fail
  refine (CC.out).mono ?_
  rintro e w1 hq
  obtain ⟨rfl, hb⟩ := HR'.out _ _ hq
  have HB := Lib.hid hb
  clear hb hq CC HR'
  go_wp2_with fail
  go_ret2
  exact ⟨rfl, HB.out⟩
set_option maxRecDepth 100000 in
set_option maxHeartbeats 1000000 in
theorem vtDepth_any (l : List Nd.N) (q : Option Addr) (c : Nat) (w : World) (hn : l.length ≤ 140737488351232) (hA : Nd.Row w q l) (hts : ∀ t ∈ Nd.toksL l, t.text.size ≤ 4000000000) (hT : Sc.Laid w) (hM : Sc.MaxLen w) :
    Calls Tryz.prog 16 #[.slice q l.length c] w fun e w' => e = .returned (.tuple #[.int .i64 (Vt.iff (Nd.good l) (Vt.dep (Vt.visL 1 false l)) : Nat), .int .i64 (Nd.chk l)]) ∧ Below w.heap.size w w' := by
  have CC := Lib.hid (vtGath_Depth l q c w (fun pre => (Vt.dep (pre.map (fun a => a.1.p)) : Int)) (by rw [List.map_nil]; unfold Vt.dep; rfl) (fun pre x W h _ => by
    rw [List.map_append, List.map_cons, List.map_nil, Vt.dep_snoc]
    have H1 := (vtDepth1 (Vt.dep (pre.map (fun a => a.1.p)) : Nat) _ W x.1.k x.1.t x.1.pp x.1.np x.1.cp x.1.pk x.1.nk x.1.ck x.1.pe x.1.ne x.1.ce x.1.p.lev x.1.p.ie rfl)
    have hm : ∀ a b : Nat, max (a : Int) (b : Int) = ((max a b : Nat) : Int) := by intro a b; omega
    rw [hm] at H1
    exact H1) hn hA hts hT hM)
  have HR : ∀ e w', Vt.GPost l w (fun pre => (Vt.dep (pre.map (fun a => a.1.p)) : Int)) e w' → e = .returned (.tuple #[.int .i64 (Vt.iff (Nd.good l) (Vt.dep (Vt.visL 1 false l)) : Nat), .int .i64 (Nd.chk l)]) ∧ Below w.heap.size w w' := by
    rintro e w' ⟨⟨hg, ys, hy, rfl⟩ | ⟨hg, rfl⟩, hb⟩
    · rw [hg, (Nd.chk_good).1 hg]
      exact ⟨by dsimp only; rw [hy]; rfl, hb⟩
    · rw [hg, (Nd.chk_good).2 hg]
      exact ⟨rfl, hb⟩
  have HR' := Lib.hid HR
  clear hA hts hT hM HR
  generalize (Vt.GPost l w (fun pre => (Vt.dep (pre.map (fun a => a.1.p)) : Int))) = Q at *
  generalize l.length = n at *
  go_enter Tryz.func16, Tryz.ntmps16
  go_wp2_with fail
  refine (CC.out).mono ?_
  rintro e w1 hq
  obtain ⟨rfl, hb⟩ := HR'.out _ _ hq
  have HB := Lib.hid hb
  clear hb hq CC HR'
  go_wp2_with fail
  go_ret2
  exact ⟨rfl, HB.out⟩
set_option maxRecDepth 100000 in
set_option maxHeartbeats 1000000 in
theorem vtPlain_any (l : List Nd.N) (q : Option Addr) (c : Nat) (w : World) (hn : l.length ≤ 140737488351232) (hA : Nd.Row w q l) (hts : ∀ t ∈ Nd.toksL l, t.text.size ≤ 4000000000) (hT : Sc.Laid w) (hM : Sc.MaxLen w) :
    Calls Tryz.prog 20 #[.slice q l.length c] w fun e w' => e = .returned (.tuple #[.int .i64 (Vt.iff (Nd.good l) (Vt.plen (Vt.visL 1 false l)) : Nat), .int .i64 (Nd.chk l)]) ∧ Below w.heap.size w w' := by
  have CC := Lib.hid (vtGath_Plain l q c w (fun pre => (Vt.plen (pre.map (fun a => a.1.p)) : Int)) (by rw [List.map_nil]; unfold Vt.plen; rfl) (fun pre x W h _ => by
    rw [List.map_append, List.map_cons, List.map_nil, Vt.plen_snoc]
    have h2 := Vt.plen_le pre
    have h3 := x.text
    rw [← h3.1]
    have H1 := (vtPlain1 (Vt.plen (pre.map (fun a => a.1.p)) : Nat) _ W x.1.k x.1.t x.1.pp x.1.np x.1.cp x.1.pk x.1.nk x.1.ck x.1.pe x.1.ne x.1.ce x.1.p.lev x.1.p.ie ⟨by omega, by omega⟩ h3.2.2 rfl)
    rw [← Int.natCast_add] at H1
    exact H1) hn hA hts hT hM)
  have HR : ∀ e w', Vt.GPost l w (fun pre => (Vt.plen (pre.map (fun a => a.1.p)) : Int)) e w' → e = .returned (.tuple #[.int .i64 (Vt.iff (Nd.good l) (Vt.plen (Vt.visL 1 false l)) : Nat), .int .i64 (Nd.chk l)]) ∧ Below w.heap.size w w' := by
    rintro e w' ⟨⟨hg, ys, hy, rfl⟩ | ⟨hg, rfl⟩, hb⟩
    · rw [hg, (Nd.chk_good).1 hg]
      exact ⟨by dsimp only; rw [hy]; rfl, hb⟩
    · rw [hg, (Nd.chk_good).2 hg]
      exact ⟨rfl, hb⟩
  have HR' := Lib.hid HR
  clear hA hts hT hM HR
  generalize (Vt.GPost l w (fun pre => (Vt.plen (pre.map (fun a => a.1.p)) : Int))) = Q at *
  generalize l.length = n at *
  go_enter Tryz.func20, Tryz.ntmps20
  go_wp2_with fail
  refine (CC.out).mono ?_
  rintro e w1 hq
  obtain ⟨rfl, hb⟩ := HR'.out _ _ hq
  have HB := Lib.hid hb
  clear hb hq CC HR'
  go_wp2_with fail
  go_ret2
  exact ⟨rfl, HB.out⟩
end Go.Proofs.YteiccjakaabfnaaGreatDoor
namespace Go.Proofs.YteiccjakaabfnaaGreatDoor
open Go.RowKit Go.Shelf

/-- The first name of a path. -/
def Vt.rt : List ByteArray → ByteArray
  | [] => ByteArray.empty
  | a :: _ => a
set_option maxRecDepth 100000 in
theorem vtRoot_any (w : World) (k : Nat) (t : ByteArray) (pp : Option Addr) (cp : Nat) (pk : Option Addr) (nk ck : Nat) (pe : Option Addr) (ne ce : Nat) (p : List ByteArray) (hp : Wp.At Wp.mkT w pp p) (hn : p.length ≤ 140737488351232) :
    Calls Tryz.prog 47 #[.agg #[.int .u8 (k : Nat), .string t, .slice pp p.length cp, .slice pk nk ck, .slice pe ne ce]] w fun e w' => e = .returned (.string (Vt.rt p)) ∧ Below w.heap.size w w' := by
  have hb := (Below.refl w.heap.size w).alloc (Nat.le_refl _) (.cells #[.int .u8 (k : Nat), .string t, .slice pp p.length cp, .slice pk nk ck, .slice pe ne ce] 37)
  cases p with
  | nil =>
    rw [List.length_nil] at *
    have HB := Lib.hid hb
    clear hb hp
    go_enter Tryz.func47, Tryz.ntmps47
    go_wp2_with fail
    go_ret
    exact ⟨rfl, HB.out⟩
  | cons a p =>
    obtain ⟨b, off, rfl, hc0⟩ := (hp.below hb).get 0 (by simp)
    have hc : (w.alloc (.cells #[.int .u8 (k : Nat), .string t, .slice (some ⟨b, off, none⟩) (a :: p).length cp, .slice pk nk ck, .slice pe ne ce] 37)).cell? ⟨b, off, none⟩ = some (.string a) := hc0
    clear hc0
    rw [show (Vt.rt (a :: p)) = a from rfl]
    rw [List.length_cons] at *
    generalize p.length = n at *
    have HB := Lib.hid hb
    clear hb hp
    go_enter Tryz.func47, Tryz.ntmps47
    go_wp2_with fail
    go_ret
    exact ⟨rfl, HB.out⟩
set_option maxRecDepth 100000 in
theorem vtThis1 (so : Bool) (w : World) (k : Nat) (t : ByteArray) (pp : Option Addr) (cp : Nat) (pk : Option Addr) (nk ck : Nat) (pe : Option Addr) (ne ce : Nat) (lev : Nat) (ie : Bool) (p : List ByteArray) (hp : Wp.At Wp.mkT w pp p) (hn : p.length ≤ 140737488351232) :
    Calls Tryz.prog 64 #[.bool so, .agg #[.int .u8 (k : Nat), .string t, .slice pp p.length cp, .slice pk nk ck, .slice pe ne ce, .int .i64 (lev : Nat), .bool ie]] w fun e w' => e = .returned (.bool (so || (!ie && ((Vt.rt p).toList == [116, 104, 105, 115])))) ∧ Below w.heap.size w w' := by
  have hb := (Below.refl w.heap.size w).alloc (Nat.le_refl _) (.cells #[.int .u8 (k : Nat), .string t, .slice pp p.length cp, .slice pk nk ck, .slice pe ne ce, .int .i64 (lev : Nat), .bool ie] 67)
  have HB := Lib.hid hb
  have C := Lib.hid (vtRoot_any _ k t pp cp pk nk ck pe ne ce p (hp.below hb) hn)
  clear hb hp
  generalize Vt.rt p = s at *
  generalize p.length = n at *
  cases so with
  | true =>
    go_enter Tryz.func64, Tryz.ntmps64
    go_wp2_with fail
    go_ret
    exact ⟨rfl, HB.out⟩
  | false =>
    cases ie with
    | true =>
      go_enter Tryz.func64, Tryz.ntmps64
      go_wp2_with fail
      go_ret
      exact ⟨rfl, HB.out⟩
    | false =>
      go_enter Tryz.func64, Tryz.ntmps64
      go_wp2_with fail
      refine (C.out).mono ?_
      rintro e w1 ⟨rfl, hb⟩
      have HB1 := Lib.hid (HB.out.trans (hb.mono HB.out.size))
      clear hb C HB
      go_wp2_with fail
      go_ret
      exact ⟨rfl, HB1.out⟩
end Go.Proofs.YteiccjakaabfnaaGreatDoor
namespace Go.Proofs.YteiccjakaabfnaaGreatDoor
open Go.RowKit Go.Shelf

theorem Vt.A.path {w : World} (a : Vt.A w) : a.1.np = a.1.p.node.path.length ∧ Wp.At Wp.mkT w a.1.pp a.1.p.node.path ∧ a.1.p.node.path.length ≤ 140737488351232 ∧ (∀ s ∈ a.1.p.node.path, s.size ≤ 140737488351232) := by
  obtain ⟨x, h⟩ := a
  rw [Nd.At.eq] at h
  obtain ⟨pp, cp, pk, ck, pe, ce, e, hf, hp, _⟩ := h
  unfold Vt.X.val at e
  simp only [Value.agg.injEq, Array.mk.injEq, List.cons.injEq, Value.int.injEq, Value.string.injEq, Value.slice.injEq, true_and] at e
  obtain ⟨h1, h2, ⟨h3, h4, h5⟩, _⟩ := e
  refine ⟨h4, ?_, hf.2.2.1, hf.2.2.2.2.2.1⟩
  show Wp.At Wp.mkT w x.pp _
  rw [h3]
  exact hp
/-- Whether this stands where it is nothing. -/
def Vt.astray (p : Vt.P) : Bool := !p.ie && ((Vt.rt p.node.path).toList == [116, 104, 105, 115])
def Vt.thisR (l : List Nd.N) : Int := if Nd.good l then (if (Vt.visL 1 false l).any Vt.astray then 13 else 0) else 2
set_option maxRecDepth 100000 in
set_option maxHeartbeats 1000000 in
theorem vtThis_any (l : List Nd.N) (q : Option Addr) (c : Nat) (w : World) (hn : l.length ≤ 140737488351232) (hA : Nd.Row w q l) (hts : ∀ t ∈ Nd.toksL l, t.text.size ≤ 4000000000) (hT : Sc.Laid w) (hM : Sc.MaxLen w) :
    Calls Tryz.prog 26 #[.slice q l.length c] w fun e w' => e = .returned (.int .i64 (Vt.thisR l)) ∧ Below w.heap.size w w' := by
  have CC := Lib.hid (vtGath_This l q c w (fun pre => (pre.map (fun a => a.1.p)).any Vt.astray) rfl (fun pre x W h hB => by
    rw [List.map_append, List.any_append, List.map_cons, List.map_nil, List.any_cons, List.any_nil, Bool.or_false]
    obtain ⟨h1, h2, h3, _⟩ := x.path
    rw [h1]
    exact vtThis1 _ W x.1.k x.1.t x.1.pp x.1.cp x.1.pk x.1.nk x.1.ck x.1.pe x.1.ne x.1.ce x.1.p.lev x.1.p.ie x.1.p.node.path (h2.below hB) h3) hn hA hts hT hM)
  have HR : ∀ e w', Vt.GPostB l w (fun pre => (pre.map (fun a => a.1.p)).any Vt.astray) e w' → (((Vt.thisR l = 13 ∧ e = .returned (.tuple #[.bool true, .int .i64 0])) ∨ (Vt.thisR l = 0 ∧ e = .returned (.tuple #[.bool false, .int .i64 0])) ∨ (Vt.thisR l = 2 ∧ e = .returned (.tuple #[.bool false, .int .i64 2]))) ∧ Below w.heap.size w w') := by
    rintro e w' ⟨⟨hg, ys, hy, rfl⟩ | ⟨hg, rfl⟩, hb⟩
    · refine ⟨?_, hb⟩
      dsimp only
      rw [hy]
      unfold Vt.thisR
      rw [hg]
      cases (Vt.visL 1 false l).any Vt.astray with
      | true => exact Or.inl ⟨rfl, rfl⟩
      | false => exact Or.inr (Or.inl ⟨rfl, rfl⟩)
    · refine ⟨Or.inr (Or.inr ⟨?_, rfl⟩), hb⟩
      unfold Vt.thisR
      rw [hg]; rfl
  have HR' := Lib.hid HR
  clear hA hts hT hM HR
  generalize (Vt.GPostB l w (fun pre => (pre.map (fun a => a.1.p)).any Vt.astray)) = Q at *
  generalize Vt.thisR l = z at *
  generalize l.length = n at *
  go_enter Tryz.func26, Tryz.ntmps26
  go_wp2_with fail
  refine (CC.out).mono ?_
  rintro e w1 hq
  obtain ⟨h, hb⟩ := HR'.out _ _ hq
  have HB := Lib.hid hb
  clear hb hq CC HR'
  rcases h with ⟨rfl, rfl⟩ | ⟨rfl, rfl⟩ | ⟨rfl, rfl⟩
  all_goals
    go_wp2_with fail
    go_ret
    exact ⟨rfl, HB.out⟩
end Go.Proofs.YteiccjakaabfnaaGreatDoor
namespace Go.Proofs.YteiccjakaabfnaaGreatDoor
open Go.RowKit Go.Shelf

/-- The names with a place's. -/
def Vt.putR (names : List ByteArray) (p : List ByteArray) : List ByteArray :=
  if ((Vt.rt p).toList == []) = false ∧ ((Vt.rt p).toList == [116, 104, 105, 115]) = false then names ++ [Vt.rt p] else names
def Vt.R1Post (base : Nat) (v : Value) (ns : List ByteArray) (W : World) (e : Ending) (w' : World) : Prop :=
  ∃ v', e = .returned v' ∧ w'.ownsRow base 9 1 v' ns.length (ns.map Wp.mkT) ∧ W.grownBy w' v.ownBlock
set_option maxRecDepth 100000 in
set_option maxHeartbeats 1000000 in
theorem vtRoots1 (base : Nat) (v : Value) (names : List ByteArray) (w : World) (k : Nat) (t : ByteArray) (pp : Option Addr) (cp : Nat) (pk : Option Addr) (nk ck : Nat) (pe : Option Addr) (ne ce : Nat) (lev : Nat) (ie : Bool) (p : List ByteArray) (hp : Wp.At Wp.mkT w pp p) (hn : p.length ≤ 140737488351232) (hs : (Vt.rt p).size ≤ 140737488351232)
    (hO : w.ownsRow base 9 1 v names.length (names.map Wp.mkT)) (hbase : base ≤ w.heap.size) (hl : names.length ≤ 1000000) :
    Calls Tryz.prog 46 #[v, .agg #[.int .u8 (k : Nat), .string t, .slice pp p.length cp, .slice pk nk ck, .slice pe ne ce, .int .i64 (lev : Nat), .bool ie]] w (Vt.R1Post base v (Vt.putR names p) w) := by
  have hb := (Below.refl w.heap.size w).alloc (Nat.le_refl _) (.cells #[.int .u8 (k : Nat), .string t, .slice pp p.length cp, .slice pk nk ck, .slice pe ne ce, .int .i64 (lev : Nat), .bool ie] 67)
  have HB := Lib.hid hb
  have HO := Lib.hid hO
  have C := Lib.hid (vtRoot_any _ k t pp cp pk nk ck pe ne ce p (hp.below hb) hn)
  have HP : ∀ e w', Vt.R1Post base v (Vt.putR names p) w e w' ↔ ∃ v', e = .returned v' ∧ w'.ownsRow base 9 1 v' (Vt.putR names p).length ((Vt.putR names p).map Wp.mkT) ∧ w.grownBy w' v.ownBlock := fun _ _ => Iff.rfl
  have HP' := Lib.hid HP
  have HR1 := Lib.hid (show ((Vt.rt p).toList == []) = true → Vt.putR names p = names from fun h => by unfold Vt.putR; rw [h]; rfl)
  have HR2 := Lib.hid (show ((Vt.rt p).toList == [116, 104, 105, 115]) = true → Vt.putR names p = names from fun h => by unfold Vt.putR; rw [h, if_neg (by simp)])
  have HR3 := Lib.hid (show ((Vt.rt p).toList == []) = false → ((Vt.rt p).toList == [116, 104, 105, 115]) = false → Vt.putR names p = names ++ [Vt.rt p] from fun h h2 => by unfold Vt.putR; rw [if_pos ⟨h, h2⟩])
  clear hb hp HP hO
  generalize Vt.R1Post base v (Vt.putR names p) w = Post at *
  generalize Vt.putR names p = out at *
  obtain ⟨s, hsd⟩ : ∃ s, s = Vt.rt p := ⟨_, rfl⟩
  rw [← hsd] at C HR1 HR2 HR3 hs
  clear hsd
  generalize p.length = n at *
  obtain ⟨i0, hi, hz0, hz1, hz2⟩ := Vl.infoText
  go_enter Tryz.func46, Tryz.ntmps46
  go_wp2_with fail
  refine (C.out).mono ?_
  rintro e w1 ⟨rfl, hb⟩
  have hs1 : w.heap.size ≤ w1.heap.size := Nat.le_trans HB.out.size hb.size
  have HB1 := Lib.hid (HB.out.trans (hb.mono HB.out.size))
  clear hb C HB
  cases h1 : (s.toList == []) with
  | true =>
    obtain rfl := HR1.out h1
    have h1' : s.toList = [] := eq_of_beq h1
    clear h1
    go_wp2_with fail
    refine (HP'.out _ _).2 ⟨_, rfl, ownsRow_below HO.out HB1.out, grownBy_of HB1.out _⟩
  | false =>
    have h1' : ¬ s.toList = [] := fun e => by rw [e] at h1; cases h1
    cases h2 : (s.toList == [116, 104, 105, 115]) with
    | true =>
      obtain rfl := HR2.out h2
      have h2' : s.toList = [116, 104, 105, 115] := eq_of_beq h2
      clear h1 h2
      go_wp2_with fail
      refine (HP'.out _ _).2 ⟨_, rfl, ownsRow_below HO.out HB1.out, grownBy_of HB1.out _⟩
    | false =>
      obtain rfl := HR3.out h1 h2
      have h2' : ¬ s.toList = [116, 104, 105, 115] := fun e => by rw [e] at h2; cases h2
      have CC := Lib.hid (vlClone_any s w1 (by omega))
      have hE : s.toList.isEmpty = false := by cases h : s.toList with
        | nil => exact absurd h h1'
        | cons a l => rfl
      clear HR1 HR2 HR3
      go_wp2_with fail
      refine (CC.out).mono ?_
      rintro e w2 ⟨rfl, hb2⟩
      have HB2 := Lib.hid (HB1.out.trans (hb2.mono hs1))
      have HO2 := Lib.hid (ownsRow_below HO.out HB2.out)
      have hs2 := HB2.out.size
      clear hb2 CC
      go_wp2_with (at_builtin; refine wpList_append_own _ rfl _ _ 23 rfl base 9 i0 _ 1 16 Tryz.underlying23 hi hz0 hz1 hz2 rfl (by decide) _ _ _ rfl (HO2.out.alloc _) ⟨w2.heap.size, 0, none⟩ 1 1 [Wp.mkT s] rfl rfl ?c1 ?c2 ?c3 ?c4 ?c5 ?_)
      case c1 => exact cell_one_new _ _ _
      case c2 => simp [Wp.mkT, Value.oneCell']
      case c3 => unfold maxLen; omega
      case c4 => omega
      case c5 => simp; omega
      intro v' w4 hown4 hgrow4 _
      have HO4 := Lib.hid hown4
      have HG4 := Lib.hid (grownBy_trans (grownBy_trans (grownBy_of HB2.out v.ownBlock) (World.grownBy_alloc _ _ _)) hgrow4)
      clear hown4 hgrow4
      go_wp2_with fail
      refine (HP'.out _ _).2 ⟨_, rfl, (by rw [List.length_append, List.map_append]; exact HO4.out), HG4.out⟩
end Go.Proofs.YteiccjakaabfnaaGreatDoor
