
/-
  The walk of vet's gathered at texts, for Roots: the names of all places, one by one. Conditions: lists are of a size that a machine holds, texts of one that the walks hold.
-/
import Derived.Test.YteiccjakaabfnaaGreatDoorZ32
namespace Go.Proofs.YteiccjakaabfnaaGreatDoor
open Go.RowKit Go.Shelf
attribute [local go_sem] Oper.semAt_some

def Vt.namesP (ps : List Vt.P) : List ByteArray := ps.foldl (fun ns p => Vt.putR ns p.node.path) []
theorem Vt.namesP_snoc (ps : List Vt.P) (p : Vt.P) : Vt.namesP (ps ++ [p]) = Vt.putR (Vt.namesP ps) p.node.path := by
  unfold Vt.namesP
  rw [List.foldl_append]; rfl
theorem Vt.putR_len (ns p : List ByteArray) : (Vt.putR ns p).length ≤ ns.length + 1 := by
  unfold Vt.putR
  split
  · rw [List.length_append]; exact Nat.le_refl _
  · omega
theorem Vt.foldR_len (ps : List Vt.P) : ∀ ns : List ByteArray, (ps.foldl (fun ns p => Vt.putR ns p.node.path) ns).length ≤ ns.length + ps.length := by
  induction ps with
  | nil => intro ns; exact Nat.le_refl _
  | cons p ps ih =>
    intro ns
    have h1 := ih (Vt.putR ns p.node.path)
    have h2 := Vt.putR_len ns p.node.path
    rw [List.foldl_cons, List.length_cons]
    omega
theorem Vt.namesP_len (ps : List Vt.P) : (Vt.namesP ps).length ≤ ps.length := by
  have := Vt.foldR_len ps []
  unfold Vt.namesP
  rw [List.length_nil] at this
  omega
theorem Vt.rt_le {p : List ByteArray} (h : ∀ s ∈ p, s.size ≤ 140737488351232) : (Vt.rt p).size ≤ 140737488351232 := by
  cases p with
  | nil => exact Nat.zero_le _
  | cons a p => exact h a (List.mem_cons_self ..)
theorem Vt.owns_own {base : Nat} {e : TypeId} {size : Nat} {v : Value} {n : Nat} {xs : List Value} {A B : World} {row : Option Nat} (h : A.ownsRow base e size v n xs) (hg : A.grownBy B row) (hr : ∀ r, row = some r → ∃ o : Obj, A.heap[r]? = some o ∧ o.isCells = false) : B.ownsRow base e size v n xs := by
  refine h.kept hg ?_
  rcases h.2 with ⟨rfl, _⟩ | ⟨g, cap, cur, rfl, _, hc, _⟩
  · exact Or.inl (by simp [Value.ownBlock])
  · refine Or.inr (fun e2 => ?_)
    obtain ⟨o, ho, hf⟩ := hr g (by rw [← e2]; simp [Value.ownBlock])
    rw [hc] at ho
    cases ho
    cases hf
theorem Vt.owns_ge {base : Nat} {e : TypeId} {size : Nat} {v : Value} {n : Nat} {xs : List Value} {A : World} (h : A.ownsRow base e size v n xs) (k : Nat) (hk : v.ownBlock = some k) : base ≤ k ∧ ∃ cs, A.heap[k]? = some (.cells cs e (0, 0)) := by
  rcases h.2 with ⟨rfl, _⟩ | ⟨g, cap, cur, rfl, hb, hc, _⟩
  · simp [Value.ownBlock] at hk
  · have : g = k := by simpa [Value.ownBlock] using hk
    subst this
    exact ⟨hb, cur, hc⟩
theorem Vt.owns_less {base base' : Nat} {e : TypeId} {size : Nat} {v : Value} {n : Nat} {xs : List Value} {A : World} (h : A.ownsRow base e size v n xs) (hb : base' ≤ base) : A.ownsRow base' e size v n xs := by
  refine ⟨h.1, ?_⟩
  rcases h.2 with h2 | ⟨g, cap, cur, h2, h3, h4⟩
  · exact Or.inl h2
  · exact Or.inr ⟨g, cap, cur, h2, Nat.le_trans hb h3, h4⟩
theorem Vt.Kp.grown {n₀ x : Nat} {e : TypeId} {size : Nat} {v : Value} {n : Nat} {xs : List Value} {A B : World} (h : A.ownsRow n₀ e size v n xs) (he : e ≠ 37) (hg : A.grownBy B v.ownBlock) (hn : n₀ ≤ A.heap.size) : Vt.Kp n₀ x A B := by
  refine ⟨hg.size, fun k hk _ => hg.block k (by omega) (fun e2 => ?_), fun k cs fr e1 => (hg.block k (Array.getElem?_eq_some_iff.1 e1).1 (fun e2 => ?_)).trans e1⟩
  · have := (Vt.owns_ge h k e2.symm).1; omega
  · obtain ⟨_, cs2, h2⟩ := Vt.owns_ge h k e2.symm
    rw [h2] at e1
    cases e1
    exact he rfl
theorem vtRoots1x {w : World} (base : Nat) (pre : List (Vt.A w)) (x : Vt.A w) (W : World) (v : Value) (hl : pre.length < 256) (hB : Below w.heap.size w W) (hO : W.ownsRow base 9 1 v (Vt.namesP (pre.map (fun a => a.1.p))).length ((Vt.namesP (pre.map (fun a => a.1.p))).map Wp.mkT)) (hbase : base ≤ W.heap.size) :
    Calls Tryz.prog 46 #[v, .agg #[.int .u8 (x.1.k : Nat), .string x.1.t, .slice x.1.pp x.1.np x.1.cp, .slice x.1.pk x.1.nk x.1.ck, .slice x.1.pe x.1.ne x.1.ce, .int .i64 (x.1.p.lev : Nat), .bool x.1.p.ie]] W (Vt.R1Post base v (Vt.namesP ((pre ++ [x]).map (fun a => a.1.p))) W) := by
  obtain ⟨h1, h2, h3, h4⟩ := x.path
  have h5 := Vt.namesP_len (pre.map (fun a => a.1.p))
  rw [List.length_map] at h5
  rw [List.map_append, List.map_cons, List.map_nil, Vt.namesP_snoc, h1]
  exact vtRoots1 base v _ W x.1.k x.1.t x.1.pp x.1.cp x.1.pk x.1.nk x.1.ck x.1.pe x.1.ne x.1.ce x.1.p.lev x.1.p.ie _ (h2.below hB) h3 (Vt.rt_le h4) hO hbase (by omega)
/-- What gathered hands back at texts. -/
def Vt.GPostR (l : List Nd.N) (w : World) (e : Ending) (w' : World) : Prop :=
  ((Nd.good l = true ∧ ∃ v, e = .returned (.tuple #[v, .int .i64 0]) ∧ w'.ownsRow w.heap.size 9 1 v (Vt.namesP (Vt.visL 1 false l)).length ((Vt.namesP (Vt.visL 1 false l)).map Wp.mkT)) ∨ (Nd.good l = false ∧ e = .returned (.tuple #[.slice none 0 0, .int .i64 2]))) ∧ Below w.heap.size w w'
set_option maxRecDepth 100000 in
set_option maxHeartbeats 4000000 in
theorem vtGath_Roots (l : List Nd.N) (q : Option Addr) (c : Nat) (w : World)
    (hn : l.length ≤ 140737488351232) (hA : Nd.Row w q l) (hts : ∀ t ∈ Nd.toksL l, t.text.size ≤ 4000000000) (hT : Sc.Laid w) (hM : Sc.MaxLen w) :
    Calls Tryz.prog 45 #[.slice q l.length c, .func (.func 46) #[] #[]] w (Vt.GPostR l w) := by
  have hb0 := ((Below.refl w.heap.size w).alloc (Nat.le_refl _) (.cells #[.func (.func 46) #[] #[]] 70)).alloc (by rw [World.size_alloc]; omega) (.cells #[.slice none 0 0] 23)
  have HB0 := Lib.hid hb0
  have CC := Lib.hid (ndCheck_any l q c _ hn (hA.below hb0) hts (hT.below hb0) (hM.below hb0))
  have HG := Lib.hid (Nd.chk_good (l := l))
  have Hgo := Lib.hid (fun h => Nd.good_okL (l := l) h)
  have HA := Lib.hid hA
  clear hb0 hts hT hM hA
  generalize hz : Nd.chk l = z at *
  have hGP : ∀ e w', Vt.GPostR l w e w' ↔ (((Nd.good l = true ∧ ∃ v, e = .returned (.tuple #[v, .int .i64 0]) ∧ w'.ownsRow w.heap.size 9 1 v (Vt.namesP (Vt.visL 1 false l)).length ((Vt.namesP (Vt.visL 1 false l)).map Wp.mkT)) ∨ (Nd.good l = false ∧ e = .returned (.tuple #[.slice none 0 0, .int .i64 2]))) ∧ Below w.heap.size w w') := fun e w' => Iff.rfl
  have HGP := Lib.hid hGP
  clear hGP hz
  generalize Vt.GPostR l w = Post at *
  obtain ⟨n, hnn⟩ : ∃ n, n = l.length := ⟨_, rfl⟩
  have HN := Lib.hid hnn
  rw [← hnn] at hn CC ⊢
  clear hnn
  refine (callsIn_wide (n := 4)).1 ?_
  refine callsIn_of_wp_marks Tryz.func45 rfl trivial ?_ rfl
  simp only [Tryz.ntmps45, List.size_toArray, List.length_cons, List.length_nil, Nat.reduceAdd, Nat.reduceSub, Array.replicate_succ, Array.replicate_zero, List.push_toArray, List.append_toArray, List.nil_append, List.cons_append]
  gi_wp2_with fail
  refine ⟨trivial, (callsIn_wide.2 CC.out).mono ?_⟩
  rintro e w1 ⟨rfl, hb⟩
  have HB1 := Lib.hid (HB0.out.trans (hb.mono HB0.out.size))
  have q0 : w1.heap[w.heap.size]? = some (.cells #[.func (.func 46) #[] #[]] 70 (0, 0)) := (hb.block _ (by rw [World.size_alloc, World.size_alloc]; omega)).trans ((Vl.past _ _ _ (by rw [World.size_alloc]; omega)).trans (Vl.new w _))
  have q1 : w1.heap[w.heap.size + 1]? = some (.cells #[.slice none 0 0] 23 (0, 0)) := (hb.block _ (by rw [World.size_alloc, World.size_alloc]; omega)).trans (Vl.newAt _ _ _ (by rw [World.size_alloc]))
  have hs1 : w.heap.size + 2 ≤ w1.heap.size := by have := hb.size; rw [World.size_alloc, World.size_alloc] at this; exact this
  have k1 : w1.cell? ⟨w.heap.size + 1, 0, none⟩ = some (.slice none 0 0) := by rw [Lib.cell_of_heap q1]; rfl
  clear hb CC
  cases hg : Nd.good l with
  | false =>
    obtain rfl : z = 2 := HG.out.2 hg
    gi_wp2_with fail
    refine ⟨.tuple #[.slice none 0 0, .int .i64 2], ?_, (HGP.out _ _).2 ⟨Or.inr ⟨hg, rfl⟩, HB1.out⟩⟩
    simp [results, Tryz.f45, go_sem]
  | true =>
    obtain rfl : z = 0 := HG.out.1 hg
    gi_wp2_with fail
    refine ⟨trivial, (callsIn_wide.2 (vt_places _ _ _ _)).mono ?_⟩
    rintro e w' ⟨rfl, rfl⟩
    gi_wp2_with fail
    have q2 : (w1.alloc (.cells #[.slice q n c] 22)).heap[w1.heap.size]? = some (.cells #[.slice q n c] 22 (0, 0)) := Vl.new _ _
    have hbW := (Below.refl w1.heap.size w1).alloc (Nat.le_refl _) (.cells #[.slice q n c] 22)
    have r0' := (hbW.block _ (show w.heap.size < w1.heap.size by omega)).trans q0
    have r1' := (hbW.block _ (show w.heap.size + 1 < w1.heap.size by omega)).trans q1
    have hz1 : (w1.alloc (.cells #[.slice q n c] 22)).heap.size = w1.heap.size + 1 := World.size_alloc _ _
    have hBW : Below w.heap.size w (w1.alloc (.cells #[.slice q n c] 22)) := HB1.out.trans (hbW.mono HB1.out.size)
    obtain ⟨W0, hW0⟩ : ∃ W0, w1.alloc (.cells #[.slice q n c] 22) = W0 := ⟨_, rfl⟩
    rw [hW0] at q2 hbW r0' r1' hz1 hBW ⊢
    clear hW0 q0 q1 k1
    have HBW := Lib.hid hBW
    have hst := vt_stops l q c w W0 (w1.heap.size + 1) (w.heap.size + 1) w1.heap.size 256 (Hgo.out hg).1 (by rw [← HN.out]; exact hn) HA.out (by omega) (by omega) (by omega) (fun k hk => hBW.block k hk) (by rw [Lib.cell_of_heap q2, HN.out]; rfl) (Hgo.out hg).2
    obtain ⟨bf, hbf⟩ : ∃ bf, bf = w.heap.size := ⟨_, rfl⟩
    obtain ⟨bl, hbl⟩ : ∃ bl, bl = w1.heap.size := ⟨_, rfl⟩
    rw [← hbf, ← hbl] at hst
    rw [← hbf] at r0' r1' hs1 ⊢
    rw [← hbl] at hs1 hz1 q2 hbW ⊢
    refine wpIn_rangeFunc_ownH rfl (by omega) (gf := 142) (lb := #[.pointer (some ⟨bl, 0, none⟩)]) rfl trivial (enters_of Tryz.func142 (by kernel_rfl) rfl)
      hst Vt.Kp.trans (Vt.Kp.put (by omega)) (Below.refl _ _) (fun _ => rfl)
      (fun pre W => ((∃ v, W.heap[bf + 1]? = some (.cells #[v] 23 (0, 0)) ∧ W.ownsRow (bl + 1) 9 1 v (Vt.namesP (pre.map (fun a => a.1.p))).length ((Vt.namesP (pre.map (fun a => a.1.p))).map Wp.mkT)) ∧ W.heap[bf]? = some (.cells #[.func (.func 46) #[] #[]] 70 (0, 0)) ∧ bl + 1 ≤ W.heap.size) ∧ Below w.heap.size w W)
      (fun _ _ _ => False)
      (OwnFrom.and (Own.from (fun s A B row hs hg hr => by
        obtain ⟨⟨v, h1, h2⟩, h3, h4⟩ := hs
        exact ⟨⟨v, (grownBy_keeps_cells hg hr h1 rfl).trans h1, Vt.owns_own h2 hg hr⟩, (grownBy_keeps_cells hg hr h3 rfl).trans h3, Nat.le_trans h4 hg.size⟩) _) (ownFrom_below (by omega) (by omega)))
      (fun c => fun _ _ _ _ h _ _ => h)
      ⟨⟨⟨_, r1', World.ownsRow_nil _ _ _ _⟩, r0', by omega⟩, HBW.out⟩
      (fun y a' W => ∃ Bx, bl + 1 ≤ Bx ∧ W.heap[Bx]? = some (.cells #[.int .u8 (y.1.k : Nat), .string y.1.t, .slice y.1.pp y.1.np y.1.cp, .slice y.1.pk y.1.nk y.1.ck, .slice y.1.pe y.1.ne y.1.ce, .int .i64 (y.1.p.lev : Nat), .bool y.1.p.ie] 67 (0, 0)) ∧ a' = { tmps := #[.slice q n c, .func (.func 46) #[] #[], undef, .pointer (some ⟨bf, 0, none⟩), .slice none 0 0, .int .i64 0, .pointer (some ⟨bf + 1, 0, none⟩), .int .i64 0, .pointer (some ⟨Bx, 0, none⟩), .slice q n c, .int .i64 0, .int .i64 0, .bool false, undef, undef, .slice q n c, .func (.func 142) #[] #[.pointer (some ⟨bl, 0, none⟩)], .agg #[.int .u8 (y.1.k : Nat), .string y.1.t, .slice y.1.pp y.1.np y.1.cp, .slice y.1.pk y.1.nk y.1.ck, .slice y.1.pe y.1.ne y.1.ce, .int .i64 (y.1.p.lev : Nat), .bool y.1.p.ie], undef, undef, undef, undef, undef], defers := [] })
      (fun y a' _ X Y row hs hg hr => by obtain ⟨Bx, h1, h2, h3⟩ := hs; exact ⟨Bx, h1, (grownBy_keeps_cells hg (fun r e => (hr r e).2) h2 rfl).trans h2, h3⟩)
      ?assign ?body ?done ?stop
    case assign =>
      rintro lo pre y W K ⟨⟨⟨v, r0, ro⟩, r1, r2⟩, hB⟩ hK
      clear hbf hbl hst
      unfold Vt.enc
      gi_wp2
      exact hK _ _ ((KeepsOthers.alloc _ _).from _) ((Vt.Kp.refl _ _ _).alloc r2 _) ⟨⟨⟨v, (Vl.past _ _ _ (by omega)).trans r0, ro.alloc _⟩, (Vl.past _ _ _ (by omega)).trans r1, by rw [World.size_alloc]; omega⟩, hB.alloc hB.size _⟩ ⟨W.heap.size, r2, Vl.new _ _, rfl⟩
    case body =>
      rintro lo pre y a' W hl ⟨r, hr⟩ ⟨⟨⟨v, r0, ro⟩, r1, r2⟩, hB⟩ ⟨Bx, hBx, bX, rfl⟩ hlt
      have HX := Lib.hid hbf
      clear hbf hbl hst
      have k0 : W.cell? ⟨bf + 1, 0, none⟩ = some v := by rw [Lib.cell_of_heap r0]; rfl
      have k1 : W.cell? ⟨bf, 0, none⟩ = some (.func (.func 46) #[] #[]) := by rw [Lib.cell_of_heap r1]; rfl
      obtain ⟨b0, b1, b2, b3, b4, b5, b6⟩ := Vt.seven_of bX
      have C1 := Lib.hid (vtRoots1x (bl + 1) pre y W v hlt hB ro r2)
      have HR0 := Lib.hid r0
      have HR1 := Lib.hid r1
      have HRO := Lib.hid ro
      clear r0 r1 ro bX r0' r1' q2
      gi_wp2
      refine ⟨trivial, (callsIn_wide.2 C1.out).mono ?_⟩
      rintro e W2 ⟨v', rfl, ro2, hg2⟩
      obtain ⟨p3, n3, c3, rfl⟩ : ∃ p n c, v' = .slice p n c := by obtain ⟨p, c, h, _⟩ := owns_at (mk := Wp.mkT) ro2; exact ⟨p, _, c, h⟩
      have hs2 := hg2.size
      have hne : ∀ k, k < bl + 1 → some k ≠ v.ownBlock := fun k hk e => by have := (Vt.owns_ge HRO.out k e.symm).1; omega
      have r0 := (hg2.block (bf + 1) (show bf + 1 < W.heap.size by omega) (hne _ (by omega))).trans HR0.out
      have r1 := (hg2.block bf (show bf < W.heap.size by omega) (hne _ (by omega))).trans HR1.out
      have k3 : W2.frozen? ⟨bf + 1, 0, none⟩ = false := by simp [World.frozen?, r0]
      have k4 : W2.cell? ⟨bf + 1, 0, none⟩ = some v := by rw [Lib.cell_of_heap r0]; rfl
      have HQ0 := Lib.hid r0
      have HQ1 := Lib.hid r1
      have HQO := Lib.hid ro2
      have HB2 := Lib.hid hg2
      have HBB := Lib.hid hB
      clear r0 r1 ro2 hg2 hB k0 k1 b0 b1 b2 b3 b4 b5 b6 C1 hne
      gi_wp2
      exact ⟨((KeepsOthers.of_grownBy HB2.out (fun j o e ho => by obtain ⟨_, cs, h2⟩ := Vt.owns_ge HRO.out j e; rw [h2] at ho; cases ho; rfl)).trans (KeepsOthers.setCell _ _ _)).from _, (Vt.Kp.grown HRO.out (by decide) HB2.out r2).trans (Vt.Kp.set _ 0 _ HQ0.out (by decide)), ⟨⟨_, (Lib.heap_setCell_same (i := 0) HQ0.out _).trans rfl, HQO.out.kept (Vl.set1_grown W2 (bf + 1) 0 _) (Classical.or_iff_not_imp_left.2 fun _ e => by have := (Vt.owns_ge HQO.out _ e).1; omega)⟩, (Below.heap_setCell _ ⟨bf + 1, 0, none⟩ _ bf (show bf ≠ bf + 1 by omega)).trans HQ1.out, by rw [World.size_setCell]; omega⟩, (HBB.out.grown HB2.out HBB.out.size (fun k e => by have := (Vt.owns_ge HRO.out k e).1; have := HX.out; omega)).setCell (p := ⟨bf + 1, 0, none⟩) (show w.heap.size ≤ bf + 1 by have := HX.out; omega) _⟩
    case done =>
      rintro D ys W hD hys ⟨⟨⟨v, r0, ro⟩, r1, r2⟩, hB⟩ hK
      have HX := Lib.hid hbf
      have hle : w.heap.size ≤ bl + 1 := by omega
      clear hbf hbl hst
      rw [hys] at ro
      have k0 : W.cell? ⟨bf + 1, 0, none⟩ = some v := by rw [Lib.cell_of_heap r0]; rfl
      have HP := Lib.hid ((HGP.out (.returned (.tuple #[v, .int .i64 0])) (W.putObj D (.deferred none))).2 ⟨Or.inl ⟨hg, v, rfl, Vt.owns_less (Vt.owns_own ro (grownBy_putObj' W D _) (fun r e => by cases e; exact ⟨_, hK, rfl⟩)) hle⟩, hB.trans (belowK_b (w := w) (Nat.le_refl _) W D _ _ (by have := HBW.out.size; omega) hK rfl rfl)⟩)
      gi_wp2
      refine ⟨by simp, .inl ⟨_, _, rfl, run_takeDeferred hK, ?_⟩⟩
      refine ⟨.tuple #[v, .int .i64 0], ?_, HP.out⟩
      simp [results, Tryz.f45, go_sem]
    case stop => intro _ _ _ _ _ _ h; exact h.elim
end Go.Proofs.YteiccjakaabfnaaGreatDoor
