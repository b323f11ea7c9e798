
/-
  The walks of vet's gathered at whole numbers, for Depth, Count and Plain, and at truths, for This: what all places come to, one by one. Conditions: lists are of a size that a machine holds, texts of one that the walks hold.
-/
import Derived.Test.YteiccjakaabfnaaGreatDoorZ40
import Derived.Test.YteiccjakaabfnaaGreatDoorZ49
import Derived.Shelf.Abstract
namespace Go.Proofs.YteiccjakaabfnaaGreatDoor
open Go.RowKit Go.Shelf
attribute [local go_sem] Oper.semAt_some

theorem Nd.chk_good {l : List Nd.N} : (Nd.good l = true → Nd.chk l = 0) ∧ (Nd.good l = false → Nd.chk l = 2) := by
  unfold Nd.chk
  exact ⟨fun h => by rw [h]; rfl, fun h => by rw [h]; rfl⟩
theorem Nd.good_okL {l : List Nd.N} (h : Nd.good l = true) : Nd.okL 8 l = true ∧ Nd.cntL l ≤ 256 := by
  unfold Nd.good Nd.shapedP at h
  rw [Bool.and_eq_true, Bool.and_eq_true, decide_eq_true_eq] at h
  exact ⟨h.1.1, h.1.2⟩
theorem Vt.seven_of {w : World} {g : Nat} {a b c d e f h : Value} {t : TypeId} (hh : w.heap[g]? = some (.cells #[a, b, c, d, e, f, h] t (0, 0))) :
    w.cell? ⟨g, 0, none⟩ = some a ∧ w.cell? ⟨g, 1, none⟩ = some b ∧ w.cell? ⟨g, 2, none⟩ = some c ∧ w.cell? ⟨g, 3, none⟩ = some d ∧ w.cell? ⟨g, 4, none⟩ = some e ∧ w.cell? ⟨g, 5, none⟩ = some f ∧ w.cell? ⟨g, 6, none⟩ = some h :=
  ⟨by rw [Lib.cell_of_heap hh]; rfl, by rw [Lib.cell_of_heap hh]; rfl, by rw [Lib.cell_of_heap hh]; rfl, by rw [Lib.cell_of_heap hh]; rfl, by rw [Lib.cell_of_heap hh]; rfl, by rw [Lib.cell_of_heap hh]; rfl, by rw [Lib.cell_of_heap hh]; rfl⟩
/-- What gathered hands back at truths. -/
def Vt.GPostB (l : List Nd.N) (w : World) (F : List (Vt.A w) → Bool) (e : Ending) (w' : World) : Prop :=
  ((Nd.good l = true ∧ ∃ ys : List (Vt.A w), ys.map (fun a => a.1.p) = Vt.visL 1 false l ∧ e = .returned (.tuple #[.bool (F ys), .int .i64 0])) ∨ (Nd.good l = false ∧ e = .returned (.tuple #[.bool false, .int .i64 2]))) ∧ Below w.heap.size w w'
/-- What gathered hands back at whole numbers. -/
def Vt.GPost (l : List Nd.N) (w : World) (F : List (Vt.A w) → Int) (e : Ending) (w' : World) : Prop :=
  ((Nd.good l = true ∧ ∃ ys : List (Vt.A w), ys.map (fun a => a.1.p) = Vt.visL 1 false l ∧ e = .returned (.tuple #[.int .i64 (F ys), .int .i64 0])) ∨ (Nd.good l = false ∧ e = .returned (.tuple #[.int .i64 0, .int .i64 2]))) ∧ Below w.heap.size w w'
set_option maxRecDepth 100000 in
set_option maxHeartbeats 4000000 in
theorem vtGath_Count (l : List Nd.N) (q : Option Addr) (c : Nat) (w : World) (F : List (Vt.A w) → Int) (hF0 : F [] = 0)
    (CG : ∀ (pre : List (Vt.A w)) (x : Vt.A w) (W : World), pre.length < 256 → Below w.heap.size w W → Calls Tryz.prog 56 #[.int .i64 (F pre), .agg #[.int .u8 (x.1.k : Nat), .string x.1.t, .slice x.1.pp x.1.np x.1.cp, .slice x.1.pk x.1.nk x.1.ck, .slice x.1.pe x.1.ne x.1.ce, .int .i64 (x.1.p.lev : Nat), .bool x.1.p.ie]] W fun e w' => e = .returned (.int .i64 (F (pre ++ [x]))) ∧ Below W.heap.size W w')
    (hn : l.length ≤ 140737488351232) (hA : Nd.Row w q l) (hts : ∀ t ∈ Nd.toksL l, t.text.size ≤ 4000000000) (hT : Sc.Laid w) (hM : Sc.MaxLen w) :
    Calls Tryz.prog 53 #[.slice q l.length c, .func (.func 56) #[] #[]] w (Vt.GPost l w F) := by
  have hb0 := ((Below.refl w.heap.size w).alloc (Nat.le_refl _) (.cells #[.func (.func 56) #[] #[]] 75)).alloc (by rw [World.size_alloc]; omega) (.cells #[.int .i64 0] 3)
  have HB0 := Lib.hid hb0
  have CC := Lib.hid (ndCheck_any l q c _ hn (hA.below hb0) hts (hT.below hb0) (hM.below hb0))
  have HG := Lib.hid (Nd.chk_good (l := l))
  have Hgo := Lib.hid (fun h => Nd.good_okL (l := l) h)
  have HA := Lib.hid hA
  have HF0 := Lib.hid hF0
  have HCG := Lib.hid CG
  clear hb0 hts hT hM hA hF0 CG
  generalize hz : Nd.chk l = z at *
  have hGP : ∀ e w', Vt.GPost l w F e w' ↔ (((Nd.good l = true ∧ ∃ ys : List (Vt.A w), ys.map (fun a => a.1.p) = Vt.visL 1 false l ∧ e = .returned (.tuple #[.int .i64 (F ys), .int .i64 0])) ∨ (Nd.good l = false ∧ e = .returned (.tuple #[.int .i64 0, .int .i64 2]))) ∧ Below w.heap.size w w') := fun e w' => Iff.rfl
  have HGP := Lib.hid hGP
  clear hGP hz
  generalize Vt.GPost l w F = Post at *
  obtain ⟨n, hnn⟩ : ∃ n, n = l.length := ⟨_, rfl⟩
  have HN := Lib.hid hnn
  rw [← hnn] at hn CC ⊢
  clear hnn
  refine (callsIn_wide (n := 4)).1 ?_
  refine callsIn_of_wp_marks Tryz.func53 rfl trivial ?_ rfl
  simp only [Tryz.ntmps53, List.size_toArray, List.length_cons, List.length_nil, Nat.reduceAdd, Nat.reduceSub, Array.replicate_succ, Array.replicate_zero, List.push_toArray, List.append_toArray, List.nil_append, List.cons_append]
  gi_wp2_with fail
  refine ⟨trivial, (callsIn_wide.2 CC.out).mono ?_⟩
  rintro e w1 ⟨rfl, hb⟩
  have HB1 := Lib.hid (HB0.out.trans (hb.mono HB0.out.size))
  have q0 : w1.heap[w.heap.size]? = some (.cells #[.func (.func 56) #[] #[]] 75 (0, 0)) := (hb.block _ (by rw [World.size_alloc, World.size_alloc]; omega)).trans ((Vl.past _ _ _ (by rw [World.size_alloc]; omega)).trans (Vl.new w _))
  have q1 : w1.heap[w.heap.size + 1]? = some (.cells #[.int .i64 0] 3 (0, 0)) := (hb.block _ (by rw [World.size_alloc, World.size_alloc]; omega)).trans (Vl.newAt _ _ _ (by rw [World.size_alloc]))
  have hs1 : w.heap.size + 2 ≤ w1.heap.size := by have := hb.size; rw [World.size_alloc, World.size_alloc] at this; exact this
  have k1 : w1.cell? ⟨w.heap.size + 1, 0, none⟩ = some (.int .i64 0) := by rw [Lib.cell_of_heap q1]; rfl
  clear hb CC
  cases hg : Nd.good l with
  | false =>
    obtain rfl : z = 2 := HG.out.2 hg
    gi_wp2_with fail
    refine ⟨.tuple #[.int .i64 0, .int .i64 2], ?_, (HGP.out _ _).2 ⟨Or.inr ⟨hg, rfl⟩, HB1.out⟩⟩
    simp [results, Tryz.f53, go_sem]
  | true =>
    obtain rfl : z = 0 := HG.out.1 hg
    gi_wp2_with fail
    refine ⟨trivial, (callsIn_wide.2 (vt_places _ _ _ _)).mono ?_⟩
    rintro e w' ⟨rfl, rfl⟩
    gi_wp2_with fail
    have q2 : (w1.alloc (.cells #[.slice q n c] 22)).heap[w1.heap.size]? = some (.cells #[.slice q n c] 22 (0, 0)) := Vl.new _ _
    have hbW := (Below.refl w1.heap.size w1).alloc (Nat.le_refl _) (.cells #[.slice q n c] 22)
    have r0' := (hbW.block _ (show w.heap.size < w1.heap.size by omega)).trans q0
    have r1' := (hbW.block _ (show w.heap.size + 1 < w1.heap.size by omega)).trans q1
    have hz1 : (w1.alloc (.cells #[.slice q n c] 22)).heap.size = w1.heap.size + 1 := World.size_alloc _ _
    have hBW : Below w.heap.size w (w1.alloc (.cells #[.slice q n c] 22)) := HB1.out.trans (hbW.mono HB1.out.size)
    obtain ⟨W0, hW0⟩ : ∃ W0, w1.alloc (.cells #[.slice q n c] 22) = W0 := ⟨_, rfl⟩
    rw [hW0] at q2 hbW r0' r1' hz1 hBW ⊢
    clear hW0 q0 q1 k1
    have HBW := Lib.hid hBW
    have hst := vt_stops l q c w W0 (w1.heap.size + 1) (w.heap.size + 1) w1.heap.size 256 (Hgo.out hg).1 (by rw [← HN.out]; exact hn) HA.out (by omega) (by omega) (by omega) (fun k hk => hBW.block k hk) (by rw [Lib.cell_of_heap q2, HN.out]; rfl) (Hgo.out hg).2
    obtain ⟨bf, hbf⟩ : ∃ bf, bf = w.heap.size := ⟨_, rfl⟩
    obtain ⟨bl, hbl⟩ : ∃ bl, bl = w1.heap.size := ⟨_, rfl⟩
    rw [← hbf, ← hbl] at hst
    rw [← hbf] at r0' r1' hs1 ⊢
    rw [← hbl] at hs1 hz1 q2 hbW ⊢
    refine wpIn_rangeFunc_ownH rfl (by omega) (gf := 142) (lb := #[.pointer (some ⟨bl, 0, none⟩)]) rfl trivial (enters_of Tryz.func142 (by kernel_rfl) rfl)
      hst Vt.Kp.trans (Vt.Kp.put (by omega)) (Below.refl _ _) (fun _ => rfl)
      (fun pre W => (W.heap[bf + 1]? = some (.cells #[.int .i64 (F pre)] 3 (0, 0)) ∧ W.heap[bf]? = some (.cells #[.func (.func 56) #[] #[]] 75 (0, 0)) ∧ bl + 1 ≤ W.heap.size) ∧ Below w.heap.size w W)
      (fun _ _ _ => False)
      (OwnFrom.and (Own.from (fun s A B row hs hg hr => ⟨(grownBy_keeps_cells hg hr hs.1 rfl).trans hs.1, (grownBy_keeps_cells hg hr hs.2.1 rfl).trans hs.2.1, Nat.le_trans hs.2.2 hg.size⟩) _) (ownFrom_below (by omega) (by omega)))
      (fun c => fun _ _ _ _ h _ _ => h)
      ⟨⟨by rw [HF0.out]; exact r1', r0', by omega⟩, HBW.out⟩
      (fun y a' W => ∃ Bx, bl + 1 ≤ Bx ∧ W.heap[Bx]? = some (.cells #[.int .u8 (y.1.k : Nat), .string y.1.t, .slice y.1.pp y.1.np y.1.cp, .slice y.1.pk y.1.nk y.1.ck, .slice y.1.pe y.1.ne y.1.ce, .int .i64 (y.1.p.lev : Nat), .bool y.1.p.ie] 67 (0, 0)) ∧ a' = { tmps := #[.slice q n c, .func (.func 56) #[] #[], undef, .pointer (some ⟨bf, 0, none⟩), .int .i64 0, .int .i64 0, .pointer (some ⟨bf + 1, 0, none⟩), .int .i64 0, .pointer (some ⟨Bx, 0, none⟩), .slice q n c, .int .i64 0, .int .i64 0, .bool false, undef, undef, .slice q n c, .func (.func 142) #[] #[.pointer (some ⟨bl, 0, none⟩)], .agg #[.int .u8 (y.1.k : Nat), .string y.1.t, .slice y.1.pp y.1.np y.1.cp, .slice y.1.pk y.1.nk y.1.ck, .slice y.1.pe y.1.ne y.1.ce, .int .i64 (y.1.p.lev : Nat), .bool y.1.p.ie], undef, undef, undef, undef, undef], defers := [] })
      (fun y a' _ X Y row hs hg hr => by obtain ⟨Bx, h1, h2, h3⟩ := hs; exact ⟨Bx, h1, (grownBy_keeps_cells hg (fun r e => (hr r e).2) h2 rfl).trans h2, h3⟩)
      ?assign ?body ?done ?stop
    case assign =>
      rintro lo pre y W K ⟨⟨r0, r1, r2⟩, hB⟩ hK
      clear hbf hbl hst
      unfold Vt.enc
      gi_wp2
      exact hK _ _ ((KeepsOthers.alloc _ _).from _) ((Vt.Kp.refl _ _ _).alloc r2 _) ⟨⟨(Vl.past _ _ _ (by omega)).trans r0, (Vl.past _ _ _ (by omega)).trans r1, by rw [World.size_alloc]; omega⟩, hB.alloc hB.size _⟩ ⟨W.heap.size, r2, Vl.new _ _, rfl⟩
    case body =>
      rintro lo pre y a' W hl ⟨r, hr⟩ ⟨⟨r0, r1, r2⟩, hB⟩ ⟨Bx, hBx, bX, rfl⟩ hlt
      have HX := Lib.hid hbf
      clear hbf hbl hst
      have k0 : W.cell? ⟨bf + 1, 0, none⟩ = some (.int .i64 (F pre)) := by rw [Lib.cell_of_heap r0]; rfl
      have k1 : W.cell? ⟨bf, 0, none⟩ = some (.func (.func 56) #[] #[]) := by rw [Lib.cell_of_heap r1]; rfl
      obtain ⟨b0, b1, b2, b3, b4, b5, b6⟩ := Vt.seven_of bX
      have C1 := Lib.hid (HCG.out pre y W hlt hB)
      have HR0 := Lib.hid r0
      have HR1 := Lib.hid r1
      clear r0 r1 bX r0' r1' q2
      gi_wp2
      refine ⟨trivial, (callsIn_wide.2 C1.out).mono ?_⟩
      rintro e W2 ⟨rfl, hb2⟩
      have hs2 := hb2.size
      have r0 := (hb2.block _ (show bf + 1 < W.heap.size by omega)).trans HR0.out
      have r1 := (hb2.block _ (show bf < W.heap.size by omega)).trans HR1.out
      have k3 : W2.frozen? ⟨bf + 1, 0, none⟩ = false := by simp [World.frozen?, r0]
      have k4 : W2.cell? ⟨bf + 1, 0, none⟩ = some (.int .i64 (F pre)) := by rw [Lib.cell_of_heap r0]; rfl
      have HQ0 := Lib.hid r0
      have HQ1 := Lib.hid r1
      have HB2 := Lib.hid hb2
      have HBB := Lib.hid hB
      clear r0 r1 hb2 hB k0 k1 b0 b1 b2 b3 b4 b5 b6 C1
      gi_wp2
      exact ⟨((KeepsOthers.of_grownBy (grownBy_of HB2.out none) (fun j o e => by cases e)).trans (KeepsOthers.setCell _ _ _)).from _, ((Vt.Kp.refl _ _ _).below r2 HB2.out).trans (Vt.Kp.set _ 0 _ HQ0.out (by decide)), ⟨(Lib.heap_setCell_same (i := 0) HQ0.out _).trans rfl, (Below.heap_setCell _ ⟨bf + 1, 0, none⟩ _ bf (show bf ≠ bf + 1 by omega)).trans HQ1.out, by rw [World.size_setCell]; omega⟩, (HBB.out.trans (HB2.out.mono HBB.out.size)).setCell (p := ⟨bf + 1, 0, none⟩) (show w.heap.size ≤ bf + 1 by have := HX.out; omega) _⟩
    case done =>
      rintro D ys W hD hys ⟨⟨r0, r1, r2⟩, hB⟩ hK
      have HX := Lib.hid hbf
      clear hbf hbl hst
      have k0 : W.cell? ⟨bf + 1, 0, none⟩ = some (.int .i64 (F ys)) := by rw [Lib.cell_of_heap r0]; rfl
      have HP := Lib.hid ((HGP.out (.returned (.tuple #[.int .i64 (F ys), .int .i64 0])) (W.putObj D (.deferred none))).2 ⟨Or.inl ⟨hg, ys, hys, rfl⟩, hB.trans (belowK_b (w := w) (Nat.le_refl _) W D _ _ (by have := HBW.out.size; omega) hK rfl rfl)⟩)
      gi_wp2
      refine ⟨by simp, .inl ⟨_, _, rfl, run_takeDeferred hK, ?_⟩⟩
      refine ⟨.tuple #[.int .i64 (F ys), .int .i64 0], ?_, HP.out⟩
      simp [results, Tryz.f53, go_sem]
    case stop => intro _ _ _ _ _ _ h; exact h.elim
set_option maxRecDepth 100000 in
set_option maxHeartbeats 4000000 in
theorem vtGath_Depth (l : List Nd.N) (q : Option Addr) (c : Nat) (w : World) (F : List (Vt.A w) → Int) (hF0 : F [] = 0)
    (CG : ∀ (pre : List (Vt.A w)) (x : Vt.A w) (W : World), pre.length < 256 → Below w.heap.size w W → Calls Tryz.prog 54 #[.int .i64 (F pre), .agg #[.int .u8 (x.1.k : Nat), .string x.1.t, .slice x.1.pp x.1.np x.1.cp, .slice x.1.pk x.1.nk x.1.ck, .slice x.1.pe x.1.ne x.1.ce, .int .i64 (x.1.p.lev : Nat), .bool x.1.p.ie]] W fun e w' => e = .returned (.int .i64 (F (pre ++ [x]))) ∧ Below W.heap.size W w')
    (hn : l.length ≤ 140737488351232) (hA : Nd.Row w q l) (hts : ∀ t ∈ Nd.toksL l, t.text.size ≤ 4000000000) (hT : Sc.Laid w) (hM : Sc.MaxLen w) :
    Calls Tryz.prog 53 #[.slice q l.length c, .func (.func 54) #[] #[]] w (Vt.GPost l w F) := by
  have hb0 := ((Below.refl w.heap.size w).alloc (Nat.le_refl _) (.cells #[.func (.func 54) #[] #[]] 75)).alloc (by rw [World.size_alloc]; omega) (.cells #[.int .i64 0] 3)
  have HB0 := Lib.hid hb0
  have CC := Lib.hid (ndCheck_any l q c _ hn (hA.below hb0) hts (hT.below hb0) (hM.below hb0))
  have HG := Lib.hid (Nd.chk_good (l := l))
  have Hgo := Lib.hid (fun h => Nd.good_okL (l := l) h)
  have HA := Lib.hid hA
  have HF0 := Lib.hid hF0
  have HCG := Lib.hid CG
  clear hb0 hts hT hM hA hF0 CG
  generalize hz : Nd.chk l = z at *
  have hGP : ∀ e w', Vt.GPost l w F e w' ↔ (((Nd.good l = true ∧ ∃ ys : List (Vt.A w), ys.map (fun a => a.1.p) = Vt.visL 1 false l ∧ e = .returned (.tuple #[.int .i64 (F ys), .int .i64 0])) ∨ (Nd.good l = false ∧ e = .returned (.tuple #[.int .i64 0, .int .i64 2]))) ∧ Below w.heap.size w w') := fun e w' => Iff.rfl
  have HGP := Lib.hid hGP
  clear hGP hz
  generalize Vt.GPost l w F = Post at *
  obtain ⟨n, hnn⟩ : ∃ n, n = l.length := ⟨_, rfl⟩
  have HN := Lib.hid hnn
  rw [← hnn] at hn CC ⊢
  clear hnn
  refine (callsIn_wide (n := 4)).1 ?_
  refine callsIn_of_wp_marks Tryz.func53 rfl trivial ?_ rfl
  simp only [Tryz.ntmps53, List.size_toArray, List.length_cons, List.length_nil, Nat.reduceAdd, Nat.reduceSub, Array.replicate_succ, Array.replicate_zero, List.push_toArray, List.append_toArray, List.nil_append, List.cons_append]
  gi_wp2_with fail
  refine ⟨trivial, (callsIn_wide.2 CC.out).mono ?_⟩
  rintro e w1 ⟨rfl, hb⟩
  have HB1 := Lib.hid (HB0.out.trans (hb.mono HB0.out.size))
  have q0 : w1.heap[w.heap.size]? = some (.cells #[.func (.func 54) #[] #[]] 75 (0, 0)) := (hb.block _ (by rw [World.size_alloc, World.size_alloc]; omega)).trans ((Vl.past _ _ _ (by rw [World.size_alloc]; omega)).trans (Vl.new w _))
  have q1 : w1.heap[w.heap.size + 1]? = some (.cells #[.int .i64 0] 3 (0, 0)) := (hb.block _ (by rw [World.size_alloc, World.size_alloc]; omega)).trans (Vl.newAt _ _ _ (by rw [World.size_alloc]))
  have hs1 : w.heap.size + 2 ≤ w1.heap.size := by have := hb.size; rw [World.size_alloc, World.size_alloc] at this; exact this
  have k1 : w1.cell? ⟨w.heap.size + 1, 0, none⟩ = some (.int .i64 0) := by rw [Lib.cell_of_heap q1]; rfl
  clear hb CC
  cases hg : Nd.good l with
  | false =>
    obtain rfl : z = 2 := HG.out.2 hg
    gi_wp2_with fail
    refine ⟨.tuple #[.int .i64 0, .int .i64 2], ?_, (HGP.out _ _).2 ⟨Or.inr ⟨hg, rfl⟩, HB1.out⟩⟩
    simp [results, Tryz.f53, go_sem]
  | true =>
    obtain rfl : z = 0 := HG.out.1 hg
    gi_wp2_with fail
    refine ⟨trivial, (callsIn_wide.2 (vt_places _ _ _ _)).mono ?_⟩
    rintro e w' ⟨rfl, rfl⟩
    gi_wp2_with fail
    have q2 : (w1.alloc (.cells #[.slice q n c] 22)).heap[w1.heap.size]? = some (.cells #[.slice q n c] 22 (0, 0)) := Vl.new _ _
    have hbW := (Below.refl w1.heap.size w1).alloc (Nat.le_refl _) (.cells #[.slice q n c] 22)
    have r0' := (hbW.block _ (show w.heap.size < w1.heap.size by omega)).trans q0
    have r1' := (hbW.block _ (show w.heap.size + 1 < w1.heap.size by omega)).trans q1
    have hz1 : (w1.alloc (.cells #[.slice q n c] 22)).heap.size = w1.heap.size + 1 := World.size_alloc _ _
    have hBW : Below w.heap.size w (w1.alloc (.cells #[.slice q n c] 22)) := HB1.out.trans (hbW.mono HB1.out.size)
    obtain ⟨W0, hW0⟩ : ∃ W0, w1.alloc (.cells #[.slice q n c] 22) = W0 := ⟨_, rfl⟩
    rw [hW0] at q2 hbW r0' r1' hz1 hBW ⊢
    clear hW0 q0 q1 k1
    have HBW := Lib.hid hBW
    have hst := vt_stops l q c w W0 (w1.heap.size + 1) (w.heap.size + 1) w1.heap.size 256 (Hgo.out hg).1 (by rw [← HN.out]; exact hn) HA.out (by omega) (by omega) (by omega) (fun k hk => hBW.block k hk) (by rw [Lib.cell_of_heap q2, HN.out]; rfl) (Hgo.out hg).2
    obtain ⟨bf, hbf⟩ : ∃ bf, bf = w.heap.size := ⟨_, rfl⟩
    obtain ⟨bl, hbl⟩ : ∃ bl, bl = w1.heap.size := ⟨_, rfl⟩
    rw [← hbf, ← hbl] at hst
    rw [← hbf] at r0' r1' hs1 ⊢
    rw [← hbl] at hs1 hz1 q2 hbW ⊢
    refine wpIn_rangeFunc_ownH rfl (by omega) (gf := 142) (lb := #[.pointer (some ⟨bl, 0, none⟩)]) rfl trivial (enters_of Tryz.func142 (by kernel_rfl) rfl)
      hst Vt.Kp.trans (Vt.Kp.put (by omega)) (Below.refl _ _) (fun _ => rfl)
      (fun pre W => (W.heap[bf + 1]? = some (.cells #[.int .i64 (F pre)] 3 (0, 0)) ∧ W.heap[bf]? = some (.cells #[.func (.func 54) #[] #[]] 75 (0, 0)) ∧ bl + 1 ≤ W.heap.size) ∧ Below w.heap.size w W)
      (fun _ _ _ => False)
      (OwnFrom.and (Own.from (fun s A B row hs hg hr => ⟨(grownBy_keeps_cells hg hr hs.1 rfl).trans hs.1, (grownBy_keeps_cells hg hr hs.2.1 rfl).trans hs.2.1, Nat.le_trans hs.2.2 hg.size⟩) _) (ownFrom_below (by omega) (by omega)))
      (fun c => fun _ _ _ _ h _ _ => h)
      ⟨⟨by rw [HF0.out]; exact r1', r0', by omega⟩, HBW.out⟩
      (fun y a' W => ∃ Bx, bl + 1 ≤ Bx ∧ W.heap[Bx]? = some (.cells #[.int .u8 (y.1.k : Nat), .string y.1.t, .slice y.1.pp y.1.np y.1.cp, .slice y.1.pk y.1.nk y.1.ck, .slice y.1.pe y.1.ne y.1.ce, .int .i64 (y.1.p.lev : Nat), .bool y.1.p.ie] 67 (0, 0)) ∧ a' = { tmps := #[.slice q n c, .func (.func 54) #[] #[], undef, .pointer (some ⟨bf, 0, none⟩), .int .i64 0, .int .i64 0, .pointer (some ⟨bf + 1, 0, none⟩), .int .i64 0, .pointer (some ⟨Bx, 0, none⟩), .slice q n c, .int .i64 0, .int .i64 0, .bool false, undef, undef, .slice q n c, .func (.func 142) #[] #[.pointer (some ⟨bl, 0, none⟩)], .agg #[.int .u8 (y.1.k : Nat), .string y.1.t, .slice y.1.pp y.1.np y.1.cp, .slice y.1.pk y.1.nk y.1.ck, .slice y.1.pe y.1.ne y.1.ce, .int .i64 (y.1.p.lev : Nat), .bool y.1.p.ie], undef, undef, undef, undef, undef], defers := [] })
      (fun y a' _ X Y row hs hg hr => by obtain ⟨Bx, h1, h2, h3⟩ := hs; exact ⟨Bx, h1, (grownBy_keeps_cells hg (fun r e => (hr r e).2) h2 rfl).trans h2, h3⟩)
      ?assign ?body ?done ?stop
    case assign =>
      rintro lo pre y W K ⟨⟨r0, r1, r2⟩, hB⟩ hK
      clear hbf hbl hst
      unfold Vt.enc
      gi_wp2
      exact hK _ _ ((KeepsOthers.alloc _ _).from _) ((Vt.Kp.refl _ _ _).alloc r2 _) ⟨⟨(Vl.past _ _ _ (by omega)).trans r0, (Vl.past _ _ _ (by omega)).trans r1, by rw [World.size_alloc]; omega⟩, hB.alloc hB.size _⟩ ⟨W.heap.size, r2, Vl.new _ _, rfl⟩
    case body =>
      rintro lo pre y a' W hl ⟨r, hr⟩ ⟨⟨r0, r1, r2⟩, hB⟩ ⟨Bx, hBx, bX, rfl⟩ hlt
      have HX := Lib.hid hbf
      clear hbf hbl hst
      have k0 : W.cell? ⟨bf + 1, 0, none⟩ = some (.int .i64 (F pre)) := by rw [Lib.cell_of_heap r0]; rfl
      have k1 : W.cell? ⟨bf, 0, none⟩ = some (.func (.func 54) #[] #[]) := by rw [Lib.cell_of_heap r1]; rfl
      obtain ⟨b0, b1, b2, b3, b4, b5, b6⟩ := Vt.seven_of bX
      have C1 := Lib.hid (HCG.out pre y W hlt hB)
      have HR0 := Lib.hid r0
      have HR1 := Lib.hid r1
      clear r0 r1 bX r0' r1' q2
      gi_wp2
      refine ⟨trivial, (callsIn_wide.2 C1.out).mono ?_⟩
      rintro e W2 ⟨rfl, hb2⟩
      have hs2 := hb2.size
      have r0 := (hb2.block _ (show bf + 1 < W.heap.size by omega)).trans HR0.out
      have r1 := (hb2.block _ (show bf < W.heap.size by omega)).trans HR1.out
      have k3 : W2.frozen? ⟨bf + 1, 0, none⟩ = false := by simp [World.frozen?, r0]
      have k4 : W2.cell? ⟨bf + 1, 0, none⟩ = some (.int .i64 (F pre)) := by rw [Lib.cell_of_heap r0]; rfl
      have HQ0 := Lib.hid r0
      have HQ1 := Lib.hid r1
      have HB2 := Lib.hid hb2
      have HBB := Lib.hid hB
      clear r0 r1 hb2 hB k0 k1 b0 b1 b2 b3 b4 b5 b6 C1
      gi_wp2
      exact ⟨((KeepsOthers.of_grownBy (grownBy_of HB2.out none) (fun j o e => by cases e)).trans (KeepsOthers.setCell _ _ _)).from _, ((Vt.Kp.refl _ _ _).below r2 HB2.out).trans (Vt.Kp.set _ 0 _ HQ0.out (by decide)), ⟨(Lib.heap_setCell_same (i := 0) HQ0.out _).trans rfl, (Below.heap_setCell _ ⟨bf + 1, 0, none⟩ _ bf (show bf ≠ bf + 1 by omega)).trans HQ1.out, by rw [World.size_setCell]; omega⟩, (HBB.out.trans (HB2.out.mono HBB.out.size)).setCell (p := ⟨bf + 1, 0, none⟩) (show w.heap.size ≤ bf + 1 by have := HX.out; omega) _⟩
    case done =>
      rintro D ys W hD hys ⟨⟨r0, r1, r2⟩, hB⟩ hK
      have HX := Lib.hid hbf
      clear hbf hbl hst
      have k0 : W.cell? ⟨bf + 1, 0, none⟩ = some (.int .i64 (F ys)) := by rw [Lib.cell_of_heap r0]; rfl
      have HP := Lib.hid ((HGP.out (.returned (.tuple #[.int .i64 (F ys), .int .i64 0])) (W.putObj D (.deferred none))).2 ⟨Or.inl ⟨hg, ys, hys, rfl⟩, hB.trans (belowK_b (w := w) (Nat.le_refl _) W D _ _ (by have := HBW.out.size; omega) hK rfl rfl)⟩)
      gi_wp2
      refine ⟨by simp, .inl ⟨_, _, rfl, run_takeDeferred hK, ?_⟩⟩
      refine ⟨.tuple #[.int .i64 (F ys), .int .i64 0], ?_, HP.out⟩
      simp [results, Tryz.f53, go_sem]
    case stop => intro _ _ _ _ _ _ h; exact h.elim
set_option maxRecDepth 100000 in
set_option maxHeartbeats 4000000 in
theorem vtGath_Plain (l : List Nd.N) (q : Option Addr) (c : Nat) (w : World) (F : List (Vt.A w) → Int) (hF0 : F [] = 0)
    (CG : ∀ (pre : List (Vt.A w)) (x : Vt.A w) (W : World), pre.length < 256 → Below w.heap.size w W → Calls Tryz.prog 58 #[.int .i64 (F pre), .agg #[.int .u8 (x.1.k : Nat), .string x.1.t, .slice x.1.pp x.1.np x.1.cp, .slice x.1.pk x.1.nk x.1.ck, .slice x.1.pe x.1.ne x.1.ce, .int .i64 (x.1.p.lev : Nat), .bool x.1.p.ie]] W fun e w' => e = .returned (.int .i64 (F (pre ++ [x]))) ∧ Below W.heap.size W w')
    (hn : l.length ≤ 140737488351232) (hA : Nd.Row w q l) (hts : ∀ t ∈ Nd.toksL l, t.text.size ≤ 4000000000) (hT : Sc.Laid w) (hM : Sc.MaxLen w) :
    Calls Tryz.prog 53 #[.slice q l.length c, .func (.func 58) #[] #[]] w (Vt.GPost l w F) := by
  have hb0 := ((Below.refl w.heap.size w).alloc (Nat.le_refl _) (.cells #[.func (.func 58) #[] #[]] 75)).alloc (by rw [World.size_alloc]; omega) (.cells #[.int .i64 0] 3)
  have HB0 := Lib.hid hb0
  have CC := Lib.hid (ndCheck_any l q c _ hn (hA.below hb0) hts (hT.below hb0) (hM.below hb0))
  have HG := Lib.hid (Nd.chk_good (l := l))
  have Hgo := Lib.hid (fun h => Nd.good_okL (l := l) h)
  have HA := Lib.hid hA
  have HF0 := Lib.hid hF0
  have HCG := Lib.hid CG
  clear hb0 hts hT hM hA hF0 CG
  generalize hz : Nd.chk l = z at *
  have hGP : ∀ e w', Vt.GPost l w F e w' ↔ (((Nd.good l = true ∧ ∃ ys : List (Vt.A w), ys.map (fun a => a.1.p) = Vt.visL 1 false l ∧ e = .returned (.tuple #[.int .i64 (F ys), .int .i64 0])) ∨ (Nd.good l = false ∧ e = .returned (.tuple #[.int .i64 0, .int .i64 2]))) ∧ Below w.heap.size w w') := fun e w' => Iff.rfl
  have HGP := Lib.hid hGP
  clear hGP hz
  generalize Vt.GPost l w F = Post at *
  obtain ⟨n, hnn⟩ : ∃ n, n = l.length := ⟨_, rfl⟩
  have HN := Lib.hid hnn
  rw [← hnn] at hn CC ⊢
  clear hnn
  refine (callsIn_wide (n := 4)).1 ?_
  refine callsIn_of_wp_marks Tryz.func53 rfl trivial ?_ rfl
  simp only [Tryz.ntmps53, List.size_toArray, List.length_cons, List.length_nil, Nat.reduceAdd, Nat.reduceSub, Array.replicate_succ, Array.replicate_zero, List.push_toArray, List.append_toArray, List.nil_append, List.cons_append]
  gi_wp2_with fail
  refine ⟨trivial, (callsIn_wide.2 CC.out).mono ?_⟩
  rintro e w1 ⟨rfl, hb⟩
  have HB1 := Lib.hid (HB0.out.trans (hb.mono HB0.out.size))
  have q0 : w1.heap[w.heap.size]? = some (.cells #[.func (.func 58) #[] #[]] 75 (0, 0)) := (hb.block _ (by rw [World.size_alloc, World.size_alloc]; omega)).trans ((Vl.past _ _ _ (by rw [World.size_alloc]; omega)).trans (Vl.new w _))
  have q1 : w1.heap[w.heap.size + 1]? = some (.cells #[.int .i64 0] 3 (0, 0)) := (hb.block _ (by rw [World.size_alloc, World.size_alloc]; omega)).trans (Vl.newAt _ _ _ (by rw [World.size_alloc]))
  have hs1 : w.heap.size + 2 ≤ w1.heap.size := by have := hb.size; rw [World.size_alloc, World.size_alloc] at this; exact this
  have k1 : w1.cell? ⟨w.heap.size + 1, 0, none⟩ = some (.int .i64 0) := by rw [Lib.cell_of_heap q1]; rfl
  clear hb CC
  cases hg : Nd.good l with
  | false =>
    obtain rfl : z = 2 := HG.out.2 hg
    gi_wp2_with fail
    refine ⟨.tuple #[.int .i64 0, .int .i64 2], ?_, (HGP.out _ _).2 ⟨Or.inr ⟨hg, rfl⟩, HB1.out⟩⟩
    simp [results, Tryz.f53, go_sem]
  | true =>
    obtain rfl : z = 0 := HG.out.1 hg
    gi_wp2_with fail
    refine ⟨trivial, (callsIn_wide.2 (vt_places _ _ _ _)).mono ?_⟩
    rintro e w' ⟨rfl, rfl⟩
    gi_wp2_with fail
    have q2 : (w1.alloc (.cells #[.slice q n c] 22)).heap[w1.heap.size]? = some (.cells #[.slice q n c] 22 (0, 0)) := Vl.new _ _
    have hbW := (Below.refl w1.heap.size w1).alloc (Nat.le_refl _) (.cells #[.slice q n c] 22)
    have r0' := (hbW.block _ (show w.heap.size < w1.heap.size by omega)).trans q0
    have r1' := (hbW.block _ (show w.heap.size + 1 < w1.heap.size by omega)).trans q1
    have hz1 : (w1.alloc (.cells #[.slice q n c] 22)).heap.size = w1.heap.size + 1 := World.size_alloc _ _
    have hBW : Below w.heap.size w (w1.alloc (.cells #[.slice q n c] 22)) := HB1.out.trans (hbW.mono HB1.out.size)
    obtain ⟨W0, hW0⟩ : ∃ W0, w1.alloc (.cells #[.slice q n c] 22) = W0 := ⟨_, rfl⟩
    rw [hW0] at q2 hbW r0' r1' hz1 hBW ⊢
    clear hW0 q0 q1 k1
    have HBW := Lib.hid hBW
    have hst := vt_stops l q c w W0 (w1.heap.size + 1) (w.heap.size + 1) w1.heap.size 256 (Hgo.out hg).1 (by rw [← HN.out]; exact hn) HA.out (by omega) (by omega) (by omega) (fun k hk => hBW.block k hk) (by rw [Lib.cell_of_heap q2, HN.out]; rfl) (Hgo.out hg).2
    obtain ⟨bf, hbf⟩ : ∃ bf, bf = w.heap.size := ⟨_, rfl⟩
    obtain ⟨bl, hbl⟩ : ∃ bl, bl = w1.heap.size := ⟨_, rfl⟩
    rw [← hbf, ← hbl] at hst
    rw [← hbf] at r0' r1' hs1 ⊢
    rw [← hbl] at hs1 hz1 q2 hbW ⊢
    refine wpIn_rangeFunc_ownH rfl (by omega) (gf := 142) (lb := #[.pointer (some ⟨bl, 0, none⟩)]) rfl trivial (enters_of Tryz.func142 (by kernel_rfl) rfl)
      hst Vt.Kp.trans (Vt.Kp.put (by omega)) (Below.refl _ _) (fun _ => rfl)
      (fun pre W => (W.heap[bf + 1]? = some (.cells #[.int .i64 (F pre)] 3 (0, 0)) ∧ W.heap[bf]? = some (.cells #[.func (.func 58) #[] #[]] 75 (0, 0)) ∧ bl + 1 ≤ W.heap.size) ∧ Below w.heap.size w W)
      (fun _ _ _ => False)
      (OwnFrom.and (Own.from (fun s A B row hs hg hr => ⟨(grownBy_keeps_cells hg hr hs.1 rfl).trans hs.1, (grownBy_keeps_cells hg hr hs.2.1 rfl).trans hs.2.1, Nat.le_trans hs.2.2 hg.size⟩) _) (ownFrom_below (by omega) (by omega)))
      (fun c => fun _ _ _ _ h _ _ => h)
      ⟨⟨by rw [HF0.out]; exact r1', r0', by omega⟩, HBW.out⟩
      (fun y a' W => ∃ Bx, bl + 1 ≤ Bx ∧ W.heap[Bx]? = some (.cells #[.int .u8 (y.1.k : Nat), .string y.1.t, .slice y.1.pp y.1.np y.1.cp, .slice y.1.pk y.1.nk y.1.ck, .slice y.1.pe y.1.ne y.1.ce, .int .i64 (y.1.p.lev : Nat), .bool y.1.p.ie] 67 (0, 0)) ∧ a' = { tmps := #[.slice q n c, .func (.func 58) #[] #[], undef, .pointer (some ⟨bf, 0, none⟩), .int .i64 0, .int .i64 0, .pointer (some ⟨bf + 1, 0, none⟩), .int .i64 0, .pointer (some ⟨Bx, 0, none⟩), .slice q n c, .int .i64 0, .int .i64 0, .bool false, undef, undef, .slice q n c, .func (.func 142) #[] #[.pointer (some ⟨bl, 0, none⟩)], .agg #[.int .u8 (y.1.k : Nat), .string y.1.t, .slice y.1.pp y.1.np y.1.cp, .slice y.1.pk y.1.nk y.1.ck, .slice y.1.pe y.1.ne y.1.ce, .int .i64 (y.1.p.lev : Nat), .bool y.1.p.ie], undef, undef, undef, undef, undef], defers := [] })
      (fun y a' _ X Y row hs hg hr => by obtain ⟨Bx, h1, h2, h3⟩ := hs; exact ⟨Bx, h1, (grownBy_keeps_cells hg (fun r e => (hr r e).2) h2 rfl).trans h2, h3⟩)
      ?assign ?body ?done ?stop
    case assign =>
      rintro lo pre y W K ⟨⟨r0, r1, r2⟩, hB⟩ hK
      clear hbf hbl hst
      unfold Vt.enc
      gi_wp2
      exact hK _ _ ((KeepsOthers.alloc _ _).from _) ((Vt.Kp.refl _ _ _).alloc r2 _) ⟨⟨(Vl.past _ _ _ (by omega)).trans r0, (Vl.past _ _ _ (by omega)).trans r1, by rw [World.size_alloc]; omega⟩, hB.alloc hB.size _⟩ ⟨W.heap.size, r2, Vl.new _ _, rfl⟩
    case body =>
      rintro lo pre y a' W hl ⟨r, hr⟩ ⟨⟨r0, r1, r2⟩, hB⟩ ⟨Bx, hBx, bX, rfl⟩ hlt
      have HX := Lib.hid hbf
      clear hbf hbl hst
      have k0 : W.cell? ⟨bf + 1, 0, none⟩ = some (.int .i64 (F pre)) := by rw [Lib.cell_of_heap r0]; rfl
      have k1 : W.cell? ⟨bf, 0, none⟩ = some (.func (.func 58) #[] #[]) := by rw [Lib.cell_of_heap r1]; rfl
      obtain ⟨b0, b1, b2, b3, b4, b5, b6⟩ := Vt.seven_of bX
      have C1 := Lib.hid (HCG.out pre y W hlt hB)
      have HR0 := Lib.hid r0
      have HR1 := Lib.hid r1
      clear r0 r1 bX r0' r1' q2
      gi_wp2
      refine ⟨trivial, (callsIn_wide.2 C1.out).mono ?_⟩
      rintro e W2 ⟨rfl, hb2⟩
      have hs2 := hb2.size
      have r0 := (hb2.block _ (show bf + 1 < W.heap.size by omega)).trans HR0.out
      have r1 := (hb2.block _ (show bf < W.heap.size by omega)).trans HR1.out
      have k3 : W2.frozen? ⟨bf + 1, 0, none⟩ = false := by simp [World.frozen?, r0]
      have k4 : W2.cell? ⟨bf + 1, 0, none⟩ = some (.int .i64 (F pre)) := by rw [Lib.cell_of_heap r0]; rfl
      have HQ0 := Lib.hid r0
      have HQ1 := Lib.hid r1
      have HB2 := Lib.hid hb2
      have HBB := Lib.hid hB
      clear r0 r1 hb2 hB k0 k1 b0 b1 b2 b3 b4 b5 b6 C1
      gi_wp2
      exact ⟨((KeepsOthers.of_grownBy (grownBy_of HB2.out none) (fun j o e => by cases e)).trans (KeepsOthers.setCell _ _ _)).from _, ((Vt.Kp.refl _ _ _).below r2 HB2.out).trans (Vt.Kp.set _ 0 _ HQ0.out (by decide)), ⟨(Lib.heap_setCell_same (i := 0) HQ0.out _).trans rfl, (Below.heap_setCell _ ⟨bf + 1, 0, none⟩ _ bf (show bf ≠ bf + 1 by omega)).trans HQ1.out, by rw [World.size_setCell]; omega⟩, (HBB.out.trans (HB2.out.mono HBB.out.size)).setCell (p := ⟨bf + 1, 0, none⟩) (show w.heap.size ≤ bf + 1 by have := HX.out; omega) _⟩
    case done =>
      rintro D ys W hD hys ⟨⟨r0, r1, r2⟩, hB⟩ hK
      have HX := Lib.hid hbf
      clear hbf hbl hst
      have k0 : W.cell? ⟨bf + 1, 0, none⟩ = some (.int .i64 (F ys)) := by rw [Lib.cell_of_heap r0]; rfl
      have HP := Lib.hid ((HGP.out (.returned (.tuple #[.int .i64 (F ys), .int .i64 0])) (W.putObj D (.deferred none))).2 ⟨Or.inl ⟨hg, ys, hys, rfl⟩, hB.trans (belowK_b (w := w) (Nat.le_refl _) W D _ _ (by have := HBW.out.size; omega) hK rfl rfl)⟩)
      gi_wp2
      refine ⟨by simp, .inl ⟨_, _, rfl, run_takeDeferred hK, ?_⟩⟩
      refine ⟨.tuple #[.int .i64 (F ys), .int .i64 0], ?_, HP.out⟩
      simp [results, Tryz.f53, go_sem]
    case stop => intro _ _ _ _ _ _ h; exact h.elim
set_option maxRecDepth 100000 in
set_option maxHeartbeats 4000000 in
theorem vtGath_This (l : List Nd.N) (q : Option Addr) (c : Nat) (w : World) (F : List (Vt.A w) → Bool) (hF0 : F [] = false)
    (CG : ∀ (pre : List (Vt.A w)) (x : Vt.A w) (W : World), pre.length < 256 → Below w.heap.size w W → Calls Tryz.prog 64 #[.bool (F pre), .agg #[.int .u8 (x.1.k : Nat), .string x.1.t, .slice x.1.pp x.1.np x.1.cp, .slice x.1.pk x.1.nk x.1.ck, .slice x.1.pe x.1.ne x.1.ce, .int .i64 (x.1.p.lev : Nat), .bool x.1.p.ie]] W fun e w' => e = .returned (.bool (F (pre ++ [x]))) ∧ Below W.heap.size W w')
    (hn : l.length ≤ 140737488351232) (hA : Nd.Row w q l) (hts : ∀ t ∈ Nd.toksL l, t.text.size ≤ 4000000000) (hT : Sc.Laid w) (hM : Sc.MaxLen w) :
    Calls Tryz.prog 63 #[.slice q l.length c, .func (.func 64) #[] #[]] w (Vt.GPostB l w F) := by
  have hb0 := ((Below.refl w.heap.size w).alloc (Nat.le_refl _) (.cells #[.func (.func 64) #[] #[]] 81)).alloc (by rw [World.size_alloc]; omega) (.cells #[.bool false] 4)
  have HB0 := Lib.hid hb0
  have CC := Lib.hid (ndCheck_any l q c _ hn (hA.below hb0) hts (hT.below hb0) (hM.below hb0))
  have HG := Lib.hid (Nd.chk_good (l := l))
  have Hgo := Lib.hid (fun h => Nd.good_okL (l := l) h)
  have HA := Lib.hid hA
  have HF0 := Lib.hid hF0
  have HCG := Lib.hid CG
  clear hb0 hts hT hM hA hF0 CG
  generalize hz : Nd.chk l = z at *
  have hGP : ∀ e w', Vt.GPostB l w F e w' ↔ (((Nd.good l = true ∧ ∃ ys : List (Vt.A w), ys.map (fun a => a.1.p) = Vt.visL 1 false l ∧ e = .returned (.tuple #[.bool (F ys), .int .i64 0])) ∨ (Nd.good l = false ∧ e = .returned (.tuple #[.bool false, .int .i64 2]))) ∧ Below w.heap.size w w') := fun e w' => Iff.rfl
  have HGP := Lib.hid hGP
  clear hGP hz
  generalize Vt.GPostB l w F = Post at *
  obtain ⟨n, hnn⟩ : ∃ n, n = l.length := ⟨_, rfl⟩
  have HN := Lib.hid hnn
  rw [← hnn] at hn CC ⊢
  clear hnn
  refine (callsIn_wide (n := 4)).1 ?_
  refine callsIn_of_wp_marks Tryz.func63 rfl trivial ?_ rfl
  simp only [Tryz.ntmps63, List.size_toArray, List.length_cons, List.length_nil, Nat.reduceAdd, Nat.reduceSub, Array.replicate_succ, Array.replicate_zero, List.push_toArray, List.append_toArray, List.nil_append, List.cons_append]
  gi_wp2_with fail
  refine ⟨trivial, (callsIn_wide.2 CC.out).mono ?_⟩
  rintro e w1 ⟨rfl, hb⟩
  have HB1 := Lib.hid (HB0.out.trans (hb.mono HB0.out.size))
  have q0 : w1.heap[w.heap.size]? = some (.cells #[.func (.func 64) #[] #[]] 81 (0, 0)) := (hb.block _ (by rw [World.size_alloc, World.size_alloc]; omega)).trans ((Vl.past _ _ _ (by rw [World.size_alloc]; omega)).trans (Vl.new w _))
  have q1 : w1.heap[w.heap.size + 1]? = some (.cells #[.bool false] 4 (0, 0)) := (hb.block _ (by rw [World.size_alloc, World.size_alloc]; omega)).trans (Vl.newAt _ _ _ (by rw [World.size_alloc]))
  have hs1 : w.heap.size + 2 ≤ w1.heap.size := by have := hb.size; rw [World.size_alloc, World.size_alloc] at this; exact this
  have k1 : w1.cell? ⟨w.heap.size + 1, 0, none⟩ = some (.bool false) := by rw [Lib.cell_of_heap q1]; rfl
  clear hb CC
  cases hg : Nd.good l with
  | false =>
    obtain rfl : z = 2 := HG.out.2 hg
    gi_wp2_with fail
    refine ⟨.tuple #[.bool false, .int .i64 2], ?_, (HGP.out _ _).2 ⟨Or.inr ⟨hg, rfl⟩, HB1.out⟩⟩
    simp [results, Tryz.f63, go_sem]
  | true =>
    obtain rfl : z = 0 := HG.out.1 hg
    gi_wp2_with fail
    refine ⟨trivial, (callsIn_wide.2 (vt_places _ _ _ _)).mono ?_⟩
    rintro e w' ⟨rfl, rfl⟩
    gi_wp2_with fail
    have q2 : (w1.alloc (.cells #[.slice q n c] 22)).heap[w1.heap.size]? = some (.cells #[.slice q n c] 22 (0, 0)) := Vl.new _ _
    have hbW := (Below.refl w1.heap.size w1).alloc (Nat.le_refl _) (.cells #[.slice q n c] 22)
    have r0' := (hbW.block _ (show w.heap.size < w1.heap.size by omega)).trans q0
    have r1' := (hbW.block _ (show w.heap.size + 1 < w1.heap.size by omega)).trans q1
    have hz1 : (w1.alloc (.cells #[.slice q n c] 22)).heap.size = w1.heap.size + 1 := World.size_alloc _ _
    have hBW : Below w.heap.size w (w1.alloc (.cells #[.slice q n c] 22)) := HB1.out.trans (hbW.mono HB1.out.size)
    obtain ⟨W0, hW0⟩ : ∃ W0, w1.alloc (.cells #[.slice q n c] 22) = W0 := ⟨_, rfl⟩
    rw [hW0] at q2 hbW r0' r1' hz1 hBW ⊢
    clear hW0 q0 q1 k1
    have HBW := Lib.hid hBW
    have hst := vt_stops l q c w W0 (w1.heap.size + 1) (w.heap.size + 1) w1.heap.size 256 (Hgo.out hg).1 (by rw [← HN.out]; exact hn) HA.out (by omega) (by omega) (by omega) (fun k hk => hBW.block k hk) (by rw [Lib.cell_of_heap q2, HN.out]; rfl) (Hgo.out hg).2
    obtain ⟨bf, hbf⟩ : ∃ bf, bf = w.heap.size := ⟨_, rfl⟩
    obtain ⟨bl, hbl⟩ : ∃ bl, bl = w1.heap.size := ⟨_, rfl⟩
    rw [← hbf, ← hbl] at hst
    rw [← hbf] at r0' r1' hs1 ⊢
    rw [← hbl] at hs1 hz1 q2 hbW ⊢
    refine wpIn_rangeFunc_ownH rfl (by omega) (gf := 142) (lb := #[.pointer (some ⟨bl, 0, none⟩)]) rfl trivial (enters_of Tryz.func142 (by kernel_rfl) rfl)
      hst Vt.Kp.trans (Vt.Kp.put (by omega)) (Below.refl _ _) (fun _ => rfl)
      (fun pre W => (W.heap[bf + 1]? = some (.cells #[.bool (F pre)] 4 (0, 0)) ∧ W.heap[bf]? = some (.cells #[.func (.func 64) #[] #[]] 81 (0, 0)) ∧ bl + 1 ≤ W.heap.size) ∧ Below w.heap.size w W)
      (fun _ _ _ => False)
      (OwnFrom.and (Own.from (fun s A B row hs hg hr => ⟨(grownBy_keeps_cells hg hr hs.1 rfl).trans hs.1, (grownBy_keeps_cells hg hr hs.2.1 rfl).trans hs.2.1, Nat.le_trans hs.2.2 hg.size⟩) _) (ownFrom_below (by omega) (by omega)))
      (fun c => fun _ _ _ _ h _ _ => h)
      ⟨⟨by rw [HF0.out]; exact r1', r0', by omega⟩, HBW.out⟩
      (fun y a' W => ∃ Bx, bl + 1 ≤ Bx ∧ W.heap[Bx]? = some (.cells #[.int .u8 (y.1.k : Nat), .string y.1.t, .slice y.1.pp y.1.np y.1.cp, .slice y.1.pk y.1.nk y.1.ck, .slice y.1.pe y.1.ne y.1.ce, .int .i64 (y.1.p.lev : Nat), .bool y.1.p.ie] 67 (0, 0)) ∧ a' = { tmps := #[.slice q n c, .func (.func 64) #[] #[], undef, .pointer (some ⟨bf, 0, none⟩), .bool false, .int .i64 0, .pointer (some ⟨bf + 1, 0, none⟩), .int .i64 0, .pointer (some ⟨Bx, 0, none⟩), .slice q n c, .int .i64 0, .int .i64 0, .bool false, undef, undef, .slice q n c, .func (.func 142) #[] #[.pointer (some ⟨bl, 0, none⟩)], .agg #[.int .u8 (y.1.k : Nat), .string y.1.t, .slice y.1.pp y.1.np y.1.cp, .slice y.1.pk y.1.nk y.1.ck, .slice y.1.pe y.1.ne y.1.ce, .int .i64 (y.1.p.lev : Nat), .bool y.1.p.ie], undef, undef, undef, undef, undef], defers := [] })
      (fun y a' _ X Y row hs hg hr => by obtain ⟨Bx, h1, h2, h3⟩ := hs; exact ⟨Bx, h1, (grownBy_keeps_cells hg (fun r e => (hr r e).2) h2 rfl).trans h2, h3⟩)
      ?assign ?body ?done ?stop
    case assign =>
      rintro lo pre y W K ⟨⟨r0, r1, r2⟩, hB⟩ hK
      clear hbf hbl hst
      unfold Vt.enc
      gi_wp2
      exact hK _ _ ((KeepsOthers.alloc _ _).from _) ((Vt.Kp.refl _ _ _).alloc r2 _) ⟨⟨(Vl.past _ _ _ (by omega)).trans r0, (Vl.past _ _ _ (by omega)).trans r1, by rw [World.size_alloc]; omega⟩, hB.alloc hB.size _⟩ ⟨W.heap.size, r2, Vl.new _ _, rfl⟩
    case body =>
      rintro lo pre y a' W hl ⟨r, hr⟩ ⟨⟨r0, r1, r2⟩, hB⟩ ⟨Bx, hBx, bX, rfl⟩ hlt
      have HX := Lib.hid hbf
      clear hbf hbl hst
      have k0 : W.cell? ⟨bf + 1, 0, none⟩ = some (.bool (F pre)) := by rw [Lib.cell_of_heap r0]; rfl
      have k1 : W.cell? ⟨bf, 0, none⟩ = some (.func (.func 64) #[] #[]) := by rw [Lib.cell_of_heap r1]; rfl
      obtain ⟨b0, b1, b2, b3, b4, b5, b6⟩ := Vt.seven_of bX
      have C1 := Lib.hid (HCG.out pre y W hlt hB)
      have HR0 := Lib.hid r0
      have HR1 := Lib.hid r1
      clear r0 r1 bX r0' r1' q2
      gi_wp2
      refine ⟨trivial, (callsIn_wide.2 C1.out).mono ?_⟩
      rintro e W2 ⟨rfl, hb2⟩
      have hs2 := hb2.size
      have r0 := (hb2.block _ (show bf + 1 < W.heap.size by omega)).trans HR0.out
      have r1 := (hb2.block _ (show bf < W.heap.size by omega)).trans HR1.out
      have k3 : W2.frozen? ⟨bf + 1, 0, none⟩ = false := by simp [World.frozen?, r0]
      have k4 : W2.cell? ⟨bf + 1, 0, none⟩ = some (.bool (F pre)) := by rw [Lib.cell_of_heap r0]; rfl
      have HQ0 := Lib.hid r0
      have HQ1 := Lib.hid r1
      have HB2 := Lib.hid hb2
      have HBB := Lib.hid hB
      clear r0 r1 hb2 hB k0 k1 b0 b1 b2 b3 b4 b5 b6 C1
      gi_wp2
      exact ⟨((KeepsOthers.of_grownBy (grownBy_of HB2.out none) (fun j o e => by cases e)).trans (KeepsOthers.setCell _ _ _)).from _, ((Vt.Kp.refl _ _ _).below r2 HB2.out).trans (Vt.Kp.set _ 0 _ HQ0.out (by decide)), ⟨(Lib.heap_setCell_same (i := 0) HQ0.out _).trans rfl, (Below.heap_setCell _ ⟨bf + 1, 0, none⟩ _ bf (show bf ≠ bf + 1 by omega)).trans HQ1.out, by rw [World.size_setCell]; omega⟩, (HBB.out.trans (HB2.out.mono HBB.out.size)).setCell (p := ⟨bf + 1, 0, none⟩) (show w.heap.size ≤ bf + 1 by have := HX.out; omega) _⟩
    case done =>
      rintro D ys W hD hys ⟨⟨r0, r1, r2⟩, hB⟩ hK
      have HX := Lib.hid hbf
      clear hbf hbl hst
      have k0 : W.cell? ⟨bf + 1, 0, none⟩ = some (.bool (F ys)) := by rw [Lib.cell_of_heap r0]; rfl
      have HP := Lib.hid ((HGP.out (.returned (.tuple #[.bool (F ys), .int .i64 0])) (W.putObj D (.deferred none))).2 ⟨Or.inl ⟨hg, ys, hys, rfl⟩, hB.trans (belowK_b (w := w) (Nat.le_refl _) W D _ _ (by have := HBW.out.size; omega) hK rfl rfl)⟩)
      gi_wp2
      refine ⟨by simp, .inl ⟨_, _, rfl, run_takeDeferred hK, ?_⟩⟩
      refine ⟨.tuple #[.bool (F ys), .int .i64 0], ?_, HP.out⟩
      simp [results, Tryz.f63, go_sem]
    case stop => intro _ _ _ _ _ _ h; exact h.elim
end Go.Proofs.YteiccjakaabfnaaGreatDoor
