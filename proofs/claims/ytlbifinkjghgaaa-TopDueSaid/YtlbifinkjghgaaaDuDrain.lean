
/-
  The walk of due.Drain. Condition: the list is of a size that a machine holds.
-/
import Derived.Test.YtlbifinkjghgaaaDuA
namespace Go.Proofs.Ytlbifinkjghgaaa
open Go.RowKit Go.Shelf
attribute [local go_sem] Oper.semAt_some

theorem hp_Clip (b : Nat) (n c : Nat) (off : Nat) (w : World) (h : n ≤ c) :
    Calls Try.prog 19 #[.slice (some ⟨b, off, none⟩) n c] w fun e w' => e = .returned (.slice (some ⟨b, off, none⟩) n n) ∧ w' = w := by
  obtain ⟨i0, hi, hz0, hz1, hz2⟩ := infoTimer
  have q1 : (n : Int) ≤ (c : Int) := by omega
  have q2 : (0 : Int) ≤ (n : Int) := by omega
  go_enter Try.func19, Try.ntmps19
  go_wp2_with fail
  go_ret
  exact ⟨rfl, rfl⟩
theorem hp_ClipIf (g m c1 n c : Nat) (w : World) (h : n ≤ c) :
    Calls Try.prog 19 #[.slice (if c1 = m then some ⟨g, 0, none⟩ else some ⟨g, m * 4, none⟩) n c] w fun e w' => e = .returned (.slice (if c1 = m then some ⟨g, 0, none⟩ else some ⟨g, m * 4, none⟩) n n) ∧ w' = w := by
  by_cases e : c1 = m
  · rw [if_pos e]; exact hp_Clip _ _ _ _ w h
  · rw [if_neg e]; exact hp_Clip _ _ _ _ w h
theorem hp_Clip0 (w : World) :
    Calls Try.prog 19 #[.slice none 0 0] w fun e w' => e = .returned (.slice none 0 0) ∧ w' = w := by
  go_enter Try.func19, Try.ntmps19
  go_wp2_with fail
  go_ret
  exact ⟨rfl, rfl⟩
/-- append of timers within a fence. -/
theorem Du.listW {F : Fence} {n₁ : Nat} {ops : Array Oper} {rest : List Oper} {o : Oper} {a : Act} {w : World} {Q : Exit → Act → World → Prop} (hgd : o.guard = none) (s x : Operand) (hop : o.op = Op.call { callee := Callee.builtin Builtin.append, args := #[s, x], argTypes := #[22, 22] })
    (l m : List (Int × Int × Int × Int)) (v : Value) (q : Option Addr) (n c : Nat) (base : Nat) (hs : a.eval s = v) (hx : a.eval x = .slice q n c)
    (hO : Hp.Own w base v l) (hA : Hp.At w q m) (hn : n = m.length) (hl : l.length ≤ 1000000) (hm : m.length ≤ 1000000) (hb : base ≤ w.heap.size)
    (h : ∀ v' w', Hp.Own w' base v' (l ++ m) → w.grownBy w' v.ownBlock → wpListIn F n₁ Try.prog ops Q rest (a.put o.dst v') w') : wpListIn F n₁ Try.prog ops Q (o :: rest) a w := by
  obtain ⟨v', w', hr, h2, h3, _⟩ := Hp.append l m v q n c base o.type w hO hA hn hl hm hb
  refine wpListIn_plain hgd fun K hK => ?_
  unfold Oper.wpIn
  refine ⟨?_, ?_⟩
  · simp [Oper.about, hop, resolve, Target.leads, Sem.run_pure]
  · rw [Oper.semAt_plain F _ _ (by rw [hop]; intro c hc'; cases hc')]
    simp [execOp, hop, resolve, invoke, builtin, hs, hx, hr, Result.andThen]
    exact hK _ _ (h v' w' h2 h3)
/-- A row of the call's own stays where nothing of cells is turned. -/
theorem Du.own_keeps {A B : World} {base : Nat} {v : Value} {l : List (Int × Int × Int × Int)} {row : Option Nat} (h : Hp.Own A base v l) (hg : A.grownBy B row) (hr : ∀ r, row = some r → ∃ o : Obj, A.heap[r]? = some o ∧ o.isCells = false) : Hp.Own B base v l := by
  rcases h.blk with ⟨rfl, rfl⟩ | ⟨g, cap, rest, rfl, hb, hB, hc, hm⟩
  · exact Hp.Own.nil _ _
  · refine (hB.grown hg fun e => ?_).own hb hc hm
    obtain ⟨o, ho, hf⟩ := hr g e.symm
    have hB' : A.heap[g]? = some _ := hB
    rw [hB'] at ho
    cases ho
    cases hf
theorem Du.Kp.alloc {n₀ x : Nat} {W : World} (h : n₀ ≤ W.heap.size) (o : Obj) : Du.Kp n₀ x W (W.alloc o) := ⟨by rw [World.size_alloc]; omega, fun k hk _ => hp_past W o k (by omega)⟩
theorem Du.own_set {W : World} {base x : Nat} {v : Value} {l : List (Int × Int × Int × Int)} (h : Hp.Own W base v l) (hx : x < base) (i : Nat) (u : Value) : Hp.Own (W.setCell ⟨x, i, none⟩ u) base v l := by
  rcases h.blk with ⟨rfl, rfl⟩ | ⟨g, cap, rest, rfl, hb, hB, hc, hm⟩
  · exact Hp.Own.nil _ _
  · refine Hp.Blk.own (g := g) ?_ hb hc hm
    unfold Hp.Blk at hB ⊢
    rw [← hB]
    exact (Du.Kp.set (n₀ := g + 1) (x := x) W i u).2 g (by omega) (by omega)
theorem Du.own_cells {W : World} {base : Nat} {v : Value} {l : List (Int × Int × Int × Int)} (h : Hp.Own W base v l) (j : Nat) (o : Obj) (e : v.ownBlock = some j) (ho : W.heap[j]? = some o) : o.isCells = true := by
  rcases h.blk with ⟨rfl, rfl⟩ | ⟨g, cap, rest, rfl, hb, hB, hc, hm⟩
  · cases e
  · cases e
    have hB' : W.heap[g]? = some _ := hB
    rw [hB'] at ho
    cases ho
    rfl
theorem Du.Kp.grown {n₀ x : Nat} {A B : World} {row : Option Nat} (hg : A.grownBy B row) (hr : ∀ k, row = some k → n₀ ≤ k) (hn : n₀ ≤ A.heap.size) : Du.Kp n₀ x A B :=
  ⟨hg.size, fun k hk _ => hg.block k (by omega) fun e => by have := hr k e.symm; omega⟩
theorem Du.at_put {W : World} {p : Option Addr} {l : List (Int × Int × Int × Int)} {D : Nat} {o : Obj} (h : Hp.At W p l) (hD : W.heap[D]? = some o) (ho : o.isCells = false) (o' : Obj) : Hp.At (W.putObj D o') p l := by
  by_cases hl : l = []
  · subst hl
    exact Hp.At.nil _ _
  · refine h.grownBy (grownBy_putObj' W D o') (fun b off hp e => ?_)
    cases e
    obtain ⟨b', off', hp', hx⟩ := h.get 0 (List.length_pos_iff.2 hl)
    rw [hp] at hp'
    cases hp'
    have h1 := hx.1
    cases o <;> simp_all [World.cell?, Obj.isCells]
/-- What Drain leaves. -/
def Du.Drained (g m : List (Int × Int × Int × Int)) (z : Int) (w : World) (e : Ending) (w' : World) : Prop :=
  ∃ p c q d, e = .returned (.tuple #[.slice p g.length c, .slice q m.length d, .int .i64 z]) ∧ Hp.At w' p g ∧ Hp.At w' q m ∧ Below w.heap.size w w'
theorem Du.due_take (l : List (Int × Int × Int × Int)) (now : Int) : (Du.due l now).length ≤ l.length := by
  unfold Du.due
  exact (List.takeWhile_sublist _).length_le
theorem Du.len0 {l : List (Int × Int × Int × Int)} (h : Hp.chk l ≠ 0) : Hp.soL l = [] := if_neg fun e => h (Hp.chk_ok e)
set_option maxRecDepth 100000 in
set_option maxHeartbeats 4000000 in
theorem due_Drain (l : List (Int × Int × Int × Int)) (now : Int) (p : Option Addr) (c : Nat) (w : World) (hA : Hp.At w p l) (hn : l.length ≤ 140737488351232) :
    Calls Try.prog 7 #[.slice p l.length c, .int .i64 now] w (Du.Drained ((Hp.soL l).drop (Du.due (Hp.soL l) now).length) (Du.due (Hp.soL l) now) (Hp.chk l) w) := by
  have CS := Lib.hid (hp_Sorted l p c w hA hn)
  have HL := Lib.hid (@Du.soL_le l)
  have H0 := Lib.hid (@Du.len0 l)
  generalize Hp.soL l = S at *
  generalize Hp.chk l = z at *
  clear hA hn
  generalize l.length = n at *
  refine (callsIn_wide (n := 3)).1 ?_
  refine callsIn_of_wp_marks Try.func7 rfl trivial ?_ rfl
  simp only [Try.ntmps7, List.size_toArray, List.length_cons, List.length_nil, Nat.reduceAdd, Nat.reduceSub, Array.replicate_succ, Array.replicate_zero, List.push_toArray, List.append_toArray, List.nil_append, List.cons_append]
  gi_wp2_with fail
  refine ⟨trivial, (callsIn_wide.2 CS.out).mono ?_⟩
  rintro e w1 ⟨v, rfl, hO, hb⟩
  by_cases hz : z = 0
  · subst hz
    obtain ⟨p1, c1, rfl, hp⟩ : ∃ p1 c1, v = .slice p1 S.length c1 ∧ Hid ((S = [] ∧ p1 = none ∧ c1 = 0) ∨ (∃ g, p1 = some ⟨g, 0, none⟩ ∧ S.length ≤ c1)) := by
      rcases hO.blk with ⟨h1, h2⟩ | ⟨g, cap, rest, h1, _, _, h4, _⟩
      · exact ⟨none, 0, by rw [h1]; exact h2, Lib.hid (Or.inl ⟨h1, rfl, rfl⟩)⟩
      · exact ⟨_, _, h1, Lib.hid (Or.inr ⟨g, rfl, by omega⟩)⟩
    obtain ⟨p1', c1', hpe, hA⟩ := hO.at
    cases hpe
    have A1 := Lib.hid hA
    have B1 := Lib.hid hb
    clear hO hA hb H0
    gi_wp2_with fail
    refine ⟨trivial, (callsIn_wide.2 (du_ready _ _ _ _ _)).mono ?_⟩
    rintro e w' ⟨rfl, rfl⟩
    gi_wp2_with fail
    have q0 : (((w1.alloc (.cells #[.slice none 0 0] 22)).alloc (.cells #[.slice p1 S.length c1] 22)).alloc (.cells #[.int .i64 now] 2)).heap[w1.heap.size]? = some (.cells #[.slice none 0 0] 22 (0, 0)) := by
      rw [hp_past _ _ _ (by simp; omega), hp_past _ _ _ (by simp), hp_new]
    have q1 : (((w1.alloc (.cells #[.slice none 0 0] 22)).alloc (.cells #[.slice p1 S.length c1] 22)).alloc (.cells #[.int .i64 now] 2)).heap[w1.heap.size + 1]? = some (.cells #[.slice p1 S.length c1] 22 (0, 0)) := by
      rw [hp_past _ _ _ (by simp)]
      simpa using hp_new (w1.alloc (.cells #[.slice none 0 0] 22)) (.cells #[.slice p1 S.length c1] 22)
    have q2 : (((w1.alloc (.cells #[.slice none 0 0] 22)).alloc (.cells #[.slice p1 S.length c1] 22)).alloc (.cells #[.int .i64 now] 2)).heap[w1.heap.size + 1 + 1]? = some (.cells #[.int .i64 now] 2 (0, 0)) := by
      simpa using hp_new ((w1.alloc (.cells #[.slice none 0 0] 22)).alloc (.cells #[.slice p1 S.length c1] 22)) (.cells #[.int .i64 now] 2)
    have hB0 : Below w1.heap.size w1 (((w1.alloc (.cells #[.slice none 0 0] 22)).alloc (.cells #[.slice p1 S.length c1] 22)).alloc (.cells #[.int .i64 now] 2)) := (((Below.refl _ w1).alloc (Nat.le_refl _) _).alloc (by simp) _).alloc (by simp; omega) _
    have hsz : (((w1.alloc (.cells #[.slice none 0 0] 22)).alloc (.cells #[.slice p1 S.length c1] 22)).alloc (.cells #[.int .i64 now] 2)).heap.size = w1.heap.size + 3 := by simp
    obtain ⟨W0, hW0⟩ : ∃ W0, (((w1.alloc (.cells #[.slice none 0 0] 22)).alloc (.cells #[.slice p1 S.length c1] 22)).alloc (.cells #[.int .i64 now] 2)) = W0 := ⟨_, rfl⟩
    rw [hW0] at q0 q1 q2 hB0 hsz ⊢
    clear hW0
    have hz1 := B1.out.size
    have hlow : ∀ b off, p1 = some ⟨b, off, none⟩ → S ≠ [] → b < w1.heap.size + 3 ∧ b ≠ w1.heap.size := by
      intro b off hp hne
      obtain ⟨b', o', hp', hx⟩ := A1.out.get 0 (List.length_pos_iff.2 hne)
      rw [hp] at hp'
      cases hp'
      have := hx.lt
      omega
    obtain ⟨x, hx⟩ : ∃ x, x = w1.heap.size := ⟨_, rfl⟩
    rw [← hx] at q0 q1 q2 hsz hlow ⊢
    refine wpIn_rangeFunc_ownH rfl (by omega) (gf := 31) (lb := #[.pointer (some ⟨x + 1, 0, none⟩), .pointer (some ⟨x + 1 + 1, 0, none⟩)]) rfl trivial (enters_of Try.func31 (by kernel_rfl) rfl)
      (du_stops Fence.wide 2 trivial rfl (by omega) (x + 1) (x + 1 + 1) (x + 3) x p1 c1 S now HL.out hlow W0 (by omega) (by rw [Lib.cell_of_heap q1]; rfl) (by rw [Lib.cell_of_heap q2]; rfl) (by omega) (by omega) (A1.out.below hB0)) Du.Kp.trans (Du.Kp.put (by omega)) (Below.refl _ _) (fun _ => rfl)
      (fun pre W => ((∃ v, W.heap[x]? = some (.cells #[v] 22 (0, 0)) ∧ Hp.Own W (x + 3) v pre) ∧ x + 3 ≤ W.heap.size) ∧ Below x w1 W)
      (fun _ _ _ => False)
      (OwnFrom.and (Own.from (fun s A B row hs hg hr => ⟨hs.1.imp fun v h => ⟨(grownBy_keeps_cells hg hr h.1 rfl).trans h.1, Du.own_keeps h.2 hg hr⟩, Nat.le_trans hs.2 hg.size⟩) _) (ownFrom_below (by omega) (by omega)))
      (fun c => fun _ _ _ _ h _ _ => h)
      ⟨⟨⟨_, q0, Hp.Own.nil _ _⟩, by omega⟩, by rw [hx]; exact hB0⟩
      (fun y a' W => ∃ Bx, x + 3 ≤ Bx ∧ W.heap[Bx]? = some (.cells #[.int .i64 y.1, .int .i64 y.2.1, .int .u8 y.2.2.1, .int .i64 y.2.2.2] 29 (0, 0)) ∧ a' = { tmps := #[.slice p n c, .int .i64 now, undef, undef, .slice none 0 0, .slice none 0 0, .int .i64 0, .slice p1 S.length c1, .int .i64 0, .pointer (some ⟨x, 0, none⟩), .pointer (some ⟨Bx, 0, none⟩), .tuple #[.slice p1 S.length c1, .int .i64 0], .slice p n c, .tuple #[.slice p1 S.length c1, .int .i64 0], .slice p1 S.length c1, .int .i64 0, .int .i64 0, .bool false, undef, .slice p1 S.length c1, .int .i64 now, .func (.func 31) #[] #[.pointer (some ⟨x + 1, 0, none⟩), .pointer (some ⟨x + 1 + 1, 0, none⟩)], .agg #[.int .i64 y.1, .int .i64 y.2.1, .int .u8 y.2.2.1, .int .i64 y.2.2.2], undef, undef, undef, undef, undef, undef, undef, undef, undef, undef], defers := [] })
      (fun y a' _ X Y row hs hg hr => by obtain ⟨Bx, h1, h2, h3⟩ := hs; exact ⟨Bx, h1, (grownBy_keeps_cells hg (fun r e => (hr r e).2) h2 rfl).trans h2, h3⟩)
      ?assign ?body ?done ?stop
    case assign =>
      rintro lo pre y W K ⟨⟨⟨v, r0, rO⟩, r1⟩, hB⟩ hK
      have hz0 : x ≤ w1.heap.size := by omega
      clear hx
      gi_wp2
      exact hK _ _ ((KeepsOthers.alloc _ _).from _) (Du.Kp.alloc r1 _) ⟨⟨⟨v, (hp_past _ _ _ (by omega)).trans r0, rO.below (hp_box _ _)⟩, by rw [World.size_alloc]; omega⟩, hB.alloc (by omega) _⟩ ⟨W.heap.size, by omega, hp_new _ _, rfl⟩
    case body =>
      rintro lo pre y a' W hl ⟨r, hr⟩ ⟨⟨⟨v, r0, rO⟩, r1⟩, hB⟩ ⟨Bx, hBx, bX, rfl⟩ hlt
      have HX := Lib.hid hx
      clear hx
      have k0 : W.cell? ⟨x, 0, none⟩ = some v := by rw [Lib.cell_of_heap r0]; rfl
      have HpL := Lib.hid (show pre.length ≤ 1000000 by have := HL.out; omega)
      obtain ⟨b1, b2, b3, b4⟩ := Hp.box bX
      obtain ⟨y1, y2, y3, y4⟩ := y
      simp only [] at b1 b2 b3 b4 ⊢
      have RO : Hid (Hp.Own (W.alloc (.cells #[.int .i64 y1, .int .i64 y2, .int .u8 y3, .int .i64 y4] 29)) (x + 3) v pre) := Lib.hid (rO.below (hp_box _ _))
      have RA : Hid (Hp.At (W.alloc (.cells #[.int .i64 y1, .int .i64 y2, .int .u8 y3, .int .i64 y4] 29)) (some ⟨W.heap.size, 0, none⟩) [(y1, y2, y3, y4)]) := Lib.hid (Hp.at_lit W [(y1, y2, y3, y4)] _ rfl)
      have R0 := Lib.hid r0
      have ROb := Lib.hid (fun k (e : v.ownBlock = some k) => (rO.lt k e))
      clear r0 rO
      gi_wp2_with (refine Du.listW rfl _ _ rfl pre [(y1, y2, y3, y4)] v (some ⟨W.heap.size, 0, none⟩) 1 1 (x + 3) rfl rfl RO.out RA.out rfl HpL.out ?b1 ?b2 ?_)
      case b2 => omega
      intro v' w2 hO2 hg2
      obtain ⟨p3, n3, c3, rfl⟩ : ∃ p3 n3 c3, v' = .slice p3 n3 c3 := by
        obtain ⟨a, b, h, _⟩ := hO2.at
        exact ⟨a, _, b, h⟩
      have hs2 := hg2.size
      rw [World.size_alloc] at hs2
      have k2 : w2.heap[x]? = some (.cells #[v] 22 (0, 0)) := (hg2.block x (by rw [World.size_alloc]; omega) (fun e => by have := ROb.out x e.symm; omega)).trans ((hp_past _ _ _ (by omega)).trans R0.out)
      have k3 : w2.cell? ⟨x, 0, none⟩ = some v := by rw [Lib.cell_of_heap k2]; rfl
      have k4 : w2.frozen? ⟨x, 0, none⟩ = false := by simp [World.frozen?, k2]
      have HF : Hid (KeepsOthers W w2 ∧ Du.Kp (x + 3) x W w2 ∧ Below x w1 w2 ∧ x + 3 ≤ w2.heap.size) := by
        refine Lib.hid ⟨(KeepsOthers.alloc _ _).trans (KeepsOthers.of_grownBy hg2 (fun j o e ho => Du.own_cells RO.out j o e ho)), (Du.Kp.alloc r1 _).trans (Du.Kp.grown hg2 (fun k e => (ROb.out k e).1) (by rw [World.size_alloc]; omega)), (hB.alloc (by omega) _).grown hg2 (by rw [World.size_alloc]; omega) (fun k e => by have := (ROb.out k e).1; omega), by omega⟩
      have O2 := Lib.hid hO2
      have K2 := Lib.hid k2
      clear hO2 hg2 k2 hs2 hB RO RA R0 ROb k0 b1 b2 b3 b4 bX
      gi_wp2
      exact ⟨(HF.out.1.trans (KeepsOthers.setCell _ _ _)).from _, HF.out.2.1.trans (Du.Kp.set _ _ _), ⟨⟨_, Lib.heap_setCell_same (i := 0) K2.out _, Du.own_set O2.out (by omega) _ _⟩, by simpa using HF.out.2.2.2⟩, HF.out.2.2.1.setCell (p := ⟨x, 0, none⟩) (by simp) _⟩
    case done =>
      rintro D ys W hD rfl ⟨⟨⟨v, r0, rO⟩, r1⟩, hB⟩ hK
      have HX := Lib.hid hx
      clear hx
      obtain ⟨p3, c3, rfl, hM⟩ := rO.at
      have k0 : W.cell? ⟨x, 0, none⟩ = some (.slice p3 (Du.due S now).length c3) := by rw [Lib.cell_of_heap r0]; rfl
      have M3 := Lib.hid hM
      have B3 := Lib.hid (show Below w.heap.size w W from (B1.out.trans ((by rw [HX.out] at hB; exact hB : Below w1.heap.size w1 W).mono hz1)))
      have S3 := Lib.hid (A1.out.below (by rw [HX.out] at hB; exact hB))
      have HT := Lib.hid (Du.due_take S now)
      clear r0 rO hM hB
      rcases hp.out with ⟨rfl, rfl, rfl⟩ | ⟨g, rfl, hcap⟩
      · have hT : Du.due [] now = [] := rfl
        rw [hT] at k0 M3 ⊢
        clear hlow hT
        have hp3 : p3 = none ∨ True := Or.inr trivial
        have hl0 : ([] : List (Int × Int × Int × Int)).length = 0 := rfl
        rw [hl0] at k0 q1 ⊢
        gi_wp2_with fail
        refine wpIn_wide.2 ?_
        go_quiet (first | (go_at_call 19; refine Calls.quiet_of_same (hp_Clip0 _)))
        have hD2 : (W.drewN nq).heap[D]? = some (.deferred (some [])) := hK
        have hb2 : Below w.heap.size w ((W.drewN nq).putObj D (.deferred none)) := (below_drewN B3.out _).trans (belowK_b (w := w) (Nat.le_refl _) _ D _ _ (by have := HX.out; have := B1.out.size; omega) hD2 rfl rfl)
        have HB2 := Lib.hid hb2
        have HTD := Lib.hid (run_takeDeferred (P := Try.prog) hD2)
        clear hb2 hD2 hK hD q0 q1 q2
        gi_wp2_with fail
        refine ⟨by simp, .inl ⟨_, _, rfl, HTD.out, ?_⟩⟩
        refine ⟨.tuple #[.slice none 0 0, .slice p3 0 c3, .int .i64 0], ?_, none, 0, p3, c3, rfl, Hp.At.nil _ _, Hp.At.nil _ _, HB2.out⟩
        simp [results, Try.f7, go_sem]
      · have hT := HT.out
        generalize Du.due S now = M at *
        have hl2 : (S.length : Int) ≤ 4096 := by have := HL.out; omega
        clear hlow
        generalize hm : M.length = m at *
        generalize hs : S.length = sl at *
        have t1 : (0 : Int) ≤ (m : Int) := by omega
        have t2 : (m : Int) ≤ (sl : Int) := by omega
        have t3 : (sl : Int) ≤ (c1 : Int) := by omega
        have t4 : m ≤ sl := by omega
        have Hm := Lib.hid hm
        have Hs := Lib.hid hs
        clear hm hs
        gi_wp2_with fail
        refine wpIn_wide.2 ?_
        go_quiet (first | (go_at_call 19; refine Calls.quiet_of_same (hp_ClipIf g m c1 _ _ _ (by omega))))
        have hD2 : (W.drewN nq).heap[D]? = some (.deferred (some [])) := hK
        have hg3 := grownBy_putObj' (W.drewN nq) D (.deferred none)
        have hrow : ∀ (k : Nat), some D = some k → w.heap.size ≤ k := fun k e => by cases e; have := HX.out; have := B1.out.size; omega
        have hb2 : Below w.heap.size w ((W.drewN nq).putObj D (.deferred none)) := (below_drewN B3.out _).trans (belowK_b (w := w) (Nat.le_refl _) _ D _ _ (by have := HX.out; have := B1.out.size; omega) hD2 rfl rfl)
        have hne : ∀ (q : Option Addr) (r : List (Int × Int × Int × Int)), Hp.At W q r → Hp.At ((W.drewN nq).putObj D (.deferred none)) q r := fun q r h => Du.at_put (h.below (below_drewN (Below.refl _ _) nq)) hD2 rfl _
        have HM3 := Lib.hid (hne _ _ M3.out)
        have HS3 := Lib.hid (hne _ _ (S3.out.dropIf m (c := c1) (by rw [Hs.out]; exact hcap)))
        have HB2 := Lib.hid hb2
        have HTD := Lib.hid (run_takeDeferred (P := Try.prog) hD2)
        clear hne hb2 hrow hg3 hD2 hK hD q0 q1 q2
        generalize (if c1 = m then some (⟨g, 0, none⟩ : Addr) else some ⟨g, m * 4, none⟩) = q at HS3 ⊢
        gi_wp2_with fail
        refine ⟨by simp, .inl ⟨_, _, rfl, HTD.out, ?_⟩⟩
        refine ⟨.tuple #[.slice q (sl - m) (sl - m), .slice p3 m c3, .int .i64 0], ?_, q, sl - m, p3, c3, ?_, HS3.out, HM3.out, HB2.out⟩
        · simp [results, Try.f7, go_sem]
        · rw [List.length_drop, Hs.out, Hm.out]
    case stop => intro _ _ _ _ _ _ h; exact h.elim
  · obtain rfl := H0.out hz
    obtain ⟨p1, c1, rfl, _⟩ := hO.at
    have q1 : (z == 0) = false := by simpa using hz
    have q2 : (z != 0) = true := by simpa using hz
    have B1 := Lib.hid hb
    clear hO hb H0 hz
    gi_wp2_with fail
    refine ⟨_, ?_, none, 0, none, 0, rfl, Hp.At.nil _ _, Hp.At.nil _ _, B1.out⟩
    simp [results, Try.f7, go_sem, Du.due]
end Go.Proofs.Ytlbifinkjghgaaa
