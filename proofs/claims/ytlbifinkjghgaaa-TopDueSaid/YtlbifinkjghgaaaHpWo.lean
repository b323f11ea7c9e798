
/-
  Results with a timer in a box, and the walk of heap's without: a heap but for one timer, and that one. Condition: the list is of a size that a machine holds.
-/
import Derived.Test.YtlbifinkjghgaaaHpPlace
namespace Go.Proofs.Ytlbifinkjghgaaa
open Go.RowKit Go.Lib Go.Sort Go.Shelf

theorem hp_results2 {fn : Func} {p u : Tmp} {ty : TypeId} (h : fn.results = #[.tmp u, .cell p ty]) (tmps : Array Value) (P : Program) (w : World) :
    (results fn tmps).run P w = ((asAddr (tmps.getD p undef)).run P w).andThen fun a w' => ((loadVar ty a).run P w').andThen fun v w'' => .ok (.tuple #[tmps.getD u undef, v]) w'' := by
  simp only [results, h]
  simp [Sem.run_bind, Result.andThen]
theorem hp_results3 {fn : Func} {p u v : Tmp} {ty : TypeId} (h : fn.results = #[.tmp u, .cell p ty, .tmp v]) (tmps : Array Value) (P : Program) (w : World) :
    (results fn tmps).run P w = ((asAddr (tmps.getD p undef)).run P w).andThen fun a w' => ((loadVar ty a).run P w').andThen fun x w'' => .ok (.tuple #[tmps.getD u undef, x, tmps.getD v undef]) w'' := by
  simp only [results, h]
  simp [Sem.run_bind, Result.andThen]
theorem hp_ret2 {P : Program} {fn : Func} {p u : Tmp} {ty : TypeId} (h : fn.results = #[.tmp u, .cell p ty]) (tmps : Array Value) (w : World) (g : Nat) (t : TypeId) (cs : Array Value) (d : TypeDesc) (hp : tmps.getD p undef = .pointer (some ⟨g, 0, none⟩))
    (hg : w.heap[g]? = some (.cells cs t (0, 0))) (hu : P.underlying ty = some d) (hd : (match d with | .struct _ | .array _ _ => true | _ => false) = true) (hi : (P.info? ty).map (·.size) = some cs.size) :
    (results fn tmps).run P w = .ok (.tuple #[tmps.getD u undef, .agg cs]) w := by
  have hl := run_loadVar_row w g t ty cs (0, 0) d hg hu hd hi
  have ha : (asAddr (tmps.getD p undef)).run P w = .ok ⟨g, 0, none⟩ w := by rw [hp]; rfl
  rw [hp_results2 h, ha, Result.andThen_ok, hl, Result.andThen_ok]
theorem hp_ret3 {P : Program} {fn : Func} {p u v : Tmp} {ty : TypeId} (h : fn.results = #[.tmp u, .cell p ty, .tmp v]) (tmps : Array Value) (w : World) (g : Nat) (t : TypeId) (cs : Array Value) (d : TypeDesc) (hp : tmps.getD p undef = .pointer (some ⟨g, 0, none⟩))
    (hg : w.heap[g]? = some (.cells cs t (0, 0))) (hu : P.underlying ty = some d) (hd : (match d with | .struct _ | .array _ _ => true | _ => false) = true) (hi : (P.info? ty).map (·.size) = some cs.size) :
    (results fn tmps).run P w = .ok (.tuple #[tmps.getD u undef, .agg cs, tmps.getD v undef]) w := by
  have hl := run_loadVar_row w g t ty cs (0, 0) d hg hu hd hi
  have ha : (asAddr (tmps.getD p undef)).run P w = .ok ⟨g, 0, none⟩ w := by rw [hp]; rfl
  rw [hp_results3 h, ha, Result.andThen_ok, hl, Result.andThen_ok]
/-- A timer as a value. -/
def Hp.vl (x : Int × Int × Int × Int) : Value := .agg #[.int .i64 x.1, .int .i64 x.2.1, .int .u8 x.2.2.1, .int .i64 x.2.2.2]
def Hp.Without (l' : List (Int × Int × Int × Int)) (x : Int × Int × Int × Int) (w : World) (e : Ending) (w' : World) : Prop :=
  ∃ p c, e = .returned (.tuple #[.slice p l'.length c, .agg #[.int .i64 x.1, .int .i64 x.2.1, .int .u8 x.2.2.1, .int .i64 x.2.2.2]]) ∧ (∀ B, B < w.heap.size → ∀ b off, p = some ⟨b, off, none⟩ → b ≠ B) ∧ Hp.At w' p l' ∧ Below w.heap.size w w'
theorem Hp.rcs_cat (a b : List (Int × Int × Int × Int)) (rest : List Value) : Hp.rcs (a ++ b) ++ rest = Hp.rcs a ++ (Hp.rcs b ++ rest) := by rw [Hp.rcs_append, List.append_assoc]
theorem Hp.Blk.split {w : World} {g : Nat} {a b : List (Int × Int × Int × Int)} {rest : List Value} (h : Hp.Blk w g (a ++ b) rest) : Hp.Blk w g a (Hp.rcs b ++ rest) := by
  unfold Hp.Blk at *
  rw [← Hp.rcs_cat]
  exact h
theorem Hp.Blk.join {w : World} {g : Nat} {a b : List (Int × Int × Int × Int)} {rest : List Value} (h : Hp.Blk w g a (Hp.rcs b ++ rest)) : Hp.Blk w g (a ++ b) rest := by
  unfold Hp.Blk at *
  rw [Hp.rcs_cat]
  exact h
theorem Hp.Blk.next {w : World} {g : Nat} {a : List (Int × Int × Int × Int)} {x : Int × Int × Int × Int} {rest : List Value} (h : Hp.Blk w g a (Hp.rcs [x] ++ rest)) : Hp.At1 w g (a.length * 4) x := by
  have := h.join.cell a.length (by simp)
  rw [List.getElem_concat_length rfl] at this
  exact this
theorem hp_box_set {w : World} {g : Nat} {a b c d : Value} {t : TypeId} (h : w.heap[g]? = some (.cells #[a, b, c, d] t (0, 0))) (a' b' c' d' : Value) :
    ((((w.setCell ⟨g, 0, none⟩ a').setCell ⟨g, 1, none⟩ b').setCell ⟨g, 2, none⟩ c').setCell ⟨g, 3, none⟩ d').heap[g]? = some (.cells #[a', b', c', d'] t (0, 0)) := by
  rw [hp_cells_set (hp_cells_set (hp_cells_set (hp_cells_set h _ _) _ _) _ _) _ _]
  rfl
theorem hp_box_frozen {w : World} {g : Nat} {a b c d : Value} {t : TypeId} (h : w.heap[g]? = some (.cells #[a, b, c, d] t (0, 0))) (j : Nat) : w.frozen? ⟨g, j, none⟩ = false := by simp [World.frozen?, h]
/-- The world in which a box has been filled. -/
def Hp.fillW (w : World) (b : Nat) (x : Int × Int × Int × Int) : World := ((((w.setCell ⟨b, 0, none⟩ (.int .i64 x.1)).setCell ⟨b, 1, none⟩ (.int .i64 x.2.1)).setCell ⟨b, 2, none⟩ (.int .u8 x.2.2.1)).setCell ⟨b, 3, none⟩ (.int .i64 x.2.2.2)).drew
theorem Hp.fill_box {w : World} {g : Nat} {a b c d : Value} {t : TypeId} (h : w.heap[g]? = some (.cells #[a, b, c, d] t (0, 0))) (x : Int × Int × Int × Int) : (Hp.fillW w g x).heap[g]? = some (.cells #[.int .i64 x.1, .int .i64 x.2.1, .int .u8 x.2.2.1, .int .i64 x.2.2.2] t (0, 0)) := hp_box_set h _ _ _ _
theorem Hp.fill_grown (w : World) (g : Nat) (x : Int × Int × Int × Int) : w.grownBy (Hp.fillW w g x) (some g) :=
  hp_grown_drew (hp_grown_trans (hp_grown_trans (hp_grown_trans (hp_grown_set _ _ _ _) (hp_grown_set _ _ _ _)) (hp_grown_set _ _ _ _)) (hp_grown_set _ _ _ _))
theorem Hp.Blk.grown {w w' : World} {g : Nat} {row : Option Nat} {l : List (Int × Int × Int × Int)} {rest : List Value} (h : Hp.Blk w g l rest) (hg : w.grownBy w' row) (hne : some g ≠ row) : Hp.Blk w' g l rest := by
  have hl := h.lt
  unfold Hp.Blk at *
  rw [hg.block g hl hne]
  exact h
set_option maxHeartbeats 4000000 in
set_option maxRecDepth 100000 in
theorem hp_without (l : List (Int × Int × Int × Int)) (i : Nat) (p : Option Addr) (c : Nat) (w : World) (hA : Hp.At w p l) (hi : i < l.length) (hn : l.length ≤ 1000000) :
    Calls Try.prog 16 #[.slice p l.length c, .int .i64 i] w (Hp.Without (Hp.woF l i) (Hp.g l i) w) := by
  have CC := Lib.hid (fun W h => hp_Clone l p c W h hn)
  have AL := Lib.hid hA
  obtain ⟨la, hla⟩ : ∃ la, la + 1 = l.length := ⟨l.length - 1, by omega⟩
  have HL := Lib.hid hla
  have HI := Lib.hid hi
  rw [← hla] at hn hi CC
  rw [← hla]
  have HSw := Lib.hid (fun W g rest h => Hp.Blk.swap (w := W) (g := g) (rest := rest) h i la HI.out (by omega))
  have HGw := Lib.hid (fun W g => hp_grown_swap W g l i la)
  have HWd := Lib.hid (fun W g => show Hp.swapW W g l i la = (Hp.put (Hp.put W g i (Hp.g l la)) g la (Hp.g l i)).drew from rfl)
  have HCut := Lib.hid (show Hp.swap l i la = Hp.cutF l i ++ [Hp.g l i] by have := Hp.cut_all l i HI.out; rwa [show l.length - 1 = la by omega] at this)
  have HCl := Lib.hid (show (Hp.cutF l i).length = la by rw [Hp.cut_len]; omega)
  have HWo := Lib.hid (show Hp.woF l i = if i < la then Hp.riseF i (Hp.sinkF la (Hp.cutF l i) i) i else Hp.cutF l i by unfold Hp.woF; rw [show l.length - 1 = la by omega])
  have HWl := Lib.hid (show (Hp.woF l i).length = la by rw [Hp.wo_len l i HI.out]; omega)
  generalize Hp.woF l i = R at *
  have HGe := Lib.hid (fun k h => Hp.g_eq l k h)
  clear hla hA
  have mixed : Try.prog.follows .mixedOrders = true := by kernel_rfl
  have hb0 := hp_box w (.cells #[.int .i64 0, .int .i64 0, .int .u8 0, .int .i64 0] 29)
  have x0 := hp_new w (.cells #[.int .i64 0, .int .i64 0, .int .u8 0, .int .i64 0] 29)
  obtain ⟨W0, hW0⟩ : ∃ W0, w.alloc (.cells #[.int .i64 0, .int .i64 0, .int .u8 0, .int .i64 0] 29) = W0 := ⟨_, rfl⟩
  have s0 : W0.heap.size = w.heap.size + 1 := by rw [← hW0, World.size_alloc]
  have HW0 := Lib.hid hW0
  rw [hW0] at hb0 x0
  have A0 := Lib.hid (AL.out.below hb0)
  have B0 := Lib.hid hb0
  have X0 := Lib.hid x0
  have S0 := Lib.hid s0
  clear hb0 x0 s0 hW0
  go_enter Try.func16, Try.ntmps16
  go_wp2_with fail
  rw [HW0.out]
  refine (CC.out _ A0.out).mono ?_
  rintro e w1 ⟨v, rfl, hO, hb1⟩
  rcases hO.blk with ⟨h0, _⟩ | ⟨g, cap, rest, rfl, hg, hBk, hcap, _⟩
  · exact absurd HI.out (by rw [h0]; simp)
  rw [← HL.out]
  have hle : la + 1 ≤ cap := by have := HL.out; omega
  have hs0 := S0.out
  have X1 := Lib.hid ((hb1.block w.heap.size (by omega)).trans X0.out)
  have B1 := Lib.hid (B0.out.trans (hb1.mono (by omega)))
  have hgw : w.heap.size < g := by omega
  have hx := hBk.cell i HI.out
  have hy := hBk.cell la (by have := HL.out; omega)
  rw [← HGe.out _ HI.out] at hx
  rw [← HGe.out _ (by have := HL.out; omega)] at hy
  have hs := HSw.out w1 g rest hBk
  have hgr := HGw.out w1 g
  rw [HWd.out] at hs hgr
  unfold Hp.put at hs hgr
  have fz := hBk.frozen
  have hgl := hBk.lt
  generalize Hp.g l i = x at *
  generalize Hp.g l la = y at *
  obtain ⟨x1, x2, x3, x4⟩ := x
  obtain ⟨y1, y2, y3, y4⟩ := y
  simp only [] at hs hgr
  rw [HCut.out] at hs
  have HS2 := Lib.hid hs.split
  have HG2 := Lib.hid hgr
  clear hs hgr hBk hO hb1 hs0 hg hcap
  have k1 : (i : Int) < (la : Int) + 1 := by omega
  have k2 : (0 : Int) ≤ (i : Int) := by omega
  obtain ⟨e1, e2, e3, e4⟩ := hx
  obtain ⟨d1, d2, d3, d4⟩ := hy
  simp only [] at e1 e2 e3 e4 d1 d2 d3 d4
  by_cases hlt : i < la
  · have n1 : ¬ i = la := by omega
    have n2 : ¬ la = i := by omega
    have n3 : ¬ i * 4 = la * 4 := by omega
    have n4 : ¬ la * 4 = i * 4 := by omega
    have k3 : (i : Int) < (la : Int) := by omega
    have hsl : (Hp.sinkF la (Hp.cutF l i) i).length = la := (Hp.sink_perm la (Hp.cutF l i) i (by rw [HCl.out]; exact hlt)).length_eq.trans HCl.out
    have CS := Lib.hid (fun W h => hp_sink la (Hp.cutF l i) i g la (Hp.rcs [(x1, x2, x3, x4)] ++ rest) W (by rw [HCl.out]; exact hlt) (by rw [HCl.out]; omega) (by rw [HCl.out]; omega) h)
    rw [HCl.out] at CS
    have CR := Lib.hid (fun W h => hp_rise (Hp.sinkF la (Hp.cutF l i) i) i g la (Hp.rcs [(x1, x2, x3, x4)] ++ rest) W i (Nat.le_refl _) (by rw [hsl]; exact hlt) (by rw [hsl]; omega) h)
    rw [hsl] at CR
    have E := Lib.hid (HWo.out.trans (if_pos hlt))
    rw [← E.out] at CR
    clear hsl
    go_wp2_with fail
    go_region
    clear e1 e2 e3 e4 d1 d2 d3 d4 fz
    go_wp2_with fail
    refine (CS.out _ HS2.out).mono ?_
    rintro e w2 ⟨rfl, hbk, hgr⟩
    have HK2 := Lib.hid hbk
    have HG3 := Lib.hid (hp_grown_trans HG2.out hgr)
    clear hbk hgr
    go_wp2_with fail
    refine (CR.out _ HK2.out).mono ?_
    rintro e w3 ⟨rfl, hbk, hgr⟩
    have hgrow := hp_grown_trans HG3.out hgr
    have hz3 := hgrow.size
    have X3 := Lib.hid ((hgrow.block w.heap.size (by have := B1.out.size; omega) (fun e => by cases e; omega)).trans X1.out)
    have B3 := Lib.hid (B1.out.grown hgrow (by omega) (fun k hk => by cases hk; omega))
    have hn3 := hbk.next
    rw [HWl.out] at hn3
    obtain ⟨e1, e2, e3, e4⟩ := hn3
    obtain ⟨d1, d2, d3, d4⟩ := Hp.box X3.out
    have fz := hp_box_frozen X3.out
    have hfb := Hp.fill_box X3.out (x1, x2, x3, x4)
    have hfg := Hp.fill_grown w3 w.heap.size (x1, x2, x3, x4)
    have hfa := (hbk.grown hfg (fun e => by cases e; omega)).at
    have hfB := B3.out.grown hfg (by omega) (fun k hk => by cases hk; exact Nat.le_refl _)
    unfold Hp.fillW at hfb hfa hfB
    simp only [] at hfb hfa hfB
    have FB := Lib.hid hfb
    have FA := Lib.hid hfa
    have FW := Lib.hid hfB
    clear hfb hfg hfa hfB
    simp only [] at e1 e2 e3 e4
    clear hbk hgr hgrow
    go_wp2_with fail
    go_region
    go_wp2_with fail
    refine bodyPost_ret (hp_ret2 rfl _ _ w.heap.size 29 _ _ rfl FB.out Try.underlying29 rfl (by kernel_rfl)) rfl ?_
    exact ⟨some ⟨g, 0, none⟩, la, by rw [HWl.out]; rfl, (fun B hB b off h => by cases h; omega), FA.out, FW.out⟩
  · obtain rfl : i = la := by omega
    obtain rfl : x1 = y1 := by simpa using e1.symm.trans d1
    obtain rfl : x2 = y2 := by simpa using e2.symm.trans d2
    obtain rfl : x3 = y3 := by simpa using e3.symm.trans d3
    obtain rfl : x4 = y4 := by simpa using e4.symm.trans d4
    clear d1 d2 d3 d4
    have E := Lib.hid (HWo.out.trans (if_neg hlt))
    go_wp2_with fail
    go_region
    clear e1 e2 e3 e4 fz
    have hbk := HS2.out
    rw [← E.out] at hbk
    have hgrow := HG2.out
    generalize hw3 : ((((((((w1.setCell { block := g, off := i * 4 } (Value.int IntKind.i64 x1)).setCell { block := g, off := i * 4 + 1 } (Value.int IntKind.i64 x2)).setCell { block := g, off := i * 4 + 2 } (Value.int IntKind.u8 x3)).setCell { block := g, off := i * 4 + 3 } (Value.int IntKind.i64 x4)).setCell { block := g, off := i * 4 } (Value.int IntKind.i64 x1)).setCell { block := g, off := i * 4 + 1 } (Value.int IntKind.i64 x2)).setCell { block := g, off := i * 4 + 2 } (Value.int IntKind.u8 x3)).setCell { block := g, off := i * 4 + 3 } (Value.int IntKind.i64 x4)).drew = w3 at hbk hgrow ⊢
    clear hw3
    have hz3 := hgrow.size
    have X3 := Lib.hid ((hgrow.block w.heap.size (by have := B1.out.size; omega) (fun e => by cases e; omega)).trans X1.out)
    have B3 := Lib.hid (B1.out.grown hgrow (by omega) (fun k hk => by cases hk; omega))
    have hn3 := hbk.next
    rw [HWl.out] at hn3
    obtain ⟨e1, e2, e3, e4⟩ := hn3
    obtain ⟨d1, d2, d3, d4⟩ := Hp.box X3.out
    have fz := hp_box_frozen X3.out
    have hfb := Hp.fill_box X3.out (x1, x2, x3, x4)
    have hfg := Hp.fill_grown w3 w.heap.size (x1, x2, x3, x4)
    have hfa := (hbk.grown hfg (fun e => by cases e; omega)).at
    have hfB := B3.out.grown hfg (by omega) (fun k hk => by cases hk; exact Nat.le_refl _)
    unfold Hp.fillW at hfb hfa hfB
    simp only [] at hfb hfa hfB
    have FB := Lib.hid hfb
    have FA := Lib.hid hfa
    have FW := Lib.hid hfB
    clear hfb hfg hfa hfB
    simp only [] at e1 e2 e3 e4
    clear hbk hgrow
    go_wp2_with fail
    go_region
    go_wp2_with fail
    refine bodyPost_ret (hp_ret2 rfl _ _ w.heap.size 29 _ _ rfl FB.out Try.underlying29 rfl (by kernel_rfl)) rfl ?_
    exact ⟨some ⟨g, 0, none⟩, i, by rw [HWl.out]; rfl, (fun B hB b off h => by cases h; omega), FA.out, FW.out⟩
end Go.Proofs.Ytlbifinkjghgaaa
