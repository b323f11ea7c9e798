/-
  The walks of a device's has (a range over slices.Backward) and of block.Read. Conditions: a device's lists and numbers are of a size that a machine holds.
-/
import Derived.Test.YtpmhgfjnabgilaaDoorHasAll
import Derived.RangeFuncNested
import Derived.RangeFuncBound
import Derived.RangeFuncCalls
import Derived.RangeFuncLeaves
import Derived.Shelf.Abstract
import Derived.Shelf.RegionOpen
import Derived.OwnWalkIn
import Derived.TacticsInMore
import Derived.LoopNIn
import Derived.LoopIn
namespace Go.Proofs.YtpmhgfjnabgilaaDoor
open Go.RowKit Go.Shelf
attribute [local go_sem] Oper.semAt_some

set_option maxRecDepth 100000 in
set_option maxHeartbeats 1000000 in
/-- slices.Backward(s): the slice value is boxed; the function value captures the box. -/
theorem backward_in (F : Fence) (n : Nat) (h5 : F.fn 105) (hro : F.round = none) (a : Option Addr) (len cap : Nat) (w : World) :
    CallsIn F n Tryd.prog 105 #[.slice a len cap] w fun e w' => e = .returned (.func (.func 153) #[] #[.pointer (some ⟨w.heap.size, 0, none⟩)]) ∧ w' = w.alloc (.cells #[.slice a len cap] 23) := by
  refine callsIn_of_wp Tryd.func105 rfl h5 ?_ hro
  simp only [Tryd.ntmps105, List.size_toArray, List.length_cons, List.length_nil, Nat.reduceAdd, Nat.reduceSub, Array.replicate_succ, Array.replicate_zero, List.push_toArray, List.append_toArray, List.nil_append, List.cons_append]
  gi_wp2
  go_ret
  exact ⟨rfl, rfl⟩

/-- What comes when k rounds are over, from the last on. -/
def Wp.back (ws : List (Int × ByteArray)) (k : Nat) : List (Nat × (Int × ByteArray)) := (List.range k).map fun j => (ws.length - 1 - j, ws[ws.length - 1 - j]?.getD (0, ByteArray.empty))
set_option maxRecDepth 100000 in
theorem Wp.back_succ (ws : List (Int × ByteArray)) (k : Nat) : Wp.back ws (k + 1) = Wp.back ws k ++ [(ws.length - 1 - k, ws[ws.length - 1 - k]?.getD (0, ByteArray.empty))] := by simp [Wp.back, List.range_succ]
set_option maxRecDepth 100000 in
theorem Wp.back_length (ws : List (Int × ByteArray)) (k : Nat) : (Wp.back ws k).length = k := by simp [Wp.back]

set_option maxRecDepth 100000 in
set_option maxHeartbeats 2000000 in
/-- The closure of slices.Backward, at a slice that is not nil. -/
theorem back1_in (F : Fence) (n : Nat) (h7 : F.fn 153) (hro : F.round = none) (hn : 1 ≤ n) (l Bs n₀ : Nat) (p : Option Addr) (cap : Nat) (ws : List (Int × ByteArray)) (hl : ws.length ≤ 4096) (hlow : ∀ a, p = some a → ws ≠ [] → a.block < n₀) (J Jx : List (Nat × (Int × ByteArray)) → World → Prop)
    (hY : ∀ pre x W, J pre W → pre.length < ws.length → YieldAt F (n - 1) Tryd.prog l #[.int .i64 (x.1 : Int), .agg #[.int .i64 x.2.1, .string x.2.2]] W fun e W' =>
      (e = .returned (.bool true) ∧ J (pre ++ [x]) W' ∧ Below n₀ W W') ∨ (e = .returned (.bool false) ∧ Jx (pre ++ [x]) W'))
    (W : World) (hBs : W.cell? ⟨Bs, 0, none⟩ = some (.slice p ws.length cap)) (hBl : Bs < n₀) (hc : Wp.AtW W p ws) (h0 : J [] W) :
    CallsIn F n Tryd.prog 153 #[.func (.yield l) #[] #[], .pointer (some ⟨Bs, 0, none⟩)] W fun e W' => (∃ v, e = .returned v) ∧
      ((∃ ys, ys = Wp.back ws ws.length ∧ J ys W') ∨ (∃ pre, (∃ k, k ≤ ws.length ∧ pre = Wp.back ws k) ∧ Jx pre W')) := by
  refine callsIn_of_wp Tryd.func153 rfl h7 ?_ hro
  simp only [Tryd.ntmps153, List.size_toArray, List.length_cons, List.length_nil, Nat.reduceAdd, Nat.reduceSub, Array.replicate_succ, Array.replicate_zero, List.push_toArray, List.append_toArray, List.nil_append, List.cons_append]
  gi_wp2
  gi_loopw [3] (fun i wr => ∃ q : Nat, q ≤ ws.length ∧ i = .int .i64 ((q : Int) - 1) ∧ J (Wp.back ws (ws.length - q)) wr ∧ Below n₀ W wr)
    (fun i _ => (intOf i + 1).toNat)
  case atStart => exact ⟨ws.length, Nat.le_refl _, rfl, by rw [Nat.sub_self]; exact h0, Below.refl _ _⟩
  case round =>
    obtain ⟨q, hq, rfl, hJs, hnx⟩ := hrel
    have hbx := (hnx.cell (p := ⟨Bs, 0, none⟩) hBl).trans hBs
    cases q with
    | succ q =>
      have hql : q < ws.length := by omega
      have e1 : ((q + 1 : Nat) : Int) - 1 = (q : Int) := by omega
      rw [e1]
      obtain ⟨b, off, rfl, hcell1, hcell2⟩ := hc.get q hql
      have hblt : b < n₀ := hlow _ rfl (by intro e; rw [e] at hql; simp at hql)
      have hcell3 := (hnx.cell (p := ⟨b, off + q * 2, none⟩) hblt).trans hcell1
      have hcell4 := (hnx.cell (p := ⟨b, off + q * 2 + 1, none⟩) hblt).trans hcell2
      have hx : (ws.length - 1 - (ws.length - (q + 1)), ws[ws.length - 1 - (ws.length - (q + 1))]?.getD (0, ByteArray.empty)) = (q, ws[q]) := by
        rw [show ws.length - 1 - (ws.length - (q + 1)) = q by omega, List.getElem?_eq_getElem hql]; rfl
      have hsu := Wp.back_succ ws (ws.length - (q + 1))
      rw [hx, show ws.length - (q + 1) + 1 = ws.length - q by omega] at hsu
      obtain ⟨fn, tmps, assign, body, hy, hR⟩ := hY _ (q, ws[q]) wr hJs (by rw [Wp.back_length]; omega)
      dsimp only at hy
      generalize ws[q] = x at *
      obtain ⟨xa, xd⟩ := x
      dsimp only at hy hcell3 hcell4
      clear hcell1 hcell2
      gi_wp2
      refine hR.mono ?_
      rintro e W3 (⟨rfl, hJ3, hk3⟩ | ⟨rfl, hJx3⟩)
      · gi_wp2
        go_roundw
        case rel => exact ⟨q, by omega, by simp, by rw [hsu]; exact hJ3, hnx.trans hk3⟩
        case measure => simp [intOf]
      · gi_wp2
        refine bodyPost_ret (results_none rfl _ _ _) rfl ?_
        exact ⟨⟨_, rfl⟩, .inr ⟨_, ⟨ws.length - q, by omega, hsu.symm⟩, hJx3⟩⟩
    | zero =>
      gi_wp2
      go_end0
      exact ⟨⟨_, rfl⟩, .inl ⟨_, rfl, hJs⟩⟩
set_option maxRecDepth 100000 in
theorem back_stops (F : Fence) (n : Nat) (h7 : F.fn 153) (hro : F.round = none) (hn : 1 ≤ n) (Bs n₀ : Nat) (p : Option Addr) (cap : Nat) (ws : List (Int × ByteArray)) (hl : ws.length ≤ 4096) (hlow : ∀ a, p = some a → ws ≠ [] → a.block < n₀) (w : World) (hBs : Bs < w.heap.size) (_hn₀ : n₀ ≤ w.heap.size)
    (hc : w.cell? ⟨Bs, 0, none⟩ = some (.slice p ws.length cap)) (hI : Wp.AtW w p ws) (hBl : Bs < n₀) :
    SeqStopsK F n Tryd.prog 153 #[.pointer (some ⟨Bs, 0, none⟩)] (fun x : Nat × (Int × ByteArray) => #[Value.int .i64 (x.1 : Int), Value.agg #[.int .i64 x.2.1, .string x.2.2]]) (Below n₀) (fun ys => ys = Wp.back ws ws.length)
      (fun pre => ∃ k, k ≤ ws.length ∧ pre = Wp.back ws k) ws.length w := fun l J Jx W hW _ _ hY h0 =>
  back1_in F n h7 hro hn l Bs n₀ p cap ws hl hlow J Jx hY W ((hW.cell (p := ⟨Bs, 0, none⟩) hBs).trans hc) hBl (hI.below hW) h0

set_option maxRecDepth 100000 in
theorem Wp.aat (w : World) (o : Obj) (n : Nat) (h : n = w.heap.size) : (w.alloc o).heap[n]? = some o := alloc_at w o n h
set_option maxRecDepth 100000 in
theorem Wp.ap (w : World) (o : Obj) (n : Nat) (h : n < w.heap.size) : (w.alloc o).heap[n]? = w.heap[n]? := alloc_past w o n h
set_option maxRecDepth 100000 in
set_option maxHeartbeats 2000000 in
/-- has: what a block has. -/
theorem has_in (F : Fence) (n : Nat) (h4 : F.fn 62) (h6 : F.fn 105) (h8 : F.fn 153) (hro : F.round = none) (hn : 3 ≤ n)
    (pb : Option Addr) (cb : Nat) (pw : Option Addr) (cw : Nat) (bl : List ByteArray) (ws : List (Int × ByteArray)) (fu : Int) (dn : Bool) (a : Nat) (w : World) (hab : Wp.At Wp.mkT w pb bl) (haw : Wp.AtW w pw ws) (ha : a < bl.length) (_hb : bl.length ≤ 4096) (hw : ws.length ≤ 4096) :
    CallsIn F n Tryd.prog 62 #[.agg #[.slice pb bl.length cb, .slice pw ws.length cw, .int .i64 fu, .bool dn], .int .i64 (a : Int)] w fun e w' => e = .returned (.string (Wp.hasF a ws bl[a])) ∧ Below w.heap.size w w' := by
  have h1 : 1 ≤ n := by omega
  refine callsIn_of_wp_marks Tryd.func62 rfl h4 ?_ hro
  simp only [Tryd.ntmps62, List.size_toArray, List.length_cons, List.length_nil, Nat.reduceAdd, Nat.reduceSub, Array.replicate_succ, Array.replicate_zero, List.push_toArray, List.append_toArray, List.nil_append, List.cons_append]
  gi_wp2_with (gi_at_call 105; refine (backward_in F (n - 1) h6 hro _ _ _ _).mono ?_; rintro e w' ⟨rfl, rfl⟩)
  have q0 : ((((w.alloc (.cells #[.slice pb bl.length cb, .slice pw ws.length cw, .int .i64 fu, .bool dn] 92)).alloc (.cells #[.int .i64 (a : Int)] 3)).alloc (.cells #[.string ⟨#[]⟩] 9)).alloc (.cells #[.slice pw ws.length cw] 23)).heap[w.heap.size]? = some (.cells #[.slice pb bl.length cb, .slice pw ws.length cw, .int .i64 fu, .bool dn] 92 (0, 0)) := by
    rw [Wp.ap _ _ _ (by simp; omega), Wp.ap _ _ _ (by simp; omega), Wp.ap _ _ _ (by simp), Wp.aat _ _ _ rfl]
  have q1 : ((((w.alloc (.cells #[.slice pb bl.length cb, .slice pw ws.length cw, .int .i64 fu, .bool dn] 92)).alloc (.cells #[.int .i64 (a : Int)] 3)).alloc (.cells #[.string ⟨#[]⟩] 9)).alloc (.cells #[.slice pw ws.length cw] 23)).heap[w.heap.size + 1]? = some (.cells #[.int .i64 (a : Int)] 3 (0, 0)) := by
    rw [Wp.ap _ _ _ (by simp), Wp.ap _ _ _ (by simp), Wp.aat _ _ _ (by simp)]
  have q2 : ((((w.alloc (.cells #[.slice pb bl.length cb, .slice pw ws.length cw, .int .i64 fu, .bool dn] 92)).alloc (.cells #[.int .i64 (a : Int)] 3)).alloc (.cells #[.string ⟨#[]⟩] 9)).alloc (.cells #[.slice pw ws.length cw] 23)).heap[w.heap.size + 2]? = some (.cells #[.string ⟨#[]⟩] 9 (0, 0)) := by
    rw [Wp.ap _ _ _ (by simp), Wp.aat _ _ _ (by simp)]
  have q3 : ((((w.alloc (.cells #[.slice pb bl.length cb, .slice pw ws.length cw, .int .i64 fu, .bool dn] 92)).alloc (.cells #[.int .i64 (a : Int)] 3)).alloc (.cells #[.string ⟨#[]⟩] 9)).alloc (.cells #[.slice pw ws.length cw] 23)).heap[w.heap.size + 3]? = some (.cells #[.slice pw ws.length cw] 23 (0, 0)) := by
    rw [Wp.aat _ _ _ (by simp)]
  have hB0 : Below w.heap.size w ((((w.alloc (.cells #[.slice pb bl.length cb, .slice pw ws.length cw, .int .i64 fu, .bool dn] 92)).alloc (.cells #[.int .i64 (a : Int)] 3)).alloc (.cells #[.string ⟨#[]⟩] 9)).alloc (.cells #[.slice pw ws.length cw] 23)) := ((((Below.refl _ w).alloc (Nat.le_refl _) _).alloc (by simp) _).alloc (by simp; omega) _).alloc (by simp; omega) _
  have hsz : ((((w.alloc (.cells #[.slice pb bl.length cb, .slice pw ws.length cw, .int .i64 fu, .bool dn] 92)).alloc (.cells #[.int .i64 (a : Int)] 3)).alloc (.cells #[.string ⟨#[]⟩] 9)).alloc (.cells #[.slice pw ws.length cw] 23)).heap.size = w.heap.size + 4 := by simp
  obtain ⟨W0, hW0⟩ : ∃ W0, ((((w.alloc (.cells #[.slice pb bl.length cb, .slice pw ws.length cw, .int .i64 fu, .bool dn] 92)).alloc (.cells #[.int .i64 (a : Int)] 3)).alloc (.cells #[.string ⟨#[]⟩] 9)).alloc (.cells #[.slice pw ws.length cw] 23)) = W0 := ⟨_, rfl⟩
  rw [hW0] at q0 q1 q2 q3 hB0 hsz ⊢
  clear hW0
  have hlow : ∀ c, pw = some c → ws ≠ [] → c.block < w.heap.size + 4 := by
    intro c hc hne
    obtain ⟨b, off, hp, hcell, _⟩ := haw.get 0 (List.length_pos_iff.2 hne)
    rw [hc] at hp
    cases hp
    have := World.block_lt_of_cell? w _ hcell
    simp at this ⊢
    omega
  refine wpIn_rangeFunc_ownH hro h1 (gf := 153) (lb := #[.pointer (some ⟨w.heap.size + 3, 0, none⟩)]) rfl h8 (enters_of Tryd.func153 (by kernel_rfl) rfl)
    (back_stops F (n - 1) h8 hro (by omega) (w.heap.size + 3) (w.heap.size + 4) pw cw ws hw hlow W0 (by omega) (by omega) (by rw [Lib.cell_of_heap q3]; rfl) (haw.below hB0) (by omega)) belowK_t (belowK_b (by omega)) (Below.refl _ _) (fun _ => rfl)
    (fun pre W => ((∀ x ∈ pre, x.2.1 ≠ (a : Int)) ∧ W.heap[w.heap.size]? = some (.cells #[.slice pb bl.length cb, .slice pw ws.length cw, .int .i64 fu, .bool dn] 92 (0, 0)) ∧ W.heap[w.heap.size + 1]? = some (.cells #[.int .i64 (a : Int)] 3 (0, 0)) ∧ W.heap[w.heap.size + 2]? = some (.cells #[.string ⟨#[]⟩] 9 (0, 0)) ∧ w.heap.size + 4 ≤ W.heap.size) ∧ Below w.heap.size w W)
    (fun c pre W => (c = .ret ∧ ∃ ini last, pre = ini ++ [last] ∧ (∀ x ∈ ini, x.2.1 ≠ (a : Int)) ∧ last.2.1 = (a : Int) ∧ W.heap[w.heap.size + 2]? = some (.cells #[.string last.2.2] 9 (0, 0))) ∧ Below w.heap.size w W)
    (OwnFrom.and (Own.from (fun s A B row hs hg hr => ⟨hs.1, (grownBy_keeps_cells hg hr hs.2.1 rfl).trans hs.2.1, (grownBy_keeps_cells hg hr hs.2.2.1 rfl).trans hs.2.2.1, (grownBy_keeps_cells hg hr hs.2.2.2.1 rfl).trans hs.2.2.2.1, Nat.le_trans hs.2.2.2.2 hg.size⟩) _) (ownFrom_below (Nat.le_refl _) (by omega)))
    (fun c => OwnFrom.and (Own.from (fun s A B row hs hg hr => by obtain ⟨hc, ini, last, e1, e2, e3, e4⟩ := hs; exact ⟨hc, ini, last, e1, e2, e3, (grownBy_keeps_cells hg hr e4 rfl).trans e4⟩) _) (ownFrom_below (Nat.le_refl _) (by omega)))
    ⟨⟨by simp, q0, q1, q2, by omega⟩, hB0⟩
    (fun x a' W => ∃ Bx, w.heap.size + 3 < Bx ∧ W.heap[Bx]? = some (.cells #[.int .i64 x.2.1, .string x.2.2] 100 (0, 0)) ∧ a' = { tmps := #[.agg #[.slice pb bl.length cb, .slice pw ws.length cw, .int .i64 fu, .bool dn], .int .i64 (a : Int), .pointer (some ⟨w.heap.size, 0, none⟩), .pointer (some ⟨w.heap.size + 1, 0, none⟩), .pointer (some ⟨w.heap.size + 2, 0, none⟩), undef, .pointer (some ⟨Bx, 0, none⟩), .pointer (some ⟨w.heap.size, 0, none⟩), .pointer (some ⟨w.heap.size, 1, none⟩), .slice pw ws.length cw, .func (.func 153) #[] #[.pointer (some ⟨w.heap.size + 3, 0, none⟩)], .int .i64 (x.1 : Int), .agg #[.int .i64 x.2.1, .string x.2.2], undef, undef, undef, undef, undef, undef, undef, undef, undef, undef, undef, undef], defers := [] })
    (fun x a' _ X Y row hs hg hr => by obtain ⟨Bx, h1, h2, h3⟩ := hs; exact ⟨Bx, h1, (grownBy_keeps_cells hg (fun r e => (hr r e).2) h2 rfl).trans h2, h3⟩)
    ?assign ?body ?done ?stop
  case assign =>
    rintro l pre x W K ⟨⟨hp, r0, r1, r2, r3⟩, hB⟩ hK
    gi_wp2
    exact hK _ _ ((KeepsOthers.alloc _ _).from _) ((Below.refl _ W).alloc r3 _) ⟨⟨hp, (alloc_past _ _ _ (by omega)).trans r0, (alloc_past _ _ _ (by omega)).trans r1, (alloc_past _ _ _ (by omega)).trans r2, by rw [World.size_alloc]; omega⟩, hB.alloc hB.size _⟩ ⟨W.heap.size, by omega, alloc_new _ _, rfl⟩
  case body =>
    rintro l pre x a' W hl ⟨r, hr⟩ ⟨⟨hp, r0, r1, r2, r3⟩, hB⟩ ⟨Bx, hBx, bX, rfl⟩ hlt
    obtain ⟨xi, xa, xd⟩ := x
    dsimp only at bX hlt ⊢
    have k0 : W.cell? ⟨Bx, 0, none⟩ = some (.int .i64 xa) := by rw [Lib.cell_of_heap bX]; rfl
    have k1 : W.cell? ⟨Bx, 1, none⟩ = some (.string xd) := by rw [Lib.cell_of_heap bX]; rfl
    have k2 : W.cell? ⟨w.heap.size + 1, 0, none⟩ = some (.int .i64 (a : Int)) := by rw [Lib.cell_of_heap r1]; rfl
    have k3 : W.cell? ⟨w.heap.size + 2, 0, none⟩ = some (.string ⟨#[]⟩) := by rw [Lib.cell_of_heap r2]; rfl
    have k4 : W.frozen? ⟨w.heap.size + 2, 0, none⟩ = false := by simp [World.frozen?, r2]
    by_cases hxa : xa = (a : Int)
    · have hq : (xa == (a : Int)) = true := beq_iff_eq.2 hxa
      gi_wp2
      exact ⟨(KeepsOthers.setCell _ _ _).from _, ⟨rfl, pre, _, rfl, hp, hxa, Lib.heap_setCell_same (i := 0) r2 _⟩, hB.setCell (p := ⟨w.heap.size + 2, 0, none⟩) (by simp) _⟩
    · have hq : (xa == (a : Int)) = false := beq_eq_false_iff_ne.2 hxa
      gi_wp2
      exact ⟨KeepsFrom.refl _ _, Below.refl _ _, ⟨fun p hp' => (List.mem_append.1 hp').elim (hp p) (fun e => by simp at e; subst e; exact hxa), r0, r1, r2, r3⟩, hB⟩
  case done =>
    rintro D ys W hD rfl ⟨⟨hp, r0, r1, r2, r3⟩, hB⟩ hK
    have k0 : W.cell? ⟨w.heap.size, 0, none⟩ = some (.slice pb bl.length cb) := by rw [Lib.cell_of_heap r0]; rfl
    have k2 : W.cell? ⟨w.heap.size + 1, 0, none⟩ = some (.int .i64 (a : Int)) := by rw [Lib.cell_of_heap r1]; rfl
    have k3 : W.cell? ⟨w.heap.size + 2, 0, none⟩ = some (.string ⟨#[]⟩) := by rw [Lib.cell_of_heap r2]; rfl
    have k4 : W.frozen? ⟨w.heap.size + 2, 0, none⟩ = false := by simp [World.frozen?, r2]
    obtain ⟨gb, go, rfl, hcell⟩ := (hab.below hB).get a ha
    have hall := Wp.hasF_none (a : Int) ws bl[a] (fun j hj => by
      have := hp (j, ws[j]) (by
        simp only [Wp.back, List.mem_map, List.mem_range]
        refine ⟨ws.length - 1 - j, by omega, ?_⟩
        rw [show ws.length - 1 - (ws.length - 1 - j) = j by omega, List.getElem?_eq_getElem hj]
        rfl)
      exact this)
    rw [show Wp.mkT bl[a] = Value.string bl[a] from rfl] at hcell
    have Hall := Lib.hid hall
    obtain ⟨x, hx⟩ : ∃ x, x = bl[a] := ⟨_, rfl⟩
    rw [← hx] at hcell
    have Hx := Lib.hid hx
    clear hall hx r0 r1 r2 hp
    gi_wp2
    have hK' := (KeepsOthers.setCell W ⟨w.heap.size + 2, 0, none⟩ (.string x)).same D _ hK rfl
    refine ⟨by simp, .inl ⟨_, _, rfl, run_takeDeferred hK', ?_⟩⟩
    have hc5 := cell_kept (World.cell?_setCell_same' W ⟨w.heap.size + 2, 0, none⟩ (.string x) (by rw [k3]; rfl)) (grownBy_putObj' _ D (.deferred none)) (fun r e => by cases e; exact ⟨_, hK', rfl⟩)
    refine ⟨.string x, ?_, by rw [Hall.out, Hx.out], (hB.setCell (p := ⟨w.heap.size + 2, 0, none⟩) (by simp) _).trans (belowK_b (w := w) (Nat.le_refl _) _ D _ _ (by omega) hK' rfl rfl)⟩
    simp [results, Tryd.f62, go_sem, hc5]
  case stop =>
    rintro D c pre W hD ⟨k, hk, rfl⟩ ⟨⟨rfl, ini, last, e1, e2, e3, r2⟩, hB⟩ hK
    gi_wp2
    refine ⟨by simp, .inl ⟨_, _, rfl, run_takeDeferred hK, ?_⟩⟩
    have hcr : W.cell? ⟨w.heap.size + 2, 0, none⟩ = some (.string last.2.2) := by rw [Lib.cell_of_heap r2]; rfl
    have hc5 := cell_kept hcr (grownBy_putObj' _ D (.deferred none)) (fun r e => by cases e; exact ⟨_, hK, rfl⟩)
    obtain ⟨k', rfl⟩ : ∃ k', k = k' + 1 := by
      cases k with
      | zero => simp [Wp.back] at e1
      | succ k' => exact ⟨k', rfl⟩
    rw [Wp.back_succ] at e1
    obtain ⟨rfl, e5⟩ := List.append_inj' e1 rfl
    have hql : ws.length - 1 - k' < ws.length := by omega
    rw [List.getElem?_eq_getElem hql] at e5
    have e6 : (ws.length - 1 - k', ws[ws.length - 1 - k']) = last := by simpa using e5
    subst e6
    have hf := Wp.hasF_found (a : Int) ws bl[a] (ws.length - 1 - k') hql e3 (fun j hj hjk => by
      have := e2 (j, ws[j]) (by
        simp only [Wp.back, List.mem_map, List.mem_range]
        refine ⟨ws.length - 1 - j, by omega, ?_⟩
        rw [show ws.length - 1 - (ws.length - 1 - j) = j by omega, List.getElem?_eq_getElem hj]
        rfl)
      exact this)
    refine ⟨.string ws[ws.length - 1 - k'].2, ?_, by rw [hf], hB.trans (belowK_b (w := w) (Nat.le_refl _) W D _ _ (by omega) hK rfl rfl)⟩
    simp [results, Tryd.f62, go_sem, hc5]
end Go.Proofs.YtpmhgfjnabgilaaDoor
