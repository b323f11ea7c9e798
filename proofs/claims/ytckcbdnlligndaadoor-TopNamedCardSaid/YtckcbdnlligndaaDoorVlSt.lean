/-
  What stands while value's reader reads items. Condition: what is there is of a size that a machine holds.
  What stands when a name was put behind. Condition: what is there is of a size that a machine holds.
-/
import Derived.Test.YtckcbdnlligndaaDoorVlRows
import Derived.Test.YtckcbdnlligndaaDoorVlDec
import Derived.Deep.AppendLies
import Derived.Deep.RegionLaw
namespace Go.Proofs.YtckcbdnlligndaaDoor
open Go.RowKit

/-- All blocks are kept but two. -/
structure Vl.Keep2 (w w' : World) (g q : Nat) : Prop where
  os : w'.os = w.os
  tape : w'.tape = w.tape
  output : w'.output = w.output
  size : w.heap.size ≤ w'.heap.size
  block : ∀ k, k < w.heap.size → k ≠ g → k ≠ q → w'.heap[k]? = w.heap[k]?
theorem Vl.Keep2.step {w w' w'' : World} {g q : Nat} {r : Option Nat} (h : Vl.Keep2 w w' g q) (k : w'.grownBy w'' r) (hr : ∀ x, r = some x → x = g ∨ x = q ∨ w.heap.size ≤ x) : Vl.Keep2 w w'' g q :=
  ⟨k.os.trans h.os, k.tape.trans h.tape, k.output.trans h.output, Nat.le_trans h.size k.size, fun i hi h1 h2 => (k.block i (Nat.lt_of_lt_of_le hi h.size) (fun e => by rcases hr i e.symm with h | h | h <;> omega)).trans (h.block i hi h1 h2)⟩
theorem Vl.Keep2.refl (w : World) (g q : Nat) : Vl.Keep2 w w g q := ⟨rfl, rfl, rfl, Nat.le_refl _, fun _ _ _ _ => rfl⟩
/-- What reading a value hands back. -/
def Vl.VCall (F g : Nat) : Prop := ∀ (l : List UInt8) (b : Bool) (r : Int) (W : World), Vl.RBox W g l b r → 0 ≤ r → r + 1 ≤ F → r ≤ 256 → l.length ≤ 200000000000000 →
  Calls Tryd.prog 36 #[.pointer (some ⟨g, 0, none⟩)] W fun e W' => ∃ u, e = .returned u ∧ Vl.Off F W.heap.size W' none u (Vl.pv F ⟨l, b, r⟩).1 ∧ Vl.RBox W' g (Vl.pv F ⟨l, b, r⟩).2.l (Vl.pv F ⟨l, b, r⟩).2.b (Vl.pv F ⟨l, b, r⟩).2.r ∧ W.grownBy W' (some g)
/-- What holds at each round. -/
structure Vl.IRel (F g gv k : Nat) (w wr : World) (N m : Nat) (st0 : Vl.St) (R : Int) (is : List Vl.V) (ns : List ByteArray) (st : Vl.St) (vi vn : Value) : Prop where
  rb : Vl.RBox wr g st.l st.b st.r
  vb : wr.heap[gv]? = some (.cells #[.int .u8 (k : Nat), .string ⟨#[]⟩, .int .i64 0, vi, vn] 26 (0, 0))
  rows : Vl.Rows2 F w.heap.size wr vi vn is ns
  eq : Vl.loopP (Vl.pv F) k N [] [] st0 = Vl.loopP (Vl.pv F) k m ns is st
  keep : Vl.Keep2 w wr g gv
  cnt : (is.length : Int) + st.r ≤ R
  nl : ns.length ≤ is.length
  good : st.b = false → 0 ≤ st.r
  low : -1 ≤ st.r
  fuel : st.r + 1 ≤ F
  len : st.l.length ≤ 200000000000000
  small : ∀ s ∈ ns, s.size ≤ 4105
/-- What reading items does. -/
def Vl.IPost (F g gv k : Nat) (T : List ByteArray × List Vl.V × Vl.St) (w : World) (e : Ending) (w' : World) : Prop := e = .returned (.tuple #[]) ∧ ∃ vi vn, Vl.RBox w' g T.2.2.l T.2.2.b T.2.2.r ∧
  w'.heap[gv]? = some (.cells #[.int .u8 (k : Nat), .string ⟨#[]⟩, .int .i64 0, vi, vn] 26 (0, 0)) ∧ Vl.Rows2 F w.heap.size w' vi vn T.2.1 T.1 ∧ Vl.Keep2 w w' g gv ∧ T.2.1.length ≤ 300 ∧ T.1.length ≤ 300 ∧ (∀ s ∈ T.1, s.size ≤ 4105)
theorem Vl.loopP_stop (pv : Vl.St → Vl.V × Vl.St) (k m : Nat) (ns : List ByteArray) (is : List Vl.V) (st : Vl.St) (h : m = 0 ∨ st.b = true) : Vl.loopP pv k m ns is st = (ns, is, st) := by
  cases m with
  | zero => rw [Vl.loopP]
  | succ m =>
    rcases h with h | h
    · cases h
    · rw [Vl.loopP, if_pos h]
theorem Vl.IRel.fin {F g gv k : Nat} {w wr : World} {N m : Nat} {st0 : Vl.St} {R : Int} {is : List Vl.V} {ns : List ByteArray} {st : Vl.St} {vi vn : Value} (h : Vl.IRel F g gv k w wr N m st0 R is ns st vi vn) (hR : R ≤ 256) (hs : m = 0 ∨ st.b = true) :
    Vl.IPost F g gv k (Vl.loopP (Vl.pv F) k N [] [] st0) w (.returned (.tuple #[])) wr := by
  have hc := h.cnt
  have hlo := h.low
  have hnl := h.nl
  rw [h.eq, Vl.loopP_stop _ _ _ _ _ _ hs]
  exact ⟨rfl, vi, vn, h.rb, h.vb, h.rows, h.keep, by show is.length ≤ 300; omega, by show ns.length ≤ 300; omega, h.small⟩
/-- What stands within a round. -/
structure Vl.RState (F g gv k : Nat) (w W : World) (l : List UInt8) (b : Bool) (r : Int) (vi vn : Value) (is : List Vl.V) (ns : List ByteArray) : Prop where
  rb : Vl.RBox W g l b r
  vb : ∃ vi0, W.heap[gv]? = some (.cells #[.int .u8 (k : Nat), .string ⟨#[]⟩, .int .i64 0, vi0, vn] 26 (0, 0))
  rows : Vl.Rows2 (F + 1) w.heap.size W vi vn is ns
  keep : Vl.Keep2 w W g gv
  gl : g < w.heap.size
  gvl : gv < w.heap.size
  ne : g ≠ gv
theorem Vl.RState.alloc {F g gv k : Nat} {w W : World} {l : List UInt8} {b : Bool} {r : Int} {vi vn : Value} {is : List Vl.V} {ns : List ByteArray} (h : Vl.RState F g gv k w W l b r vi vn is ns) (o : Obj) : Vl.RState F g gv k w (W.alloc o) l b r vi vn is ns := by
  have hb := (Below.refl W.heap.size W).alloc (Nat.le_refl _) o
  obtain ⟨vi0, hv⟩ := h.vb
  exact ⟨Vl.rbox_below h.rb hb, ⟨vi0, (hb.block gv (Nat.lt_of_lt_of_le h.gvl h.keep.size)).trans hv⟩, h.rows.below hb, h.keep.step (grownBy_of hb none) (fun x e => by cases e), h.gl, h.gvl, h.ne⟩
theorem Vl.RState.drew {F g gv k : Nat} {w W : World} {l : List UInt8} {b : Bool} {r : Int} {vi vn : Value} {is : List Vl.V} {ns : List ByteArray} (h : Vl.RState F g gv k w W l b r vi vn is ns) : Vl.RState F g gv k w W.drew l b r vi vn is ns := by
  have hb := (Below.refl W.heap.size W).drew
  obtain ⟨vi0, hv⟩ := h.vb
  exact ⟨h.rb, ⟨vi0, hv⟩, h.rows.below hb, h.keep.step (grownBy_of hb none) (fun x e => by cases e), h.gl, h.gvl, h.ne⟩
theorem Vl.RState.call {F g gv k : Nat} {w W W' : World} {l l' : List UInt8} {b b' : Bool} {r r' : Int} {vi vn : Value} {is : List Vl.V} {ns : List ByteArray} (h : Vl.RState F g gv k w W l b r vi vn is ns) (hr : Vl.RBox W' g l' b' r') (hg : W.grownBy W' (some g)) : Vl.RState F g gv k w W' l' b' r' vi vn is ns := by
  obtain ⟨vi0, hv⟩ := h.vb
  exact ⟨hr, ⟨vi0, (hg.block gv (Nat.lt_of_lt_of_le h.gvl h.keep.size) (fun e => by cases e; exact h.ne rfl)).trans hv⟩, h.rows.keep hg h.gl, h.keep.step hg (fun x e => by cases e; exact Or.inl rfl), h.gl, h.gvl, h.ne⟩
theorem Vl.Rows2.lt {d B : Nat} {W : World} {vi vn : Value} {is : List Vl.V} {ns : List ByteArray} (h : Vl.Rows2 d B W vi vn is ns) : (∀ x, vi.ownBlock = some x → B ≤ x ∧ x < W.heap.size) ∧ (∀ x, vn.ownBlock = some x → B ≤ x ∧ x < W.heap.size) := by
  obtain ⟨⟨cs, hO, _⟩, hN⟩ := h
  exact ⟨fun x e => hO.lt x e, fun x e => hN.lt x e⟩
theorem Vl.RState.app {F g gv k : Nat} {w W W' : World} {l : List UInt8} {b : Bool} {r : Int} {vi vi' vn : Value} {is : List Vl.V} {ns : List ByteArray} {cs : List Value} (h : Vl.RState F g gv k w W l b r vi vn is ns) (hcs : W.ownsRow w.heap.size 26 5 vi is.length cs)
    (hown : W'.ownsRow w.heap.size 26 5 vi' (is.length + 1) (cs ++ [.int .u8 0, .string ⟨#[]⟩, .int .i64 0, .slice none 0 0, .slice none 0 0])) (hg : W.grownBy W' vi.ownBlock)
    (hat : vi'.ownBlock = vi.ownBlock ∨ vi'.ownBlock = some W.heap.size) : Vl.RState F g gv k w W' l b r vi' vn (is ++ [Vl.zero]) ns := by
  obtain ⟨vi0, hv⟩ := h.vb
  have hlt := h.rows.lt.1
  have hgl := h.gl
  have hgvl := h.gvl
  have hks := h.keep.size
  have hb : ∀ j, j < w.heap.size → W'.heap[j]? = W.heap[j]? := fun j hj => hg.block j (by omega) (fun e => by have := (hlt j e.symm).1; omega)
  exact ⟨(hb g hgl).trans h.rb, ⟨vi0, (hb gv hgvl).trans hv⟩, h.rows.room hcs hown hg hat, h.keep.step hg (fun x e => Or.inr (Or.inr (hlt x e).1)), h.gl, h.gvl, h.ne⟩
theorem Vl.Off.two {d B C : Nat} {W0 W : World} {u : Value} {y : Vl.V} (h : Vl.Off d C W none u y) (hC : C = W0.heap.size) (hB : B ≤ C) (p q : Option Nat) (hp : ∀ x, p = some x → x < C) (hq : ∀ x, q = some x → x < C) : Vl.Off2 d B W p q u y :=
  fun W' hW => h W' (fun j h1 h2 _ => hW j (by omega) h2 (fun e => by have := hp j e.symm; omega) (fun e => by have := hq j e.symm; omega))
theorem Vl.Off2.below {d B : Nat} {W W' : World} {p q : Option Nat} {u : Value} {y : Vl.V} (h : Vl.Off2 d B W p q u y) (hb : Below W.heap.size W W') : Vl.Off2 d B W' p q u y :=
  fun W2 hW => h W2 (fun j h1 h2 h3 h4 => (hW j h1 (Nat.lt_of_lt_of_le h2 hb.size) h3 h4).trans (hb.block j h2))
theorem Vl.Off2.app {d B : Nat} {W W' : World} {p p' q : Option Nat} {u : Value} {y : Vl.V} (h : Vl.Off2 d B W p q u y) (hg : W.grownBy W' p) (hat : p' = p ∨ p' = some W.heap.size) : Vl.Off2 d B W' p' q u y :=
  fun W2 hW => h W2 (fun j h1 h2 h3 h4 => (hW j h1 (Nat.lt_of_lt_of_le h2 hg.size) (fun e => by
    rcases hat with h | h
    · exact h3 (e.trans h)
    · have := e.trans h; cases this; omega) h4).trans (hg.block j h2 h3))
theorem Vl.callAt {F g gv k : Nat} {w W : World} {l : List UInt8} {b : Bool} {r : Int} {vi vn : Value} {is : List Vl.V} {ns : List ByteArray} (ih : Vl.VCall (F + 1) g) (h : Vl.RState F g gv k w W l b r vi vn is ns) (h0 : 0 ≤ r) (hF : r + 1 ≤ (F + 1 : Nat)) (hr : r ≤ 256) (hl : l.length ≤ 200000000000000) :
    Calls Tryd.prog 36 #[.pointer (some ⟨g, 0, none⟩)] W fun e W' => ∃ (k2 : Nat) (t2 : ByteArray) (i2 : Int) (pi2 : Option Addr) (ni2 ci2 : Nat) (pn2 : Option Addr) (nn2 cn2 : Nat), e = .returned (.agg #[.int .u8 k2, .string t2, .int .i64 i2, .slice pi2 ni2 ci2, .slice pn2 nn2 cn2]) ∧
      Vl.RState F g gv k w W' (Vl.pv (F + 1) ⟨l, b, r⟩).2.l (Vl.pv (F + 1) ⟨l, b, r⟩).2.b (Vl.pv (F + 1) ⟨l, b, r⟩).2.r vi vn is ns ∧
      Vl.Off2 (F + 1) w.heap.size W' vi.ownBlock vn.ownBlock (.agg #[.int .u8 k2, .string t2, .int .i64 i2, .slice pi2 ni2 ci2, .slice pn2 nn2 cn2]) (Vl.pv (F + 1) ⟨l, b, r⟩).1 ∧ W.grownBy W' (some g) := by
  refine (ih l b r W h.rb h0 hF hr hl).mono ?_
  rintro e W' ⟨u, rfl, hoff, hrb, hg⟩
  obtain ⟨k2, t2, i2, pi2, ni2, ci2, pn2, nn2, cn2, rfl⟩ := hoff.at.shape
  exact ⟨k2, t2, i2, pi2, ni2, ci2, pn2, nn2, cn2, rfl, h.call hrb hg, hoff.two (W0 := W) rfl h.keep.size _ _ (fun x e => (h.rows.lt.1 x e).2) (fun x e => (h.rows.lt.2 x e).2), hg⟩
theorem Vl.slots {w : World} {B g n cap : Nat} {xs : List Value} (h : w.ownsRow B 26 5 (.slice (some ⟨g, 0, none⟩) (n + 1) cap) (n + 1) xs) :
    ∃ z0 z1 z2 z3 z4, (w.cell? ⟨g, n * 5, none⟩ = some z0 ∧ w.cell? ⟨g, n * 5 + 1, none⟩ = some z1 ∧ w.cell? ⟨g, n * 5 + 2, none⟩ = some z2 ∧ w.cell? ⟨g, n * 5 + 3, none⟩ = some z3 ∧ w.cell? ⟨g, n * 5 + 4, none⟩ = some z4) ∧
      w.frozen? ⟨g, n * 5, none⟩ = false ∧ w.frozen? ⟨g, n * 5 + 1, none⟩ = false ∧ w.frozen? ⟨g, n * 5 + 2, none⟩ = false ∧ w.frozen? ⟨g, n * 5 + 3, none⟩ = false ∧ w.frozen? ⟨g, n * 5 + 4, none⟩ = false := by
  have hl : xs.length = (n + 1) * 5 := h.1
  have hc := h.cells (g := g) rfl
  have key : ∀ j (hj : j < 5), w.cell? ⟨g, n * 5 + j, none⟩ = some (xs[n * 5 + j]'(by rw [hl]; omega)) := fun j hj => by
    have := hc (n * 5 + j) _ (List.getElem?_eq_getElem (by rw [hl]; omega))
    rwa [show (⟨g, 0, none⟩ : Addr).add (n * 5 + j) = ⟨g, n * 5 + j, none⟩ by unfold Addr.add; split <;> simp_all] at this
  exact ⟨_, _, _, _, _, ⟨key 0 (by omega), key 1 (by omega), key 2 (by omega), key 3 (by omega), key 4 (by omega)⟩, h.frozenAt _, h.frozenAt _, h.frozenAt _, h.frozenAt _, h.frozenAt _⟩
theorem Vl.RState.box3 {F g gv k : Nat} {w W : World} {l : List UInt8} {b : Bool} {r : Int} {vi vn : Value} {is : List Vl.V} {ns : List ByteArray} (h : Vl.RState F g gv k w W l b r vi vn is ns) : (∃ vi0, W.cell? ⟨gv, 3, none⟩ = some vi0) ∧ W.frozen? ⟨gv, 3, none⟩ = false := by
  obtain ⟨vi0, hv⟩ := h.vb
  exact ⟨⟨vi0, (Vl.five_of hv).2.2.2.1⟩, (Vl.fiveF_of hv).2.2.2.1⟩
/-- One round on. -/
theorem Vl.IRel.turn {F g gv k : Nat} {w wr W : World} {N m : Nat} {st0 : Vl.St} {R : Int} {is : List Vl.V} {ns ns' : List ByteArray} {sl sl' : List UInt8} {sb' : Bool} {sr : Int} {vi vn vi' vn' : Value} (h : Vl.IRel (F + 1) g gv k w wr N (m + 1) st0 R is ns ⟨sl, false, sr⟩ vi vn)
    (he : Vl.loopP (Vl.pv (F + 1)) k (m + 1) ns is ⟨sl, false, sr⟩ = Vl.loopP (Vl.pv (F + 1)) k m ns' (is ++ [(Vl.pv (F + 1) ⟨sl', sb', sr⟩).1]) (Vl.pv (F + 1) ⟨sl', sb', sr⟩).2) (hl' : sl'.length ≤ sl.length) (hns : ns'.length ≤ is.length + 1) (hsm : ∀ s ∈ ns', s.size ≤ 4105)
    (rb : Vl.RBox W g (Vl.pv (F + 1) ⟨sl', sb', sr⟩).2.l (Vl.pv (F + 1) ⟨sl', sb', sr⟩).2.b (Vl.pv (F + 1) ⟨sl', sb', sr⟩).2.r)
    (vb : W.heap[gv]? = some (.cells #[.int .u8 (k : Nat), .string ⟨#[]⟩, .int .i64 0, vi', vn'] 26 (0, 0)))
    (rows : Vl.Rows2 (F + 1) w.heap.size W vi' vn' (is ++ [(Vl.pv (F + 1) ⟨sl', sb', sr⟩).1]) ns') (keep : Vl.Keep2 w W g gv) :
    Vl.IRel (F + 1) g gv k w W N m st0 R (is ++ [(Vl.pv (F + 1) ⟨sl', sb', sr⟩).1]) ns' (Vl.pv (F + 1) ⟨sl', sb', sr⟩).2 vi' vn' := by
  have h0 : 0 ≤ sr := h.good rfl
  have hfuel : sr + 1 ≤ ((F + 1 : Nat) : Int) := h.fuel
  have hk := Vl.pv_keeps (F + 1) ⟨sl', sb', sr⟩ h0 hfuel
  have hroom : (Vl.pv (F + 1) ⟨sl', sb', sr⟩).2.r + 1 ≤ sr := hk.room
  have hlen : (Vl.pv (F + 1) ⟨sl', sb', sr⟩).2.l.length ≤ sl'.length := hk.len
  have hcnt : (is.length : Int) + sr ≤ R := h.cnt
  have hl : sl.length ≤ 200000000000000 := h.len
  exact ⟨rb, vb, rows, h.eq.trans he, keep, by rw [List.length_append, show [(Vl.pv (F + 1) ⟨sl', sb', sr⟩).1].length = 1 from rfl]; omega, by rw [List.length_append, show [(Vl.pv (F + 1) ⟨sl', sb', sr⟩).1].length = 1 from rfl]; exact hns, hk.good, hk.low, by omega, by omega, hsm⟩
theorem Vl.loopP_items (pv : Vl.St → Vl.V × Vl.St) (m : Nat) (ns : List ByteArray) (is : List Vl.V) (sl : List UInt8) (sr : Int) : Vl.loopP pv 4 (m + 1) ns is ⟨sl, false, sr⟩ = Vl.loopP pv 4 m ns (is ++ [(pv ⟨sl, false, sr⟩).1]) (pv ⟨sl, false, sr⟩).2 := by
  rw [Vl.loopP, if_neg (by simp), if_neg (by decide)]
theorem Vl.loopP_named (pv : Vl.St → Vl.V × Vl.St) (m : Nat) (ns : List ByteArray) (is : List Vl.V) (sl : List UInt8) (sr : Int) : Vl.loopP pv 5 (m + 1) ns is ⟨sl, false, sr⟩ = Vl.loopP pv 5 m (ns ++ [Wp.B (Vl.textP sl false).1]) (is ++ [(pv ⟨(Vl.textP sl false).2.1, (Vl.textP sl false).2.2, sr⟩).1]) (pv ⟨(Vl.textP sl false).2.1, (Vl.textP sl false).2.2, sr⟩).2 := by
  rw [Vl.loopP, if_neg (by simp), if_pos rfl]
/-- The row is in its box. -/
theorem Vl.RState.boxed {F g gv k : Nat} {w W : World} {l : List UInt8} {b : Bool} {r : Int} {vi vn : Value} {is : List Vl.V} {ns : List ByteArray} (h : Vl.RState F g gv k w W l b r vi vn is ns) :
    (W.setCell ⟨gv, 3, none⟩ vi).heap[gv]? = some (.cells #[.int .u8 (k : Nat), .string ⟨#[]⟩, .int .i64 0, vi, vn] 26 (0, 0)) ∧ Vl.RState F g gv k w (W.setCell ⟨gv, 3, none⟩ vi) l b r vi vn is ns := by
  obtain ⟨vi0, hv⟩ := h.vb
  have hg : W.grownBy (W.setCell ⟨gv, 3, none⟩ vi) (some gv) := Vl.set1_grown W gv 3 vi
  have hb := Lib.heap_setCell_same (i := 3) hv vi
  have hb' : (W.setCell ⟨gv, 3, none⟩ vi).heap[gv]? = some (.cells #[.int .u8 (k : Nat), .string ⟨#[]⟩, .int .i64 0, vi, vn] 26 (0, 0)) := hb
  exact ⟨hb', (hg.block g (Nat.lt_of_lt_of_le h.gl h.keep.size) (fun e => by cases e; exact h.ne rfl)).trans h.rb, ⟨vi, hb'⟩, h.rows.keep hg h.gvl, h.keep.step hg (fun x e => by cases e; exact Or.inr (Or.inl rfl)), h.gl, h.gvl, h.ne⟩
/-- The last place was written. -/
theorem Vl.RState.put {F g gv k : Nat} {w W : World} {l : List UInt8} {b : Bool} {r : Int} {g2 cap : Nat} {vn : Value} {is : List Vl.V} {ns : List ByteArray} {z y : Vl.V} {c0 c1 c2 c3 c4 : Value} (h : Vl.RState F g gv k w W l b r (.slice (some ⟨g2, 0, none⟩) (is.length + 1) cap) vn (is ++ [z]) ns) (hlt : w.heap.size ≤ g2)
    (hU : Vl.Off2 (F + 1) w.heap.size W (some g2) vn.ownBlock (.agg #[c0, c1, c2, c3, c4]) y) :
    Vl.RState F g gv k w (((((W.setCell ⟨g2, is.length * 5, none⟩ c0).setCell ⟨g2, is.length * 5 + 1, none⟩ c1).setCell ⟨g2, is.length * 5 + 2, none⟩ c2).setCell ⟨g2, is.length * 5 + 3, none⟩ c3).setCell ⟨g2, is.length * 5 + 4, none⟩ c4) l b r (.slice (some ⟨g2, 0, none⟩) (is.length + 1) cap) vn (is ++ [y]) ns ∧
      (((((W.setCell ⟨g2, is.length * 5, none⟩ c0).setCell ⟨g2, is.length * 5 + 1, none⟩ c1).setCell ⟨g2, is.length * 5 + 2, none⟩ c2).setCell ⟨g2, is.length * 5 + 3, none⟩ c3).setCell ⟨g2, is.length * 5 + 4, none⟩ c4).heap[gv]? = W.heap[gv]? := by
  obtain ⟨hR, hG⟩ := Vl.Rows2.put h.rows hU
  obtain ⟨vi0, hv⟩ := h.vb
  have hgl := h.gl
  have hgvl := h.gvl
  have hgv := hG.block gv (Nat.lt_of_lt_of_le hgvl h.keep.size) (fun e => by cases e; omega)
  exact ⟨⟨(hG.block g (Nat.lt_of_lt_of_le hgl h.keep.size) (fun e => by cases e; omega)).trans h.rb, ⟨vi0, hgv.trans hv⟩, hR, h.keep.step hG (fun x e => by cases e; exact Or.inr (Or.inr hlt)), hgl, hgvl, h.ne⟩, hgv⟩
theorem Vl.Off2.set {d B gv i : Nat} {W : World} {p q : Option Nat} {u v : Value} {y : Vl.V} (h : Vl.Off2 d B W p q u y) (hg : gv < B) : Vl.Off2 d B (W.setCell ⟨gv, i, none⟩ v) p q u y :=
  fun W2 hW => h W2 (fun j h1 h2 h3 h4 => (hW j h1 (by rw [World.size_setCell]; exact h2) h3 h4).trans ((Vl.set1_grown W gv i v).block j h2 (fun e => by cases e; omega)))
/-- Written, then boxed. -/
theorem Vl.RState.endA {F g gv k : Nat} {w W : World} {l : List UInt8} {b : Bool} {r : Int} {g2 cap : Nat} {vn : Value} {is : List Vl.V} {ns : List ByteArray} {z y : Vl.V} {c0 c1 c2 c3 c4 : Value} (h : Vl.RState F g gv k w W l b r (.slice (some ⟨g2, 0, none⟩) (is.length + 1) cap) vn (is ++ [z]) ns) (hlt : w.heap.size ≤ g2)
    (hU : Vl.Off2 (F + 1) w.heap.size W (some g2) vn.ownBlock (.agg #[c0, c1, c2, c3, c4]) y) (W' : World)
    (hW : W' = (((((W.setCell ⟨g2, is.length * 5, none⟩ c0).setCell ⟨g2, is.length * 5 + 1, none⟩ c1).setCell ⟨g2, is.length * 5 + 2, none⟩ c2).setCell ⟨g2, is.length * 5 + 3, none⟩ c3).setCell ⟨g2, is.length * 5 + 4, none⟩ c4).setCell ⟨gv, 3, none⟩ (.slice (some ⟨g2, 0, none⟩) (is.length + 1) cap)) :
    W'.heap[gv]? = some (.cells #[.int .u8 (k : Nat), .string ⟨#[]⟩, .int .i64 0, .slice (some ⟨g2, 0, none⟩) (is.length + 1) cap, vn] 26 (0, 0)) ∧ Vl.RState F g gv k w W' l b r (.slice (some ⟨g2, 0, none⟩) (is.length + 1) cap) vn (is ++ [y]) ns := by
  subst hW
  exact (h.put hlt hU).1.boxed
/-- Boxed, then written. -/
theorem Vl.RState.endB {F g gv k : Nat} {w W : World} {l : List UInt8} {b : Bool} {r : Int} {g2 cap : Nat} {vn : Value} {is : List Vl.V} {ns : List ByteArray} {z y : Vl.V} {c0 c1 c2 c3 c4 : Value} (h : Vl.RState F g gv k w W l b r (.slice (some ⟨g2, 0, none⟩) (is.length + 1) cap) vn (is ++ [z]) ns) (hlt : w.heap.size ≤ g2)
    (hU : Vl.Off2 (F + 1) w.heap.size W (some g2) vn.ownBlock (.agg #[c0, c1, c2, c3, c4]) y) (W' : World)
    (hW : W' = ((((((W.setCell ⟨gv, 3, none⟩ (.slice (some ⟨g2, 0, none⟩) (is.length + 1) cap)).setCell ⟨g2, is.length * 5, none⟩ c0).setCell ⟨g2, is.length * 5 + 1, none⟩ c1).setCell ⟨g2, is.length * 5 + 2, none⟩ c2).setCell ⟨g2, is.length * 5 + 3, none⟩ c3).setCell ⟨g2, is.length * 5 + 4, none⟩ c4)) :
    W'.heap[gv]? = some (.cells #[.int .u8 (k : Nat), .string ⟨#[]⟩, .int .i64 0, .slice (some ⟨g2, 0, none⟩) (is.length + 1) cap, vn] 26 (0, 0)) ∧ Vl.RState F g gv k w W' l b r (.slice (some ⟨g2, 0, none⟩) (is.length + 1) cap) vn (is ++ [y]) ns := by
  subst hW
  obtain ⟨hb, hS⟩ := h.boxed
  obtain ⟨hP, he⟩ := hS.put hlt (hU.set h.gvl)
  exact ⟨he.trans hb, hP⟩
end Go.Proofs.YtckcbdnlligndaaDoor
namespace Go.Proofs.YtckcbdnlligndaaDoor
open Go.RowKit

/-- A name was put behind, and boxed. -/
theorem Vl.RState.nameApp {F g gv k : Nat} {w W W' : World} {l : List UInt8} {b : Bool} {r : Int} {vi vn vn' : Value} {is : List Vl.V} {ns : List ByteArray} {t : ByteArray} (h : Vl.RState F g gv k w W l b r vi vn is ns)
    (hown : W'.ownsRow w.heap.size 9 1 vn' (ns.length + 1) (ns.map Wp.mkT ++ [.string t])) (hg : W.grownBy W' vn.ownBlock) (hat : vn'.ownBlock = vn.ownBlock ∨ vn'.ownBlock = some W.heap.size) :
    Vl.RState F g gv k w (W'.setCell ⟨gv, 4, none⟩ vn') l b r vi vn' is (ns ++ [t]) := by
  obtain ⟨vi0, hv⟩ := h.vb
  have hlt := h.rows.lt.2
  have hgl := h.gl
  have hgvl := h.gvl
  have hks := h.keep.size
  have hb : ∀ j, j < w.heap.size → W'.heap[j]? = W.heap[j]? := fun j hj => hg.block j (by omega) (fun e => by have := (hlt j e.symm).1; omega)
  have hs := hg.size
  have hG : W'.grownBy (W'.setCell ⟨gv, 4, none⟩ vn') (some gv) := Vl.set1_grown W' gv 4 vn'
  have hv' := Lib.heap_setCell_same (i := 4) ((hb gv hgvl).trans hv) vn'
  exact ⟨(hG.block g (by omega) (fun e => by cases e; exact h.ne rfl)).trans ((hb g hgl).trans h.rb), ⟨vi0, hv'⟩, (h.rows.name hown hg hat).keep hG hgvl, (h.keep.step hg (fun x e => Or.inr (Or.inr (hlt x e).1))).step hG (fun x e => by cases e; exact Or.inr (Or.inl rfl)), hgl, hgvl, h.ne⟩
theorem Vl.RState.box4 {F g gv k : Nat} {w W W' : World} {l : List UInt8} {b : Bool} {r : Int} {vi vn : Value} {is : List Vl.V} {ns : List ByteArray} (h : Vl.RState F g gv k w W l b r vi vn is ns) (hg : W.grownBy W' vn.ownBlock) : W'.cell? ⟨gv, 4, none⟩ = some vn ∧ W'.frozen? ⟨gv, 4, none⟩ = false := by
  obtain ⟨vi0, hv⟩ := h.vb
  have hlt := h.rows.lt.2
  have hgvl := h.gvl
  have hks := h.keep.size
  have hv' := (hg.block gv (by omega) (fun e => by have := (hlt gv e.symm).1; omega)).trans hv
  exact ⟨(Vl.five_of hv').2.2.2.2, (Vl.fiveF_of hv').2.2.2.2⟩
theorem Vl.RState.nameBox {F g gv k : Nat} {w W W' : World} {l : List UInt8} {b : Bool} {r : Int} {vi vn vn' : Value} {is : List Vl.V} {ns : List ByteArray} (h : Vl.RState F g gv k w W l b r vi vn is ns) (hg : W.grownBy W' vn.ownBlock)
    (hv : W.heap[gv]? = some (.cells #[.int .u8 (k : Nat), .string ⟨#[]⟩, .int .i64 0, vi, vn] 26 (0, 0))) :
    (W'.setCell ⟨gv, 4, none⟩ vn').heap[gv]? = some (.cells #[.int .u8 (k : Nat), .string ⟨#[]⟩, .int .i64 0, vi, vn'] 26 (0, 0)) := by
  have hlt := h.rows.lt.2
  have hgvl := h.gvl
  have hks := h.keep.size
  exact Lib.heap_setCell_same (i := 4) ((hg.block gv (by omega) (fun e => by have := (hlt gv e.symm).1; omega)).trans hv) vn'
end Go.Proofs.YtckcbdnlligndaaDoor
