
/-
  What holds at each round of a loop that appends records to a region: for the laws TrailTorn and TopLogged. No condition but those that the theorems state.
-/
import Derived.Test.YtpmhgfjnabgilabDoorTrCalls
import Derived.Test.YtpmhgfjnabgilabDoorTrTorn
import Derived.Test.YtpmhgfjnabgilabDoorCrash
import Derived.Test.YtpmhgfjnabgilabDoorSameT
namespace Go.Proofs.YtpmhgfjnabgilabDoor
open Go.RowKit

/-- What holds at each round of the loop that appends. -/
structure Tt.Rel (N f : Nat) (w : World) (g B kk : Nat) (used v : Value) (wr : World) : Prop where
  ex : ∃ (D : Wp.Dev) (had : List ByteArray) (pb : Option Addr) (cb : Nat) (pw : Option Addr) (cw : Nat), used = .int .i64 ((Tr.allB had).length : Nat) ∧ had.length = kk ∧ (Tr.allB had).length ≤ 4 * kk ∧ Tr.St D N f had ∧
    wr.heap[g]? = some (.cells #[.slice pb D.bl.length cb, .slice pw D.ws.length cw, .int .i64 D.fu, .bool D.dn] 38 (0, 0)) ∧
    Wp.DevAt wr (.agg #[.slice pb D.bl.length cb, .slice pw D.ws.length cw, .int .i64 D.fu, .bool D.dn]) D ∧ wr.ownsRow B 9 1 v had.length (had.map Wp.mkT)
  below : Below w.heap.size w wr
  le : B ≤ wr.heap.size
theorem Tt.take_pre (l : List ByteArray) (r : ByteArray) : (l ++ [r]).take l.length = l := List.take_left' rfl
theorem Tt.get_mid (l : List ByteArray) (r : ByteArray) (h : l.length < (l ++ [r]).length) : (l ++ [r])[l.length] = r := by
  rw [List.getElem_append_right (Nat.le_refl _)]; simp
/-- A row of texts reads as it did when a box is written. -/
theorem at_four_box {w : World} {g : Nat} {p : Option Addr} {l : List ByteArray} {a b : Option Addr} {n1 c1 n2 c2 : Nat} {i : Int} {q : Bool} {T : TypeId} (h : Wp.At Wp.mkT w p l) (hb : w.heap[g]? = some (.cells #[.slice a n1 c1, .slice b n2 c2, .int .i64 i, .bool q] T (0, 0))) (x y z u : Value) :
    Wp.At Wp.mkT ((((w.setCell ⟨g, 0, none⟩ x).setCell ⟨g, 1, none⟩ y).setCell ⟨g, 2, none⟩ z).setCell ⟨g, 3, none⟩ u) p l := by
  rcases h with h | ⟨b0, off, hp, hc⟩
  · exact Or.inl h
  · refine Or.inr ⟨b0, off, hp, fun j hj => ?_⟩
    by_cases e : b0 = g
    · exfalso
      have h2 := hc j hj
      rw [e, Lib.cell_of_heap hb] at h2
      generalize off + j = o at h2
      match o, h2 with
      | 0, h2 => simp [Wp.mkT] at h2
      | 1, h2 => simp [Wp.mkT] at h2
      | 2, h2 => simp [Wp.mkT] at h2
      | 3, h2 => simp [Wp.mkT] at h2
      | o + 4, h2 => simp at h2
    · exact (World.cell?_of_block (a := ⟨b0, off + j, none⟩) (four_rest w g x y z u b0 e)).trans (hc j hj)
/-- What stands where a device was put by, and stored into the box. -/
theorem Tt.stored {w wr w3 : World} {g B : Nat} {a b x y va : Value} {n : Nat} {c1 c2 : Nat} {p1 p2 : Option Addr} {l : List Value} {d' : Wp.Dev} (hB : Below w.heap.size w wr) (hg : w.heap.size ≤ g) (hgl : g < wr.heap.size) (hgB : g < B)
    (hbx : wr.heap[g]? = some (.cells #[a, b, x, y] 38 (0, 0))) (hb3 : Below wr.heap.size wr w3) (hO : Wp.OwnDev w3 wr.heap.size (.agg #[.slice p1 d'.bl.length c1, .slice p2 d'.ws.length c2, .int .i64 d'.fu, .bool d'.dn]) d')
    (hr : wr.ownsRow B 9 1 va n l) (W : World) (hW : W = (((((w3.alloc (.cells #[.slice p1 d'.bl.length c1, .slice p2 d'.ws.length c2, .int .i64 d'.fu, .bool d'.dn] 38)).setCell ⟨g, 0, none⟩ (.slice p1 d'.bl.length c1)).setCell ⟨g, 1, none⟩ (.slice p2 d'.ws.length c2)).setCell ⟨g, 2, none⟩ (.int .i64 d'.fu)).setCell ⟨g, 3, none⟩ (.bool d'.dn))) :
    W.heap[g]? = some (.cells #[.slice p1 d'.bl.length c1, .slice p2 d'.ws.length c2, .int .i64 d'.fu, .bool d'.dn] 38 (0, 0)) ∧ W.ownsRow B 9 1 va n l ∧ (∀ k, va.ownBlock = some k → k < wr.heap.size) ∧
    Wp.OwnDev W wr.heap.size (.agg #[.slice p1 d'.bl.length c1, .slice p2 d'.ws.length c2, .int .i64 d'.fu, .bool d'.dn]) d' ∧ Below w.heap.size w W ∧ wr.heap.size < W.heap.size := by
  subst hW
  have s3 := hb3.size
  have sB := hB.size
  have hbz := hb3.alloc hb3.size (.cells #[.slice p1 d'.bl.length c1, .slice p2 d'.ws.length c2, .int .i64 d'.fu, .bool d'.dn] 38)
  have hx3 := (hbz.block g hgl).trans hbx
  refine ⟨four_set hx3 _ _ _ _, ownsRow_at2 (ownsRow_below hr hbz) (fun k hk => four_rest _ _ _ _ _ _ k (by have := (hr.lt k hk).1; omega)), fun k hk => (hr.lt k hk).2, ?_, four_below (hB.trans (hbz.mono sB)) hg _ _ _ _, by rw [set4_size, World.size_alloc]; omega⟩
  refine (hO.rest (w' := w3.alloc _) (fun k _ hk => alloc_past _ _ _ hk)).rest (fun k hk _ => four_rest _ _ _ _ _ _ k (by omega))
/-- What stands where the row has grown. -/
theorem Tt.grown {w wr W w5 : World} {g B : Nat} {va : Value} {n : Nat} {l : List Value} {d' : Wp.Dev} {p1 p2 : Option Addr} {c1 c2 : Nat} {x : Value} {t : TypeId} (hB : Below w.heap.size w W) (hg : w.heap.size ≤ g) (hgB : g < B) (hsz : wr.heap.size < W.heap.size) (hgl : g < wr.heap.size) (hBl : B ≤ wr.heap.size)
    (hX : W.heap[g]? = some (.cells #[.slice p1 d'.bl.length c1, .slice p2 d'.ws.length c2, .int .i64 d'.fu, .bool d'.dn] 38 (0, 0))) (hr : W.ownsRow B 9 1 va n l) (hlt : ∀ k, va.ownBlock = some k → k < wr.heap.size)
    (hO : Wp.OwnDev W wr.heap.size (.agg #[.slice p1 d'.bl.length c1, .slice p2 d'.ws.length c2, .int .i64 d'.fu, .bool d'.dn]) d') (hgr : (W.alloc (.cells #[x] t)).grownBy w5 va.ownBlock) :
    w5.heap[g]? = some (.cells #[.slice p1 d'.bl.length c1, .slice p2 d'.ws.length c2, .int .i64 d'.fu, .bool d'.dn] 38 (0, 0)) ∧ Wp.DevAt w5 (.agg #[.slice p1 d'.bl.length c1, .slice p2 d'.ws.length c2, .int .i64 d'.fu, .bool d'.dn]) d' ∧ Below w.heap.size w w5 ∧ B ≤ w5.heap.size := by
  have sB := hB.size
  have s5 := hgr.size
  rw [World.size_alloc] at s5
  have hkeep : ∀ k, k < W.heap.size → some k ≠ va.ownBlock → w5.heap[k]? = W.heap[k]? := fun k hk hne => (hgr.block k (by rw [World.size_alloc]; omega) hne).trans (alloc_past _ _ _ hk)
  refine ⟨(hkeep g (by omega) (fun e => by have := (hr.lt g e.symm).1; omega)).trans hX, (hO.rest (fun k hk hkl => hkeep k hkl (fun e => by have := hlt k e.symm; omega))).devAt, ?_, by omega⟩
  exact (hB.alloc sB _).grown hgr (by rw [World.size_alloc]; omega) (fun k hk => by have := (hr.lt k hk).1; omega)
end Go.Proofs.YtpmhgfjnabgilabDoor
