
/-
  What stands when a name was put behind. Condition: what is there is of a size that a machine holds.
-/
import Derived.Test.YtcpebkhpocdeoaaDoorVlState
namespace Go.Proofs.YtcpebkhpocdeoaaDoor
open Go.RowKit

/-- A name was put behind, and boxed. -/
theorem Vl.RState.nameApp {F g gv k : Nat} {w W W' : World} {l : List UInt8} {b : Bool} {r : Int} {vi vn vn' : Value} {is : List Vl.V} {ns : List ByteArray} {t : ByteArray} (h : Vl.RState F g gv k w W l b r vi vn is ns)
    (hown : W'.ownsRow w.heap.size 9 1 vn' (ns.length + 1) (ns.map Wp.mkT ++ [.string t])) (hg : W.grownBy W' vn.ownBlock) (hat : vn'.ownBlock = vn.ownBlock ∨ vn'.ownBlock = some W.heap.size) :
    Vl.RState F g gv k w (W'.setCell ⟨gv, 4, none⟩ vn') l b r vi vn' is (ns ++ [t]) := by
  obtain ⟨vi0, hv⟩ := h.vb
  have hlt := h.rows.lt.2
  have hgl := h.gl
  have hgvl := h.gvl
  have hks := h.keep.size
  have hb : ∀ j, j < w.heap.size → W'.heap[j]? = W.heap[j]? := fun j hj => hg.block j (by omega) (fun e => by have := (hlt j e.symm).1; omega)
  have hs := hg.size
  have hG : W'.grownBy (W'.setCell ⟨gv, 4, none⟩ vn') (some gv) := Vl.set1_grown W' gv 4 vn'
  have hv' := Lib.heap_setCell_same (i := 4) ((hb gv hgvl).trans hv) vn'
  exact ⟨(hG.block g (by omega) (fun e => by cases e; exact h.ne rfl)).trans ((hb g hgl).trans h.rb), ⟨vi0, hv'⟩, (h.rows.name hown hg hat).keep hG hgvl, (h.keep.step hg (fun x e => Or.inr (Or.inr (hlt x e).1))).step hG (fun x e => by cases e; exact Or.inr (Or.inl rfl)), hgl, hgvl, h.ne⟩
theorem Vl.RState.box4 {F g gv k : Nat} {w W W' : World} {l : List UInt8} {b : Bool} {r : Int} {vi vn : Value} {is : List Vl.V} {ns : List ByteArray} (h : Vl.RState F g gv k w W l b r vi vn is ns) (hg : W.grownBy W' vn.ownBlock) : W'.cell? ⟨gv, 4, none⟩ = some vn ∧ W'.frozen? ⟨gv, 4, none⟩ = false := by
  obtain ⟨vi0, hv⟩ := h.vb
  have hlt := h.rows.lt.2
  have hgvl := h.gvl
  have hks := h.keep.size
  have hv' := (hg.block gv (by omega) (fun e => by have := (hlt gv e.symm).1; omega)).trans hv
  exact ⟨(Vl.five_of hv').2.2.2.2, (Vl.fiveF_of hv').2.2.2.2⟩
theorem Vl.RState.nameBox {F g gv k : Nat} {w W W' : World} {l : List UInt8} {b : Bool} {r : Int} {vi vn vn' : Value} {is : List Vl.V} {ns : List ByteArray} (h : Vl.RState F g gv k w W l b r vi vn is ns) (hg : W.grownBy W' vn.ownBlock)
    (hv : W.heap[gv]? = some (.cells #[.int .u8 (k : Nat), .string ⟨#[]⟩, .int .i64 0, vi, vn] 26 (0, 0))) :
    (W'.setCell ⟨gv, 4, none⟩ vn').heap[gv]? = some (.cells #[.int .u8 (k : Nat), .string ⟨#[]⟩, .int .i64 0, vi, vn'] 26 (0, 0)) := by
  have hlt := h.rows.lt.2
  have hgvl := h.gvl
  have hks := h.keep.size
  exact Lib.heap_setCell_same (i := 4) ((hg.block gv (by omega) (fun e => by have := (hlt gv e.symm).1; omega)).trans hv) vn'
end Go.Proofs.YtcpebkhpocdeoaaDoor
