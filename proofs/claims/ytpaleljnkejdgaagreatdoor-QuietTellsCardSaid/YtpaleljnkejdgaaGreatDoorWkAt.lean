/-
  How a slice of ranges lies in memory, two cells a range: as an argument, and as a row of the call's own. No condition but those that the theorems state.
-/
import Derived.Test.YtpaleljnkejdgaaGreatDoorRows
import Derived.Test.YtpaleljnkejdgaaGreatDoorWkPlain
import Derived.WalkKit
import Derived.WalkSpells
import Derived.WalkLawsBesides
import Derived.Lib.Hide
import Derived.Laws.Rows
import Derived.Laws.OwnMore
import Derived.Maps.AppendAt
import Derived.Below
import Derived.Outline
import Derived.WalkSmall
namespace Go.Proofs.YtpaleljnkejdgaaGreatDoor
open Go.RowKit

def Wk.rc (x : Int × Int) : List Value := [.int .i64 x.1, .int .i64 x.2]
def Wk.rcs (l : List (Int × Int)) : List Value := l.flatMap Wk.rc
theorem Wk.rcs_len (l : List (Int × Int)) : (Wk.rcs l).length = l.length * 2 := by
  induction l with
  | nil => rfl
  | cons x l ih => simp only [Wk.rcs, List.flatMap_cons, List.length_append, List.length_cons] at ih ⊢; rw [ih]; simp [Wk.rc]; omega
theorem Wk.rcs_get (l : List (Int × Int)) (i : Nat) (hi : i < l.length) : (Wk.rcs l)[i * 2]? = some (.int .i64 l[i].1) ∧ (Wk.rcs l)[i * 2 + 1]? = some (.int .i64 l[i].2) := by
  induction l generalizing i with
  | nil => simp at hi
  | cons x l ih =>
    have e : Wk.rcs (x :: l) = .int .i64 x.1 :: .int .i64 x.2 :: Wk.rcs l := rfl
    rw [e]
    cases i with
    | zero => exact ⟨rfl, rfl⟩
    | succ i =>
      have := ih i (by simpa using hi)
      rw [show (i + 1) * 2 = i * 2 + 1 + 1 by omega]
      simpa using this
theorem Wk.rcs_append (a b : List (Int × Int)) : Wk.rcs (a ++ b) = Wk.rcs a ++ Wk.rcs b := by simp [Wk.rcs]
/-- The slice of ranges whose first cell is at p reads as l. -/
def Wk.At (w : World) (p : Option Addr) (l : List (Int × Int)) : Prop :=
  l = [] ∨ ∃ b off, p = some ⟨b, off, none⟩ ∧ ∀ i (h : i < l.length), w.cell? ⟨b, off + i * 2, none⟩ = some (.int .i64 l[i].1) ∧ w.cell? ⟨b, off + i * 2 + 1, none⟩ = some (.int .i64 l[i].2)
theorem Wk.At.nil (w : World) (p : Option Addr) : Wk.At w p [] := Or.inl rfl
theorem Wk.At.below {w w' : World} {p : Option Addr} {l : List (Int × Int)} (h : Wk.At w p l) (hb : Below w.heap.size w w') : Wk.At w' p l := by
  rcases h with h | ⟨b, off, hp, hc⟩
  · exact Or.inl h
  · exact Or.inr ⟨b, off, hp, fun i hi => ⟨(hb.cell (World.block_lt_of_cell? w _ (hc i hi).1)).trans (hc i hi).1, (hb.cell (World.block_lt_of_cell? w _ (hc i hi).2)).trans (hc i hi).2⟩⟩
theorem Wk.At.get {w : World} {p : Option Addr} {l : List (Int × Int)} (h : Wk.At w p l) (k : Nat) (hk : k < l.length) :
    ∃ b off, p = some ⟨b, off, none⟩ ∧ w.cell? ⟨b, off + k * 2, none⟩ = some (.int .i64 l[k].1) ∧ w.cell? ⟨b, off + k * 2 + 1, none⟩ = some (.int .i64 l[k].2) := by
  rcases h with h | ⟨b, off, hp, hc⟩
  · subst h; simp at hk
  · exact ⟨b, off, hp, hc k hk⟩
/-- A row of the call's own that reads as l. -/
def Wk.Own (w : World) (base : Nat) (v : Value) (l : List (Int × Int)) : Prop := w.ownsRow base 56 2 v l.length (Wk.rcs l)
theorem Wk.Own.nil (w : World) (base : Nat) : Wk.Own w base (.slice none 0 0) [] := World.ownsRow_nil _ _ _ _
theorem Wk.Own.at {w : World} {base : Nat} {v : Value} {l : List (Int × Int)} (h : Wk.Own w base v l) : ∃ p c, v = .slice p l.length c ∧ Wk.At w p l := by
  rcases h.2 with ⟨hv, h0⟩ | ⟨g, cap, cur, hv, hg, hc, hn, hm, hs, ht⟩
  · exact ⟨none, 0, by rw [hv, h0], Or.inl (List.length_eq_zero_iff.1 h0)⟩
  · refine ⟨some ⟨g, 0, none⟩, cap, hv, Or.inr ⟨g, 0, rfl, fun i hi => ?_⟩⟩
    have key : ∀ j v, j < l.length * 2 → (Wk.rcs l)[j]? = some v → w.cell? ⟨g, 0 + j, none⟩ = some v := by
      intro j v hj hv
      rw [Lib.cell_of_heap hc, Nat.zero_add, ← Array.getElem?_toList, ← List.getElem?_take_of_lt hj, ht]
      exact hv
    have hw := Wk.rcs_get l i hi
    refine ⟨key (i * 2) _ (by omega) hw.1, ?_⟩
    rw [Nat.add_assoc]
    exact key (i * 2 + 1) _ (by omega) hw.2
theorem Wk.Own.mono {w : World} {base base' : Nat} {v : Value} {l : List (Int × Int)} (h : Wk.Own w base v l) (hb : base' ≤ base) : Wk.Own w base' v l := by
  refine ⟨h.1, ?_⟩
  rcases h.2 with h2 | ⟨g, cap, cur, hv, hg, r⟩
  · exact Or.inl h2
  · exact Or.inr ⟨g, cap, cur, hv, by omega, r⟩
theorem Wk.Own.below {w w' : World} {base : Nat} {v : Value} {l : List (Int × Int)} (h : Wk.Own w base v l) (hb : Below w.heap.size w w') : Wk.Own w' base v l :=
  World.ownsRow.kept (row := none) h ⟨hb.os, hb.tape, hb.output, hb.size, fun k hk _ => hb.block k hk⟩ (Classical.em _)
theorem Wk.Own.lt {w : World} {base : Nat} {v : Value} {l : List (Int × Int)} (h : Wk.Own w base v l) : ∀ k, v.ownBlock = some k → base ≤ k ∧ k < w.heap.size := World.ownsRow.lt h
theorem wk_new (w : World) (o : Obj) : (w.alloc o).heap[w.heap.size]? = some o := by
  show (w.heap.push o)[w.heap.size]? = _
  simp
theorem wk_past (w : World) (o : Obj) (n : Nat) (h : n < w.heap.size) : (w.alloc o).heap[n]? = w.heap[n]? := by
  show (w.heap.push o)[n]? = _
  rw [Array.getElem?_push, if_neg (by omega)]
theorem wk_box (w : World) (o : Obj) : Below w.heap.size w (w.alloc o) := (Below.refl _ _).alloc (Nat.le_refl _) o
theorem wk_then {w0 w1 w2 : World} {B : Nat} (h1 : Below B w0 w1) (h2 : Below w1.heap.size w1 w2) (hB : B ≤ w1.heap.size) : Below B w0 w2 := h1.trans (h2.mono hB)
theorem wk_grown_alloc {w w' : World} {o : Obj} {row : Option Nat} (h : (w.alloc o).grownBy w' row) : w.grownBy w' row :=
  ⟨h.os, h.tape, h.output, by have := h.size; rw [World.size_alloc] at this; omega, fun k hk hne => (h.block k (by rw [World.size_alloc]; omega) hne).trans (wk_past w o k hk)⟩
theorem wk_grown_refl (w : World) (row : Option Nat) : w.grownBy w row := ⟨rfl, rfl, rfl, Nat.le_refl _, fun _ _ _ => rfl⟩
theorem wk_grown_below {w w' : World} {base : Nat} {v : Value} {l : List (Int × Int)} (h : w.grownBy w' v.ownBlock) (hO : Wk.Own w base v l) (hb : base ≤ w.heap.size) : Below base w w' :=
  (Below.refl _ _).grown h hb (fun k hk => (hO.lt k hk).1)
theorem infoRange : ∃ i, Tryz.prog.info? 56 = some i ∧ i.zero = some (.agg #[.int .i64 0, .int .i64 0]) ∧ i.size = 2 ∧ i.bytes = 16 := info_parts (by kernel_rfl)
/-- A box of two cells. -/
def Wk.Two (w : World) (g : Nat) (a b : Value) : Prop :=
  w.cell? ⟨g, 0, none⟩ = some a ∧ w.cell? ⟨g, 1, none⟩ = some b ∧ w.frozen? ⟨g, 0, none⟩ = false ∧ w.frozen? ⟨g, 1, none⟩ = false
theorem Wk.two_of {w : World} {g : Nat} {a b : Value} {t : TypeId} (h : w.heap[g]? = some (.cells #[a, b] t (0, 0))) : Wk.Two w g a b := by
  refine ⟨?_, ?_, ?_, ?_⟩
  · rw [Lib.cell_of_heap h]; rfl
  · rw [Lib.cell_of_heap h]; rfl
  · simp [World.frozen?, h]
  · simp [World.frozen?, h]
end Go.Proofs.YtpaleljnkejdgaaGreatDoor
