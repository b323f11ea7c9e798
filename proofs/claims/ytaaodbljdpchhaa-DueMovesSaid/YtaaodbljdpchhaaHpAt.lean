
/-
  How a slice of timers lies in memory, four cells a timer: as an argument, as a row of the call's own, and as the head of a block. No condition but those that the theorems state.
-/
import Derived.Test.YtaaodbljdpchhaaRows
import Derived.Test.YtaaodbljdpchhaaHpPlain
import Derived.WalkKit
import Derived.WalkSpells
import Derived.WalkLawsBesides
import Derived.Lib.Hide
import Derived.Laws.Rows
import Derived.Laws.OwnMore
import Derived.Maps.AppendAt
import Derived.Below
import Derived.Outline
import Derived.WalkSmall
namespace Go.Proofs.Ytaaodbljdpchhaa
open Go.RowKit

def Hp.rc (x : Int × Int × Int × Int) : List Value := [.int .i64 x.1, .int .i64 x.2.1, .int .u8 x.2.2.1, .int .i64 x.2.2.2]
def Hp.rcs (l : List (Int × Int × Int × Int)) : List Value := l.flatMap Hp.rc
theorem Hp.rcs_cons (x : Int × Int × Int × Int) (l : List (Int × Int × Int × Int)) : Hp.rcs (x :: l) = .int .i64 x.1 :: .int .i64 x.2.1 :: .int .u8 x.2.2.1 :: .int .i64 x.2.2.2 :: Hp.rcs l := rfl
theorem Hp.rcs_len (l : List (Int × Int × Int × Int)) : (Hp.rcs l).length = l.length * 4 := by
  induction l with
  | nil => rfl
  | cons x l ih => rw [Hp.rcs_cons]; simp only [List.length_cons, ih]; omega
theorem Hp.rcs_get (l : List (Int × Int × Int × Int)) (i : Nat) (hi : i < l.length) : (Hp.rcs l)[i * 4]? = some (.int .i64 l[i].1) ∧ (Hp.rcs l)[i * 4 + 1]? = some (.int .i64 l[i].2.1) ∧ (Hp.rcs l)[i * 4 + 2]? = some (.int .u8 l[i].2.2.1) ∧ (Hp.rcs l)[i * 4 + 3]? = some (.int .i64 l[i].2.2.2) := by
  induction l generalizing i with
  | nil => simp at hi
  | cons x l ih =>
    rw [Hp.rcs_cons]
    cases i with
    | zero => exact ⟨rfl, rfl, rfl, rfl⟩
    | succ i =>
      have := ih i (by simpa using hi)
      rw [show (i + 1) * 4 = i * 4 + 1 + 1 + 1 + 1 by omega]
      simpa using this
theorem Hp.rcs_append (a b : List (Int × Int × Int × Int)) : Hp.rcs (a ++ b) = Hp.rcs a ++ Hp.rcs b := by simp [Hp.rcs]
theorem Hp.rcs_one (l : List (Int × Int × Int × Int)) : ∀ u ∈ Hp.rcs l, u.oneCell' = true := by
  intro u hu
  obtain ⟨x, _, hx⟩ := List.mem_flatMap.1 hu
  simp [Hp.rc] at hx
  rcases hx with rfl | rfl | rfl | rfl <;> rfl
/-- The cells of one timer at a place. -/
def Hp.At1 (w : World) (b off : Nat) (x : Int × Int × Int × Int) : Prop :=
  w.cell? ⟨b, off, none⟩ = some (.int .i64 x.1) ∧ w.cell? ⟨b, off + 1, none⟩ = some (.int .i64 x.2.1) ∧ w.cell? ⟨b, off + 2, none⟩ = some (.int .u8 x.2.2.1) ∧ w.cell? ⟨b, off + 3, none⟩ = some (.int .i64 x.2.2.2)
theorem Hp.At1.below {w w' : World} {b off B : Nat} {x : Int × Int × Int × Int} (h : Hp.At1 w b off x) (hb : Below B w w') (hB : b < B) : Hp.At1 w' b off x :=
  ⟨(hb.cell (p := ⟨b, off, none⟩) hB).trans h.1, (hb.cell (p := ⟨b, off + 1, none⟩) hB).trans h.2.1, (hb.cell (p := ⟨b, off + 2, none⟩) hB).trans h.2.2.1, (hb.cell (p := ⟨b, off + 3, none⟩) hB).trans h.2.2.2⟩
theorem Hp.At1.lt {w : World} {b off : Nat} {x : Int × Int × Int × Int} (h : Hp.At1 w b off x) : b < w.heap.size := World.block_lt_of_cell? w _ h.1
/-- The slice of timers whose first cell is at p reads as l. -/
def Hp.At (w : World) (p : Option Addr) (l : List (Int × Int × Int × Int)) : Prop :=
  l = [] ∨ ∃ b off, p = some ⟨b, off, none⟩ ∧ ∀ i (h : i < l.length), Hp.At1 w b (off + i * 4) l[i]
theorem Hp.At.nil (w : World) (p : Option Addr) : Hp.At w p [] := Or.inl rfl
theorem Hp.At.below {w w' : World} {p : Option Addr} {l : List (Int × Int × Int × Int)} (h : Hp.At w p l) (hb : Below w.heap.size w w') : Hp.At w' p l := by
  rcases h with h | ⟨b, off, hp, hc⟩
  · exact Or.inl h
  · exact Or.inr ⟨b, off, hp, fun i hi => (hc i hi).below hb (hc i hi).lt⟩
theorem Hp.At.get {w : World} {p : Option Addr} {l : List (Int × Int × Int × Int)} (h : Hp.At w p l) (k : Nat) (hk : k < l.length) :
    ∃ b off, p = some ⟨b, off, none⟩ ∧ Hp.At1 w b (off + k * 4) l[k] := by
  rcases h with h | ⟨b, off, hp, hc⟩
  · subst h; simp at hk
  · exact ⟨b, off, hp, hc k hk⟩
theorem Hp.At.take {w : World} {p : Option Addr} {l : List (Int × Int × Int × Int)} (h : Hp.At w p l) (k : Nat) : Hp.At w p (l.take k) := by
  rcases h with h | ⟨b, off, hp, hc⟩
  · subst h; exact Or.inl (by simp)
  · exact Or.inr ⟨b, off, hp, fun i hi => by rw [List.getElem_take]; exact hc i (by simp at hi; omega)⟩
/-- A row of the call's own that reads as l. -/
def Hp.Own (w : World) (base : Nat) (v : Value) (l : List (Int × Int × Int × Int)) : Prop := w.ownsRow base 31 4 v l.length (Hp.rcs l)
theorem Hp.Own.nil (w : World) (base : Nat) : Hp.Own w base (.slice none 0 0) [] := World.ownsRow_nil _ _ _ _
/-- The head of a block reads as l; what lies behind it. -/
def Hp.Blk (w : World) (g : Nat) (l : List (Int × Int × Int × Int)) (rest : List Value) : Prop := w.heap[g]? = some (.cells (Hp.rcs l ++ rest).toArray 31 (0, 0))
theorem Hp.Blk.lt {w : World} {g : Nat} {l : List (Int × Int × Int × Int)} {rest : List Value} (h : Hp.Blk w g l rest) : g < w.heap.size := (Array.getElem?_eq_some_iff.1 h).1
theorem Hp.Blk.cell {w : World} {g : Nat} {l : List (Int × Int × Int × Int)} {rest : List Value} (h : Hp.Blk w g l rest) (i : Nat) (hi : i < l.length) : Hp.At1 w g (i * 4) l[i] := by
  have hw := Hp.rcs_get l i hi
  have hl := Hp.rcs_len l
  have key : ∀ j v, (Hp.rcs l)[j]? = some v → w.cell? ⟨g, j, none⟩ = some v := by
    intro j v hv
    rw [Lib.cell_of_heap h, List.getElem?_toArray, List.getElem?_append_left (List.getElem?_eq_some_iff.1 hv).1]
    exact hv
  exact ⟨key _ _ hw.1, key _ _ hw.2.1, key _ _ hw.2.2.1, key _ _ hw.2.2.2⟩
theorem Hp.Blk.frozen {w : World} {g : Nat} {l : List (Int × Int × Int × Int)} {rest : List Value} (h : Hp.Blk w g l rest) (j : Nat) : w.frozen? ⟨g, j, none⟩ = false := by
  unfold Hp.Blk at h
  simp [World.frozen?, h]
theorem Hp.Blk.at {w : World} {g : Nat} {l : List (Int × Int × Int × Int)} {rest : List Value} (h : Hp.Blk w g l rest) : Hp.At w (some ⟨g, 0, none⟩) l :=
  Or.inr ⟨g, 0, rfl, fun i hi => by rw [Nat.zero_add]; exact h.cell i hi⟩
theorem Hp.Blk.own {w : World} {g base cap : Nat} {l : List (Int × Int × Int × Int)} {rest : List Value} (h : Hp.Blk w g l rest) (hg : base ≤ g) (hc : cap * 4 = l.length * 4 + rest.length) (hm : cap ≤ maxLen) : Hp.Own w base (.slice (some ⟨g, 0, none⟩) l.length cap) l :=
  ⟨Hp.rcs_len l, Or.inr ⟨g, cap, _, rfl, hg, h, by omega, hm, by simp [Hp.rcs_len]; omega, by rw [List.take_append_of_le_length (by rw [Hp.rcs_len]; omega), List.take_of_length_le (by rw [Hp.rcs_len]; omega)]⟩⟩
theorem Hp.Own.blk {w : World} {base : Nat} {v : Value} {l : List (Int × Int × Int × Int)} (h : Hp.Own w base v l) : (l = [] ∧ v = .slice none 0 0) ∨ ∃ g cap rest, v = .slice (some ⟨g, 0, none⟩) l.length cap ∧ base ≤ g ∧ Hp.Blk w g l rest ∧ cap * 4 = l.length * 4 + rest.length ∧ cap ≤ maxLen := by
  rcases h.2 with ⟨hv, h0⟩ | ⟨g, cap, cur, hv, hg, hc, hn, hm, hs, ht⟩
  · exact Or.inl ⟨List.length_eq_zero_iff.1 h0, hv⟩
  · refine Or.inr ⟨g, cap, cur.toList.drop (l.length * 4), hv, hg, ?_, ?_, hm⟩
    · unfold Hp.Blk
      rw [hc, ← ht, List.take_append_drop]
    · have hsz : cur.toList.length = cap * 4 := by rw [← hs]; simp
      rw [List.length_drop, hsz]; omega
theorem Hp.Own.at {w : World} {base : Nat} {v : Value} {l : List (Int × Int × Int × Int)} (h : Hp.Own w base v l) : ∃ p c, v = .slice p l.length c ∧ Hp.At w p l := by
  rcases h.blk with ⟨h0, hv⟩ | ⟨g, cap, rest, hv, _, hB, _⟩
  · exact ⟨none, 0, by rw [hv, h0]; rfl, Or.inl h0⟩
  · exact ⟨_, _, hv, hB.at⟩
theorem Hp.Own.mono {w : World} {base base' : Nat} {v : Value} {l : List (Int × Int × Int × Int)} (h : Hp.Own w base v l) (hb : base' ≤ base) : Hp.Own w base' v l := by
  refine ⟨h.1, ?_⟩
  rcases h.2 with h2 | ⟨g, cap, cur, hv, hg, r⟩
  · exact Or.inl h2
  · exact Or.inr ⟨g, cap, cur, hv, by omega, r⟩
theorem Hp.Own.below {w w' : World} {base : Nat} {v : Value} {l : List (Int × Int × Int × Int)} (h : Hp.Own w base v l) (hb : Below w.heap.size w w') : Hp.Own w' base v l :=
  World.ownsRow.kept (row := none) h ⟨hb.os, hb.tape, hb.output, hb.size, fun k hk _ => hb.block k hk⟩ (Classical.em _)
theorem Hp.Own.lt {w : World} {base : Nat} {v : Value} {l : List (Int × Int × Int × Int)} (h : Hp.Own w base v l) : ∀ k, v.ownBlock = some k → base ≤ k ∧ k < w.heap.size := World.ownsRow.lt h
theorem hp_new (w : World) (o : Obj) : (w.alloc o).heap[w.heap.size]? = some o := by
  show (w.heap.push o)[w.heap.size]? = _
  simp
theorem hp_past (w : World) (o : Obj) (n : Nat) (h : n < w.heap.size) : (w.alloc o).heap[n]? = w.heap[n]? := by
  show (w.heap.push o)[n]? = _
  rw [Array.getElem?_push, if_neg (by omega)]
theorem hp_box (w : World) (o : Obj) : Below w.heap.size w (w.alloc o) := (Below.refl _ _).alloc (Nat.le_refl _) o
theorem hp_then {w0 w1 w2 : World} {B : Nat} (h1 : Below B w0 w1) (h2 : Below w1.heap.size w1 w2) (hB : B ≤ w1.heap.size) : Below B w0 w2 := h1.trans (h2.mono hB)
theorem infoTimer : ∃ i, Try.prog.info? 31 = some i ∧ i.zero = some (.agg #[.int .i64 0, .int .i64 0, .int .u8 0, .int .i64 0]) ∧ i.size = 4 ∧ i.bytes = 32 := info_parts (by kernel_rfl)
/-- A box of one timer. -/
theorem Hp.box {w : World} {g : Nat} {a b c d : Value} {t : TypeId} (h : w.heap[g]? = some (.cells #[a, b, c, d] t (0, 0))) : w.cell? ⟨g, 0, none⟩ = some a ∧ w.cell? ⟨g, 1, none⟩ = some b ∧ w.cell? ⟨g, 2, none⟩ = some c ∧ w.cell? ⟨g, 3, none⟩ = some d := by
  refine ⟨?_, ?_, ?_, ?_⟩ <;> (rw [Lib.cell_of_heap h]; rfl)
theorem Hp.boxed {w : World} {g : Nat} {x : Int × Int × Int × Int} {t : TypeId} (h : w.heap[g]? = some (.cells #[.int .i64 x.1, .int .i64 x.2.1, .int .u8 x.2.2.1, .int .i64 x.2.2.2] t (0, 0))) : Hp.At1 w g 0 x := by
  obtain ⟨a, b, c, d⟩ := Hp.box h
  exact ⟨a, b, c, d⟩
end Go.Proofs.Ytaaodbljdpchhaa
