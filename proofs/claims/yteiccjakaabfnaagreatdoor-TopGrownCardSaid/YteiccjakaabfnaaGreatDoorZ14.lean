/-
  What a slice's value reads as, a Builder's contents, and a slice that a call has made, kept where only new memory has come. No condition but those that the theorems state.
  append onto a row of the call's own whose elements are one cell each, of a slice that lies anywhere; as a step of a region that draws its order, too. No condition but those that the theorems state.
-/
import Derived.Test.YteiccjakaabfnaaGreatDoorProg
import Derived.Test.YteiccjakaabfnaaGreatDoorPlain
import Derived.WalkKit
import Derived.WalkSpells
import Derived.WalkLawsBesides
import Derived.Lib.Hide
import Derived.Lib.Strings
import Derived.Shelf.Strings.Builder1
import Derived.Deep.AppendSrc
import Derived.Deep.RegionLaw
import Derived.Maps.AppendAt
namespace Go.Proofs.YteiccjakaabfnaaGreatDoor
open Go.RowKit

/-- The slice whose first cell is at p reads as l: each cell holds its part. -/
def Wp.At {α : Type} (mk : α → Value) (w : World) (p : Option Addr) (l : List α) : Prop :=
  l = [] ∨ ∃ b off, p = some ⟨b, off, none⟩ ∧ ∀ i (h : i < l.length), w.cell? ⟨b, off + i, none⟩ = some (mk l[i])
theorem Wp.At.below {α : Type} {mk : α → Value} {w w' : World} {p : Option Addr} {l : List α} (h : Wp.At mk w p l) (hb : Below w.heap.size w w') : Wp.At mk w' p l := by
  rcases h with h | ⟨b, off, hp, hc⟩
  · exact Or.inl h
  · exact Or.inr ⟨b, off, hp, fun i hi => (hb.cell (World.block_lt_of_cell? w _ (hc i hi))).trans (hc i hi)⟩
theorem Wp.At.get {α : Type} {mk : α → Value} {w : World} {p : Option Addr} {l : List α} (h : Wp.At mk w p l) (k : Nat) (hk : k < l.length) :
    ∃ b off, p = some ⟨b, off, none⟩ ∧ w.cell? ⟨b, off + k, none⟩ = some (mk l[k]) := by
  rcases h with h | ⟨b, off, hp, hc⟩
  · subst h; simp at hk
  · exact ⟨b, off, hp, hc k hk⟩
theorem isBuilder_below {T e : TypeId} {B b : Nat} {bs : List Value} {w w' : World} (h : Lib.IsBuilder T e B b bs w) (hb : Below w.heap.size w w') : Lib.IsBuilder T e B b bs w' := by
  have key : ∀ p, Lib.BuilderAt T e B b p bs w → Lib.BuilderAt T e B b p bs w' := by
    intro p h
    have hlt := h.lt
    obtain ⟨hB, v, hc, hown, hne⟩ := h
    exact ⟨hB, v, (hb.block b hlt).trans hc, hown.kept (row := none) ⟨hb.os, hb.tape, hb.output, hb.size, fun k hk _ => hb.block k hk⟩ (Classical.em _), hne⟩
  rcases h with h | h
  · exact Or.inl (key _ h)
  · exact Or.inr (key _ h)
theorem isBuilder_new (T e : TypeId) (w : World) : Lib.IsBuilder T e w.heap.size w.heap.size [] (w.alloc (.cells #[.pointer none, .slice none 0 0] T)) := by
  refine Or.inl ⟨Nat.le_refl _, .slice none 0 0, ?_, World.ownsRow_nil _ _ _ _, by simp [Value.ownBlock]⟩
  show (w.heap.push _)[w.heap.size]? = _
  simp
theorem ownsRow_below {w w' : World} {base : Nat} {e : TypeId} {size : Nat} {v : Value} {n : Nat} {xs : List Value} (h : w.ownsRow base e size v n xs) (hb : Below w.heap.size w w') : w'.ownsRow base e size v n xs :=
  h.kept (row := none) ⟨hb.os, hb.tape, hb.output, hb.size, fun k hk _ => hb.block k hk⟩ (Classical.em _)
theorem owns_at {α : Type} {mk : α → Value} {w : World} {base : Nat} {e : TypeId} {v : Value} {l : List α} (h : w.ownsRow base e 1 v l.length (l.map mk)) :
    ∃ p c, v = .slice p l.length c ∧ Wp.At mk w p l := by
  rcases h.2 with ⟨hv, h0⟩ | ⟨g, cap, cur, hv, hg, hc, hn, hm, hs, ht⟩
  · exact ⟨none, 0, by rw [hv, h0], Or.inl (List.length_eq_zero_iff.1 h0)⟩
  · refine ⟨some ⟨g, 0, none⟩, cap, hv, Or.inr ⟨g, 0, rfl, fun i hi => ?_⟩⟩
    have h1 : w.cell? ⟨g, 0 + i, none⟩ = cur[0 + i]? := Lib.cell_of_heap hc _
    rw [h1, Nat.zero_add]
    have h2 : (cur.toList.take (l.length * 1))[i]? = (l.map mk)[i]? := by rw [ht]
    rw [List.getElem?_take_of_lt (by omega), List.getElem?_map, List.getElem?_eq_getElem hi] at h2
    rw [Array.getElem?_toList] at h2
    exact h2
theorem below_grown {w w' w0 : World} {base : Nat} {e : TypeId} {v : Value} {n : Nat} {xs : List Value} (hb : Below w0.heap.size w0 w) (ho : w.ownsRow base e 1 v n xs) (hbase : w0.heap.size ≤ base) (hg : w.grownBy w' v.ownBlock) : Below w0.heap.size w0 w' :=
  hb.grown hg hb.size (fun k hk => Nat.le_trans hbase (ho.lt k hk).1)
def Wp.mkN (x : Int) : Value := .int .i64 x
def Wp.mkT (x : ByteArray) : Value := .string x
end Go.Proofs.YteiccjakaabfnaaGreatDoor
namespace Go.Proofs.YteiccjakaabfnaaGreatDoor
open Go.RowKit

def Wp.mkB (x : Bool) : Value := .bool x
structure Ow.Ty (t e : TypeId) (z : Value) : Prop where
  und : Tryz.prog.underlying t = some (.slice e)
  inf : ∃ i, Tryz.prog.info? e = some i ∧ i.zero = some z ∧ i.size = 1 ∧ i.bytes ≤ 16
  one : z.cells.size = 1
theorem Ow.append {α : Type} {mk : α → Value} (h1 : ∀ x, (mk x).oneCell' = true) {t e : TypeId} {z : Value} (hT : Ow.Ty t e z) (l m : List α) (v : Value) (q : Option Addr) (n c : Nat) (base : Nat) (ty : TypeId) (w : World) (hO : w.ownsRow base e 1 v l.length (l.map mk)) (hA : Wp.At mk w q m) (hn : n = m.length) (hl : l.length ≤ 3000000) (hm : m.length ≤ 3000000) (hb : base ≤ w.heap.size) :
    ∃ v' w', (Builtin.append_ #[t, t] ty #[v, .slice q n c]).run Tryz.prog w = .ok v' w' ∧ w'.ownsRow base e 1 v' (l ++ m).length ((l ++ m).map mk) ∧ w.grownBy w' v.ownBlock := by
  obtain ⟨i0, hi, hz0, hz1, hz2⟩ := hT.inf
  subst hn
  have hone : ∀ u ∈ m.map mk, u.oneCell' = true := by
    intro u hu
    obtain ⟨x, _, rfl⟩ := List.mem_map.1 hu
    exact h1 x
  cases q with
  | some ad =>
    have hnews : ∀ j u, (m.map mk)[j]? = some u → w.cell? (ad.add j) = some u := by
      intro j u hj
      rcases hA with rfl | ⟨b, off, hp, hc⟩
      · simp at hj
      · cases hp
        obtain ⟨hjl, hje⟩ := List.getElem?_eq_some_iff.1 hj
        rw [List.length_map] at hjl
        rw [List.getElem_map] at hje
        rw [show (⟨b, off, none⟩ : Addr).add j = ⟨b, off + j, none⟩ by simp [Addr.add], hc j hjl, hje]
    have hbb : (l.length + m.length) * i0.bytes ≤ 140737488355328 := by
      have := Nat.mul_le_mul (show l.length + m.length ≤ 6000000 by omega) hz2
      omega
    obtain ⟨v', w', hr, h2, h3, _, _⟩ := run_append_own_at (P := Tryz.prog) w base t ty e i0 z 1 i0.bytes hT.und hi hz0 hz1 rfl hT.one (by decide) v l.length (l.map mk) hO ad m.length c (m.map mk) (by rw [List.length_map, Nat.mul_one]) hnews hone (by unfold maxLen; omega) hbb hb
    refine ⟨v', w', hr, ?_, h3⟩
    rw [List.map_append, List.length_append]
    exact h2
  | none =>
    have hm0 : m = [] := by
      rcases hA with h | ⟨b, off, hp, _⟩
      · exact h
      · cases hp
    subst hm0
    rw [List.append_nil]
    rcases hO.2 with ⟨rfl, h0⟩ | ⟨g, cap, cur, rfl, hg, hc, hn, hm2, hs, ht⟩
    · refine ⟨.slice none 0 0, w, ?_, hO, ⟨rfl, rfl, rfl, Nat.le_refl _, fun _ _ _ => rfl⟩⟩
      have hf := run_firstCells_none (P := Tryz.prog) w i0.size 0 0 c
      simp [Builtin.append_, run_underlying hT.und, sizeOf, typeInfo, hi, Builtin.lenOf, hf]
    · refine ⟨.slice (some ⟨g, 0, none⟩) l.length cap, w, ?_, hO, ⟨rfl, rfl, rfl, Nat.le_refl _, fun _ _ _ => rfl⟩⟩
      exact run_append_room_src (P := Tryz.prog) w t t ty e i0 hT.und hi g 0 l.length cap (.slice none 0 c) 0 [] (Src.ofNil w hT.und c) (by omega) (by simp) (by simp)
theorem Ow.step {ops : Array Oper} {o : Oper} {a : Act} {w : World} {K : Act → World → Prop} {Q : Exit → Act → World → Prop} {E : Prop} {α : Type} {mk : α → Value}
    (hg : o.guard = none) (s x : Operand) (t : TypeId) (hop : o.op = Op.call { callee := Callee.builtin Builtin.append, args := #[s, x], argTypes := #[t, t] })
    (h1 : ∀ x, (mk x).oneCell' = true) {e : TypeId} {z : Value} (hT : Ow.Ty t e z) (l m : List α) (v : Value) (q : Option Addr) (n c : Nat) (base : Nat) (hs : a.eval s = v) (hx : a.eval x = .slice q n c)
    (hO : w.ownsRow base e 1 v l.length (l.map mk)) (hA : Wp.At mk w q m) (hn : n = m.length) (hl : l.length ≤ 3000000) (hm : m.length ≤ 3000000) (hb : base ≤ w.heap.size)
    (hK : ∀ v' w', w'.ownsRow base e 1 v' (l ++ m).length ((l ++ m).map mk) → w.grownBy w' v.ownBlock → K (a.put o.dst v') w') :
    if Region.wanted o (yielded ops a.tmps) = true then Oper.wp Tryz.prog o a w K Q else E := by
  have hw : Region.wanted o (yielded ops a.tmps) = true := by simp [Region.wanted, hg]
  rw [if_pos hw]
  obtain ⟨v', w', hr, h2, h3⟩ := Ow.append h1 hT l m v q n c base o.type w hO hA hn hl hm hb
  unfold Oper.wp
  simp [execOp, hop, resolve, invoke, builtin, hs, hx, hr, Result.andThen]
  exact hK v' w' h2 h3
section
variable (W : World) (t : TypeId) (o : Obj) (x : Value)
/-- An empty literal; with a new cell behind it; with one ahead of it. -/
theorem Ow.a1 : ((W.alloc (.cells #[] t)).drew).ownsRow W.heap.size t 1 (.slice (some ⟨W.heap.size, 0, none⟩) 0 0) 0 [] := World.ownsRow_made W #[] 0 (Nat.le_refl _) (Nat.zero_le _) rfl
theorem Ow.b1 : (((W.alloc (.cells #[] t)).alloc o).drew).ownsRow W.heap.size t 1 (.slice (some ⟨W.heap.size, 0, none⟩) 0 0) 0 [] := (World.ownsRow_made W #[] 0 (Nat.le_refl _) (Nat.zero_le _) rfl).alloc o
theorem Ow.c1 : (((W.alloc o).alloc (.cells #[] t)).drew).ownsRow W.heap.size t 1 (.slice (some ⟨W.heap.size + 1, 0, none⟩) 0 0) 0 [] := by
  have h := World.ownsRow_made (base := W.heap.size) (e := t) (size := 1) (W.alloc o) #[] 0 (by rw [World.size_alloc]; omega) (Nat.zero_le _) rfl
  rw [World.size_alloc] at h
  exact h
theorem Ow.a2 : Below W.heap.size W (W.alloc o).drew := ((Below.refl _ _).alloc (Nat.le_refl _) o).drew
theorem Ow.b2 (o' : Obj) : Below W.heap.size W ((W.alloc o).alloc o').drew := (((Below.refl _ _).alloc (Nat.le_refl _) o).alloc (by rw [World.size_alloc]; omega) o').drew
theorem Ow.b3 : (((W.alloc o).alloc (.cells #[x] t)).drew).cell? ⟨W.heap.size + 1, 0, none⟩ = some x := by
  have h : (((W.alloc o).alloc (.cells #[x] t)).drew).heap[(W.alloc o).heap.size]? = some (.cells #[x] t (0, 0)) := heap_alloc_new (W.alloc o) _
  rw [World.size_alloc] at h
  rw [Lib.cell_of_heap h]; rfl
theorem Ow.c3 : (((W.alloc (.cells #[x] t)).alloc o).drew).cell? ⟨W.heap.size, 0, none⟩ = some x := by
  have h : (((W.alloc (.cells #[x] t)).alloc o).drew).heap[W.heap.size]? = some (.cells #[x] t (0, 0)) := (show ((W.alloc (.cells #[x] t)).heap.push o)[W.heap.size]? = _ by rw [Array.getElem?_push, if_neg (by rw [World.size_alloc]; omega)]).trans (heap_alloc_new W _)
  rw [Lib.cell_of_heap h]; rfl
theorem Ow.n3 : (W.alloc (.cells #[x] t)).cell? ⟨W.heap.size, 0, none⟩ = some x := by
  rw [Lib.cell_of_heap (heap_alloc_new W _)]; rfl
end
theorem Ow.one {α : Type} {mk : α → Value} {w : World} {g : Nat} {x : α} (h : w.cell? ⟨g, 0, none⟩ = some (mk x)) : Wp.At mk w (some ⟨g, 0, none⟩) [x] := by
  refine Or.inr ⟨g, 0, rfl, fun i hi => ?_⟩
  obtain rfl : i = 0 := by simp at hi; omega
  exact h
theorem Ow.grown {w0 w w' : World} {base : Nat} {e : TypeId} {v : Value} {n : Nat} {xs : List Value} (h : Below base w0 w) (hO : w.ownsRow base e 1 v n xs) (hg : w.grownBy w' v.ownBlock) (hb : base ≤ w.heap.size) : Below base w0 w' := h.grown hg hb (fun k hk => (hO.lt k hk).1)
end Go.Proofs.YteiccjakaabfnaaGreatDoor
