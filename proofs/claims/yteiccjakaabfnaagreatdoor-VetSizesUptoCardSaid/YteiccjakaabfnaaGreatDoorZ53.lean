/-
  Small facts of the heap that the walks of value lean on: new blocks, boxes of one cell and of five, what is kept but for one block; results that lie in a box. No condition but those that the theorems state.
  What tokens read as; rows of tokens of the call's own. No condition but those that the theorems state.
  What a law's slice of tokens reads as, opened for the walks, with the bulk of its texts. No condition but the form's own reach.
-/
import Derived.Test.YteiccjakaabfnaaGreatDoorZ47
import Derived.Deep.RegionHeld3
import Derived.Deep.Cut
import Derived.Lib.BufferWrite
import Derived.Test.YteiccjakaabfnaaGreatDoorRows
import Derived.Test.YteiccjakaabfnaaGreatDoorScPlain
import Derived.Test.YteiccjakaabfnaaGreatDoorZ52
import Derived.Deep.Slices
import Derived.ChangeArms
namespace Go.Proofs.YteiccjakaabfnaaGreatDoor
open Go.RowKit

theorem Vl.new (w : World) (o : Obj) : (w.alloc o).heap[w.heap.size]? = some o := by
  show (w.heap.push _)[w.heap.size]? = _
  simp
theorem Vl.newAt (w : World) (o : Obj) (n : Nat) (h : n = w.heap.size) : (w.alloc o).heap[n]? = some o := by subst h; exact Vl.new w o
theorem Vl.past (w : World) (o : Obj) (n : Nat) (h : n < w.heap.size) : (w.alloc o).heap[n]? = w.heap[n]? := by
  show (w.heap.push _)[n]? = _
  rw [Array.getElem?_push_lt h, Array.getElem?_eq_getElem h]
theorem Vl.five_of {w : World} {g : Nat} {a b c d e : Value} {t : TypeId} (h : w.heap[g]? = some (.cells #[a, b, c, d, e] t (0, 0))) :
    w.cell? ⟨g, 0, none⟩ = some a ∧ w.cell? ⟨g, 1, none⟩ = some b ∧ w.cell? ⟨g, 2, none⟩ = some c ∧ w.cell? ⟨g, 3, none⟩ = some d ∧ w.cell? ⟨g, 4, none⟩ = some e :=
  ⟨by rw [Lib.cell_of_heap h]; rfl, by rw [Lib.cell_of_heap h]; rfl, by rw [Lib.cell_of_heap h]; rfl, by rw [Lib.cell_of_heap h]; rfl, by rw [Lib.cell_of_heap h]; rfl⟩
theorem Vl.fiveF_of {w : World} {g : Nat} {a b c d e : Value} {t : TypeId} (h : w.heap[g]? = some (.cells #[a, b, c, d, e] t (0, 0))) :
    w.frozen? ⟨g, 0, none⟩ = false ∧ w.frozen? ⟨g, 1, none⟩ = false ∧ w.frozen? ⟨g, 2, none⟩ = false ∧ w.frozen? ⟨g, 3, none⟩ = false ∧ w.frozen? ⟨g, 4, none⟩ = false :=
  ⟨by simp [World.frozen?, h], by simp [World.frozen?, h], by simp [World.frozen?, h], by simp [World.frozen?, h], by simp [World.frozen?, h]⟩
theorem Vl.one_of {w : World} {g : Nat} {a : Value} {t : TypeId} (h : w.heap[g]? = some (.cells #[a] t (0, 0))) : w.cell? ⟨g, 0, none⟩ = some a ∧ w.frozen? ⟨g, 0, none⟩ = false :=
  ⟨by rw [Lib.cell_of_heap h]; rfl, by simp [World.frozen?, h]⟩
theorem grownBy_trans {a b c : World} {r : Option Nat} (h : a.grownBy b r) (k : b.grownBy c r) : a.grownBy c r :=
  ⟨k.os.trans h.os, k.tape.trans h.tape, k.output.trans h.output, Nat.le_trans h.size k.size, fun i hi hne => (k.block i (Nat.lt_of_lt_of_le hi h.size) hne).trans (h.block i hi hne)⟩
theorem grownBy_refl (a : World) (r : Option Nat) : a.grownBy a r := ⟨rfl, rfl, rfl, Nat.le_refl _, fun _ _ _ => rfl⟩
theorem grownBy_drew {a b : World} {r : Option Nat} (h : a.grownBy b r) : a.grownBy b.drew r := ⟨h.os, h.tape, h.output, h.size, h.block⟩
theorem grownBy_drewN {a b : World} {r : Option Nat} (h : a.grownBy b r) (n : Nat) : a.grownBy (b.drewN n) r := ⟨h.os, h.tape, h.output, h.size, h.block⟩
theorem grownBy_of {a b : World} (h : Below a.heap.size a b) (r : Option Nat) : a.grownBy b r := ⟨h.os, h.tape, h.output, h.size, fun k hk _ => h.block k hk⟩
theorem below_grownBy {a b c : World} {B g : Nat} (h : Below B a b) (k : b.grownBy c (some g)) (hB : B ≤ g) (hs : B ≤ b.heap.size) : Below B a c := h.grown k hs (fun i e => by cases e; exact hB)
/-- A result of a struct's type that lies in a box; with one more, with two more behind it. -/
theorem Vl.ret1 {P : Program} {fn : Func} {p : Tmp} {ty : TypeId} (h : fn.results = #[.cell p ty]) (tmps : Array Value) (w : World) (g : Nat) (t : TypeId) (cs : Array Value) (d : TypeDesc) (hp : tmps.getD p undef = .pointer (some ⟨g, 0, none⟩))
    (hg : w.heap[g]? = some (.cells cs t (0, 0))) (hu : P.underlying ty = some d) (hd : (match d with | .struct _ | .array _ _ => true | _ => false) = true) (hi : (P.info? ty).map (·.size) = some cs.size) :
    (results fn tmps).run P w = .ok (.agg cs) w := by
  have hl := run_loadVar_row w g t ty cs (0, 0) d hg hu hd hi
  have hp2 : tmps[p]?.getD undef = .pointer (some ⟨g, 0, none⟩) := by simpa using hp
  simp only [results, h]
  simp [hp2, asAddr, hl]
theorem Vl.ret2 {P : Program} {fn : Func} {p u : Tmp} {ty : TypeId} (h : fn.results = #[.cell p ty, .tmp u]) (tmps : Array Value) (w : World) (g : Nat) (t : TypeId) (cs : Array Value) (d : TypeDesc) (hp : tmps.getD p undef = .pointer (some ⟨g, 0, none⟩))
    (hg : w.heap[g]? = some (.cells cs t (0, 0))) (hu : P.underlying ty = some d) (hd : (match d with | .struct _ | .array _ _ => true | _ => false) = true) (hi : (P.info? ty).map (·.size) = some cs.size) :
    (results fn tmps).run P w = .ok (.tuple #[.agg cs, tmps.getD u undef]) w := by
  have hl := run_loadVar_row w g t ty cs (0, 0) d hg hu hd hi
  have ha : (asAddr (tmps.getD p undef)).run P w = .ok ⟨g, 0, none⟩ w := by rw [hp]; rfl
  rw [results_cell_tmp h, ha, Result.andThen_ok, hl, Result.andThen_ok]
theorem Vl.res3 {fn : Func} {p u v : Tmp} {ty : TypeId} (h : fn.results = #[.cell p ty, .tmp u, .tmp v]) (tmps : Array Value) (P : Program) (w : World) :
    (results fn tmps).run P w = ((asAddr (tmps.getD p undef)).run P w).andThen fun a w => ((loadVar ty a).run P w).andThen fun x w => .ok (.tuple #[x, tmps.getD u undef, tmps.getD v undef]) w := by
  simp only [results, h]
  simp [Sem.run_bind, Result.andThen]
theorem Vl.ret3 {P : Program} {fn : Func} {p u v : Tmp} {ty : TypeId} (h : fn.results = #[.cell p ty, .tmp u, .tmp v]) (tmps : Array Value) (w : World) (g : Nat) (t : TypeId) (cs : Array Value) (d : TypeDesc) (hp : tmps.getD p undef = .pointer (some ⟨g, 0, none⟩))
    (hg : w.heap[g]? = some (.cells cs t (0, 0))) (hu : P.underlying ty = some d) (hd : (match d with | .struct _ | .array _ _ => true | _ => false) = true) (hi : (P.info? ty).map (·.size) = some cs.size) :
    (results fn tmps).run P w = .ok (.tuple #[.agg cs, tmps.getD u undef, tmps.getD v undef]) w := by
  have hl := run_loadVar_row w g t ty cs (0, 0) d hg hu hd hi
  have ha : (asAddr (tmps.getD p undef)).run P w = .ok ⟨g, 0, none⟩ w := by rw [hp]; rfl
  rw [Vl.res3 h, ha, Result.andThen_ok, hl, Result.andThen_ok]
theorem Vl.set5 {w : World} {g : Nat} {a b c d e : Value} {t : TypeId} (h : w.heap[g]? = some (.cells #[a, b, c, d, e] t (0, 0))) (a' b' c' d' e' : Value) :
    (((((w.setCell ⟨g, 0, none⟩ a').setCell ⟨g, 1, none⟩ b').setCell ⟨g, 2, none⟩ c').setCell ⟨g, 3, none⟩ d').setCell ⟨g, 4, none⟩ e').heap[g]? = some (.cells #[a', b', c', d', e'] t (0, 0)) :=
  (Lib.heap_setCell_same (i := 4) (Lib.heap_setCell_same (i := 3) (Lib.heap_setCell_same (i := 2) (Lib.heap_setCell_same (i := 1) (Lib.heap_setCell_same (i := 0) h a') b') c') d') e').trans (by simp)
theorem Vl.set5_rest (w : World) (g : Nat) (a' b' c' d' e' : Value) (j : Nat) (hj : j ≠ g) :
    (((((w.setCell ⟨g, 0, none⟩ a').setCell ⟨g, 1, none⟩ b').setCell ⟨g, 2, none⟩ c').setCell ⟨g, 3, none⟩ d').setCell ⟨g, 4, none⟩ e').heap[j]? = w.heap[j]? := by
  rw [Below.heap_setCell _ _ _ j hj, Below.heap_setCell _ _ _ j hj, Below.heap_setCell _ _ _ j hj, Below.heap_setCell _ _ _ j hj, Below.heap_setCell _ _ _ j hj]
theorem Vl.set5_size (w : World) (g : Nat) (a' b' c' d' e' : Value) :
    (((((w.setCell ⟨g, 0, none⟩ a').setCell ⟨g, 1, none⟩ b').setCell ⟨g, 2, none⟩ c').setCell ⟨g, 3, none⟩ d').setCell ⟨g, 4, none⟩ e').heap.size = w.heap.size := by
  rw [World.size_setCell, World.size_setCell, World.size_setCell, World.size_setCell, World.size_setCell]
theorem Vl.set1_grown (w : World) (g i : Nat) (v : Value) : w.grownBy (w.setCell ⟨g, i, none⟩ v) (some g) :=
  have h := (Below.refl g w).setCell (p := ⟨g, i, none⟩) (Nat.le_refl g) v
  ⟨h.os, h.tape, h.output, h.size, fun k _ hne => Below.heap_setCell w ⟨g, i, none⟩ v k (fun e => hne (by rw [e]))⟩
theorem Vl.set5_grown (w : World) (g : Nat) (a' b' c' d' e' : Value) :
    w.grownBy (((((w.setCell ⟨g, 0, none⟩ a').setCell ⟨g, 1, none⟩ b').setCell ⟨g, 2, none⟩ c').setCell ⟨g, 3, none⟩ d').setCell ⟨g, 4, none⟩ e') (some g) :=
  grownBy_trans (grownBy_trans (grownBy_trans (grownBy_trans (Vl.set1_grown _ _ _ _) (Vl.set1_grown _ _ _ _)) (Vl.set1_grown _ _ _ _)) (Vl.set1_grown _ _ _ _)) (Vl.set1_grown _ _ _ _)
end Go.Proofs.YteiccjakaabfnaaGreatDoor
namespace Go.Proofs.YteiccjakaabfnaaGreatDoor
open Go.RowKit

/-- Three cells side by side. -/
def Sc.Three (w : World) (b o : Nat) (c0 c1 c2 : Value) : Prop := w.cell? ⟨b, o, none⟩ = some c0 ∧ w.cell? ⟨b, o + 1, none⟩ = some c1 ∧ w.cell? ⟨b, o + 2, none⟩ = some c2
theorem Sc.Three.below {w w' : World} {b o : Nat} {c0 c1 c2 : Value} (h : Sc.Three w b o c0 c1 c2) (hb : Below w.heap.size w w') : Sc.Three w' b o c0 c1 c2 := by
  obtain ⟨h0, h1, h2⟩ := h
  exact ⟨(hb.cell (World.block_lt_of_cell? w _ h0)).trans h0, (hb.cell (World.block_lt_of_cell? w _ h1)).trans h1, (hb.cell (World.block_lt_of_cell? w _ h2)).trans h2⟩
/-- A token's value. -/
def Sc.Fits (t : Sc.T) (c : Nat) : Prop := (t.kind ≤ 255 ∧ t.path.length ≤ c) ∧ t.text.size ≤ 140737488351232 ∧ t.path.length ≤ 140737488351232 ∧ ∀ s ∈ t.path, s.size ≤ 140737488351232
def Sc.Tok (w : World) (v : Value) (t : Sc.T) : Prop := ∃ pn cn, v = .agg #[.int .u8 (t.kind : Nat), .string t.text, .slice pn t.path.length cn] ∧ Sc.Fits t cn ∧ Wp.At Wp.mkT w pn t.path
theorem Sc.Tok.below {w w' : World} {v : Value} {t : Sc.T} (h : Sc.Tok w v t) (hb : Below w.heap.size w w') : Sc.Tok w' v t := by
  obtain ⟨pn, cn, e, hf, hp⟩ := h
  exact ⟨pn, cn, e, hf, hp.below hb⟩
/-- The three cells of each token of a row, and what is known of it. -/
def Sc.RowIs (W : World) (p : Option Addr) (n : Nat) (G : Nat → Value → Prop) : Prop :=
  ∀ i, i < n → ∃ b off c0 c1 c2, p = some ⟨b, off, none⟩ ∧ Sc.Three W b (off + i * 3) c0 c1 c2 ∧ G i (.agg #[c0, c1, c2])
/-- Tokens side by side. -/
def Sc.G (w : World) (l : List Sc.T) (i : Nat) (v : Value) : Prop := ∃ y, l[i]? = some y ∧ Sc.Tok w v y
def Sc.At (w : World) (p : Option Addr) (l : List Sc.T) : Prop := Sc.RowIs w p l.length (Sc.G w l)
theorem Sc.At.below {w w' : World} {p : Option Addr} {l : List Sc.T} (h : Sc.At w p l) (hb : Below w.heap.size w w') : Sc.At w' p l := fun i hi => by
  obtain ⟨b, off, c0, c1, c2, hp, h3, y, hy, ht⟩ := h i hi
  exact ⟨b, off, c0, c1, c2, hp, h3.below hb, y, hy, ht.below hb⟩
theorem Sc.At.nil (w : World) (p : Option Addr) : Sc.At w p [] := fun i hi => by simp at hi
theorem Sc.Tok.shape {w : World} {u : Value} {y : Sc.T} (h : Sc.Tok w u y) : ∃ (k : Nat) (t : ByteArray) (pn : Option Addr) (nn cn : Nat), u = .agg #[.int .u8 k, .string t, .slice pn nn cn] := by
  obtain ⟨pn, cn, rfl, _⟩ := h
  exact ⟨_, _, _, _, _, rfl⟩
/-- What is read off blocks of the call's own alone, but for one. -/
def Sc.Off (B : Nat) (W : World) (blk : Option Nat) (u : Value) (y : Sc.T) : Prop := ∀ W' : World, (∀ j, B ≤ j → j < W.heap.size → some j ≠ blk → W'.heap[j]? = W.heap[j]?) → Sc.Tok W' u y
theorem Sc.Off.at {B : Nat} {W : World} {blk : Option Nat} {u : Value} {y : Sc.T} (h : Sc.Off B W blk u y) : Sc.Tok W u y := h W (fun _ _ _ _ => rfl)
/-- A row of tokens of the call's own. -/
def Sc.OwnRow (B : Nat) (W : World) (v : Value) (n : Nat) (l : List Sc.T) : Prop :=
  ∃ cs, W.ownsRow B 110 3 v n cs ∧ l.length = n ∧ ∀ i y, l[i]? = some y → ∃ c0 c1 c2, cs[i * 3]? = some c0 ∧ cs[i * 3 + 1]? = some c1 ∧ cs[i * 3 + 2]? = some c2 ∧ Sc.Off B W v.ownBlock (.agg #[c0, c1, c2]) y
theorem Sc.OwnRow.nil (B : Nat) (W : World) : Sc.OwnRow B W (.slice none 0 0) 0 [] := ⟨[], World.ownsRow_nil _ _ _ _, rfl, fun i y h => by simp at h⟩
theorem Sc.infoTok : ∃ i, Tryz.prog.info? 110 = some i ∧ i.zero = some (.agg #[.int .u8 0, .string ⟨#[]⟩, .slice none 0 0]) ∧ i.size = 3 ∧ i.bytes = 48 := info_parts (by kernel_rfl)
theorem Sc.OwnRow.grow {B : Nat} {wr w1 w2 : World} {v v' u : Value} {k : Nat} {l : List Sc.T} {y : Sc.T} {cs : List Value} {c0 c1 c2 : Value} (hs : l.length = k)
    (hO : wr.ownsRow B 110 3 v k cs) (hk : ∀ i y, l[i]? = some y → ∃ c0 c1 c2, cs[i * 3]? = some c0 ∧ cs[i * 3 + 1]? = some c1 ∧ cs[i * 3 + 2]? = some c2 ∧ Sc.Off B wr v.ownBlock (.agg #[c0, c1, c2]) y)
    (hB : B ≤ wr.heap.size) (hb : Below wr.heap.size wr w1) (hu : u = .agg #[c0, c1, c2]) (hn : Sc.Off wr.heap.size w1 none u y) (o : Obj)
    (hown : w2.ownsRow B 110 3 v' (k + 1) (cs ++ [c0, c1, c2])) (hgr : (w1.alloc o).grownBy w2 v.ownBlock) (hat : v'.ownBlock = v.ownBlock ∨ v'.ownBlock = some (w1.heap.size + 1)) : Sc.OwnRow B w2 v' (k + 1) (l ++ [y]) := by
  have hlt := hO.lt
  have hs1 := hb.size
  have hs2 : w1.heap.size + 1 ≤ w2.heap.size := by have := hgr.size; rwa [World.size_alloc] at this
  have hclen : cs.length = k * 3 := hO.1
  have hkeep : ∀ j, j < w1.heap.size → some j ≠ v.ownBlock → w2.heap[j]? = w1.heap[j]? := fun j hj hne => (hgr.block j (by rw [World.size_alloc]; omega) hne).trans (Vl.past _ _ _ hj)
  have hne' : ∀ j, j < w1.heap.size → some j ≠ v.ownBlock → some j ≠ v'.ownBlock := fun j hj hne => by
    rcases hat with h | h
    · rw [h]; exact hne
    · rw [h]; intro e; cases e; omega
  refine ⟨_, hown, by rw [List.length_append, hs]; rfl, fun i z hz => ?_⟩
  by_cases hi : i < k
  · rw [List.getElem?_append_left (by omega)] at hz
    obtain ⟨a0, a1, a2, e0, e1, e2, hoff⟩ := hk i z hz
    refine ⟨a0, a1, a2, ?_, ?_, ?_, fun W' hW => hoff W' (fun j h1 h2 h3 => ?_)⟩
    · rw [List.getElem?_append_left (by omega)]; exact e0
    · rw [List.getElem?_append_left (by omega)]; exact e1
    · rw [List.getElem?_append_left (by omega)]; exact e2
    · have hj1 : j < w1.heap.size := by omega
      exact (hW j h1 (by omega) (hne' j hj1 h3)).trans ((hkeep j hj1 h3).trans (hb.block j h2))
  · have hik : i = k := by
      obtain ⟨h, _⟩ := List.getElem?_eq_some_iff.1 hz
      rw [List.length_append, hs] at h
      simp at h
      omega
    subst hik
    rw [← hs, List.getElem?_concat_length] at hz
    cases hz
    have key : ∀ j q, (cs ++ [c0, c1, c2])[i * 3 + j]? = q ↔ [c0, c1, c2][j]? = q := fun j q => by
      rw [List.getElem?_append_right (by omega), hclen, Nat.add_sub_cancel_left]
    refine ⟨c0, c1, c2, (key 0 _).2 rfl, (key 1 _).2 rfl, (key 2 _).2 rfl, fun W' hW => ?_⟩
    rw [← hu]
    refine hn W' (fun j h1 h2 _ => ?_)
    have h3 : some j ≠ v.ownBlock := fun e => by have := (hlt j e.symm).2; omega
    exact (hW j (by omega) (by omega) (hne' j h2 h3)).trans (hkeep j h2 h3)
/-- What a row of the call's own reads as. -/
theorem Sc.OwnRow.at {B : Nat} {W : World} {v : Value} {n : Nat} {l : List Sc.T} (h : Sc.OwnRow B W v n l) : ∃ p c, v = .slice p n c ∧ l.length = n ∧ Sc.At W p l := by
  obtain ⟨cs, hown, hl, hk⟩ := h
  rcases hown.2 with ⟨hv, h0⟩ | ⟨g, cap, cur, hv, hg, hc, hn, hm, hs, ht⟩
  · refine ⟨none, 0, by rw [hv, h0], hl, fun i hi => by omega⟩
  · refine ⟨some ⟨g, 0, none⟩, cap, hv, hl, fun i hi => ?_⟩
    rw [hl] at hi
    obtain ⟨y, hy⟩ : ∃ y, l[i]? = some y := ⟨_, List.getElem?_eq_getElem (by omega)⟩
    obtain ⟨c0, c1, c2, e0, e1, e2, hoff⟩ := hk i y hy
    have key : ∀ j c, j < 3 → cs[i * 3 + j]? = some c → W.cell? ⟨g, 0 + i * 3 + j, none⟩ = some c := fun j c hj e => by
      rw [Lib.cell_of_heap hc, Nat.zero_add, ← Array.getElem?_toList, ← e, ← ht]
      rw [List.getElem?_take_of_lt (by omega)]
    exact ⟨g, 0, c0, c1, c2, rfl, ⟨key 0 c0 (by omega) e0, key 1 c1 (by omega) e1, key 2 c2 (by omega) e2⟩, y, hy, hoff.at⟩
theorem Sc.three_of {w : World} {g : Nat} {a b c : Value} {t : TypeId} (h : w.heap[g]? = some (.cells #[a, b, c] t (0, 0))) :
    w.cell? ⟨g, 0, none⟩ = some a ∧ w.cell? ⟨g, 1, none⟩ = some b ∧ w.cell? ⟨g, 2, none⟩ = some c :=
  ⟨by rw [Lib.cell_of_heap h]; rfl, by rw [Lib.cell_of_heap h]; rfl, by rw [Lib.cell_of_heap h]; rfl⟩
theorem Sc.threeF_of {w : World} {g : Nat} {a b c : Value} {t : TypeId} (h : w.heap[g]? = some (.cells #[a, b, c] t (0, 0))) :
    w.frozen? ⟨g, 0, none⟩ = false ∧ w.frozen? ⟨g, 1, none⟩ = false ∧ w.frozen? ⟨g, 2, none⟩ = false :=
  ⟨by simp [World.frozen?, h], by simp [World.frozen?, h], by simp [World.frozen?, h]⟩
theorem Sc.set3 {w : World} {g : Nat} {a b c : Value} {t : TypeId} (h : w.heap[g]? = some (.cells #[a, b, c] t (0, 0))) (a' b' c' : Value) :
    (((w.setCell ⟨g, 0, none⟩ a').setCell ⟨g, 1, none⟩ b').setCell ⟨g, 2, none⟩ c').heap[g]? = some (.cells #[a', b', c'] t (0, 0)) :=
  (Lib.heap_setCell_same (i := 2) (Lib.heap_setCell_same (i := 1) (Lib.heap_setCell_same (i := 0) h a') b') c').trans (by simp)
theorem Sc.set3_rest (w : World) (g : Nat) (a' b' c' : Value) (j : Nat) (hj : j ≠ g) : (((w.setCell ⟨g, 0, none⟩ a').setCell ⟨g, 1, none⟩ b').setCell ⟨g, 2, none⟩ c').heap[j]? = w.heap[j]? := by
  rw [Below.heap_setCell _ _ _ j hj, Below.heap_setCell _ _ _ j hj, Below.heap_setCell _ _ _ j hj]
theorem Sc.set3_size (w : World) (g : Nat) (a' b' c' : Value) : (((w.setCell ⟨g, 0, none⟩ a').setCell ⟨g, 1, none⟩ b').setCell ⟨g, 2, none⟩ c').heap.size = w.heap.size := by
  rw [World.size_setCell, World.size_setCell, World.size_setCell]
theorem Sc.set3_grown (w : World) (g : Nat) (a' b' c' : Value) : w.grownBy (((w.setCell ⟨g, 0, none⟩ a').setCell ⟨g, 1, none⟩ b').setCell ⟨g, 2, none⟩ c') (some g) :=
  grownBy_trans (grownBy_trans (Vl.set1_grown _ _ _ _) (Vl.set1_grown _ _ _ _)) (Vl.set1_grown _ _ _ _)
end Go.Proofs.YteiccjakaabfnaaGreatDoor
namespace Go.Proofs.YteiccjakaabfnaaGreatDoor
open Go.ChangeShapes Go.WideShapes Go.ChangeAt Go.RowKit

theorem Sc.list3 {α : Type} {l : List α} (h : l.length = 3) : ∃ a b c, l = [a, b, c] := by
  match l, h with
  | [a, b, c], _ => exact ⟨a, b, c, rfl⟩
set_option maxRecDepth 100000 in
theorem Sc.cellsT : Tryz.prog.cellsOf 35 = 1 ∧ Tryz.prog.cellsOf 23 = 1 ∧ Tryz.prog.cellsOf 110 = 3 := ⟨by kernel_rfl, by kernel_rfl, by kernel_rfl⟩
set_option maxRecDepth 100000 in
theorem Sc.bytesT : Tryz.prog.bytesOf 110 = 48 := by kernel_rfl
set_option maxRecDepth 100000 in
/-- A field of texts, with its capacity. -/
theorem Sc.open_path {H : Type} {enc : TypeId × Value → H} {W : World} {n : Nat} {v : Value} {y : DataW H × List MemPlace}
    (h : DataW.trod enc Tryz.prog W 0 (fun _ => true) true n 23 [v] = some y) (hw : ∀ q ∈ y.1.weights Tryz.prog 23, q ≤ reachBytes) :
    ∃ p c, ∃ l : List ByteArray, v = .slice p l.length c ∧ Wp.At Wp.mkT W p l ∧ l.length ≤ 140737488351232 ∧ (∀ x ∈ l, x.size ≤ 140737488351232) ∧ l.length ≤ c := by
  rcases open_strings Tryz.underlying23 Tryz.underlying9 cells_text h with ⟨hc, hx⟩ | ⟨a, len, cap, zs, hc, hb, hl, hm, hz, hx, hcell, hs⟩
  · simp only [List.cons.injEq, and_true] at hc
    exact ⟨none, 0, [], hc, Or.inl rfl, by simp, by simp, by simp⟩
  · simp only [List.cons.injEq, and_true] at hc
    subst hc
    simp only [if_true] at hz
    subst hx
    have hlen : (zs.take len).length = len := by rw [List.length_take]; omega
    have hr : len * 16 ≤ reachBytes := by
      have := hw (((strs (H := H) (zs.take len)).length + (strs (H := H) (zs.drop len)).length) * Tryz.prog.bytesOf 9) (by simp [DataW.weights, Tryz.underlying23])
      rw [bytes_text] at this
      simp only [strs, List.length_map, List.length_take, List.length_drop] at this
      omega
    simp only [reachBytes] at hr
    obtain ⟨b, off, sp⟩ := a
    refine ⟨some ⟨b, off, sp⟩, cap, zs.take len, by rw [hlen], ?_, by rw [hlen]; omega, fun x hx => ?_, by rw [hlen]; omega⟩
    · by_cases h0 : len = 0
      · left; subst h0; rfl
      · right
        have h1 := hcell 0 (by omega)
        have hsp : sp = none := by
          cases sp with
          | none => rfl
          | some x => simp [World.cell?, Addr.add] at h1; split at h1 <;> simp_all
        subst hsp
        refine ⟨b, off, rfl, fun i hi => ?_⟩
        have h2 := hcell i (by omega)
        have e : (⟨b, off, none⟩ : Addr).add i = ⟨b, off + i, none⟩ := by simp [Addr.add]
        rw [e] at h2
        rw [h2, List.getElem_take]
        have h3 : i < zs.length := by omega
        simp [List.getD, List.getElem?_eq_getElem h3, Wp.mkT]
    · have h5 := weights_text (H := H) 9 (zs.take len) x hx
      have h6 := hw x.size (by
        simp only [DataW.weights, Tryz.underlying23, List.mem_cons, List.mem_append]
        exact Or.inr (Or.inl h5))
      exact h6
theorem Sc.weightsAll_mem {H : Type} (P : Program) (e : TypeId) : ∀ (l : List (DataW H)) (d : DataW H), d ∈ l → ∀ q ∈ d.weights P e, q ∈ DataW.weightsAll P e l
  | [], d, h, _, _ => by simp at h
  | a :: l, d, h, q, hq => by
    simp only [DataW.weightsAll, List.mem_append]
    rcases List.mem_cons.1 h with rfl | h
    · exact Or.inl hq
    · exact Or.inr (Sc.weightsAll_mem P e l d h q hq)
theorem Sc.bulk_mem {H : Type} (ds : List (DataW H)) (d : DataW H) (h : d ∈ ds) : Rows.uptoBulk d ≤ Rows.uptoBulkAll ds := by
  induction ds with
  | nil => simp at h
  | cons x ds ih =>
    simp only [Rows.uptoBulkAll]
    rcases List.mem_cons.1 h with rfl | h
    · omega
    · have := ih h; omega
theorem Sc.bulk_pos {H : Type} (d : DataW H) : 1 ≤ Rows.uptoBulk d := by
  cases d with
  | lit x => cases x <;> simp [Rows.uptoBulk]
  | _ => simp [Rows.uptoBulk]
theorem Sc.bulk_count {H : Type} : ∀ ds : List (DataW H), ds.length ≤ Rows.uptoBulkAll ds
  | [] => Nat.zero_le _
  | d :: r => by
    have h1 := Sc.bulk_pos d
    have h2 := Sc.bulk_count r
    simp only [Rows.uptoBulkAll, List.length_cons]
    omega
theorem Sc.bulk_get {H : Type} {ds : List (DataW H)} (hk : Rows.uptoSmall H ds = true) (d : DataW H) (h : d ∈ ds) : Rows.uptoBulk d ≤ 1048576 := by
  have h1 : Rows.uptoBulkAll ds ≤ 1048576 := of_decide_eq_true hk
  exact Nat.le_trans (Sc.bulk_mem ds d h) h1
theorem Sc.bulk_text {H : Type} {ds : List (DataW H)} (hk : Rows.uptoSmall H ds = true) (s : ByteArray) (h : DataW.lit (.string s.data.toList) ∈ ds) : s.size ≤ 1048576 := by
  have h2 := Sc.bulk_get hk _ h
  have h3 : s.data.toList.length ≤ Rows.uptoBulk (H := H) (.lit (.string s.data.toList)) := by
    simp only [Rows.uptoBulk]
    omega
  rw [← Wp.size_len] at h3
  omega
theorem Sc.cells3 {W : World} {a : Addr} {cs : List Value} (h : W.cells? 0 a 3 = some cs) : ∃ c0 c1 c2, cs = [c0, c1, c2] ∧ a.spot = none ∧ Sc.Three W a.block a.off c0 c1 c2 := by
  obtain ⟨b, off, sp⟩ := a
  unfold World.cells? at h
  rw [if_pos (Nat.zero_le _)] at h
  simp only [List.range_succ, List.range_zero, List.nil_append, List.cons_append, List.mapM_cons, List.mapM_nil, Option.pure_def, Option.bind_eq_bind, Option.bind_eq_some_iff, Option.some.injEq] at h
  obtain ⟨c0, h0, _, ⟨c1, h1, _, ⟨c2, h2, _, rfl, rfl⟩, rfl⟩, rfl⟩ := h
  have hsp : sp = none := by
    cases sp with
    | none => rfl
    | some x => simp [World.cell?, Addr.add] at h0; split at h0 <;> simp_all
  subst hsp
  exact ⟨c0, c1, c2, rfl, rfl, by simpa [Addr.add] using h0, by simpa [Addr.add] using h1, by simpa [Addr.add] using h2⟩
set_option maxRecDepth 100000 in
theorem Sc.open_tok {H : Type} {enc : TypeId × Value → H} {W : World} (n : Nat) (cs : List Value) (y : DataW H × List MemPlace) (h : DataW.trod enc Tryz.prog W 0 (fun _ => true) true n 110 cs = some y) (hw : ∀ q ∈ y.1.weights Tryz.prog 110, q ≤ reachBytes) :
    ∃ t : Sc.T, Sc.Tok W (.agg cs.toArray) t ∧ t.text.size ≤ Rows.uptoBulk y.1 := by
  obtain ⟨z2, z4, z6⟩ := Sc.cellsT
  obtain ⟨xs, n1, hn1, rfl, hl, hlen, hf⟩ := DataW.trod_struct Tryz.underlying110 h
  rw [z6] at hl
  obtain ⟨c0, c1, c2, rfl⟩ := Sc.list3 hl
  obtain ⟨y0, y1, y2, rfl⟩ := Sc.list3 hlen
  have f0 : DataW.trod enc Tryz.prog W 0 (fun _ => true) true n1 35 [c0] = some y0 := by
    have := hf 0 _ rfl
    simpa [z2] using this
  have f1 : DataW.trod enc Tryz.prog W 0 (fun _ => true) true n1 9 [c1] = some y1 := by
    have := hf 1 _ rfl
    simpa [cells_text] using this
  have f2 : DataW.trod enc Tryz.prog W 0 (fun _ => true) true n1 23 [c2] = some y2 := by
    have := hf 2 _ rfl
    simpa [z4] using this
  simp only [DataW.weights, Tryz.underlying110, List.map_cons, List.map_nil, DataW.weightsEach, List.mem_append, List.append_nil] at hw
  obtain ⟨k, e0, _, w0⟩ := DataW.trod_int Tryz.underlying35 f0
  obtain ⟨t, e1, e1', _⟩ := DataW.trod_string Tryz.underlying9 f1
  simp only [List.cons.injEq, and_true] at e0 e1
  subst e0 e1
  have hk : 0 ≤ k ∧ k ≤ 255 := by simpa [Lit.wf, IntKind.min, IntKind.max, IntKind.signed, IntKind.bits] using w0
  obtain ⟨kn, rfl⟩ := Int.eq_ofNat_of_zero_le hk.1
  have ht : t.size ≤ 140737488351232 := by
    have := hw t.data.toList.length (Or.inr (Or.inl (by rw [e1']; simp [DataW.weights])))
    rw [← Wp.size_len] at this
    exact this
  obtain ⟨pn, cn, ns, rfl, hns, hnl, hnsz, hcap⟩ := Sc.open_path f2 (fun q hq => hw q (Or.inr (Or.inr hq)))
  refine ⟨⟨kn, t, ns⟩, ⟨pn, cn, rfl, ⟨⟨by show kn ≤ 255; omega, hcap⟩, ht, hnl, hnsz⟩, hns⟩, ?_⟩
  have hb := Sc.bulk_mem (H := H) [y0.1, y1.1, y2.1] y1.1 (by simp)
  have h1 : t.size ≤ Rows.uptoBulk y1.1 := by
    rw [e1']
    simp only [Rows.uptoBulk]
    rw [Wp.size_len]
    omega
  show t.size ≤ Rows.uptoBulk (.agg [y0.1, y1.1, y2.1])
  simp only [Rows.uptoBulk]
  omega
set_option maxRecDepth 100000 in
/-- Tokens among the arguments. -/
theorem Sc.open_toks {H : Type} {enc : TypeId × Value → H} {W : World} {base : Nat} {ts : List TypeId} {ds : List (DataW H)} (hsz : (DataW.weightsEach Tryz.prog ts ds).all (· ≤ reachBytes) = true)
    (j : Nat) {v : Value} {d : DataW H} {ps : List MemPlace} (ht : ts[j]? = some 104) (hd : ds[j]? = some d) (hval : Value.okWide Tryz.prog W .any base 104 v)
    (h : DataW.Trod enc Tryz.prog W 0 (fun _ => true) true 104 v d ps) :
    ∃ p c, ∃ l : List Sc.T, v = .slice p l.length c ∧ Sc.At W p l ∧ (l.length ≤ 140737488351232 ∧ l.length ≤ Rows.uptoBulk d) ∧ ∀ t ∈ l, t.text.size ≤ Rows.uptoBulk d := by
  obtain ⟨a0, len0, cap0, rfl⟩ := okWide_slice Tryz.underlying104 hval
  obtain ⟨fuel, hf⟩ := h
  obtain ⟨z2, z4, z6⟩ := Sc.cellsT
  have hw : ∀ q ∈ d.weights Tryz.prog 104, q ≤ reachBytes := fun q hq => by
    have := List.all_eq_true.1 hsz q (DataW.weights_mem_each ht hd q hq)
    simpa using this
  rcases DataW.trod_slice Tryz.underlying104 hf with ⟨e3, _⟩ | ⟨a, len, cap, elems, rest, n2, hn2, e3, hy3, hb, hlc, hm, hel, helem, _, _⟩
  · simp [Value.cells] at e3
    obtain ⟨rfl, rfl, rfl⟩ := e3
    exact ⟨none, 0, [], rfl, Sc.At.nil W none, ⟨by simp, Nat.zero_le _⟩, by simp⟩
  · simp [Value.cells] at e3
    obtain ⟨rfl, rfl, rfl⟩ := e3
    have hyd : d = .slice (elems.map (·.1)) (rest.map (·.1)) := by
      have := congrArg Prod.fst hy3
      simpa using this
    rw [z6] at helem
    have hlr : len0 ≤ 140737488351232 := by
      have := hw (((elems.map (·.1)).length + (rest.map (·.1)).length) * Tryz.prog.bytesOf 110) (by rw [hyd]; simp only [DataW.weights, Tryz.underlying104]; exact List.mem_cons_self)
      rw [Sc.bytesT, List.length_map, hel] at this
      simp only [reachBytes] at this
      omega
    have key : ∀ i, i < len0 → ∃ t c0 c1 c2, a.spot = none ∧ Sc.Three W a.block (a.off + i * 3) c0 c1 c2 ∧ Sc.Tok W (.agg #[c0, c1, c2]) t ∧ t.text.size ≤ Rows.uptoBulk d := by
      intro i hi
      have h1 := helem i hi
      rw [List.getElem?_eq_getElem (by omega)] at h1
      obtain ⟨cs', h2, h3⟩ := Option.bind_eq_some_iff.1 h1
      have hsp0 : a.spot = none := by
        have h1 := helem 0 (by omega)
        rw [List.getElem?_eq_getElem (by omega)] at h1
        obtain ⟨cs0, h2, _⟩ := Option.bind_eq_some_iff.1 h1
        obtain ⟨_, _, _, _, hsp, _⟩ := Sc.cells3 h2
        rw [Nat.zero_mul] at hsp
        simpa [Addr.add] using hsp
      have e : a.add (i * 3) = ⟨a.block, a.off + i * 3, none⟩ := by
        obtain ⟨b, off, sp⟩ := a
        change sp = none at hsp0
        subst hsp0
        exact Addr.add_lit _ _ _
      obtain ⟨a0, a1, a2, rfl, _, h5⟩ := Sc.cells3 h2
      have hmem : (elems[i]'(by omega)).1 ∈ elems.map (·.1) := List.mem_map.2 ⟨_, List.getElem_mem _, rfl⟩
      obtain ⟨t, hx, hbk⟩ := Sc.open_tok n2 _ _ h3 (fun q hq => hw q (by
        rw [hyd]
        simp only [DataW.weights, Tryz.underlying104, List.mem_cons, List.mem_append]
        exact Or.inr (Or.inl (Sc.weightsAll_mem _ _ _ _ hmem q hq))))
      rw [e] at h5
      refine ⟨t, a0, a1, a2, hsp0, h5, hx, Nat.le_trans hbk ?_⟩
      rw [hyd]
      have := Sc.bulk_mem _ _ hmem
      simp only [Rows.uptoBulk]
      omega
    have hall : ∀ m, m ≤ len0 → ∃ l : List Sc.T, l.length = m ∧ ∀ i (hi : i < l.length), ∃ c0 c1 c2, a.spot = none ∧ Sc.Three W a.block (a.off + i * 3) c0 c1 c2 ∧ Sc.Tok W (.agg #[c0, c1, c2]) l[i] ∧ l[i].text.size ≤ Rows.uptoBulk d := by
      intro m
      induction m with
      | zero => exact fun _ => ⟨[], rfl, fun i hi => by simp at hi⟩
      | succ m ihm =>
        intro hm'
        obtain ⟨l, hl', hi'⟩ := ihm (by omega)
        obtain ⟨x, c0, c1, c2, hsp, h5, hx, hbk⟩ := key m (by omega)
        refine ⟨l ++ [x], by simp [hl'], fun i hi => ?_⟩
        by_cases him : i < l.length
        · obtain ⟨g0, g1, g2, q1, q2, q3, q4⟩ := hi' i him
          refine ⟨g0, g1, g2, q1, q2, ?_, ?_⟩
          · rw [List.getElem_append_left him]; exact q3
          · rw [List.getElem_append_left him]; exact q4
        · have : i = m := by rw [List.length_append] at hi; simp at hi; omega
          subst this
          refine ⟨c0, c1, c2, hsp, h5, ?_, ?_⟩
          · rw [List.getElem_append_right (by omega)]
            simp only [hl', Nat.sub_self, List.getElem_cons_zero]
            exact hx
          · rw [List.getElem_append_right (by omega)]
            simp only [hl', Nat.sub_self, List.getElem_cons_zero]
            exact hbk
    obtain ⟨l, hll, hli⟩ := hall len0 (Nat.le_refl _)
    have hcnt : len0 ≤ Rows.uptoBulk d := by
      have h1 := Sc.bulk_count (elems.map (·.1))
      rw [List.length_map, hel] at h1
      rw [hyd]
      simp only [Rows.uptoBulk]
      omega
    refine ⟨some a, cap0, l, by rw [hll], fun i hi => ?_, ⟨by omega, by omega⟩, fun t htm => ?_⟩
    · obtain ⟨g0, g1, g2, hsp, q2, q3, _⟩ := hli i hi
      obtain ⟨b, off, sp⟩ := a
      change sp = none at hsp
      subst hsp
      exact ⟨b, off, g0, g1, g2, rfl, q2, l[i], List.getElem?_eq_getElem hi, q3⟩
    · obtain ⟨i, hi, rfl⟩ := List.getElem_of_mem htm
      obtain ⟨_, _, _, _, _, _, q4⟩ := hli i hi
      exact q4
end Go.Proofs.YteiccjakaabfnaaGreatDoor
