/-
  What tokens read as; rows of tokens of the call's own. No condition but those that the theorems state.
  The words that tags begin with, in their table, and the walks of scan's kindOf and hasPath. Condition: the table reads as it is laid.
  The walks of scan's pathRight and Path: a path's names, a word's. Conditions: the table of keywords reads as it is laid; a text takes no more than a machine holds.
-/
import Derived.Test.YtckcbdnlligndaaDoorRows
import Derived.Test.YtckcbdnlligndaaDoorScX
import Derived.Test.YtckcbdnlligndaaDoorVlKit
import Derived.Lib.BufferMore
namespace Go.Proofs.YtckcbdnlligndaaDoor
open Go.RowKit

/-- Three cells side by side. -/
def Sc.Three (w : World) (b o : Nat) (c0 c1 c2 : Value) : Prop := w.cell? ⟨b, o, none⟩ = some c0 ∧ w.cell? ⟨b, o + 1, none⟩ = some c1 ∧ w.cell? ⟨b, o + 2, none⟩ = some c2
theorem Sc.Three.below {w w' : World} {b o : Nat} {c0 c1 c2 : Value} (h : Sc.Three w b o c0 c1 c2) (hb : Below w.heap.size w w') : Sc.Three w' b o c0 c1 c2 := by
  obtain ⟨h0, h1, h2⟩ := h
  exact ⟨(hb.cell (World.block_lt_of_cell? w _ h0)).trans h0, (hb.cell (World.block_lt_of_cell? w _ h1)).trans h1, (hb.cell (World.block_lt_of_cell? w _ h2)).trans h2⟩
/-- A token's value. -/
def Sc.Fits (t : Sc.T) : Prop := t.kind ≤ 255 ∧ t.text.size ≤ 140737488351232 ∧ t.path.length ≤ 140737488351232 ∧ ∀ s ∈ t.path, s.size ≤ 140737488351232
def Sc.Tok (w : World) (v : Value) (t : Sc.T) : Prop := ∃ pn cn, v = .agg #[.int .u8 (t.kind : Nat), .string t.text, .slice pn t.path.length cn] ∧ Sc.Fits t ∧ Wp.At Wp.mkT w pn t.path
theorem Sc.Tok.below {w w' : World} {v : Value} {t : Sc.T} (h : Sc.Tok w v t) (hb : Below w.heap.size w w') : Sc.Tok w' v t := by
  obtain ⟨pn, cn, e, hf, hp⟩ := h
  exact ⟨pn, cn, e, hf, hp.below hb⟩
/-- The three cells of each token of a row, and what is known of it. -/
def Sc.RowIs (W : World) (p : Option Addr) (n : Nat) (G : Nat → Value → Prop) : Prop :=
  ∀ i, i < n → ∃ b off c0 c1 c2, p = some ⟨b, off, none⟩ ∧ Sc.Three W b (off + i * 3) c0 c1 c2 ∧ G i (.agg #[c0, c1, c2])
/-- Tokens side by side. -/
def Sc.G (w : World) (l : List Sc.T) (i : Nat) (v : Value) : Prop := ∃ y, l[i]? = some y ∧ Sc.Tok w v y
def Sc.At (w : World) (p : Option Addr) (l : List Sc.T) : Prop := Sc.RowIs w p l.length (Sc.G w l)
theorem Sc.At.below {w w' : World} {p : Option Addr} {l : List Sc.T} (h : Sc.At w p l) (hb : Below w.heap.size w w') : Sc.At w' p l := fun i hi => by
  obtain ⟨b, off, c0, c1, c2, hp, h3, y, hy, ht⟩ := h i hi
  exact ⟨b, off, c0, c1, c2, hp, h3.below hb, y, hy, ht.below hb⟩
theorem Sc.At.nil (w : World) (p : Option Addr) : Sc.At w p [] := fun i hi => by simp at hi
theorem Sc.Tok.shape {w : World} {u : Value} {y : Sc.T} (h : Sc.Tok w u y) : ∃ (k : Nat) (t : ByteArray) (pn : Option Addr) (nn cn : Nat), u = .agg #[.int .u8 k, .string t, .slice pn nn cn] := by
  obtain ⟨pn, cn, rfl, _⟩ := h
  exact ⟨_, _, _, _, _, rfl⟩
/-- What is read off blocks of the call's own alone, but for one. -/
def Sc.Off (B : Nat) (W : World) (blk : Option Nat) (u : Value) (y : Sc.T) : Prop := ∀ W' : World, (∀ j, B ≤ j → j < W.heap.size → some j ≠ blk → W'.heap[j]? = W.heap[j]?) → Sc.Tok W' u y
theorem Sc.Off.at {B : Nat} {W : World} {blk : Option Nat} {u : Value} {y : Sc.T} (h : Sc.Off B W blk u y) : Sc.Tok W u y := h W (fun _ _ _ _ => rfl)
/-- A row of tokens of the call's own. -/
def Sc.OwnRow (B : Nat) (W : World) (v : Value) (n : Nat) (l : List Sc.T) : Prop :=
  ∃ cs, W.ownsRow B 51 3 v n cs ∧ l.length = n ∧ ∀ i y, l[i]? = some y → ∃ c0 c1 c2, cs[i * 3]? = some c0 ∧ cs[i * 3 + 1]? = some c1 ∧ cs[i * 3 + 2]? = some c2 ∧ Sc.Off B W v.ownBlock (.agg #[c0, c1, c2]) y
theorem Sc.OwnRow.nil (B : Nat) (W : World) : Sc.OwnRow B W (.slice none 0 0) 0 [] := ⟨[], World.ownsRow_nil _ _ _ _, rfl, fun i y h => by simp at h⟩
theorem Sc.infoTok : ∃ i, Tryd.prog.info? 51 = some i ∧ i.zero = some (.agg #[.int .u8 0, .string ⟨#[]⟩, .slice none 0 0]) ∧ i.size = 3 ∧ i.bytes = 48 := info_parts (by kernel_rfl)
theorem Sc.OwnRow.grow {B : Nat} {wr w1 w2 : World} {v v' u : Value} {k : Nat} {l : List Sc.T} {y : Sc.T} {cs : List Value} {c0 c1 c2 : Value} (hs : l.length = k)
    (hO : wr.ownsRow B 51 3 v k cs) (hk : ∀ i y, l[i]? = some y → ∃ c0 c1 c2, cs[i * 3]? = some c0 ∧ cs[i * 3 + 1]? = some c1 ∧ cs[i * 3 + 2]? = some c2 ∧ Sc.Off B wr v.ownBlock (.agg #[c0, c1, c2]) y)
    (hB : B ≤ wr.heap.size) (hb : Below wr.heap.size wr w1) (hu : u = .agg #[c0, c1, c2]) (hn : Sc.Off wr.heap.size w1 none u y) (o : Obj)
    (hown : w2.ownsRow B 51 3 v' (k + 1) (cs ++ [c0, c1, c2])) (hgr : (w1.alloc o).grownBy w2 v.ownBlock) (hat : v'.ownBlock = v.ownBlock ∨ v'.ownBlock = some (w1.heap.size + 1)) : Sc.OwnRow B w2 v' (k + 1) (l ++ [y]) := by
  have hlt := hO.lt
  have hs1 := hb.size
  have hs2 : w1.heap.size + 1 ≤ w2.heap.size := by have := hgr.size; rwa [World.size_alloc] at this
  have hclen : cs.length = k * 3 := hO.1
  have hkeep : ∀ j, j < w1.heap.size → some j ≠ v.ownBlock → w2.heap[j]? = w1.heap[j]? := fun j hj hne => (hgr.block j (by rw [World.size_alloc]; omega) hne).trans (Vl.past _ _ _ hj)
  have hne' : ∀ j, j < w1.heap.size → some j ≠ v.ownBlock → some j ≠ v'.ownBlock := fun j hj hne => by
    rcases hat with h | h
    · rw [h]; exact hne
    · rw [h]; intro e; cases e; omega
  refine ⟨_, hown, by rw [List.length_append, hs]; rfl, fun i z hz => ?_⟩
  by_cases hi : i < k
  · rw [List.getElem?_append_left (by omega)] at hz
    obtain ⟨a0, a1, a2, e0, e1, e2, hoff⟩ := hk i z hz
    refine ⟨a0, a1, a2, ?_, ?_, ?_, fun W' hW => hoff W' (fun j h1 h2 h3 => ?_)⟩
    · rw [List.getElem?_append_left (by omega)]; exact e0
    · rw [List.getElem?_append_left (by omega)]; exact e1
    · rw [List.getElem?_append_left (by omega)]; exact e2
    · have hj1 : j < w1.heap.size := by omega
      exact (hW j h1 (by omega) (hne' j hj1 h3)).trans ((hkeep j hj1 h3).trans (hb.block j h2))
  · have hik : i = k := by
      obtain ⟨h, _⟩ := List.getElem?_eq_some_iff.1 hz
      rw [List.length_append, hs] at h
      simp at h
      omega
    subst hik
    rw [← hs, List.getElem?_concat_length] at hz
    cases hz
    have key : ∀ j q, (cs ++ [c0, c1, c2])[i * 3 + j]? = q ↔ [c0, c1, c2][j]? = q := fun j q => by
      rw [List.getElem?_append_right (by omega), hclen, Nat.add_sub_cancel_left]
    refine ⟨c0, c1, c2, (key 0 _).2 rfl, (key 1 _).2 rfl, (key 2 _).2 rfl, fun W' hW => ?_⟩
    rw [← hu]
    refine hn W' (fun j h1 h2 _ => ?_)
    have h3 : some j ≠ v.ownBlock := fun e => by have := (hlt j e.symm).2; omega
    exact (hW j (by omega) (by omega) (hne' j h2 h3)).trans (hkeep j h2 h3)
/-- What a row of the call's own reads as. -/
theorem Sc.OwnRow.at {B : Nat} {W : World} {v : Value} {n : Nat} {l : List Sc.T} (h : Sc.OwnRow B W v n l) : ∃ p c, v = .slice p n c ∧ l.length = n ∧ Sc.At W p l := by
  obtain ⟨cs, hown, hl, hk⟩ := h
  rcases hown.2 with ⟨hv, h0⟩ | ⟨g, cap, cur, hv, hg, hc, hn, hm, hs, ht⟩
  · refine ⟨none, 0, by rw [hv, h0], hl, fun i hi => by omega⟩
  · refine ⟨some ⟨g, 0, none⟩, cap, hv, hl, fun i hi => ?_⟩
    rw [hl] at hi
    obtain ⟨y, hy⟩ : ∃ y, l[i]? = some y := ⟨_, List.getElem?_eq_getElem (by omega)⟩
    obtain ⟨c0, c1, c2, e0, e1, e2, hoff⟩ := hk i y hy
    have key : ∀ j c, j < 3 → cs[i * 3 + j]? = some c → W.cell? ⟨g, 0 + i * 3 + j, none⟩ = some c := fun j c hj e => by
      rw [Lib.cell_of_heap hc, Nat.zero_add, ← Array.getElem?_toList, ← e, ← ht]
      rw [List.getElem?_take_of_lt (by omega)]
    exact ⟨g, 0, c0, c1, c2, rfl, ⟨key 0 c0 (by omega) e0, key 1 c1 (by omega) e1, key 2 c2 (by omega) e2⟩, y, hy, hoff.at⟩
theorem Sc.three_of {w : World} {g : Nat} {a b c : Value} {t : TypeId} (h : w.heap[g]? = some (.cells #[a, b, c] t (0, 0))) :
    w.cell? ⟨g, 0, none⟩ = some a ∧ w.cell? ⟨g, 1, none⟩ = some b ∧ w.cell? ⟨g, 2, none⟩ = some c :=
  ⟨by rw [Lib.cell_of_heap h]; rfl, by rw [Lib.cell_of_heap h]; rfl, by rw [Lib.cell_of_heap h]; rfl⟩
theorem Sc.threeF_of {w : World} {g : Nat} {a b c : Value} {t : TypeId} (h : w.heap[g]? = some (.cells #[a, b, c] t (0, 0))) :
    w.frozen? ⟨g, 0, none⟩ = false ∧ w.frozen? ⟨g, 1, none⟩ = false ∧ w.frozen? ⟨g, 2, none⟩ = false :=
  ⟨by simp [World.frozen?, h], by simp [World.frozen?, h], by simp [World.frozen?, h]⟩
theorem Sc.set3 {w : World} {g : Nat} {a b c : Value} {t : TypeId} (h : w.heap[g]? = some (.cells #[a, b, c] t (0, 0))) (a' b' c' : Value) :
    (((w.setCell ⟨g, 0, none⟩ a').setCell ⟨g, 1, none⟩ b').setCell ⟨g, 2, none⟩ c').heap[g]? = some (.cells #[a', b', c'] t (0, 0)) :=
  (Lib.heap_setCell_same (i := 2) (Lib.heap_setCell_same (i := 1) (Lib.heap_setCell_same (i := 0) h a') b') c').trans (by simp)
theorem Sc.set3_rest (w : World) (g : Nat) (a' b' c' : Value) (j : Nat) (hj : j ≠ g) : (((w.setCell ⟨g, 0, none⟩ a').setCell ⟨g, 1, none⟩ b').setCell ⟨g, 2, none⟩ c').heap[j]? = w.heap[j]? := by
  rw [Below.heap_setCell _ _ _ j hj, Below.heap_setCell _ _ _ j hj, Below.heap_setCell _ _ _ j hj]
theorem Sc.set3_size (w : World) (g : Nat) (a' b' c' : Value) : (((w.setCell ⟨g, 0, none⟩ a').setCell ⟨g, 1, none⟩ b').setCell ⟨g, 2, none⟩ c').heap.size = w.heap.size := by
  rw [World.size_setCell, World.size_setCell, World.size_setCell]
theorem Sc.set3_grown (w : World) (g : Nat) (a' b' c' : Value) : w.grownBy (((w.setCell ⟨g, 0, none⟩ a').setCell ⟨g, 1, none⟩ b').setCell ⟨g, 2, none⟩ c') (some g) :=
  grownBy_trans (grownBy_trans (Vl.set1_grown _ _ _ _) (Vl.set1_grown _ _ _ _)) (Vl.set1_grown _ _ _ _)
end Go.Proofs.YtckcbdnlligndaaDoor
namespace Go.Proofs.YtckcbdnlligndaaDoor
open Go.RowKit

namespace Sc
def kw : Nat → ByteArray
  | 3 => ⟨#[105, 102]⟩
  | 4 => ⟨#[101, 108, 115, 101]⟩
  | 5 => ⟨#[101, 97, 99, 104]⟩
  | 6 => ⟨#[101, 110, 100]⟩
  | _ => ⟨#[]⟩
def kws : Array Value := #[.string ⟨#[]⟩, .string ⟨#[]⟩, .string ⟨#[]⟩, .string ⟨#[105, 102]⟩, .string ⟨#[101, 108, 115, 101]⟩, .string ⟨#[101, 97, 99, 104]⟩, .string ⟨#[101, 110, 100]⟩]
/-- The table as it is laid. -/
def Laid (w : World) : Prop := ∃ t fr, w.heap[0]? = some (.cells kws t fr)
theorem Laid.below {w w' : World} (h : Laid w) (hb : Below w.heap.size w w') : Laid w' := by
  obtain ⟨t, fr, h⟩ := h
  exact ⟨t, fr, (hb.block _ (Array.getElem?_eq_some_iff.1 h).1).trans h⟩
theorem Laid.cells {w : World} (h : Laid w) : w.cell? ⟨0, 0, none⟩ = some (.string ⟨#[]⟩) ∧ w.cell? ⟨0, 1, none⟩ = some (.string ⟨#[]⟩) ∧ w.cell? ⟨0, 2, none⟩ = some (.string ⟨#[]⟩) ∧ w.cell? ⟨0, 3, none⟩ = some (.string ⟨#[105, 102]⟩) ∧
    w.cell? ⟨0, 4, none⟩ = some (.string ⟨#[101, 108, 115, 101]⟩) ∧ w.cell? ⟨0, 5, none⟩ = some (.string ⟨#[101, 97, 99, 104]⟩) ∧ w.cell? ⟨0, 6, none⟩ = some (.string ⟨#[101, 110, 100]⟩) := by
  obtain ⟨t, fr, h⟩ := h
  exact ⟨by rw [Lib.cell_of_heap h]; rfl, by rw [Lib.cell_of_heap h]; rfl, by rw [Lib.cell_of_heap h]; rfl, by rw [Lib.cell_of_heap h]; rfl, by rw [Lib.cell_of_heap h]; rfl, by rw [Lib.cell_of_heap h]; rfl, by rw [Lib.cell_of_heap h]; rfl⟩
theorem kw_index (k : Nat) (hk : k < 7) (w : World) : (Instr.index 126 (.agg kws) (.int .i64 (k : Int))).run Tryd.prog w = .ok (.string (kw k)) w := by
  have hs : ∀ W, Sem.run Tryd.prog (sizeOf 9) W = .ok 1 W := fun W => Tryd.sizeOf9 W
  have hg : ∀ W, Sem.run Tryd.prog (isAgg 9) W = .ok false W := fun W => Tryd.isAgg9 W
  have hk2 : k = 0 ∨ k = 1 ∨ k = 2 ∨ k = 3 ∨ k = 4 ∨ k = 5 ∨ k = 6 := by omega
  rcases hk2 with rfl | rfl | rfl | rfl | rfl | rfl | rfl <;>
    simp [Instr.index, run_underlying Tryd.underlying126, asIntOf, hs, hg, part, Sem.run_bind, Result.andThen, kws, kw]
theorem kw_none (s : List UInt8) (h : ∀ j, j < 7 → s = (kw j).data.toList → s = []) : kindW s = 2 := by
  have key : ∀ j, j < 7 → (kw j).data.toList ≠ [] → s ≠ (kw j).data.toList := fun j hj hne e => hne (by rw [← e]; exact h j hj e)
  have h3 := key 3 (by omega) (by decide)
  have h4 := key 4 (by omega) (by decide)
  have h5 := key 5 (by omega) (by decide)
  have h6 := key 6 (by omega) (by decide)
  unfold kindW
  rw [if_neg (show ¬ s = wIf from h3), if_neg (show ¬ s = wElse from h4), if_neg (show ¬ s = wEach from h5), if_neg (show ¬ s = wEnd from h6)]
theorem kw_some (s : List UInt8) (k : Nat) (hk : k < 7) (h : s = (kw k).data.toList) (hne : s ≠ []) : kindW s = k := by
  have hk2 : k = 0 ∨ k = 1 ∨ k = 2 ∨ k = 3 ∨ k = 4 ∨ k = 5 ∨ k = 6 := by omega
  rcases hk2 with rfl | rfl | rfl | rfl | rfl | rfl | rfl
  · exact absurd h hne
  · exact absurd h hne
  · exact absurd h hne
  all_goals (subst h; decide)
theorem kindW_le (s : List UInt8) : kindW s ≤ 6 := by
  unfold kindW
  repeat' split
  all_goals omega
end Sc
set_option maxRecDepth 100000 in
set_option maxHeartbeats 1000000 in
theorem scKindOf_any (s : ByteArray) (w : World) (hT : Sc.Laid w) :
    Calls Tryd.prog 89 #[.string s] w fun e w' => e = .returned (.int .u8 ((Sc.kindW s.data.toList : Nat) : Int)) ∧ w' = w := by
  have HX := Lib.hid Sc.kw_index
  unfold Sc.kws at HX
  have HY := Lib.hid (fun k hk => Sc.kw_some s.data.toList k hk)
  have HZ := Lib.hid (Sc.kw_none s.data.toList)
  obtain ⟨R, hR⟩ : ∃ R, R = Sc.kindW s.data.toList := ⟨_, rfl⟩
  rw [← hR] at HY HZ ⊢
  obtain ⟨m0, m1, m2, m3, m4, m5, m6⟩ := hT.cells
  clear hR hT
  go_enter Tryd.func89, Tryd.ntmps89
  go_wp2_with fail
  clear m0 m1 m2 m3 m4 m5 m6
  go_loop [6] (fun i => ∃ k : Nat, k ≤ 7 ∧ i = .int .i64 k ∧ Hid (∀ j, j < k → s.data.toList = (Sc.kw j).data.toList → s.data.toList = [])) (fun i => 7 - (intOf i).toNat)
  case atStart => exact ⟨0, by omega, rfl, Lib.hid (fun j hj => absurd hj (by omega))⟩
  case round =>
    obtain ⟨k, hk, rfl, HN⟩ := hrel
    by_cases hlt : k < 7
    · have hix := HX.out k hlt
      have hye := HY.out k hlt
      by_cases hnm : s.data.toList = (Sc.kw k).data.toList ∧ s.data.toList ≠ []
      · have hr := hye hnm.1 hnm.2
        have q1 : (s.toList == (Sc.kw k).toList) = true := by rw [beq_iff_eq, Lib.toList_data, Lib.toList_data]; exact hnm.1
        have q2 : (s.toList != []) = true := by rw [bne_iff_ne, Lib.toList_data]; exact hnm.2
        have q3 : (s.toList == []) = false := by rw [beq_eq_false_iff_ne, Lib.toList_data]; exact hnm.2
        have hk0 : (0 : Int) ≤ (k : Int) := by omega
        have hk1 : (k : Int) < 7 := by omega
        have hk2 : IntKind.u8.wrap (k : Int) = (k : Int) := by rw [IntWalk.u8_in _ (by omega)]
        have HR := Lib.hid hr
        clear hnm hye HX HY HZ HN hr
        generalize Sc.kw k = nk at *
        go_wp2_with fail
        go_ret
        exact ⟨by rw [HR.out]; rfl, rfl⟩
      · have HN2 := Lib.hid (show ∀ j, j < k + 1 → s.data.toList = (Sc.kw j).data.toList → s.data.toList = [] from fun j hj e => by
          by_cases h : j < k
          · exact HN.out j h e
          · obtain rfl : j = k := by omega
            cases hs : s.data.toList with
            | nil => rfl
            | cons a t => exact absurd ⟨e, by rw [hs]; simp⟩ hnm)
        have q : (s.toList == (Sc.kw k).toList) = false ∨ ((s.toList == (Sc.kw k).toList) = true ∧ (s.toList != []) = false ∧ (s.toList == []) = true) := by
          by_cases e : s.data.toList = (Sc.kw k).data.toList
          · right
            have hs : s.data.toList = [] := by
              cases hs : s.data.toList with
              | nil => rfl
              | cons a t => exact absurd ⟨e, by rw [hs]; simp⟩ hnm
            refine ⟨by rw [beq_iff_eq, Lib.toList_data, Lib.toList_data]; exact e, ?_, ?_⟩
            · rw [Lib.toList_data, hs]; rfl
            · rw [Lib.toList_data, hs]; rfl
          · left
            rw [beq_eq_false_iff_ne, Lib.toList_data, Lib.toList_data]
            exact e
        have hk1 : (k : Int) < 7 := by omega
        clear hnm hye HX HY HZ HN
        generalize Sc.kw k = nk at hix q
        rcases q with q1 | ⟨q1, q2, q3⟩
        · go_wp2_with fail
          exact ⟨⟨k + 1, by omega, by go_num, HN2⟩, by simp [intOf]; omega⟩
        · go_wp2_with fail
          exact ⟨⟨k + 1, by omega, by go_num, HN2⟩, by simp [intOf]; omega⟩
    · obtain rfl : k = 7 := by omega
      have hr := HZ.out HN.out
      subst hr
      go_wp2_with fail
      go_ret
      exact ⟨rfl, rfl⟩
def Sc.hasP (k : Nat) : Bool := decide (k = 2) || decide (k = 3) || decide (k = 5)
set_option maxRecDepth 100000 in
theorem scHasPath_any (k : Nat) (w : World) :
    Calls Tryd.prog 90 #[.int .u8 k] w fun e w' => e = .returned (.bool (Sc.hasP k)) ∧ w' = w := by
  by_cases h2 : k = 2
  · subst h2
    go_enter Tryd.func90, Tryd.ntmps90
    go_wp2_with fail
    go_ret
    exact ⟨rfl, rfl⟩
  · by_cases h3 : k = 3
    · subst h3
      go_enter Tryd.func90, Tryd.ntmps90
      go_wp2_with fail
      go_ret
      exact ⟨rfl, rfl⟩
    · by_cases h5 : k = 5
      · subst h5
        go_enter Tryd.func90, Tryd.ntmps90
        go_wp2_with fail
        go_ret
        exact ⟨rfl, rfl⟩
      · have e : Sc.hasP k = false := by unfold Sc.hasP; rw [decide_eq_false h2, decide_eq_false h3, decide_eq_false h5]; rfl
        have q2 : ((k : Int) == 2) = false := beq_eq_false_iff_ne.2 (by omega)
        have q3 : ((k : Int) == 3) = false := beq_eq_false_iff_ne.2 (by omega)
        have q5 : ((k : Int) == 5) = false := beq_eq_false_iff_ne.2 (by omega)
        rw [e]
        go_enter Tryd.func90, Tryd.ntmps90
        go_wp2_with fail
        go_ret
        exact ⟨rfl, rfl⟩
end Go.Proofs.YtckcbdnlligndaaDoor
namespace Go.Proofs.YtckcbdnlligndaaDoor
open Go.RowKit

def Sc.rightB (p : List ByteArray) : Bool := Sc.pathOk (p.map (·.data.toList))
theorem Sc.rightB_len {p : List ByteArray} (h : p.length = 0 ∨ 4 < p.length) : Sc.rightB p = false := by
  unfold Sc.rightB Sc.pathOk
  rw [List.length_map]
  rcases h with h | h
  · rw [decide_eq_false (by omega)]; rfl
  · rw [decide_eq_false (show ¬ p.length ≤ 4 by omega), Bool.and_false]; rfl
theorem Sc.rightB_bad {p : List ByteArray} {k : Nat} (hk : k < p.length) (h : Vl.named p[k] = false) : Sc.rightB p = false := by
  unfold Sc.rightB Sc.pathOk
  have : (p.map (·.data.toList)).all Vl.nameL = false := by
    rw [Bool.eq_false_iff]
    intro h2
    have h3 := List.all_eq_true.1 h2 p[k].data.toList (List.mem_map.2 ⟨_, List.getElem_mem hk, rfl⟩)
    unfold Vl.named at h
    rw [h3] at h
    cases h
  rw [this]
  simp
theorem Sc.rightB_ok {p : List ByteArray} (h1 : 1 ≤ p.length) (h4 : p.length ≤ 4) (h : ∀ j (hj : j < p.length), Vl.named p[j] = true) : Sc.rightB p = (decide (1 < p.length) || decide (Sc.kindW (p[0]'(by omega)).data.toList = 2)) := by
  unfold Sc.rightB Sc.pathOk
  have : (p.map (·.data.toList)).all Vl.nameL = true := by
    rw [List.all_eq_true]
    intro x hx
    obtain ⟨y, hy, rfl⟩ := List.mem_map.1 hx
    obtain ⟨j, hj, rfl⟩ := List.mem_iff_getElem.1 hy
    exact h j hj
  rw [this, List.length_map, decide_eq_true h1, decide_eq_true h4]
  have : (p.map (·.data.toList)).headD [] = (p[0]'(by omega)).data.toList := by
    cases p with
    | nil => simp at h1
    | cons a t => rfl
  rw [this]
  rfl
set_option maxRecDepth 100000 in
set_option maxHeartbeats 1000000 in
theorem scPathRight_any (p : Option Addr) (c : Nat) (l : List ByteArray) (w : World) (hT : Sc.Laid w) (hm : l.length ≤ 140737488351232) (hs : ∀ s ∈ l, s.size ≤ 140737488351232) (hA : Wp.At Wp.mkT w p l) :
    Calls Tryd.prog 52 #[.slice p l.length c] w fun e w' => e = .returned (.bool (Sc.rightB l)) ∧ w' = w := by
  have HA := Lib.hid hA
  have HS := Lib.hid hs
  have HT := Lib.hid hT
  have Hlen := Lib.hid (@Sc.rightB_len l)
  have Hbad := Lib.hid (fun k hk h => @Sc.rightB_bad l k hk h)
  have Hok := Lib.hid (@Sc.rightB_ok l)
  obtain ⟨n, hn⟩ : ∃ n, n = l.length := ⟨_, rfl⟩
  have HN := Lib.hid hn
  rw [← hn] at hm ⊢
  obtain ⟨R, hR⟩ : ∃ R, R = Sc.rightB l := ⟨_, rfl⟩
  rw [← hR] at Hlen Hbad Hok ⊢
  clear hA hs hn hT hR
  by_cases h0 : n = 0
  · obtain rfl := Hlen.out (by rw [← HN.out]; exact Or.inl h0)
    subst h0
    go_enter Tryd.func52, Tryd.ntmps52
    go_wp2_with fail
    go_ret
    exact ⟨rfl, rfl⟩
  · have hne : ((n : Int) == 0) = false := beq_eq_false_iff_ne.2 (by omega)
    by_cases h4 : 4 < n
    · obtain rfl := Hlen.out (by rw [← HN.out]; exact Or.inr h4)
      go_enter Tryd.func52, Tryd.ntmps52
      go_wp2_with fail
      go_ret
      exact ⟨rfl, rfl⟩
    · go_enter Tryd.func52, Tryd.ntmps52
      go_wp2_with fail
      go_loop [15] (fun t => ∃ k : Nat, k ≤ n ∧ t = .int .i64 k ∧ Hid (∀ j (hj : j < l.length), j < k → Vl.named l[j] = true)) (fun t => n - (intOf t).toNat)
      case atStart => exact ⟨0, Nat.zero_le _, rfl, Lib.hid (fun j _ h => absurd h (by omega))⟩
      case round =>
        obtain ⟨k, hk, rfl, HK⟩ := hrel
        by_cases hlt : k < n
        · have hkl : k < l.length := by rw [← HN.out]; exact hlt
          obtain ⟨b, off, rfl, hcell⟩ := HA.out.get k hkl
          have hsz := HS.out l[k] (List.getElem_mem _)
          have hnm := vlName_any l[k] w (by omega)
          have Hb2 := Lib.hid (fun h => Hbad.out k hkl h)
          have HK2 := Lib.hid (fun (h : Vl.named l[k] = true) j (hj : j < l.length) (hjk : j < k + 1) => (show Vl.named l[j] = true by
            by_cases e : j < k
            · exact HK.out j hj e
            · obtain rfl : j = k := by omega
              exact h))
          rw [show Wp.mkT l[k] = Value.string l[k] from rfl] at hcell
          have HNm := Lib.hid hnm
          have HC : Hid (Vl.nameC l[k] = if Vl.named l[k] then 0 else 13) := Lib.hid rfl
          generalize l[k] = x at *
          have hk1 : (k : Int) < (n : Int) := by omega
          clear hnm hkl hsz
          go_wp2_with fail
          refine HNm.out.mono ?_
          rintro e w1 ⟨rfl, rfl⟩
          rw [HC.out]
          cases hv : Vl.named x with
          | true =>
            have HK3 := Lib.hid (HK2.out hv)
            clear hv
            go_wp2_with fail
            exact ⟨⟨k + 1, by omega, by go_num, HK3⟩, by simp [intOf]; omega⟩
          | false =>
            obtain rfl := Hb2.out hv
            clear hv
            go_wp2_with fail
            go_ret
            exact ⟨rfl, rfl⟩
        · obtain rfl : k = n := by omega
          have hR := Hok.out (by have := HN.out; omega) (by have := HN.out; omega) (fun j hj => HK.out j hj (by have := HN.out; omega))
          have HR := Lib.hid hR
          obtain ⟨b, off, rfl, hcell⟩ := HA.out.get 0 (by have := HN.out; omega)
          have hkd := Lib.hid (scKindOf_any (l[0]'(by have := HN.out; omega)) w HT.out)
          rw [show Wp.mkT (l[0]'(by have := HN.out; omega)) = Value.string (l[0]'(by have := HN.out; omega)) from rfl, Nat.add_zero] at hcell
          have hkle := Sc.kindW_le (l[0]'(by have := HN.out; omega)).data.toList
          generalize (l[0]'(by have := HN.out; omega)) = x at *
          rw [← HN.out] at HR
          clear hR
          by_cases h1 : 1 < k
          · have e : R = true := by rw [HR.out, decide_eq_true h1]; rfl
            subst e
            go_wp2_with fail
            go_ret
            exact ⟨rfl, rfl⟩
          · have e : R = decide (Sc.kindW x.data.toList = 2) := by rw [HR.out, decide_eq_false h1]; rfl
            have e2 : (((Sc.kindW x.data.toList : Nat) : Int) == 2) = R := by
              rw [e]
              by_cases h : Sc.kindW x.data.toList = 2
              · rw [h]; rfl
              · rw [decide_eq_false h]; exact beq_eq_false_iff_ne.2 (by omega)
            have h1i : ¬ (1 : Int) < (k : Int) := by omega
            clear e HR
            go_wp2_with fail
            refine hkd.out.mono ?_
            rintro e w1 ⟨rfl, rfl⟩
            go_wp2_with fail
            go_ret
            exact ⟨by rw [← e2]; rfl, rfl⟩
/-- What Path tells. -/
def Sc.pathR (w : List UInt8) : List ByteArray × Int := match Sc.pathP w with
  | some l => (l, 0)
  | none => ([], 13)
/-- Texts that are read off blocks of the call's own alone. -/
def Sc.OffT (B : Nat) (W : World) (p : Option Addr) (l : List ByteArray) : Prop := ∀ W' : World, (∀ j, B ≤ j → j < W.heap.size → W'.heap[j]? = W.heap[j]?) → Wp.At Wp.mkT W' p l
def Sc.PathPost (T : List ByteArray × Int) (w : World) (e : Ending) (w' : World) : Prop := ∃ p c, e = .returned (.tuple #[.slice p T.1.length c, .int .i64 T.2]) ∧ T.1.length ≤ c ∧ Sc.OffT w.heap.size w' p T.1 ∧ Below w.heap.size w w'
end Go.Proofs.YtckcbdnlligndaaDoor
