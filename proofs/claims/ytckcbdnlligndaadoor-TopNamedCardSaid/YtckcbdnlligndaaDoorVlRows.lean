
/-
  A row of values and a row of names that a call makes side by side: how they grow. No condition but those that the theorems state.
-/
import Derived.Test.YtckcbdnlligndaaDoorVlFind
namespace Go.Proofs.YtckcbdnlligndaaDoor
open Go.RowKit

/-- What is read off blocks of the call's own alone, but for two. -/
def Vl.Off2 (d B : Nat) (W : World) (p q : Option Nat) (u : Value) (y : Vl.V) : Prop := ∀ W' : World, (∀ j, B ≤ j → j < W.heap.size → some j ≠ p → some j ≠ q → W'.heap[j]? = W.heap[j]?) → Vl.At d W' u y
/-- Five cells of a list. -/
def Vl.Has5 (cs : List Value) (i : Nat) (c0 c1 c2 c3 c4 : Value) : Prop := cs[i]? = some c0 ∧ cs[i + 1]? = some c1 ∧ cs[i + 2]? = some c2 ∧ cs[i + 3]? = some c3 ∧ cs[i + 4]? = some c4
structure Vl.Rows2 (d B : Nat) (W : World) (vi vn : Value) (is : List Vl.V) (ns : List ByteArray) : Prop where
  items : ∃ cs, W.ownsRow B 26 5 vi is.length cs ∧ ∀ i y, is[i]? = some y → ∃ c0 c1 c2 c3 c4, Vl.Has5 cs (i * 5) c0 c1 c2 c3 c4 ∧ Vl.Off2 d B W vi.ownBlock vn.ownBlock (.agg #[c0, c1, c2, c3, c4]) y
  names : W.ownsRow B 9 1 vn ns.length (ns.map Wp.mkT)
theorem Vl.Rows2.nil (d B : Nat) (W : World) : Vl.Rows2 d B W (.slice none 0 0) (.slice none 0 0) [] [] :=
  ⟨⟨[], World.ownsRow_nil _ _ _ _, fun i y h => by simp at h⟩, World.ownsRow_nil _ _ _ _⟩
/-- A row's block is of its elements' type. -/
theorem Vl.own_type {W : World} {B : Nat} {e : TypeId} {size : Nat} {v : Value} {n : Nat} {xs : List Value} (h : W.ownsRow B e size v n xs) : ∀ k, v.ownBlock = some k → ∃ c, W.heap[k]? = some (.cells c e (0, 0)) := fun k hk => by
  rcases h.2 with ⟨rfl, _⟩ | ⟨g, cap, cur, rfl, _, hg, _⟩
  · simp [Value.ownBlock] at hk
  · simp [Value.ownBlock] at hk
    subst hk
    exact ⟨_, hg⟩
theorem Vl.own_ne {W : World} {B B' : Nat} {e e' : TypeId} {s s' : Nat} {v v' : Value} {n n' : Nat} {xs xs' : List Value} (h : W.ownsRow B e s v n xs) (h' : W.ownsRow B' e' s' v' n' xs') (hne : e ≠ e') : v.ownBlock = none ∨ v.ownBlock ≠ v'.ownBlock := by
  cases hv : v.ownBlock with
  | none => exact Or.inl rfl
  | some k =>
    refine Or.inr (fun e2 => ?_)
    obtain ⟨c, hc⟩ := Vl.own_type h k hv
    obtain ⟨c', hc'⟩ := Vl.own_type h' k e2.symm
    rw [hc] at hc'
    cases hc'
    exact hne rfl
/-- One block below has turned. -/
theorem Vl.Rows2.keep {d B q : Nat} {W W' : World} {vi vn : Value} {is : List Vl.V} {ns : List ByteArray} (h : Vl.Rows2 d B W vi vn is ns) (hg : W.grownBy W' (some q)) (hq : q < B) : Vl.Rows2 d B W' vi vn is ns := by
  obtain ⟨⟨cs, hO, hk⟩, hN⟩ := h
  have key : ∀ {e size v n xs}, W.ownsRow B e size v n xs → v.ownBlock = none ∨ v.ownBlock ≠ some q := fun {e size v n xs} ho => by
    cases hv : v.ownBlock with
    | none => exact Or.inl rfl
    | some k => exact Or.inr (fun e2 => by cases e2; have := (ho.lt q hv).1; omega)
  refine ⟨⟨cs, hO.kept hg (key hO), fun i y hy => ?_⟩, hN.kept hg (key hN)⟩
  obtain ⟨c0, c1, c2, c3, c4, h5, hoff⟩ := hk i y hy
  exact ⟨c0, c1, c2, c3, c4, h5, fun W2 hW => hoff W2 (fun j h1 h2 h3 h4 => (hW j h1 (Nat.lt_of_lt_of_le h2 hg.size) h3 h4).trans (hg.block j h2 (fun e => by cases e; omega)))⟩
/-- Only new memory has come. -/
theorem Vl.Rows2.below {d B : Nat} {W W' : World} {vi vn : Value} {is : List Vl.V} {ns : List ByteArray} (h : Vl.Rows2 d B W vi vn is ns) (hb : Below W.heap.size W W') : Vl.Rows2 d B W' vi vn is ns := by
  obtain ⟨⟨cs, hO, hk⟩, hN⟩ := h
  refine ⟨⟨cs, ownsRow_below hO hb, fun i y hy => ?_⟩, ownsRow_below hN hb⟩
  obtain ⟨c0, c1, c2, c3, c4, h5, hoff⟩ := hk i y hy
  exact ⟨c0, c1, c2, c3, c4, h5, fun W2 hW => hoff W2 (fun j h1 h2 h3 h4 => (hW j h1 (Nat.lt_of_lt_of_le h2 hb.size) h3 h4).trans (hb.block j h2))⟩
/-- A name was put behind. -/
theorem Vl.Rows2.name {d B : Nat} {W W' : World} {vi vn vn' : Value} {is : List Vl.V} {ns : List ByteArray} {t : ByteArray} (h : Vl.Rows2 d B W vi vn is ns) (hown : W'.ownsRow B 9 1 vn' (ns.length + 1) (ns.map Wp.mkT ++ [.string t])) (hg : W.grownBy W' vn.ownBlock)
    (hat : vn'.ownBlock = vn.ownBlock ∨ vn'.ownBlock = some W.heap.size) : Vl.Rows2 d B W' vi vn' is (ns ++ [t]) := by
  obtain ⟨⟨cs, hO, hk⟩, hN⟩ := h
  refine ⟨⟨cs, hO.kept hg (Vl.own_ne hO hN (by decide)), fun i y hy => ?_⟩, by rw [List.length_append, List.map_append]; exact hown⟩
  obtain ⟨c0, c1, c2, c3, c4, h5, hoff⟩ := hk i y hy
  refine ⟨c0, c1, c2, c3, c4, h5, fun W2 hW => hoff W2 (fun j h1 h2 h3 h4 => (hW j h1 (Nat.lt_of_lt_of_le h2 hg.size) h3 (fun e => ?_)).trans (hg.block j h2 h4))⟩
  rcases hat with h | h
  · exact h4 (e.trans h)
  · have := e.trans h; cases this; omega
/-- A value that is zero was put behind. -/
theorem Vl.Rows2.room {d B : Nat} {W W' : World} {vi vi' vn : Value} {is : List Vl.V} {ns : List ByteArray} {cs : List Value} (h : Vl.Rows2 (d + 1) B W vi vn is ns) (hcs : W.ownsRow B 26 5 vi is.length cs)
    (hown : W'.ownsRow B 26 5 vi' (is.length + 1) (cs ++ [.int .u8 0, .string ⟨#[]⟩, .int .i64 0, .slice none 0 0, .slice none 0 0])) (hg : W.grownBy W' vi.ownBlock)
    (hat : vi'.ownBlock = vi.ownBlock ∨ vi'.ownBlock = some W.heap.size) : Vl.Rows2 (d + 1) B W' vi' vn (is ++ [Vl.zero]) ns := by
  obtain ⟨⟨cs', hO, hk⟩, hN⟩ := h
  obtain rfl : cs' = cs := by
    rcases hO.2 with ⟨rfl, h0⟩ | ⟨g, cap, cur, rfl, _, hg1, _, _, _, ht⟩
    · have e1 := hO.1; have e2 := hcs.1
      rw [h0, Nat.zero_mul] at e1 e2
      rw [List.length_eq_zero_iff.1 e1, List.length_eq_zero_iff.1 e2]
    · rcases hcs.2 with ⟨e, _⟩ | ⟨g', cap', cur', e, _, hg2, _, _, _, ht'⟩
      · cases e
      · cases e
        rw [hg1] at hg2
        cases hg2
        rw [← ht, ← ht']
  have hlen : cs'.length = is.length * 5 := hO.1
  refine ⟨⟨_, by rw [List.length_append]; exact hown, fun i y hy => ?_⟩, hN.kept hg ((Vl.own_ne hN hO (by decide)))⟩
  by_cases hi : i < is.length
  · rw [List.getElem?_append_left hi] at hy
    obtain ⟨c0, c1, c2, c3, c4, ⟨e0, e1, e2, e3, e4⟩, hoff⟩ := hk i y hy
    refine ⟨c0, c1, c2, c3, c4, ⟨?_, ?_, ?_, ?_, ?_⟩, fun W2 hW => hoff W2 (fun j h1 h2 h3 h4 => (hW j h1 (Nat.lt_of_lt_of_le h2 hg.size) (fun e => ?_) h4).trans (hg.block j h2 h3))⟩
    · rw [List.getElem?_append_left (by omega)]; exact e0
    · rw [List.getElem?_append_left (by omega)]; exact e1
    · rw [List.getElem?_append_left (by omega)]; exact e2
    · rw [List.getElem?_append_left (by omega)]; exact e3
    · rw [List.getElem?_append_left (by omega)]; exact e4
    · rcases hat with h | h
      · exact h3 (e.trans h)
      · have := e.trans h; cases this; omega
  · obtain ⟨hil, hie⟩ := List.getElem?_eq_some_iff.1 hy
    have hik : i = is.length := by rw [List.length_append] at hil; simp at hil; omega
    subst hik
    rw [List.getElem?_concat_length] at hy
    cases hy
    have key : ∀ j q, (cs' ++ [.int .u8 0, .string ⟨#[]⟩, .int .i64 0, .slice none 0 0, .slice none 0 0])[is.length * 5 + j]? = q ↔ ([.int .u8 0, .string ⟨#[]⟩, .int .i64 0, .slice none 0 0, .slice none 0 0] : List Value)[j]? = q := fun j q => by
      rw [List.getElem?_append_right (by omega), hlen, Nat.add_sub_cancel_left]
    exact ⟨_, _, _, _, _, ⟨(key 0 _).2 rfl, (key 1 _).2 rfl, (key 2 _).2 rfl, (key 3 _).2 rfl, (key 4 _).2 rfl⟩, fun W2 _ => Vl.At.zero d W2⟩
/-- The last one's place was written. -/
theorem Vl.Rows2.put {d B : Nat} {W : World} {g cap : Nat} {vn : Value} {is : List Vl.V} {ns : List ByteArray} {z x : Vl.V} {c0 c1 c2 c3 c4 : Value} (h : Vl.Rows2 d B W (.slice (some ⟨g, 0, none⟩) (is.length + 1) cap) vn (is ++ [z]) ns)
    (hx : Vl.Off2 d B W (some g) vn.ownBlock (.agg #[c0, c1, c2, c3, c4]) x) :
    Vl.Rows2 d B (((((W.setCell ⟨g, is.length * 5, none⟩ c0).setCell ⟨g, is.length * 5 + 1, none⟩ c1).setCell ⟨g, is.length * 5 + 2, none⟩ c2).setCell ⟨g, is.length * 5 + 3, none⟩ c3).setCell ⟨g, is.length * 5 + 4, none⟩ c4) (.slice (some ⟨g, 0, none⟩) (is.length + 1) cap) vn (is ++ [x]) ns ∧
    W.grownBy (((((W.setCell ⟨g, is.length * 5, none⟩ c0).setCell ⟨g, is.length * 5 + 1, none⟩ c1).setCell ⟨g, is.length * 5 + 2, none⟩ c2).setCell ⟨g, is.length * 5 + 3, none⟩ c3).setCell ⟨g, is.length * 5 + 4, none⟩ c4) (some g) := by
  obtain ⟨⟨cs, hO, hk⟩, hN⟩ := h
  rw [List.length_append, show [z].length = 1 from rfl] at hO
  obtain ⟨o1, g1⟩ := hO.stored (is.length * 5) c0
  obtain ⟨o2, g2⟩ := o1.stored (is.length * 5 + 1) c1
  obtain ⟨o3, g3⟩ := o2.stored (is.length * 5 + 2) c2
  obtain ⟨o4, g4⟩ := o3.stored (is.length * 5 + 3) c3
  obtain ⟨o5, g5⟩ := o4.stored (is.length * 5 + 4) c4
  have hG := grownBy_trans (grownBy_trans (grownBy_trans (grownBy_trans g1 g2) g3) g4) g5
  have hlen : cs.length = (is.length + 1) * 5 := hO.1
  have hown : (Value.slice (some ⟨g, 0, none⟩) (is.length + 1) cap).ownBlock = some g := rfl
  have hsz : W.heap.size = (((((W.setCell ⟨g, is.length * 5, none⟩ c0).setCell ⟨g, is.length * 5 + 1, none⟩ c1).setCell ⟨g, is.length * 5 + 2, none⟩ c2).setCell ⟨g, is.length * 5 + 3, none⟩ c3).setCell ⟨g, is.length * 5 + 4, none⟩ c4).heap.size := by
    rw [World.size_setCell, World.size_setCell, World.size_setCell, World.size_setCell, World.size_setCell]
  have hoffs : ∀ u y, Vl.Off2 d B W (some g) vn.ownBlock u y → Vl.Off2 d B (((((W.setCell ⟨g, is.length * 5, none⟩ c0).setCell ⟨g, is.length * 5 + 1, none⟩ c1).setCell ⟨g, is.length * 5 + 2, none⟩ c2).setCell ⟨g, is.length * 5 + 3, none⟩ c3).setCell ⟨g, is.length * 5 + 4, none⟩ c4) (some g) vn.ownBlock u y :=
    fun u y hu W2 hW => hu W2 (fun j h1 h2 h3 h4 => (hW j h1 (by rw [← hsz]; exact h2) h3 h4).trans (hG.block j h2 h3))
  refine ⟨⟨⟨_, by rw [List.length_append]; exact o5, fun i y hy => ?_⟩, hN.kept hG (by have := Vl.own_ne hN hO (by decide); rwa [hown] at this)⟩, hG⟩
  rw [hown]
  by_cases hi : i < is.length
  · rw [List.getElem?_append_left hi] at hy
    have hy2 : (is ++ [z])[i]? = some y := by rw [List.getElem?_append_left hi]; exact hy
    obtain ⟨a0, a1, a2, a3, a4, ⟨e0, e1, e2, e3, e4⟩, hoff⟩ := hk i y hy2
    rw [hown] at hoff
    refine ⟨a0, a1, a2, a3, a4, ⟨?_, ?_, ?_, ?_, ?_⟩, hoffs _ _ hoff⟩
    all_goals (rw [List.getElem?_set_ne (by omega), List.getElem?_set_ne (by omega), List.getElem?_set_ne (by omega), List.getElem?_set_ne (by omega), List.getElem?_set_ne (by omega)]; assumption)
  · obtain ⟨hil, hie⟩ := List.getElem?_eq_some_iff.1 hy
    have hik : i = is.length := by rw [List.length_append] at hil; simp at hil; omega
    subst hik
    rw [List.getElem?_concat_length] at hy
    cases hy
    refine ⟨c0, c1, c2, c3, c4, ⟨?_, ?_, ?_, ?_, ?_⟩, hoffs _ _ hx⟩
    · rw [List.getElem?_set_ne (by omega), List.getElem?_set_ne (by omega), List.getElem?_set_ne (by omega), List.getElem?_set_ne (by omega), List.getElem?_set_self (by omega)]
    · rw [List.getElem?_set_ne (by omega), List.getElem?_set_ne (by omega), List.getElem?_set_ne (by omega), List.getElem?_set_self (by rw [List.length_set]; omega)]
    · rw [List.getElem?_set_ne (by omega), List.getElem?_set_ne (by omega), List.getElem?_set_self (by rw [List.length_set, List.length_set]; omega)]
    · rw [List.getElem?_set_ne (by omega), List.getElem?_set_self (by rw [List.length_set, List.length_set, List.length_set]; omega)]
    · rw [List.getElem?_set_self (by rw [List.length_set, List.length_set, List.length_set, List.length_set]; omega)]
/-- The value that two such rows are the items and the names of. -/
theorem Vl.Rows2.off {d B : Nat} {W : World} {vi vn : Value} {is : List Vl.V} {ns : List ByteArray} (h : Vl.Rows2 d B W vi vn is ns) : ∃ pi ci pn cn, vi = .slice pi is.length ci ∧ vn = .slice pn ns.length cn ∧ ∀ W' : World, (∀ j, B ≤ j → j < W.heap.size → W'.heap[j]? = W.heap[j]?) → Vl.Its d W' pi is ∧ Wp.At Wp.mkT W' pn ns := by
  obtain ⟨⟨cs, hO, hk⟩, hN⟩ := h
  obtain ⟨pn, cn, rfl, hn⟩ := Vl.texts_off hN
  rcases hO.2 with ⟨hv, h0⟩ | ⟨g, cap, cur, hv, hg, hc, hn', hm, hcs, ht⟩
  · subst hv
    exact ⟨none, 0, pn, cn, by rw [h0], rfl, fun W' hW => ⟨Or.inl (List.length_eq_zero_iff.1 h0), hn W' hW⟩⟩
  · subst hv
    refine ⟨some ⟨g, 0, none⟩, cap, pn, cn, rfl, rfl, fun W' hW => ⟨Or.inr ⟨g, 0, rfl, fun i hi => ?_⟩, hn W' hW⟩⟩
    have hgl := (Array.getElem?_eq_some_iff.1 hc).1
    obtain ⟨c0, c1, c2, c3, c4, ⟨e0, e1, e2, e3, e4⟩, hoff⟩ := hk i is[i] (List.getElem?_eq_getElem hi)
    have key : ∀ j q, cs[j]? = some q → W'.cell? ⟨g, 0 + j, none⟩ = some q := fun j q hq => by
      rw [Nat.zero_add, Lib.cell_of_heap ((hW g hg hgl).trans hc), ← Array.getElem?_toList]
      rw [← ht] at hq
      obtain ⟨hjl, _⟩ := List.getElem?_eq_some_iff.1 hq
      rw [List.length_take] at hjl
      rwa [List.getElem?_take_of_lt (by omega)] at hq
    exact ⟨c0, c1, c2, c3, c4, ⟨key _ _ e0, key _ _ e1, key _ _ e2, key _ _ e3, key _ _ e4⟩, hoff W' (fun j h1 h2 _ _ => hW j h1 h2)⟩
end Go.Proofs.YtckcbdnlligndaaDoor
