/-
  append of nodes that were given onto a row of the call's own: the nodes' parts lie in blocks that stay. Condition: the lists are of a size that a machine holds.
  append of nodes of whatever kind onto a row of the call's own: what holds of each node's cells stays. Condition: the lists are of a size that a machine holds.
-/
import Derived.Test.YteiccjakaabfnaaGreatDoorZ37
import Derived.Deep.AppendSrc
import Derived.Deep.RegionLaw
import Derived.Maps.AppendAt
namespace Go.Proofs.YteiccjakaabfnaaGreatDoor
open Go.RowKit Go.Lib Go.Sort Go.Shelf

/-- A row of the call's own whose nodes read so in the world that was before. -/
def Nd.OwnF (W0 W : World) (v : Value) (l : List Nd.N) : Prop :=
  ∃ cs, W.ownsRow W0.heap.size 37 5 v l.length cs ∧ cs.length = l.length * 5 ∧ ∀ i y, l[i]? = some y → ∃ c0 c1 c2 c3 c4, cs[i * 5]? = some c0 ∧ cs[i * 5 + 1]? = some c1 ∧ cs[i * 5 + 2]? = some c2 ∧ cs[i * 5 + 3]? = some c3 ∧ cs[i * 5 + 4]? = some c4 ∧ Nd.At W0 (.agg #[c0, c1, c2, c3, c4]) y
/-- Nodes that were given: their cells lie in this world, what they hold in the world that was before. -/
def Nd.RowW (W0 W : World) (p : Option Addr) (l : List Nd.N) : Prop :=
  ∀ i y, l[i]? = some y → ∃ b off c0 c1 c2 c3 c4, p = some ⟨b, off, none⟩ ∧ Vl.Five W b (off + i * 5) c0 c1 c2 c3 c4 ∧ Nd.At W0 (.agg #[c0, c1, c2, c3, c4]) y
theorem Nd.RowW.of {W0 W : World} {p : Option Addr} {l : List Nd.N} (h : Nd.Row W0 p l) (hb : Below W0.heap.size W0 W) : Nd.RowW W0 W p l := fun i y hy => by
  obtain ⟨hi, rfl⟩ := List.getElem?_eq_some_iff.1 hy
  obtain ⟨b, off, c0, c1, c2, c3, c4, hp, h5, y, hy2, ha⟩ := h i hi
  obtain rfl : y = l[i] := (Option.some.inj (hy.symm.trans hy2)).symm
  exact ⟨b, off, c0, c1, c2, c3, c4, hp, Nd.five_keep (Nd.keeps_below hb) h5, ha⟩
theorem Nd.one_cell {W : World} {c0 c1 c2 c3 c4 : Value} {y : Nd.N} (h : Nd.At W (.agg #[c0, c1, c2, c3, c4]) y) : ∀ q ∈ [c0, c1, c2, c3, c4], q.oneCell' = true := by
  obtain ⟨k', t', pp', np', cp', pk', nk', ck', pe', ne', ce', e⟩ := h.shape
  simp only [Value.agg.injEq, Array.mk.injEq, List.cons.injEq, and_true] at e
  obtain ⟨rfl, rfl, rfl, rfl, rfl⟩ := e
  intro q hq
  simp at hq
  rcases hq with rfl | rfl | rfl | rfl | rfl <;> rfl
/-- The cells of nodes that were given, in a row. -/
theorem Nd.RowW.news {W0 W : World} {ad : Addr} : ∀ (m : Nat) {l : List Nd.N}, Nd.RowW W0 W (some ad) l → m ≤ l.length → ∃ news : List Value, news.length = m * 5 ∧ (∀ j u, news[j]? = some u → W.cell? (ad.add j) = some u) ∧ (∀ u ∈ news, u.oneCell' = true) ∧
    ∀ i y, i < m → l[i]? = some y → ∃ c0 c1 c2 c3 c4, news[i * 5]? = some c0 ∧ news[i * 5 + 1]? = some c1 ∧ news[i * 5 + 2]? = some c2 ∧ news[i * 5 + 3]? = some c3 ∧ news[i * 5 + 4]? = some c4 ∧ Nd.At W0 (.agg #[c0, c1, c2, c3, c4]) y
  | 0, l, _, _ => ⟨[], rfl, fun j u h => by simp at h, fun u h => by simp at h, fun i y h => by omega⟩
  | m + 1, l, h, hm => by
    obtain ⟨news, n1, n2, n3, n4⟩ := Nd.RowW.news m h (by omega)
    obtain ⟨b, off, c0, c1, c2, c3, c4, hp, ⟨k0, k1, k2, k3, k4⟩, ha⟩ := h m l[m] (List.getElem?_eq_getElem (by omega))
    cases hp
    refine ⟨news ++ [c0, c1, c2, c3, c4], by rw [List.length_append, n1]; simp; omega, fun j u hj => ?_, fun u hu => ?_, fun i y hi hy => ?_⟩
    · by_cases hlt : j < news.length
      · rw [List.getElem?_append_left hlt] at hj
        exact n2 j u hj
      · rw [List.getElem?_append_right (by omega), n1] at hj
        rw [show (⟨b, off, none⟩ : Addr).add j = ⟨b, off + j, none⟩ by simp [Addr.add]]
        have hj2 : j = m * 5 + (j - m * 5) := by omega
        generalize j - m * 5 = r at hj hj2
        subst hj2
        match r, hj with
        | 0, hj => cases hj; exact k0
        | 1, hj => cases hj; rw [← Nat.add_assoc]; exact k1
        | 2, hj => cases hj; rw [← Nat.add_assoc]; exact k2
        | 3, hj => cases hj; rw [← Nat.add_assoc]; exact k3
        | 4, hj => cases hj; rw [← Nat.add_assoc]; exact k4
        | r + 5, hj => simp at hj
    · rcases List.mem_append.1 hu with hu | hu
      · exact n3 u hu
      · exact Nd.one_cell ha u hu
    · by_cases him : i < m
      · obtain ⟨d0, d1, d2, d3, d4, e0, e1, e2, e3, e4, hd⟩ := n4 i y him hy
        exact ⟨d0, d1, d2, d3, d4, by rw [List.getElem?_append_left (by omega)]; exact e0, by rw [List.getElem?_append_left (by omega)]; exact e1, by rw [List.getElem?_append_left (by omega)]; exact e2, by rw [List.getElem?_append_left (by omega)]; exact e3, by rw [List.getElem?_append_left (by omega)]; exact e4, hd⟩
      · obtain rfl : i = m := by omega
        obtain rfl : l[i] = y := Option.some.inj ((List.getElem?_eq_getElem (by omega)).symm.trans hy)
        have key : ∀ r, (news ++ [c0, c1, c2, c3, c4])[i * 5 + r]? = [c0, c1, c2, c3, c4][r]? := fun r => by
          rw [List.getElem?_append_right (by omega), n1, Nat.add_sub_cancel_left]
        exact ⟨c0, c1, c2, c3, c4, key 0, key 1, key 2, key 3, key 4, ha⟩
theorem Nd.appF (W0 : World) (l m : List Nd.N) (v : Value) (q : Option Addr) (n c : Nat) (ty : TypeId) (w : World) (hO : Nd.OwnF W0 w v l) (hb0 : Below W0.heap.size W0 w) (hA : Nd.RowW W0 w q m) (hn : n = m.length) (hl : l.length ≤ 100000000) (hm : m.length ≤ 100000000) :
    ∃ v' w', (Builtin.append_ #[22, 22] ty #[v, .slice q n c]).run Tryz.prog w = .ok v' w' ∧ Nd.OwnF W0 w' v' (l ++ m) ∧ Below W0.heap.size W0 w' ∧ w.grownBy w' v.ownBlock := by
  obtain ⟨i0, hi, hz0, hz1, hz2⟩ := Nd.infoNode
  have hT := Tryz.underlying22
  subst hn
  obtain ⟨cs, hown, hcl, hk⟩ := hO
  cases q with
  | some ad =>
    obtain ⟨news, n1, n2, n3, n4⟩ := Nd.RowW.news m.length hA (Nat.le_refl _)
    obtain ⟨v', w', hr, h2, h3, _, h5⟩ := run_append_own_at (P := Tryz.prog) w W0.heap.size 22 ty 37 i0 _ 5 96 hT hi hz0 hz1 hz2 rfl (by decide) v l.length cs hown ad m.length c news n1 n2 n3 (by unfold maxLen; omega) (by omega) hb0.size
    refine ⟨v', w', hr, ⟨cs ++ news, by rw [List.length_append]; exact h2, by rw [List.length_append, List.length_append, hcl, n1]; omega, fun i y hy => ?_⟩, below_grown5 hb0 hown (Nat.le_refl _) h3, h3⟩
    by_cases him : i < l.length
    · rw [List.getElem?_append_left him] at hy
      obtain ⟨d0, d1, d2, d3, d4, e0, e1, e2, e3, e4, hd⟩ := hk i y hy
      exact ⟨d0, d1, d2, d3, d4, by rw [List.getElem?_append_left (by omega)]; exact e0, by rw [List.getElem?_append_left (by omega)]; exact e1, by rw [List.getElem?_append_left (by omega)]; exact e2, by rw [List.getElem?_append_left (by omega)]; exact e3, by rw [List.getElem?_append_left (by omega)]; exact e4, hd⟩
    · rw [List.getElem?_append_right (by omega)] at hy
      obtain ⟨d0, d1, d2, d3, d4, e0, e1, e2, e3, e4, hd⟩ := n4 (i - l.length) y (List.getElem?_eq_some_iff.1 hy).1 hy
      have key : ∀ r, (cs ++ news)[i * 5 + r]? = news[(i - l.length) * 5 + r]? := fun r => by
        rw [List.getElem?_append_right (by omega), hcl, show i * 5 + r - l.length * 5 = (i - l.length) * 5 + r by omega]
      exact ⟨d0, d1, d2, d3, d4, (key 0).trans e0, (key 1).trans e1, (key 2).trans e2, (key 3).trans e3, (key 4).trans e4, hd⟩
  | none =>
    have hm0 : m = [] := by
      cases m with
      | nil => rfl
      | cons x r =>
        obtain ⟨b, off, _, _, _, _, _, hp, _⟩ := hA 0 x rfl
        cases hp
    subst hm0
    rw [List.append_nil]
    rcases hown.2 with ⟨rfl, h0⟩ | ⟨g, cap, cur, rfl, hg, hc, hn, hm2, hs, ht⟩
    · refine ⟨.slice none 0 0, w, ?_, ⟨cs, hown, hcl, hk⟩, hb0, grownBy_refl _ _⟩
      have hf := run_firstCells_none (P := Tryz.prog) w i0.size 0 0 c
      simp [Builtin.append_, run_underlying hT, sizeOf, typeInfo, hi, Builtin.lenOf, hf]
    · refine ⟨.slice (some ⟨g, 0, none⟩) l.length cap, w, ?_, ⟨cs, hown, hcl, hk⟩, hb0, grownBy_refl _ _⟩
      exact run_append_room_src (P := Tryz.prog) w 22 22 ty 37 i0 hT hi g 0 l.length cap (.slice none 0 c) 0 [] (Src.ofNil w hT c) (by omega) (by simp) (by simp)
/-- append as a step of a region that draws its order. -/
theorem Nd.stepF {ops : Array Oper} {o : Oper} {a : Act} {w : World} {K : Act → World → Prop} {Q : Exit → Act → World → Prop} {E : Prop}
    (hg : o.guard = none) (s x : Operand) (hop : o.op = Op.call { callee := Callee.builtin Builtin.append, args := #[s, x], argTypes := #[22, 22] })
    (W0 : World) (l m : List Nd.N) (v : Value) (q : Option Addr) (n c : Nat) (hs : a.eval s = v) (hx : a.eval x = .slice q n c)
    (hO : Nd.OwnF W0 w v l) (hb0 : Below W0.heap.size W0 w) (hA : Nd.RowW W0 w q m) (hn : n = m.length) (hl : l.length ≤ 100000000) (hm : m.length ≤ 100000000)
    (hK : ∀ v' w', Nd.OwnF W0 w' v' (l ++ m) → Below W0.heap.size W0 w' → w.grownBy w' v.ownBlock → K (a.put o.dst v') w') :
    if Region.wanted o (yielded ops a.tmps) = true then Oper.wp Tryz.prog o a w K Q else E := by
  have hw : Region.wanted o (yielded ops a.tmps) = true := by simp [Region.wanted, hg]
  rw [if_pos hw]
  obtain ⟨v', w', hr, h2, h3, h4⟩ := Nd.appF W0 l m v q n c o.type w hO hb0 hA hn hl hm
  unfold Oper.wp
  simp [execOp, hop, resolve, invoke, builtin, hs, hx, hr, Result.andThen]
  exact hK v' w' h2 h3 h4
/-- A row of the call's own, read. -/
theorem Nd.OwnF.at {W0 W : World} {v : Value} {l : List Nd.N} (h : Nd.OwnF W0 W v l) (hb : Below W0.heap.size W0 W) : ∃ p c, v = .slice p l.length c ∧ Nd.Row W p l := by
  obtain ⟨cs, hO, hs, hk⟩ := h
  rcases hO.2 with ⟨hv, h0⟩ | ⟨g, cap, cur, hv, hg, hc, hn, hm, hcs, ht⟩
  · refine ⟨none, 0, by rw [hv, h0], fun i hi => by omega⟩
  · subst hv
    refine ⟨some ⟨g, 0, none⟩, cap, rfl, fun i hi => ?_⟩
    obtain ⟨c0, c1, c2, c3, c4, e0, e1, e2, e3, e4, ha⟩ := hk i l[i] (List.getElem?_eq_getElem hi)
    have key : ∀ j q, cs[j]? = some q → W.cell? ⟨g, 0 + j, none⟩ = some q := fun j q hq => by
      rw [Nat.zero_add, Lib.cell_of_heap hc, ← Array.getElem?_toList]
      rw [← ht] at hq
      obtain ⟨hjl, _⟩ := List.getElem?_eq_some_iff.1 hq
      rw [List.length_take] at hjl
      rwa [List.getElem?_take_of_lt (by omega)] at hq
    exact ⟨g, 0, c0, c1, c2, c3, c4, rfl, ⟨key _ _ e0, key _ _ e1, key _ _ e2, key _ _ e3, key _ _ e4⟩, l[i], List.getElem?_eq_getElem hi, ha.below hb⟩
theorem Nd.RowW.grownBy {W0 w w' : World} {row : Option Nat} {p : Option Addr} {l : List Nd.N} (h : Nd.RowW W0 w p l) (hg : w.grownBy w' row) (hne : ∀ b off, p = some ⟨b, off, none⟩ → some b ≠ row) : Nd.RowW W0 w' p l := fun i y hy => by
  obtain ⟨b, off, c0, c1, c2, c3, c4, hp, ⟨k0, k1, k2, k3, k4⟩, ha⟩ := h i y hy
  exact ⟨b, off, c0, c1, c2, c3, c4, hp, ⟨hg.cell k0 (hne _ _ hp), hg.cell k1 (hne _ _ hp), hg.cell k2 (hne _ _ hp), hg.cell k3 (hne _ _ hp), hg.cell k4 (hne _ _ hp)⟩, ha⟩
theorem Nd.OwnF.alloc {W0 W : World} {v : Value} {l : List Nd.N} (h : Nd.OwnF W0 W v l) (o : Obj) : Nd.OwnF W0 (W.alloc o) v l := by
  obtain ⟨cs, h1, h2, h3⟩ := h
  exact ⟨cs, h1.alloc o, h2, h3⟩
theorem Nd.OwnF.drew {W0 W : World} {v : Value} {l : List Nd.N} (h : Nd.OwnF W0 W v l) : Nd.OwnF W0 W.drew v l := h
theorem Nd.OwnF.lt {W0 W : World} {v : Value} {l : List Nd.N} (h : Nd.OwnF W0 W v l) : ∀ k, v.ownBlock = some k → W0.heap.size ≤ k ∧ k < W.heap.size := by
  obtain ⟨cs, h1, _⟩ := h
  exact h1.lt
/-- A new block's node. -/
theorem Nd.RowW.one {W0 W : World} {g : Nat} {c0 c1 c2 c3 c4 : Value} {x : Nd.N} (h : W.heap[g]? = some (.cells #[c0, c1, c2, c3, c4] 37 (0, 0))) (ha : Nd.At W0 (.agg #[c0, c1, c2, c3, c4]) x) : Nd.RowW W0 W (some ⟨g, 0, none⟩) [x] := fun i y hy => by
  have hi : i = 0 := by
    obtain ⟨hi, _⟩ := List.getElem?_eq_some_iff.1 hy
    simpa using hi
  subst hi
  obtain rfl : x = y := by simpa using hy
  obtain ⟨k0, k1, k2, k3, k4⟩ := Vl.five_of h
  exact ⟨g, 0, c0, c1, c2, c3, c4, rfl, ⟨k0, k1, k2, k3, k4⟩, ha⟩
/-- An empty literal; with a new block behind it; with one ahead of it. -/
theorem Nd.a1 (W0 : World) : Nd.OwnF W0 ((W0.alloc (.cells #[] 37)).drew) (.slice (some ⟨W0.heap.size, 0, none⟩) 0 0) [] := ⟨[], World.ownsRow_made W0 #[] 0 (Nat.le_refl _) (Nat.zero_le _) rfl, rfl, fun i y h => by simp at h⟩
theorem Nd.b1 (W0 : World) (o : Obj) : Nd.OwnF W0 (((W0.alloc (.cells #[] 37)).alloc o).drew) (.slice (some ⟨W0.heap.size, 0, none⟩) 0 0) [] := ⟨[], (World.ownsRow_made W0 #[] 0 (Nat.le_refl _) (Nat.zero_le _) rfl).alloc o, rfl, fun i y h => by simp at h⟩
theorem Nd.c1 (W0 : World) (o : Obj) : Nd.OwnF W0 (((W0.alloc o).alloc (.cells #[] 37)).drew) (.slice (some ⟨W0.heap.size + 1, 0, none⟩) 0 0) [] := by
  have h := World.ownsRow_made (base := W0.heap.size) (e := 37) (size := 5) (W0.alloc o) #[] 0 (by rw [World.size_alloc]; omega) (Nat.zero_le _) rfl
  rw [World.size_alloc] at h
  exact ⟨[], h, rfl, fun i y h => by simp at h⟩
theorem Nd.a2 (W0 : World) (o : Obj) : Below W0.heap.size W0 (W0.alloc o).drew := ((Below.refl _ _).alloc (Nat.le_refl _) o).drew
theorem Nd.b2 (W0 : World) (o o' : Obj) : Below W0.heap.size W0 ((W0.alloc o).alloc o').drew := (((Below.refl _ _).alloc (Nat.le_refl _) o).alloc (by rw [World.size_alloc]; omega) o').drew
end Go.Proofs.YteiccjakaabfnaaGreatDoor
namespace Go.Proofs.YteiccjakaabfnaaGreatDoor
open Go.RowKit Go.Lib Go.Sort Go.Shelf

/-- A node's cells are one value each. -/
def Nd.Shaped (Pr : Value → Nd.N → Prop) : Prop := ∀ c0 c1 c2 c3 c4 y, Pr (.agg #[c0, c1, c2, c3, c4]) y → ∀ q ∈ [c0, c1, c2, c3, c4], q.oneCell' = true
/-- A row of the call's own of whose nodes something holds. -/
def Nd.OwnG (Pr : Value → Nd.N → Prop) (B : Nat) (W : World) (v : Value) (l : List Nd.N) : Prop :=
  ∃ cs, W.ownsRow B 37 5 v l.length cs ∧ cs.length = l.length * 5 ∧ ∀ i y, l[i]? = some y → ∃ c0 c1 c2 c3 c4, cs[i * 5]? = some c0 ∧ cs[i * 5 + 1]? = some c1 ∧ cs[i * 5 + 2]? = some c2 ∧ cs[i * 5 + 3]? = some c3 ∧ cs[i * 5 + 4]? = some c4 ∧ Pr (.agg #[c0, c1, c2, c3, c4]) y
/-- Nodes in a row of whose cells something holds. -/
def Nd.RowG (Pr : Value → Nd.N → Prop) (W : World) (p : Option Addr) (l : List Nd.N) : Prop :=
  ∀ i y, l[i]? = some y → ∃ b off c0 c1 c2 c3 c4, p = some ⟨b, off, none⟩ ∧ Vl.Five W b (off + i * 5) c0 c1 c2 c3 c4 ∧ Pr (.agg #[c0, c1, c2, c3, c4]) y
theorem Nd.RowG.of {Pr : Value → Nd.N → Prop} {W0 W : World} {p : Option Addr} {l : List Nd.N} (h : Nd.Row W0 p l) (hb : Below W0.heap.size W0 W) (hp : ∀ u y, Nd.At W0 u y → Pr u y) : Nd.RowG Pr W p l := fun i y hy => by
  obtain ⟨hi, rfl⟩ := List.getElem?_eq_some_iff.1 hy
  obtain ⟨b, off, c0, c1, c2, c3, c4, hpp, h5, y, hy2, ha⟩ := h i hi
  obtain rfl : y = l[i] := (Option.some.inj (hy.symm.trans hy2)).symm
  exact ⟨b, off, c0, c1, c2, c3, c4, hpp, Nd.five_keep (Nd.keeps_below hb) h5, hp _ _ ha⟩
theorem Nd.RowG.one {Pr : Value → Nd.N → Prop} {W : World} {g : Nat} {c0 c1 c2 c3 c4 : Value} {x : Nd.N} (h : W.heap[g]? = some (.cells #[c0, c1, c2, c3, c4] 37 (0, 0))) (ha : Pr (.agg #[c0, c1, c2, c3, c4]) x) : Nd.RowG Pr W (some ⟨g, 0, none⟩) [x] := fun i y hy => by
  have hi : i = 0 := by
    obtain ⟨hi, _⟩ := List.getElem?_eq_some_iff.1 hy
    simpa using hi
  subst hi
  obtain rfl : x = y := by simpa using hy
  obtain ⟨k0, k1, k2, k3, k4⟩ := Vl.five_of h
  exact ⟨g, 0, c0, c1, c2, c3, c4, rfl, ⟨k0, k1, k2, k3, k4⟩, ha⟩
theorem Nd.OwnG.imp {Pr Qr : Value → Nd.N → Prop} {B : Nat} {W : World} {v : Value} {l : List Nd.N} (h : Nd.OwnG Pr B W v l) (hi : ∀ u y, Pr u y → Qr u y) : Nd.OwnG Qr B W v l := by
  obtain ⟨cs, h1, h2, h3⟩ := h
  refine ⟨cs, h1, h2, fun i y hy => ?_⟩
  obtain ⟨c0, c1, c2, c3, c4, e0, e1, e2, e3, e4, ha⟩ := h3 i y hy
  exact ⟨c0, c1, c2, c3, c4, e0, e1, e2, e3, e4, hi _ _ ha⟩
theorem Nd.OwnG.alloc {Pr : Value → Nd.N → Prop} {B : Nat} {W : World} {v : Value} {l : List Nd.N} (h : Nd.OwnG Pr B W v l) (o : Obj) : Nd.OwnG Pr B (W.alloc o) v l := by
  obtain ⟨cs, h1, h2, h3⟩ := h
  exact ⟨cs, h1.alloc o, h2, h3⟩
theorem Nd.OwnG.lt {Pr : Value → Nd.N → Prop} {B : Nat} {W : World} {v : Value} {l : List Nd.N} (h : Nd.OwnG Pr B W v l) : ∀ k, v.ownBlock = some k → B ≤ k ∧ k < W.heap.size := by
  obtain ⟨cs, h1, _⟩ := h
  exact h1.lt
theorem Nd.OwnG.grown {Pr : Value → Nd.N → Prop} {B : Nat} {W0 W W' : World} {v : Value} {l : List Nd.N} (hb : Below B W0 W) (h : Nd.OwnG Pr B W v l) (hg : W.grownBy W' v.ownBlock) (hz : B ≤ W.heap.size) : Below B W0 W' := hb.grown hg hz (fun k hk => (h.lt k hk).1)
theorem Nd.OwnG.made (Pr : Value → Nd.N → Prop) (W : World) : Nd.OwnG Pr W.heap.size (W.alloc (.cells #[] 37)) (.slice (some ⟨W.heap.size, 0, none⟩) 0 0) [] := ⟨[], World.ownsRow_made W #[] 0 (Nat.le_refl _) (Nat.zero_le _) rfl, rfl, fun i y h => by simp at h⟩
theorem Nd.OwnG.at {Pr : Value → Nd.N → Prop} {B : Nat} {W : World} {v : Value} {l : List Nd.N} (h : Nd.OwnG Pr B W v l) (hp : ∀ u y, Pr u y → Nd.At W u y) : ∃ p c, v = .slice p l.length c ∧ Nd.Row W p l := by
  obtain ⟨cs, hO, hs, hk⟩ := h
  rcases hO.2 with ⟨hv, h0⟩ | ⟨g, cap, cur, hv, hg, hc, hn, hm, hcs, ht⟩
  · refine ⟨none, 0, by rw [hv, h0], fun i hi => by omega⟩
  · subst hv
    refine ⟨some ⟨g, 0, none⟩, cap, rfl, fun i hi => ?_⟩
    obtain ⟨c0, c1, c2, c3, c4, e0, e1, e2, e3, e4, ha⟩ := hk i l[i] (List.getElem?_eq_getElem hi)
    have key : ∀ j q, cs[j]? = some q → W.cell? ⟨g, 0 + j, none⟩ = some q := fun j q hq => by
      rw [Nat.zero_add, Lib.cell_of_heap hc, ← Array.getElem?_toList]
      rw [← ht] at hq
      obtain ⟨hjl, _⟩ := List.getElem?_eq_some_iff.1 hq
      rw [List.length_take] at hjl
      rwa [List.getElem?_take_of_lt (by omega)] at hq
    exact ⟨g, 0, c0, c1, c2, c3, c4, rfl, ⟨key _ _ e0, key _ _ e1, key _ _ e2, key _ _ e3, key _ _ e4⟩, l[i], List.getElem?_eq_getElem hi, hp _ _ ha⟩
/-- The cells of nodes that were given, in a row. -/
theorem Nd.RowG.news {Pr : Value → Nd.N → Prop} (hPr : Nd.Shaped Pr) {W : World} {ad : Addr} : ∀ (m : Nat) {l : List Nd.N}, Nd.RowG Pr W (some ad) l → m ≤ l.length → ∃ news : List Value, news.length = m * 5 ∧ (∀ j u, news[j]? = some u → W.cell? (ad.add j) = some u) ∧ (∀ u ∈ news, u.oneCell' = true) ∧
    ∀ i y, i < m → l[i]? = some y → ∃ c0 c1 c2 c3 c4, news[i * 5]? = some c0 ∧ news[i * 5 + 1]? = some c1 ∧ news[i * 5 + 2]? = some c2 ∧ news[i * 5 + 3]? = some c3 ∧ news[i * 5 + 4]? = some c4 ∧ Pr (.agg #[c0, c1, c2, c3, c4]) y
  | 0, l, _, _ => ⟨[], rfl, fun j u h => by simp at h, fun u h => by simp at h, fun i y h => by omega⟩
  | m + 1, l, h, hm => by
    obtain ⟨news, n1, n2, n3, n4⟩ := Nd.RowG.news hPr m h (by omega)
    obtain ⟨b, off, c0, c1, c2, c3, c4, hp, ⟨k0, k1, k2, k3, k4⟩, ha⟩ := h m l[m] (List.getElem?_eq_getElem (by omega))
    cases hp
    refine ⟨news ++ [c0, c1, c2, c3, c4], by rw [List.length_append, n1]; simp; omega, fun j u hj => ?_, fun u hu => ?_, fun i y hi hy => ?_⟩
    · by_cases hlt : j < news.length
      · rw [List.getElem?_append_left hlt] at hj
        exact n2 j u hj
      · rw [List.getElem?_append_right (by omega), n1] at hj
        rw [show (⟨b, off, none⟩ : Addr).add j = ⟨b, off + j, none⟩ by simp [Addr.add]]
        have hj2 : j = m * 5 + (j - m * 5) := by omega
        generalize j - m * 5 = r at hj hj2
        subst hj2
        match r, hj with
        | 0, hj => cases hj; exact k0
        | 1, hj => cases hj; rw [← Nat.add_assoc]; exact k1
        | 2, hj => cases hj; rw [← Nat.add_assoc]; exact k2
        | 3, hj => cases hj; rw [← Nat.add_assoc]; exact k3
        | 4, hj => cases hj; rw [← Nat.add_assoc]; exact k4
        | r + 5, hj => simp at hj
    · rcases List.mem_append.1 hu with hu | hu
      · exact n3 u hu
      · exact hPr _ _ _ _ _ _ ha u hu
    · by_cases him : i < m
      · obtain ⟨d0, d1, d2, d3, d4, e0, e1, e2, e3, e4, hd⟩ := n4 i y him hy
        exact ⟨d0, d1, d2, d3, d4, by rw [List.getElem?_append_left (by omega)]; exact e0, by rw [List.getElem?_append_left (by omega)]; exact e1, by rw [List.getElem?_append_left (by omega)]; exact e2, by rw [List.getElem?_append_left (by omega)]; exact e3, by rw [List.getElem?_append_left (by omega)]; exact e4, hd⟩
      · obtain rfl : i = m := by omega
        obtain rfl : l[i] = y := Option.some.inj ((List.getElem?_eq_getElem (by omega)).symm.trans hy)
        have key : ∀ r, (news ++ [c0, c1, c2, c3, c4])[i * 5 + r]? = [c0, c1, c2, c3, c4][r]? := fun r => by
          rw [List.getElem?_append_right (by omega), n1, Nat.add_sub_cancel_left]
        exact ⟨c0, c1, c2, c3, c4, key 0, key 1, key 2, key 3, key 4, ha⟩
theorem Nd.appG {Pr : Value → Nd.N → Prop} (hPr : Nd.Shaped Pr) (B : Nat) (l m : List Nd.N) (v : Value) (q : Option Addr) (n c : Nat) (ty : TypeId) (w : World) (hO : Nd.OwnG Pr B w v l) (hb0 : B ≤ w.heap.size) (hA : Nd.RowG Pr w q m) (hn : n = m.length) (hl : l.length ≤ 100000000) (hm : m.length ≤ 100000000) :
    ∃ v' w', (Builtin.append_ #[22, 22] ty #[v, .slice q n c]).run Tryz.prog w = .ok v' w' ∧ Nd.OwnG Pr B w' v' (l ++ m) ∧ w.grownBy w' v.ownBlock := by
  obtain ⟨i0, hi, hz0, hz1, hz2⟩ := Nd.infoNode
  have hT := Tryz.underlying22
  subst hn
  obtain ⟨cs, hown, hcl, hk⟩ := hO
  cases q with
  | some ad =>
    obtain ⟨news, n1, n2, n3, n4⟩ := Nd.RowG.news hPr m.length hA (Nat.le_refl _)
    obtain ⟨v', w', hr, h2, h3, _, h5⟩ := run_append_own_at (P := Tryz.prog) w B 22 ty 37 i0 _ 5 96 hT hi hz0 hz1 hz2 rfl (by decide) v l.length cs hown ad m.length c news n1 n2 n3 (by unfold maxLen; omega) (by omega) hb0
    refine ⟨v', w', hr, ⟨cs ++ news, by rw [List.length_append]; exact h2, by rw [List.length_append, List.length_append, hcl, n1]; omega, fun i y hy => ?_⟩, h3⟩
    by_cases him : i < l.length
    · rw [List.getElem?_append_left him] at hy
      obtain ⟨d0, d1, d2, d3, d4, e0, e1, e2, e3, e4, hd⟩ := hk i y hy
      exact ⟨d0, d1, d2, d3, d4, by rw [List.getElem?_append_left (by omega)]; exact e0, by rw [List.getElem?_append_left (by omega)]; exact e1, by rw [List.getElem?_append_left (by omega)]; exact e2, by rw [List.getElem?_append_left (by omega)]; exact e3, by rw [List.getElem?_append_left (by omega)]; exact e4, hd⟩
    · rw [List.getElem?_append_right (by omega)] at hy
      obtain ⟨d0, d1, d2, d3, d4, e0, e1, e2, e3, e4, hd⟩ := n4 (i - l.length) y (List.getElem?_eq_some_iff.1 hy).1 hy
      have key : ∀ r, (cs ++ news)[i * 5 + r]? = news[(i - l.length) * 5 + r]? := fun r => by
        rw [List.getElem?_append_right (by omega), hcl, show i * 5 + r - l.length * 5 = (i - l.length) * 5 + r by omega]
      exact ⟨d0, d1, d2, d3, d4, (key 0).trans e0, (key 1).trans e1, (key 2).trans e2, (key 3).trans e3, (key 4).trans e4, hd⟩
  | none =>
    have hm0 : m = [] := by
      cases m with
      | nil => rfl
      | cons x r =>
        obtain ⟨b, off, _, _, _, _, _, hp, _⟩ := hA 0 x rfl
        cases hp
    subst hm0
    rw [List.append_nil]
    rcases hown.2 with ⟨rfl, h0⟩ | ⟨g, cap, cur, rfl, hg, hc, hn, hm2, hs, ht⟩
    · refine ⟨.slice none 0 0, w, ?_, ⟨cs, hown, hcl, hk⟩, grownBy_refl _ _⟩
      have hf := run_firstCells_none (P := Tryz.prog) w i0.size 0 0 c
      simp [Builtin.append_, run_underlying hT, sizeOf, typeInfo, hi, Builtin.lenOf, hf]
    · refine ⟨.slice (some ⟨g, 0, none⟩) l.length cap, w, ?_, ⟨cs, hown, hcl, hk⟩, grownBy_refl _ _⟩
      exact run_append_room_src (P := Tryz.prog) w 22 22 ty 37 i0 hT hi g 0 l.length cap (.slice none 0 c) 0 [] (Src.ofNil w hT c) (by omega) (by simp) (by simp)
/-- append as an operation of a plain region. -/
theorem Nd.listG {ops : Array Oper} {rest : List Oper} {o : Oper} {a : Act} {w : World} {Q : Exit → Act → World → Prop}
    (hw : Region.wanted o (yielded ops a.tmps) = true) (s x : Operand) (hop : o.op = Op.call { callee := Callee.builtin Builtin.append, args := #[s, x], argTypes := #[22, 22] })
    {Pr : Value → Nd.N → Prop} (hPr : Nd.Shaped Pr) (B : Nat) (l m : List Nd.N) (v : Value) (q : Option Addr) (n c : Nat) (hs : a.eval s = v) (hx : a.eval x = .slice q n c)
    (hO : Nd.OwnG Pr B w v l) (hb0 : B ≤ w.heap.size) (hA : Nd.RowG Pr w q m) (hn : n = m.length) (hl : l.length ≤ 100000000) (hm : m.length ≤ 100000000)
    (hK : ∀ v' w', Nd.OwnG Pr B w' v' (l ++ m) → w.grownBy w' v.ownBlock → wpList Tryz.prog ops Q rest (a.put o.dst v') w') : wpList Tryz.prog ops Q (o :: rest) a w := by
  refine BigFrame.wpList_want hw fun K hK2 => ?_
  obtain ⟨v', w', hr, h2, h3⟩ := Nd.appG hPr B l m v q n c o.type w hO hb0 hA hn hl hm
  unfold Oper.wp
  simp [execOp, hop, resolve, invoke, builtin, hs, hx, hr, Result.andThen]
  exact hK2 _ _ (hK v' w' h2 h3)
end Go.Proofs.YteiccjakaabfnaaGreatDoor
