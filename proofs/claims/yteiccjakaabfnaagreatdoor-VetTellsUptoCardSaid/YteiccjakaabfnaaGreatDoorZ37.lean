/-
  append of tokens that were given onto a row of the call's own; what is known of each value is given. Condition: the lists are of a size that a machine holds.
  append of tokens that hang on blocks of the call's own onto a row of the call's own. Condition: the lists are of a size that a machine holds.
-/
import Derived.Test.YteiccjakaabfnaaGreatDoorZ55
import Derived.Deep.AppendSrc
import Derived.Deep.RegionLaw
import Derived.Maps.AppendAt
namespace Go.Proofs.YteiccjakaabfnaaGreatDoor
open Go.RowKit Go.Lib Go.Sort Go.Shelf

/-- A row of the call's own; each of its tokens is as Pr says. -/
def Sc.OwnP (Pr : Value → Sc.T → Prop) (B : Nat) (W : World) (v : Value) (l : List Sc.T) : Prop :=
  ∃ cs, W.ownsRow B 110 3 v l.length cs ∧ cs.length = l.length * 3 ∧ ∀ i y, l[i]? = some y → ∃ c0 c1 c2, cs[i * 3]? = some c0 ∧ cs[i * 3 + 1]? = some c1 ∧ cs[i * 3 + 2]? = some c2 ∧ Pr (.agg #[c0, c1, c2]) y
/-- Tokens that were given: their cells lie in this world, each is as Pr says. -/
def Sc.RowP (Pr : Value → Sc.T → Prop) (W : World) (p : Option Addr) (l : List Sc.T) : Prop :=
  ∀ i y, l[i]? = some y → ∃ b off c0 c1 c2, p = some ⟨b, off, none⟩ ∧ Sc.Three W b (off + i * 3) c0 c1 c2 ∧ Pr (.agg #[c0, c1, c2]) y
/-- What is asked of Pr: its values are tokens' values. -/
def Sc.Shaped (Pr : Value → Sc.T → Prop) : Prop := ∀ u y, Pr u y → ∃ (k : Int) (t : ByteArray) (p : Option Addr) (n c : Nat), u = .agg #[.int .u8 k, .string t, .slice p n c]
theorem Sc.one_cell {Pr : Value → Sc.T → Prop} (hP : Sc.Shaped Pr) {c0 c1 c2 : Value} {y : Sc.T} (h : Pr (.agg #[c0, c1, c2]) y) : ∀ q ∈ [c0, c1, c2], q.oneCell' = true := by
  obtain ⟨k', t', pp', np', cp', e⟩ := hP _ _ h
  simp only [Value.agg.injEq, Array.mk.injEq, List.cons.injEq, and_true] at e
  obtain ⟨rfl, rfl, rfl⟩ := e
  intro q hq
  simp at hq
  rcases hq with rfl | rfl | rfl <;> rfl
/-- The cells of tokens that were given, in a row. -/
theorem Sc.RowP.news {Pr : Value → Sc.T → Prop} (hP : Sc.Shaped Pr) {W : World} {ad : Addr} : ∀ (m : Nat) {l : List Sc.T}, Sc.RowP Pr W (some ad) l → m ≤ l.length → ∃ news : List Value, news.length = m * 3 ∧ (∀ j u, news[j]? = some u → W.cell? (ad.add j) = some u) ∧ (∀ u ∈ news, u.oneCell' = true) ∧
    ∀ i y, i < m → l[i]? = some y → ∃ c0 c1 c2, news[i * 3]? = some c0 ∧ news[i * 3 + 1]? = some c1 ∧ news[i * 3 + 2]? = some c2 ∧ Pr (.agg #[c0, c1, c2]) y
  | 0, l, _, _ => ⟨[], rfl, fun j u h => by simp at h, fun u h => by simp at h, fun i y h => by omega⟩
  | m + 1, l, h, hm => by
    obtain ⟨news, n1, n2, n3, n4⟩ := Sc.RowP.news hP m h (by omega)
    obtain ⟨b, off, c0, c1, c2, hp, ⟨k0, k1, k2⟩, ha⟩ := h m l[m] (List.getElem?_eq_getElem (by omega))
    cases hp
    refine ⟨news ++ [c0, c1, c2], by rw [List.length_append, n1]; simp; omega, fun j u hj => ?_, fun u hu => ?_, fun i y hi hy => ?_⟩
    · by_cases hlt : j < news.length
      · rw [List.getElem?_append_left hlt] at hj
        exact n2 j u hj
      · rw [List.getElem?_append_right (by omega), n1] at hj
        rw [show (⟨b, off, none⟩ : Addr).add j = ⟨b, off + j, none⟩ by simp [Addr.add]]
        have hj2 : j = m * 3 + (j - m * 3) := by omega
        generalize j - m * 3 = r at hj hj2
        subst hj2
        match r, hj with
        | 0, hj => cases hj; exact k0
        | 1, hj => cases hj; rw [← Nat.add_assoc]; exact k1
        | 2, hj => cases hj; rw [← Nat.add_assoc]; exact k2
        | r + 3, hj => simp at hj
    · rcases List.mem_append.1 hu with hu | hu
      · exact n3 u hu
      · exact Sc.one_cell hP ha u hu
    · by_cases him : i < m
      · obtain ⟨d0, d1, d2, e0, e1, e2, hd⟩ := n4 i y him hy
        exact ⟨d0, d1, d2, by rw [List.getElem?_append_left (by omega)]; exact e0, by rw [List.getElem?_append_left (by omega)]; exact e1, by rw [List.getElem?_append_left (by omega)]; exact e2, hd⟩
      · obtain rfl : i = m := by omega
        obtain rfl : l[i] = y := Option.some.inj ((List.getElem?_eq_getElem (by omega)).symm.trans hy)
        have key : ∀ r, (news ++ [c0, c1, c2])[i * 3 + r]? = [c0, c1, c2][r]? := fun r => by
          rw [List.getElem?_append_right (by omega), n1, Nat.add_sub_cancel_left]
        exact ⟨c0, c1, c2, key 0, key 1, key 2, ha⟩
theorem Sc.appP (Pr : Value → Sc.T → Prop) (hP : Sc.Shaped Pr) (B : Nat) (l m : List Sc.T) (v : Value) (q : Option Addr) (n c : Nat) (ty : TypeId) (w : World) (hO : Sc.OwnP Pr B w v l) (hb0 : B ≤ w.heap.size) (hA : Sc.RowP Pr w q m) (hn : n = m.length) (hl : l.length ≤ 100000000) (hm : m.length ≤ 100000000) :
    ∃ v' w', (Builtin.append_ #[104, 104] ty #[v, .slice q n c]).run Tryz.prog w = .ok v' w' ∧ Sc.OwnP Pr B w' v' (l ++ m) ∧ w.grownBy w' v.ownBlock ∧ (v'.ownBlock = v.ownBlock ∨ v'.ownBlock = some w.heap.size) := by
  obtain ⟨i0, hi, hz0, hz1, hz2⟩ := Sc.infoTok
  have hT := Tryz.underlying104
  subst hn
  obtain ⟨cs, hown, hcl, hk⟩ := hO
  cases q with
  | some ad =>
    obtain ⟨news, n1, n2, n3, n4⟩ := Sc.RowP.news hP m.length hA (Nat.le_refl _)
    obtain ⟨v', w', hr, h2, h3, _, h5⟩ := run_append_own_at (P := Tryz.prog) w B 104 ty 110 i0 _ 3 48 hT hi hz0 hz1 hz2 rfl (by decide) v l.length cs hown ad m.length c news n1 n2 n3 (by unfold maxLen; omega) (by omega) hb0
    refine ⟨v', w', hr, ⟨cs ++ news, by rw [List.length_append]; exact h2, by rw [List.length_append, List.length_append, hcl, n1]; omega, fun i y hy => ?_⟩, h3, h5⟩
    by_cases him : i < l.length
    · rw [List.getElem?_append_left him] at hy
      obtain ⟨d0, d1, d2, e0, e1, e2, hd⟩ := hk i y hy
      exact ⟨d0, d1, d2, by rw [List.getElem?_append_left (by omega)]; exact e0, by rw [List.getElem?_append_left (by omega)]; exact e1, by rw [List.getElem?_append_left (by omega)]; exact e2, hd⟩
    · rw [List.getElem?_append_right (by omega)] at hy
      obtain ⟨d0, d1, d2, e0, e1, e2, hd⟩ := n4 (i - l.length) y (List.getElem?_eq_some_iff.1 hy).1 hy
      have key : ∀ r, (cs ++ news)[i * 3 + r]? = news[(i - l.length) * 3 + r]? := fun r => by
        rw [List.getElem?_append_right (by omega), hcl, show i * 3 + r - l.length * 3 = (i - l.length) * 3 + r by omega]
      exact ⟨d0, d1, d2, (key 0).trans e0, (key 1).trans e1, (key 2).trans e2, hd⟩
  | none =>
    have hm0 : m = [] := by
      cases m with
      | nil => rfl
      | cons x r =>
        obtain ⟨b, off, _, _, _, hp, _⟩ := hA 0 x rfl
        cases hp
    subst hm0
    rw [List.append_nil]
    rcases hown.2 with ⟨rfl, h0⟩ | ⟨g, cap, cur, rfl, hg, hc, hn, hm2, hs, ht⟩
    · refine ⟨.slice none 0 0, w, ?_, ⟨cs, hown, hcl, hk⟩, ⟨rfl, rfl, rfl, Nat.le_refl _, fun _ _ _ => rfl⟩, Or.inl rfl⟩
      have hf := run_firstCells_none (P := Tryz.prog) w i0.size 0 0 c
      simp [Builtin.append_, run_underlying hT, sizeOf, typeInfo, hi, Builtin.lenOf, hf]
    · refine ⟨.slice (some ⟨g, 0, none⟩) l.length cap, w, ?_, ⟨cs, hown, hcl, hk⟩, ⟨rfl, rfl, rfl, Nat.le_refl _, fun _ _ _ => rfl⟩, Or.inl rfl⟩
      exact run_append_room_src (P := Tryz.prog) w 104 104 ty 110 i0 hT hi g 0 l.length cap (.slice none 0 c) 0 [] (Src.ofNil w hT c) (by omega) (by simp) (by simp)
/-- append as an operation of a plain region. -/
theorem Sc.listP {ops : Array Oper} {rest : List Oper} {o : Oper} {a : Act} {w : World} {Q : Exit → Act → World → Prop} (hgd : o.guard = none) (s x : Operand) (hop : o.op = Op.call { callee := Callee.builtin Builtin.append, args := #[s, x], argTypes := #[104, 104] })
    (Pr : Value → Sc.T → Prop) (hP : Sc.Shaped Pr) (B : Nat) (l m : List Sc.T) (v : Value) (q : Option Addr) (n c : Nat) (hs : a.eval s = v) (hx : a.eval x = .slice q n c)
    (hO : Sc.OwnP Pr B w v l) (hb0 : B ≤ w.heap.size) (hA : Sc.RowP Pr w q m) (hn : n = m.length) (hl : l.length ≤ 100000000) (hm : m.length ≤ 100000000)
    (h : ∀ v' w', Sc.OwnP Pr B w' v' (l ++ m) → w.grownBy w' v.ownBlock → (v'.ownBlock = v.ownBlock ∨ v'.ownBlock = some w.heap.size) → wpList Tryz.prog ops Q rest (a.put o.dst v') w') : wpList Tryz.prog ops Q (o :: rest) a w := by
  obtain ⟨v', w', hr, h2, h3, h4⟩ := Sc.appP Pr hP B l m v q n c o.type w hO hb0 hA hn hl hm
  refine wpList_plain hgd fun K hK => ?_
  unfold Oper.wp
  simp [execOp, hop, resolve, invoke, builtin, hs, hx, hr, Result.andThen]
  exact hK _ _ (h v' w' h2 h3 h4)
/-- A row of the call's own, read, where Pr's values are tokens of this world. -/
theorem Sc.OwnP.at {Pr : Value → Sc.T → Prop} {B : Nat} {W : World} {v : Value} {l : List Sc.T} (h : Sc.OwnP Pr B W v l) (hT : ∀ u y, Pr u y → Sc.Tok W u y) : ∃ p c, v = .slice p l.length c ∧ Sc.At W p l := by
  obtain ⟨cs, hO, hs, hk⟩ := h
  rcases hO.2 with ⟨hv, h0⟩ | ⟨g, cap, cur, hv, hg, hc, hn, hm, hcs, ht⟩
  · refine ⟨none, 0, by rw [hv, h0], fun i hi => by omega⟩
  · subst hv
    refine ⟨some ⟨g, 0, none⟩, cap, rfl, fun i hi => ?_⟩
    obtain ⟨c0, c1, c2, e0, e1, e2, ha⟩ := hk i l[i] (List.getElem?_eq_getElem hi)
    have key : ∀ j q, cs[j]? = some q → W.cell? ⟨g, 0 + j, none⟩ = some q := fun j q hq => by
      rw [Nat.zero_add, Lib.cell_of_heap hc, ← Array.getElem?_toList]
      rw [← ht] at hq
      obtain ⟨hjl, _⟩ := List.getElem?_eq_some_iff.1 hq
      rw [List.length_take] at hjl
      rwa [List.getElem?_take_of_lt (by omega)] at hq
    exact ⟨g, 0, c0, c1, c2, rfl, ⟨key _ _ e0, key _ _ e1, key _ _ e2⟩, l[i], List.getElem?_eq_getElem hi, hT _ _ ha⟩
theorem Sc.OwnP.imp {Pr Pr' : Value → Sc.T → Prop} {B : Nat} {W : World} {v : Value} {l : List Sc.T} (h : Sc.OwnP Pr B W v l) (hi : ∀ u y, Pr u y → Pr' u y) : Sc.OwnP Pr' B W v l := by
  obtain ⟨cs, h1, h2, h3⟩ := h
  exact ⟨cs, h1, h2, fun i y hy => by
    obtain ⟨c0, c1, c2, e0, e1, e2, ha⟩ := h3 i y hy
    exact ⟨c0, c1, c2, e0, e1, e2, hi _ _ ha⟩⟩
theorem Sc.OwnP.below {Pr : Value → Sc.T → Prop} {B : Nat} {W W' : World} {v : Value} {l : List Sc.T} (h : Sc.OwnP Pr B W v l) (hb : Below W.heap.size W W') : Sc.OwnP Pr B W' v l := by
  obtain ⟨cs, h1, h2, h3⟩ := h
  exact ⟨cs, ownsRow_below h1 hb, h2, h3⟩
theorem Sc.OwnP.lt {Pr : Value → Sc.T → Prop} {B : Nat} {W : World} {v : Value} {l : List Sc.T} (h : Sc.OwnP Pr B W v l) : ∀ k, v.ownBlock = some k → B ≤ k ∧ k < W.heap.size := by
  obtain ⟨cs, h1, _⟩ := h
  exact h1.lt
theorem Sc.OwnP.as {Pr : Value → Sc.T → Prop} {B : Nat} {W : World} {v : Value} {l l2 : List Sc.T} (h : Sc.OwnP Pr B W v l) (e : l = l2) : Sc.OwnP Pr B W v l2 := e ▸ h
theorem Sc.RowP.of {Pr : Value → Sc.T → Prop} {W0 W : World} {p : Option Addr} {l : List Sc.T} (h : Sc.At W0 p l) (hb : Below W0.heap.size W0 W) (hi : ∀ u y, Sc.Tok W0 u y → Pr u y) : Sc.RowP Pr W p l := fun i y hy => by
  obtain ⟨hl, rfl⟩ := List.getElem?_eq_some_iff.1 hy
  obtain ⟨b, off, c0, c1, c2, hp, h3, y, hy2, ht⟩ := h i hl
  obtain rfl : y = l[i] := Option.some.inj (hy2.symm.trans hy)
  exact ⟨b, off, c0, c1, c2, hp, h3.below hb, hi _ _ ht⟩
theorem Sc.made (Pr : Value → Sc.T → Prop) (W : World) : Sc.OwnP Pr W.heap.size (W.alloc (.cells #[] 110)) (.slice (some ⟨W.heap.size, 0, none⟩) 0 0) [] := ⟨[], World.ownsRow_made W #[] 0 (Nat.le_refl _) (Nat.zero_le _) rfl, rfl, fun i y h => by simp at h⟩
/-- One token in a block of its own. -/
theorem Sc.RowP.one {Pr : Value → Sc.T → Prop} {W : World} {g : Nat} {c0 c1 c2 : Value} {x : Sc.T} (h : W.heap[g]? = some (.cells #[c0, c1, c2] 110 (0, 0))) (ha : Pr (.agg #[c0, c1, c2]) x) : Sc.RowP Pr W (some ⟨g, 0, none⟩) [x] := fun i y hy => by
  have hi : i = 0 := by
    obtain ⟨hi, _⟩ := List.getElem?_eq_some_iff.1 hy
    simpa using hi
  subst hi
  obtain rfl : x = y := by simpa using hy
  obtain ⟨k0, k1, k2⟩ := Sc.three_of h
  exact ⟨g, 0, c0, c1, c2, rfl, ⟨k0, k1, k2⟩, ha⟩
end Go.Proofs.YteiccjakaabfnaaGreatDoor
namespace Go.Proofs.YteiccjakaabfnaaGreatDoor
open Go.RowKit Go.Lib Go.Sort Go.Shelf

theorem Sc.Off.grown {B : Nat} {W W' : World} {v v' u : Value} {y : Sc.T} (h : Sc.Off B W v.ownBlock u y) (hg : W.grownBy W' v.ownBlock) (hat : v'.ownBlock = v.ownBlock ∨ v'.ownBlock = some W.heap.size) : Sc.Off B W' v'.ownBlock u y := fun W2 hW => h W2 (fun j h1 h2 h3 =>
  (hW j h1 (Nat.lt_of_lt_of_le h2 hg.size) (by
    rcases hat with e | e
    · rw [e]; exact h3
    · rw [e]; intro e2; cases e2; omega)).trans (hg.block j h2 h3))
/-- What hangs on the blocks of a call's own hangs on those of the caller's. -/
theorem Sc.Off.shift {B B' : Nat} {W W' : World} {blk ob : Option Nat} {u : Value} {y : Sc.T} (h : Sc.Off B' W blk u y) (hB : B ≤ B') (hs : W.heap.size ≤ W'.heap.size) (hk : ∀ j, B' ≤ j → j < W.heap.size → W'.heap[j]? = W.heap[j]?) (hne : ∀ j, ob = some j → j < B' ∨ W.heap.size ≤ j) : Sc.Off B W' ob u y := fun W2 hW => h W2 (fun j h1 h2 _ =>
  (hW j (Nat.le_trans hB h1) (Nat.lt_of_lt_of_le h2 hs) (fun e => by have := hne j e.symm; omega)).trans (hk j h1 h2))
theorem Sc.shaped_off (B : Nat) (W : World) (blk : Option Nat) : Sc.Shaped (Sc.Off B W blk) := fun u y h => by
  obtain ⟨k, t, pn, nn, cn, e⟩ := h.at.shape
  exact ⟨(k : Int), t, pn, nn, cn, e⟩
theorem Sc.appO (B : Nat) (l m : List Sc.T) (v : Value) (q : Option Addr) (n c : Nat) (ty : TypeId) (w : World) (hO : Sc.OwnRow B w v l.length l) (hb0 : B ≤ w.heap.size) (hA : Sc.RowP (Sc.Off B w v.ownBlock) w q m) (hn : n = m.length) (hl : l.length ≤ 100000000) (hm : m.length ≤ 100000000) :
    ∃ v' w', (Builtin.append_ #[104, 104] ty #[v, .slice q n c]).run Tryz.prog w = .ok v' w' ∧ Sc.OwnRow B w' v' (l ++ m).length (l ++ m) ∧ w.grownBy w' v.ownBlock ∧ (v'.ownBlock = v.ownBlock ∨ v'.ownBlock = some w.heap.size) := by
  obtain ⟨cs, h1, -, h3⟩ := hO
  obtain ⟨v', w', hr, ⟨cs', k1, k2, k3⟩, hg, hat⟩ := Sc.appP (Sc.Off B w v.ownBlock) (Sc.shaped_off _ _ _) B l m v q n c ty w ⟨cs, h1, h1.1, h3⟩ hb0 hA hn hl hm
  refine ⟨v', w', hr, ⟨cs', k1, rfl, fun i y hy => ?_⟩, hg, hat⟩
  obtain ⟨c0, c1, c2, e0, e1, e2, ho⟩ := k3 i y hy
  exact ⟨c0, c1, c2, e0, e1, e2, ho.grown hg hat⟩
/-- append as a step of a region that draws its order. -/
theorem Sc.stepO {ops : Array Oper} {o : Oper} {a : Act} {w : World} {K : Act → World → Prop} {Q : Exit → Act → World → Prop} {E : Prop}
    (hg : o.guard = none) (s x : Operand) (hop : o.op = Op.call { callee := Callee.builtin Builtin.append, args := #[s, x], argTypes := #[104, 104] })
    (B : Nat) (l m : List Sc.T) (v : Value) (q : Option Addr) (n c : Nat) (hs : a.eval s = v) (hx : a.eval x = .slice q n c)
    (hO : Sc.OwnRow B w v l.length l) (hb0 : B ≤ w.heap.size) (hA : Sc.RowP (Sc.Off B w v.ownBlock) w q m) (hn : n = m.length) (hl : l.length ≤ 100000000) (hm : m.length ≤ 100000000)
    (hK : ∀ v' w', Sc.OwnRow B w' v' (l ++ m).length (l ++ m) → w.grownBy w' v.ownBlock → (v'.ownBlock = v.ownBlock ∨ v'.ownBlock = some w.heap.size) → K (a.put o.dst v') w') :
    if Region.wanted o (yielded ops a.tmps) = true then Oper.wp Tryz.prog o a w K Q else E := by
  have hw : Region.wanted o (yielded ops a.tmps) = true := by simp [Region.wanted, hg]
  rw [if_pos hw]
  obtain ⟨v', w', hr, h2, h3, h4⟩ := Sc.appO B l m v q n c o.type w hO hb0 hA hn hl hm
  unfold Oper.wp
  simp [execOp, hop, resolve, invoke, builtin, hs, hx, hr, Result.andThen]
  exact hK v' w' h2 h3 h4
/-- append as an operation of a plain region. -/
theorem Sc.listO {ops : Array Oper} {rest : List Oper} {o : Oper} {a : Act} {w : World} {Q : Exit → Act → World → Prop} (hgd : o.guard = none) (s x : Operand) (hop : o.op = Op.call { callee := Callee.builtin Builtin.append, args := #[s, x], argTypes := #[104, 104] })
    (B : Nat) (l m : List Sc.T) (v : Value) (q : Option Addr) (n c : Nat) (hs : a.eval s = v) (hx : a.eval x = .slice q n c)
    (hO : Sc.OwnRow B w v l.length l) (hb0 : B ≤ w.heap.size) (hA : Sc.RowP (Sc.Off B w v.ownBlock) w q m) (hn : n = m.length) (hl : l.length ≤ 100000000) (hm : m.length ≤ 100000000)
    (h : ∀ v' w', Sc.OwnRow B w' v' (l ++ m).length (l ++ m) → w.grownBy w' v.ownBlock → (v'.ownBlock = v.ownBlock ∨ v'.ownBlock = some w.heap.size) → wpList Tryz.prog ops Q rest (a.put o.dst v') w') : wpList Tryz.prog ops Q (o :: rest) a w := by
  obtain ⟨v', w', hr, h2, h3, h4⟩ := Sc.appO B l m v q n c o.type w hO hb0 hA hn hl hm
  refine wpList_plain hgd fun K hK => ?_
  unfold Oper.wp
  simp [execOp, hop, resolve, invoke, builtin, hs, hx, hr, Result.andThen]
  exact hK _ _ (h v' w' h2 h3 h4)
theorem Sc.OwnRow.lt {B : Nat} {W : World} {v : Value} {n : Nat} {l : List Sc.T} (h : Sc.OwnRow B W v n l) : ∀ k, v.ownBlock = some k → B ≤ k ∧ k < W.heap.size := by
  obtain ⟨cs, h1, _⟩ := h
  exact h1.lt
theorem Sc.OwnRow.below {B : Nat} {W W' : World} {v : Value} {n : Nat} {l : List Sc.T} (h : Sc.OwnRow B W v n l) (hb : Below W.heap.size W W') : Sc.OwnRow B W' v n l := by
  obtain ⟨cs, h1, h2, h3⟩ := h
  exact ⟨cs, ownsRow_below h1 hb, h2, fun i y hy => by
    obtain ⟨c0, c1, c2, e0, e1, e2, ho⟩ := h3 i y hy
    exact ⟨c0, c1, c2, e0, e1, e2, fun W2 hW => ho W2 (fun j a b c => (hW j a (Nat.lt_of_lt_of_le b hb.size) c).trans (hb.block j b))⟩⟩
theorem Sc.OwnRow.as {B : Nat} {W : World} {v : Value} {n : Nat} {l l2 : List Sc.T} (h : Sc.OwnRow B W v n l) (e : l = l2) : Sc.OwnRow B W v l2.length l2 := by
  subst e
  obtain ⟨cs, h1, h2, h3⟩ := h
  subst h2
  exact ⟨cs, h1, rfl, h3⟩
/-- A row of a call's own, as what is appended to a row of the caller's. -/
theorem Sc.OwnRow.rowP {B B' : Nat} {W1 W : World} {v : Value} {l : List Sc.T} {ob : Option Nat} (h : Sc.OwnRow B' W1 v l.length l) (hB : B ≤ B') (hs : W1.heap.size ≤ W.heap.size) (hk : ∀ j, B' ≤ j → j < W1.heap.size → W.heap[j]? = W1.heap[j]?) (hne : ∀ j, ob = some j → j < B' ∨ W1.heap.size ≤ j) :
    ∃ p c, v = .slice p l.length c ∧ Sc.RowP (Sc.Off B W ob) W p l := by
  obtain ⟨cs, hown, -, hq⟩ := h
  rcases hown.2 with ⟨hv, h0⟩ | ⟨g, cap, cur, hv, hg, hc, hn, hm, hcs, ht⟩
  · refine ⟨none, 0, by rw [hv, h0], fun i y hy => ?_⟩
    have := (List.getElem?_eq_some_iff.1 hy).1
    omega
  · refine ⟨some ⟨g, 0, none⟩, cap, hv, fun i y hy => ?_⟩
    obtain ⟨c0, c1, c2, e0, e1, e2, ha⟩ := hq i y hy
    have hgl := (Array.getElem?_eq_some_iff.1 hc).1
    have hc2 : W.heap[g]? = _ := (hk g hg hgl).trans hc
    have key : ∀ j q, cs[j]? = some q → W.cell? ⟨g, 0 + j, none⟩ = some q := fun j q hq => by
      rw [Nat.zero_add, Lib.cell_of_heap hc2, ← Array.getElem?_toList]
      rw [← ht] at hq
      obtain ⟨hjl, _⟩ := List.getElem?_eq_some_iff.1 hq
      rw [List.length_take] at hjl
      rwa [List.getElem?_take_of_lt (by omega)] at hq
    exact ⟨g, 0, c0, c1, c2, rfl, ⟨key _ _ e0, key _ _ e1, key _ _ e2⟩, ha.shift hB hs hk hne⟩
/-- The same, where the world is not yet known. -/
theorem Sc.OwnRow.rowQ {B B' : Nat} {W1 : World} {v : Value} {l : List Sc.T} (h : Sc.OwnRow B' W1 v l.length l) (hB : B ≤ B') :
    ∃ p c, v = .slice p l.length c ∧ ∀ (W : World) (ob : Option Nat), W1.heap.size ≤ W.heap.size → (∀ j, B' ≤ j → j < W1.heap.size → W.heap[j]? = W1.heap[j]?) → (∀ j, ob = some j → j < B' ∨ W1.heap.size ≤ j) → Sc.RowP (Sc.Off B W ob) W p l := by
  obtain ⟨p, c, hv, -⟩ := h.rowP (ob := none) hB (Nat.le_refl _) (fun _ _ _ => rfl) (fun j e => by cases e)
  refine ⟨p, c, hv, fun W ob h1 h2 h3 => ?_⟩
  obtain ⟨p2, c2, hv2, hr⟩ := h.rowP (ob := ob) hB h1 h2 h3
  rw [hv] at hv2
  cases hv2
  exact hr
theorem Sc.end_off (B : Nat) (W : World) (blk : Option Nat) : Sc.Off B W blk (.agg #[.int .u8 6, .string ⟨#[]⟩, .slice none 0 0]) Nd.tEnd := fun W' _ => Nd.endAt W'
theorem Sc.else_off (B : Nat) (W : World) (blk : Option Nat) : Sc.Off B W blk (.agg #[.int .u8 4, .string ⟨#[]⟩, .slice none 0 0]) Nd.tElse := fun W' _ => Nd.elseAt W'
end Go.Proofs.YteiccjakaabfnaaGreatDoor
