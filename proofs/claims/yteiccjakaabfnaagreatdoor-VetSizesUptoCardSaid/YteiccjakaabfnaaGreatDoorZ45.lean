/-
  What vet's answers have to do with one another: roots as a set, levels one further in, two templates one behind the other. No condition but those that the theorems state.
  The walk of VetWithin: whatever the nodes, the law answers true. Conditions: the nodes and their texts are of a size that the walks hold; the words' table and the errors lie as they are laid, the search's limit is set.
  What is found of a text: its nodes are right, and its tags pair. No condition.
  What a template asks for, and the first names of its paths: each root is one of these, and none is this; there are no more paths than nodes. Conditions: those that the theorems state.
-/
import Derived.Test.YteiccjakaabfnaaGreatDoorZ33
import Derived.Test.YteiccjakaabfnaaGreatDoorZ44
import Derived.Test.YteiccjakaabfnaaGreatDoorZ48
import Derived.Test.YteiccjakaabfnaaGreatDoorZ31
namespace Go.Proofs.YteiccjakaabfnaaGreatDoor
open Go.Lib

theorem Vt.compact_up {α : Type} [Inhabited α] [DecidableEq α] (d : Array α) : ∀ m j, j < m → d[j]! ∈ compactUpTo d m
  | 0, j, h => absurd h (Nat.not_lt_zero _)
  | m + 1, j, h => by
    rw [compactUpTo_succ, List.mem_append]
    by_cases hj : j < m
    · exact Or.inl (Vt.compact_up d m j hj)
    · obtain rfl : j = m := by omega
      by_cases hk : Lib.keeps d j = true
      · exact Or.inr (by rw [if_pos hk]; exact List.mem_singleton.2 rfl)
      · left
        have h1 : ¬ (j = 0 ∨ d[j]! ≠ d[j - 1]!) := fun e => hk (by unfold Lib.keeps; exact decide_eq_true e)
        have h2 : j ≠ 0 := fun e => h1 (Or.inl e)
        have h3 : d[j]! = d[j - 1]! := Classical.byContradiction fun e => h1 (Or.inr e)
        rw [h3]
        exact Vt.compact_up d j (j - 1) (by omega)
theorem Vt.mem_compact {α : Type} [Inhabited α] [DecidableEq α] (zs : List α) (x : α) : x ∈ compact zs ↔ x ∈ zs := by
  constructor
  · intro h
    unfold compact compactUpTo at h
    obtain ⟨j, hj, rfl⟩ := List.mem_map.1 h
    have hj2 : j < zs.length := List.mem_range.1 (List.mem_filter.1 hj).1
    have : zs.toArray[j]! = zs[j] := by simp [hj2]
    rw [this]
    exact List.getElem_mem hj2
  · intro h
    obtain ⟨j, hj, rfl⟩ := List.mem_iff_getElem.1 h
    have : zs.toArray[j]! = zs[j] := by simp [hj]
    rw [← this]
    exact Vt.compact_up _ _ _ hj
/-- A name that counts. -/
def Vt.isRoot (x : ByteArray) : Bool := !(x.toList == []) && !(x.toList == [116, 104, 105, 115])
theorem Vt.putR_eq (ns p : List ByteArray) : Vt.putR ns p = if Vt.isRoot (Vt.rt p) then ns ++ [Vt.rt p] else ns := by
  unfold Vt.putR Vt.isRoot
  cases (Vt.rt p).toList == [] <;> cases (Vt.rt p).toList == [116, 104, 105, 115] <;> simp
theorem Vt.foldR_mem (x : ByteArray) (ps : List Vt.P) : ∀ ns : List ByteArray, x ∈ ps.foldl (fun ns p => Vt.putR ns p.node.path) ns ↔ x ∈ ns ∨ ∃ p ∈ ps, Vt.rt p.node.path = x ∧ Vt.isRoot x = true := by
  induction ps with
  | nil => intro ns; simp
  | cons p ps ih =>
    intro ns
    rw [List.foldl_cons, ih, Vt.putR_eq]
    constructor
    · rintro (h | ⟨p', h1, h2⟩)
      · by_cases hr : Vt.isRoot (Vt.rt p.node.path) = true
        · rw [if_pos hr, List.mem_append, List.mem_singleton] at h
          rcases h with h | h
          · exact Or.inl h
          · exact Or.inr ⟨p, List.mem_cons_self .., h.symm, by rw [h]; exact hr⟩
        · rw [if_neg hr] at h
          exact Or.inl h
      · exact Or.inr ⟨p', List.mem_cons_of_mem _ h1, h2⟩
    · rintro (h | ⟨p', h1, h2, h3⟩)
      · left
        split
        · exact List.mem_append_left _ h
        · exact h
      · rcases List.mem_cons.1 h1 with rfl | h1
        · left
          rw [h2, if_pos h3]
          exact List.mem_append_right _ (List.mem_singleton.2 rfl)
        · exact Or.inr ⟨p', h1, h2, h3⟩
theorem Vt.mem_names (x : ByteArray) (ps : List Vt.P) : x ∈ Vt.namesP ps ↔ ∃ p ∈ ps, Vt.rt p.node.path = x ∧ Vt.isRoot x = true := by
  unfold Vt.namesP
  rw [Vt.foldR_mem]
  simp
theorem Vt.B_data2 (x : ByteArray) : Wp.B x.data.toList = x := by cases x; simp [Wp.B]
theorem Vt.mem_sorted (x : List UInt8) (ns : List ByteArray) : x ∈ Vt.sortedL ns ↔ Wp.B x ∈ ns := by
  unfold Vt.sortedL
  rw [List.mem_mergeSort, List.mem_map]
  constructor
  · rintro ⟨s, h, rfl⟩
    rw [Vt.B_data2]; exact h
  · intro h
    exact ⟨_, h, by simp [Wp.B]⟩
theorem Vt.mem_roots {l : List Nd.N} (hg : Nd.good l = true) (x : ByteArray) : x ∈ Vt.rootsR l ↔ ∃ p ∈ Vt.visL 1 false l, Vt.rt p.node.path = x ∧ Vt.isRoot x = true := by
  unfold Vt.rootsR
  rw [if_pos hg, List.mem_map, ← Vt.mem_names]
  constructor
  · rintro ⟨s, h, rfl⟩
    exact (Vt.mem_sorted _ _).1 ((Vt.mem_compact _ _).1 h)
  · intro h
    exact ⟨x.data.toList, (Vt.mem_compact _ _).2 ((Vt.mem_sorted _ _).2 (by rw [Vt.B_data2]; exact h)), Vt.B_data2 x⟩
/- The nodes of all places, whatever the level. -/
mutual
theorem Vt.visN_node (a b : Nat) (i j : Bool) : ∀ n : Nd.N, (Vt.visN a i n).map (·.node) = (Vt.visN b j n).map (·.node)
  | .mk k t p kids els => by
    rw [Vt.visN, Vt.visN, List.map_cons, List.map_cons, List.map_append, List.map_append, Vt.visL_node (a + 1) (b + 1) _ (j || k == 5) kids, Vt.visL_node (a + 1) (b + 1) _ j els]
theorem Vt.visL_node (a b : Nat) (i j : Bool) : ∀ l : List Nd.N, (Vt.visL a i l).map (·.node) = (Vt.visL b j l).map (·.node)
  | [] => by rw [Vt.visL, Vt.visL] <;> rfl
  | n :: l => by
    rw [Vt.visL, Vt.visL, List.map_append, List.map_append, Vt.visN_node a b i j n, Vt.visL_node a b i j l]
end
/- One level further in. -/
mutual
theorem Vt.visN_lev (a : Nat) (i j : Bool) : ∀ n : Nd.N, (Vt.visN (a + 1) i n).map (·.lev) = (Vt.visN a j n).map (fun p => p.lev + 1)
  | .mk k t p kids els => by
    rw [Vt.visN, Vt.visN, List.map_cons, List.map_cons, List.map_append, List.map_append, Vt.visL_lev (a + 1) _ (j || k == 5) kids, Vt.visL_lev (a + 1) _ j els]
theorem Vt.visL_lev (a : Nat) (i j : Bool) : ∀ l : List Nd.N, (Vt.visL (a + 1) i l).map (·.lev) = (Vt.visL a j l).map (fun p => p.lev + 1)
  | [] => by rw [Vt.visL, Vt.visL] <;> rfl
  | n :: l => by
    rw [Vt.visL, Vt.visL, List.map_append, List.map_append, Vt.visN_lev a i j n, Vt.visL_lev a i j l]
end
/- Within an each all places are. -/
mutual
theorem Vt.visN_ie (a : Nat) : ∀ n : Nd.N, ∀ p ∈ Vt.visN a true n, p.ie = true
  | .mk k t q kids els => by
    intro p hp
    rw [Vt.visN, List.mem_cons, List.mem_append, Bool.true_or] at hp
    rcases hp with rfl | h | h
    · rfl
    · exact Vt.visL_ie (a + 1) kids p h
    · exact Vt.visL_ie (a + 1) els p h
theorem Vt.visL_ie (a : Nat) : ∀ l : List Nd.N, ∀ p ∈ Vt.visL a true l, p.ie = true
  | [] => by intro p hp; rw [Vt.visL] at hp; cases hp
  | n :: l => by
    intro p hp
    rw [Vt.visL, List.mem_append] at hp
    rcases hp with h | h
    · exact Vt.visN_ie a n p h
    · exact Vt.visL_ie a l p h
end
theorem Vt.fmax (l : List Nat) : ∀ a : Nat, l.foldl max a = max a (l.foldl max 0) := by
  induction l with
  | nil => intro a; simp
  | cons x l ih =>
    intro a
    rw [List.foldl_cons, List.foldl_cons, ih (max a x), ih (max 0 x)]
    omega
theorem Vt.fmax1 (l : List Nat) : max 1 ((l.map (· + 1)).foldl max 0) = l.foldl max 0 + 1 := by
  induction l with
  | nil => rfl
  | cons x l ih =>
    rw [List.map_cons, List.foldl_cons, List.foldl_cons, Vt.fmax _ (max 0 (x + 1)), Vt.fmax _ (max 0 x)]
    omega
theorem Vt.dep_append (a b : List Vt.P) : Vt.dep (a ++ b) = max (Vt.dep a) (Vt.dep b) := by
  unfold Vt.dep
  rw [List.map_append, List.foldl_append, Vt.fmax]
theorem Vt.plen_append (a b : List Vt.P) : Vt.plen (a ++ b) = Vt.plen a + Vt.plen b := by
  unfold Vt.plen
  rw [List.map_append, List.sum_append]
theorem Vt.dep_cons (p : Vt.P) (a : List Vt.P) : Vt.dep (p :: a) = max p.lev (Vt.dep a) := by
  unfold Vt.dep
  rw [List.map_cons, List.foldl_cons, Vt.fmax]
  omega
/-- The template within an each is a level deeper. -/
theorem Vt.dep_within (k : Nat) (t : ByteArray) (p : List ByteArray) (l : List Nd.N) : Vt.dep (Vt.visL 1 false [.mk k t p l []]) = Vt.dep (Vt.visL 1 false l) + 1 := by
  rw [Vt.visL_cons, Vt.visL_nil, List.append_nil, Vt.visN_eq]
  show Vt.dep (_ :: (Vt.visL 2 _ l ++ Vt.visL 2 false [])) = _
  rw [Vt.visL_nil, List.append_nil, Vt.dep_cons]
  unfold Vt.dep
  rw [Vt.visL_lev 1 _ false l]
  have h := Vt.fmax1 ((Vt.visL 1 false l).map (·.lev))
  rw [List.map_map] at h
  exact h
/-- There is no root but these just where each root is one of these. -/
theorem Vt.only_zero {l : List Nd.N} (hg : Nd.good l = true) (names : List ByteArray) : (Vt.onlyR l names = 0 ↔ ∀ x ∈ Vt.rootsR l, x ∈ names) ∧ (Vt.onlyR l names = 0 ∨ Vt.onlyR l names = 13) := by
  unfold Vt.onlyR
  rw [if_pos hg]
  cases h : (Vt.rootsR l).any (fun s => !containsS names s) with
  | true =>
    refine ⟨⟨fun e => by simp at e, fun e => ?_⟩, Or.inr rfl⟩
    obtain ⟨x, hx, hn⟩ := List.any_eq_true.1 h
    rw [(containsS_iff names x).2 (e x hx)] at hn
    cases hn
  | false =>
    refine ⟨⟨fun _ x hx => ?_, fun _ => rfl⟩, Or.inl rfl⟩
    have := List.any_eq_false.1 h x hx
    rw [← containsS_iff]
    simpa using this
theorem Vt.this_within (t : ByteArray) (a : ByteArray) (p : List ByteArray) (l : List Nd.N) (hg : Nd.good [.mk 5 t (a :: p) l []] = true) (ha : (a.toList == [116, 104, 105, 115]) = false) : Vt.thisR [.mk 5 t (a :: p) l []] = 0 := by
  unfold Vt.thisR
  rw [if_pos hg, if_neg]
  rw [Bool.not_eq_true, List.any_eq_false]
  intro x hx
  rw [Vt.visL_cons, Vt.visL_nil, List.append_nil, Vt.visN_eq, List.mem_cons, List.mem_append] at hx
  unfold Vt.astray
  rcases hx with rfl | h | h
  · show ¬ (!false && ((Vt.rt (a :: p)).toList == [116, 104, 105, 115])) = true
    rw [show Vt.rt (a :: p) = a from rfl, ha]
    decide
  · have h := Vt.visL_ie 2 l x h
    rw [h]
    simp
  · change x ∈ Vt.visL 2 false [] at h
    rw [Vt.visL_nil] at h
    cases h
end Go.Proofs.YteiccjakaabfnaaGreatDoor
namespace Go.Proofs.YteiccjakaabfnaaGreatDoor
open Go.RowKit Go.Shelf

theorem Vt.tyTexts : Ow.Ty 23 9 (.string ⟨#[]⟩) := ⟨Tryz.underlying23, by obtain ⟨i, h1, h2, h3, h4⟩ := Vl.infoText; exact ⟨i, h1, h2, h3, by omega⟩, rfl⟩
theorem Vt.listW {ops : Array Oper} {rest : List Oper} {o : Oper} {a : Act} {w : World} {Q : Exit → Act → World → Prop} {α : Type} {mk : α → Value}
    (hw : Region.wanted o (yielded ops a.tmps) = true) (s x : Operand) (t : TypeId) (hop : o.op = Op.call { callee := Callee.builtin Builtin.append, args := #[s, x], argTypes := #[t, t] })
    (h1 : ∀ x, (mk x).oneCell' = true) {e : TypeId} {z : Value} (hT : Ow.Ty t e z) (l m : List α) (v : Value) (q : Option Addr) (n c : Nat) (base : Nat) (hs : a.eval s = v) (hx : a.eval x = .slice q n c)
    (hO : w.ownsRow base e 1 v l.length (l.map mk)) (hA : Wp.At mk w q m) (hn : n = m.length) (hl : l.length ≤ 3000000) (hm : m.length ≤ 3000000) (hb : base ≤ w.heap.size)
    (hK : ∀ v' w', w'.ownsRow base e 1 v' (l ++ m).length ((l ++ m).map mk) → w.grownBy w' v.ownBlock → wpList Tryz.prog ops Q rest (a.put o.dst v') w') : wpList Tryz.prog ops Q (o :: rest) a w := by
  refine BigFrame.wpList_want hw fun K hK2 => ?_
  obtain ⟨v', w', hr, h2, h3⟩ := Ow.append h1 hT l m v q n c base o.type w hO hA hn hl hm hb
  unfold Oper.wp
  simp [execOp, hop, resolve, invoke, builtin, hs, hx, hr, Result.andThen]
  exact hK2 _ _ (hK v' w' h2 h3)
def Vt.LIST : ByteArray := ⟨#[108, 105, 115, 116]⟩
def Vt.each (l : List Nd.N) : List Nd.N := [.mk 5 ⟨#[]⟩ [Vt.LIST] l []]
theorem Vt.each_toks (l : List Nd.N) (h : ∀ t ∈ Nd.toksL l, t.text.size ≤ 4000000000) : ∀ t ∈ Nd.toksL (Vt.each l), t.text.size ≤ 4000000000 := by
  intro t ht
  unfold Vt.each at ht
  rw [Nd.toksL, Nd.toksL, List.append_nil, Nd.N.toks, if_pos (by decide), List.mem_cons, List.mem_append] at ht
  rcases ht with rfl | ht | ht
  · exact Nat.zero_le _
  · exact h t ht
  · change t ∈ [Nd.tEnd] at ht
    rw [List.mem_singleton] at ht
    subst ht
    exact Nat.zero_le _
theorem Vt.each_row (W : World) (p : Option Addr) (c : Nat) (l : List Nd.N) (g : Nat) (hA : Nd.Row W p l) (hn : l.length ≤ 140737488351232) (hc : l.length ≤ c) (hg : W.cell? ⟨g, 0, none⟩ = some (.string Vt.LIST)) :
    Nd.Row (W.alloc (.cells #[.int .u8 5, .string ⟨#[]⟩, .slice (some ⟨g, 0, none⟩) 1 1, .slice p l.length c, .slice none 0 0] 37)) (some ⟨W.heap.size, 0, none⟩) (Vt.each l) := by
  have hb := (Below.refl W.heap.size W).alloc (Nat.le_refl _) (.cells #[.int .u8 5, .string ⟨#[]⟩, .slice (some ⟨g, 0, none⟩) 1 1, .slice p l.length c, .slice none 0 0] 37)
  intro j hj
  obtain rfl : j = 0 := by have : j < 1 := hj; omega
  have h5 := Vl.new W (.cells #[.int .u8 5, .string ⟨#[]⟩, .slice (some ⟨g, 0, none⟩) 1 1, .slice p l.length c, .slice none 0 0] 37)
  refine ⟨W.heap.size, 0, .int .u8 5, .string ⟨#[]⟩, .slice (some ⟨g, 0, none⟩) 1 1, .slice p l.length c, .slice none 0 0, rfl, ⟨?_, ?_, ?_, ?_, ?_⟩, .mk 5 ⟨#[]⟩ [Vt.LIST] l [], rfl, ?_⟩
  · rw [Lib.cell_of_heap h5]; rfl
  · rw [Lib.cell_of_heap h5]; rfl
  · rw [Lib.cell_of_heap h5]; rfl
  · rw [Lib.cell_of_heap h5]; rfl
  · rw [Lib.cell_of_heap h5]; rfl
  · rw [Nd.At.eq]
    refine ⟨some ⟨g, 0, none⟩, 1, p, c, none, 0, rfl, ⟨(show 5 ≤ 255 by decide), (show 0 ≤ 140737488351232 by decide), (show 1 ≤ 140737488351232 by decide), hn, (show 0 ≤ 140737488351232 by decide), fun s (h : s ∈ [Vt.LIST]) => ?_, Nat.le_refl _, hc, Nat.le_refl _⟩, Or.inr ⟨g, 0, rfl, fun i hi => ?_⟩, (Nd.row_iff _ _ l).2 (hA.below hb), (Nd.row_iff _ _ []).2 (Nd.Row.nil _ _)⟩
    · rw [List.mem_singleton] at h
      subst h
      decide
    · obtain rfl : i = 0 := by have : i < 1 := hi; omega
      exact (hb.cell (World.block_lt_of_cell? _ _ hg)).trans hg
/-- What VetWithin asks. -/
theorem Vt.within (l : List Nd.N) : (Nd.chk l = 0 ∧ Nd.chk (Vt.each l) = 0 ∧ Vt.iff (Nd.good (Vt.each l)) (Vt.dep (Vt.visL 1 false (Vt.each l))) = Vt.iff (Nd.good l) (Vt.dep (Vt.visL 1 false l)) + 1 ∧ Vt.iff (Nd.good (Vt.each l)) (Nd.cntL (Vt.each l)) = Vt.iff (Nd.good l) (Nd.cntL l) + 1 ∧ Vt.thisR (Vt.each l) = 0 ∧ Vt.onlyR (Vt.each l) (Vt.rootsR l ++ [Vt.LIST]) = 0) ∨ Nd.chk l = 2 ∨ (Nd.chk l = 0 ∧ Nd.chk (Vt.each l) = 2) := by
  cases hg : Nd.good l with
  | false => exact Or.inr (Or.inl ((Nd.chk_good).2 hg))
  | true =>
    cases hge : Nd.good (Vt.each l) with
    | false => exact Or.inr (Or.inr ⟨(Nd.chk_good).1 hg, (Nd.chk_good).2 hge⟩)
    | true =>
      refine Or.inl ⟨(Nd.chk_good).1 hg, (Nd.chk_good).1 hge, Vt.dep_within _ _ _ _, ?_, Vt.this_within _ _ _ _ hge (by kernel_rfl), ?_⟩
      · show Nd.cntL (Vt.each l) = Nd.cntL l + 1
        simp [Vt.each, Nd.cntL, Nd.N.cnt]
      · refine ((Vt.only_zero hge _).1).2 fun x hx => ?_
        obtain ⟨q, hq, h2, h3⟩ := (Vt.mem_roots hge x).1 hx
        unfold Vt.each at hq
        rw [Vt.visL_cons, Vt.visL_nil, List.append_nil, Vt.visN_eq, List.mem_cons, List.mem_append] at hq
        rw [List.mem_append]
        rcases hq with rfl | hq | hq
        · exact Or.inr (List.mem_singleton.2 h2.symm)
        · left
          change q ∈ Vt.visL 2 true l at hq
          have h4 : q.node ∈ (Vt.visL 2 true l).map (·.node) := List.mem_map.2 ⟨q, hq, rfl⟩
          rw [Vt.visL_node 2 1 true false l] at h4
          obtain ⟨q', h5, h6⟩ := List.mem_map.1 h4
          have h6 : q'.node = q.node := h6
          exact (Vt.mem_roots hg x).2 ⟨q', h5, by rw [h6]; exact h2, h3⟩
        · change q ∈ Vt.visL 2 false [] at hq
          rw [Vt.visL_nil] at hq
          cases hq
end Go.Proofs.YteiccjakaabfnaaGreatDoor
namespace Go.Proofs.YteiccjakaabfnaaGreatDoor.Nd
open Sc

theorem nodesR_none {l : List T} (h : (nodesR l).2 ≠ 0) : (nodesR l).1 = [] := by
  unfold nodesR at h ⊢
  split
  · rename_i ho
    rw [if_pos ho] at h
    split
    · rename_i ns hp
      rw [hp] at h
      simp only at h
      split
      · rename_i hr
        rw [if_pos hr] at h
        exact absurd rfl h
      · rfl
    · rfl
  · rfl
theorem parse_bad {s : List UInt8} (h : (parseR s).2 ≠ 0) : (parseR s).1 = [] := by
  unfold parseR at h ⊢
  split
  · rename_i h0
    rw [if_pos h0] at h
    exact nodesR_none h
  · rfl
theorem parse_ok {s : List UInt8} (h : (parseR s).2 = 0) : (Sc.toksR s).2 = 0 ∧ okTs (Sc.toksR s).1 = true ∧ stk [] (Sc.toksR s).1 = true ∧ good (parseR s).1 = true ∧ Er (Sc.toksR s).1 (toksL (parseR s).1) := by
  unfold parseR at h ⊢
  by_cases h0 : (Sc.toksR s).2 = 0
  · rw [if_pos h0] at h ⊢
    obtain ⟨h1, h2, h3, h4, _⟩ := nodesR_ok (l := (Sc.toksR s).1) (ns := (nodesR (Sc.toksR s).1).1) (by rw [← h])
    exact ⟨h0, h1, h2, h3, h4⟩
  · rw [if_neg h0] at h
    exact absurd h h0
/-- How many tokens of such kinds. -/
def cB (l : List T) : Nat := l.countP fun t => decide (t.kind = 3 ∨ t.kind = 5)
def cE (l : List T) : Nat := l.countP fun t => decide (t.kind = 6)
def cI (l : List T) : Nat := l.countP fun t => decide (t.kind = 3)
def cL (l : List T) : Nat := l.countP fun t => decide (t.kind = 4)
def cP (l : List T) : Nat := l.countP fun t => decide (t.path.length ≠ 0)
theorem words_cnt (l : List T) : (wordsT l).length = cP l := by
  unfold wordsT cP
  rw [List.length_map, ← List.countP_eq_length_filter]
theorem stk_count : ∀ (l : List T) (st : List Nat), stk st l = true → st.length + cB l = cE l ∧ cL l ≤ cI l + st.count 3
  | [], st, h => by
    have : st = [] := List.isEmpty_iff.1 (by cases st <;> simp [stk] at h ⊢)
    subst this
    simp [cB, cE, cL, cI]
  | t :: l, st, h => by
    have eB : cB (t :: l) = cB l + if t.kind = 3 ∨ t.kind = 5 then 1 else 0 := by unfold cB; rw [List.countP_cons]; simp
    have eE : cE (t :: l) = cE l + if t.kind = 6 then 1 else 0 := by unfold cE; rw [List.countP_cons]; simp
    have eI : cI (t :: l) = cI l + if t.kind = 3 then 1 else 0 := by unfold cI; rw [List.countP_cons]; simp
    have eL : cL (t :: l) = cL l + if t.kind = 4 then 1 else 0 := by unfold cL; rw [List.countP_cons]; simp
    rw [stk_cons] at h
    rw [eB, eE, eI, eL]
    by_cases h35 : t.kind = 3 ∨ t.kind = 5
    · rw [if_pos h35] at h
      obtain ⟨i1, i2⟩ := stk_count l _ h
      rw [List.length_cons] at i1
      rw [List.count_cons] at i2
      rw [if_pos h35, if_neg (show ¬ t.kind = 6 by omega), if_neg (show ¬ t.kind = 4 by omega)]
      refine ⟨by omega, ?_⟩
      by_cases h3 : t.kind = 3
      · rw [if_pos h3]
        rw [if_pos (by rw [h3]; rfl)] at i2
        omega
      · rw [if_neg h3]
        rw [if_neg (by rw [beq_iff_eq]; exact h3)] at i2
        omega
    · rw [if_neg h35] at h
      rw [if_neg h35, if_neg (show ¬ t.kind = 3 by omega)]
      by_cases h4 : t.kind = 4
      · rw [if_pos h4] at h
        rw [if_pos h4, if_neg (show ¬ t.kind = 6 by omega)]
        cases st with
        | nil => cases h
        | cons a s =>
          have h : (if a = 3 then stk (4 :: s) l else false) = true := h
          split at h
          · rename_i ha
            obtain ⟨i1, i2⟩ := stk_count l _ h
            subst ha
            rw [List.length_cons] at i1 ⊢
            rw [List.count_cons] at i2 ⊢
            rw [if_neg (by decide)] at i2
            rw [if_pos (by decide)]
            omega
          · cases h
      · rw [if_neg h4] at h
        rw [if_neg h4]
        by_cases h6 : t.kind = 6
        · rw [if_pos h6] at h
          rw [if_pos h6]
          cases st with
          | nil => cases h
          | cons a s =>
            obtain ⟨i1, i2⟩ := stk_count l _ h
            rw [List.length_cons]
            rw [List.count_cons]
            refine ⟨by omega, ?_⟩
            split <;> omega
        · rw [if_neg h6] at h
          rw [if_neg h6]
          exact stk_count l st h
end Go.Proofs.YteiccjakaabfnaaGreatDoor.Nd
namespace Go.Proofs.YteiccjakaabfnaaGreatDoor

theorem Tg.ba_ne {a b : ByteArray} (h : ¬ a = b) : (a == b) = false := by
  rcases a with ⟨x⟩
  rcases b with ⟨y⟩
  have h2 : ¬ x = y := fun e => h (by rw [e])
  exact (beq_eq_false_iff_ne (a := x) (b := y)).2 h2
theorem Tg.ba_nel {a b : ByteArray} (h : ¬ a = b) : (a.toList == b.toList) = false := by
  rw [beq_eq_false_iff_ne, Lib.toList_data, Lib.toList_data]
  intro e
  exact h (by rw [← Wp.B_of a, ← Wp.B_of b, e])
theorem Tg.closed {k nk ne : Nat} (h : Nd.holds k nk ne = true) (ho : Nd.opens k = false) : nk = 0 ∧ ne = 0 := by
  unfold Nd.holds at h
  split at h
  · simpa using h
  · simpa using h
  · simp [Nd.opens] at ho
  · simp [Nd.opens] at ho
  · cases h
/-- Each node's path is a token's. -/
theorem Tg.vis_tok : ∀ (d : Nat) (l : List Nd.N) (a : Nat) (i : Bool), Nd.okL d l = true → ∀ p ∈ Vt.visL a i l, ∃ t ∈ Nd.toksL l, t.path = p.node.path
  | 0, l, a, i, h => by
    rw [Nd.okL, List.isEmpty_iff] at h
    subst h
    intro p hp
    rw [Vt.visL_nil] at hp
    cases hp
  | d + 1, l, a, i, h => by
    have ih := Tg.vis_tok d
    rw [Nd.okL] at h
    induction l with
    | nil => intro p hp; rw [Vt.visL_nil] at hp; cases hp
    | cons x l ihl =>
      intro p hp
      rw [List.all_cons, Bool.and_eq_true] at h
      have h2 := h.1
      rw [Bool.and_eq_true, Bool.and_eq_true] at h2
      obtain ⟨h3, h4, h5⟩ := h2
      rw [Vt.visL_cons, List.mem_append, Vt.visN_eq, List.mem_cons, List.mem_append] at hp
      rw [Nd.toksL_cons]
      rcases hp with (rfl | hp | hp) | hp
      · exact ⟨⟨x.kind, x.text, x.path⟩, List.mem_append_left _ (by rw [Nd.N.toks_eq]; exact List.mem_cons_self ..), rfl⟩
      · obtain ⟨t, ht, e⟩ := ih x.kids _ _ h4 p hp
        have ho : Nd.opens x.kind = true := by
          cases ho : Nd.opens x.kind with
          | true => rfl
          | false =>
            have hk := (Tg.closed h3 ho).1
            rw [List.length_eq_zero_iff.1 hk, Vt.visL_nil] at hp
            cases hp
        exact ⟨t, List.mem_append_left _ (by rw [Nd.N.toks_eq, if_pos ho]; exact List.mem_cons_of_mem _ (List.mem_append_left _ ht)), e⟩
      · obtain ⟨t, ht, e⟩ := ih x.els _ _ h5 p hp
        have ho : Nd.opens x.kind = true := by
          cases ho : Nd.opens x.kind with
          | true => rfl
          | false =>
            have hk := (Tg.closed h3 ho).2
            rw [List.length_eq_zero_iff.1 hk, Vt.visL_nil] at hp
            cases hp
        have hne : x.els.isEmpty = false := by
          cases he : x.els with
          | nil => rw [he, Vt.visL_nil] at hp; cases hp
          | cons => rfl
        refine ⟨t, List.mem_append_left _ ?_, e⟩
        rw [Nd.N.toks_eq, if_pos ho, hne]
        exact List.mem_cons_of_mem _ (List.mem_append_right _ (List.mem_append_left _ (List.mem_cons_of_mem _ ht)))
      · obtain ⟨t, ht, e⟩ := ihl h.2 p hp
        exact ⟨t, List.mem_append_right _ ht, e⟩
/-- There are no more paths than nodes. -/
theorem Tg.cP_append (a b : List Sc.T) : Nd.cP (a ++ b) = Nd.cP a + Nd.cP b := by
  unfold Nd.cP
  rw [List.countP_append]
mutual
theorem Tg.cP_N : ∀ n : Nd.N, Nd.cP n.toks ≤ n.cnt
  | .mk k t p kids els => by
    have h1 := Tg.cP_L kids
    have h2 := Tg.cP_L els
    rw [Nd.N.toks, Nd.N.cnt]
    have hc : ∀ (x : Sc.T) (l : List Sc.T), Nd.cP (x :: l) ≤ Nd.cP l + 1 := fun x l => by
      unfold Nd.cP
      rw [List.countP_cons]
      split <;> omega
    have h0 := hc ⟨k, t, p⟩ (if Nd.opens k then Nd.toksL kids ++ ((if els.isEmpty then [] else Nd.tElse :: Nd.toksL els) ++ [Nd.tEnd]) else [])
    have e1 : Nd.cP [Nd.tEnd] = 0 := by decide
    have e2 : Nd.cP ([] : List Sc.T) = 0 := rfl
    have e3 : Nd.cP (Nd.tElse :: Nd.toksL els) = Nd.cP (Nd.toksL els) := by
      unfold Nd.cP
      rw [List.countP_cons, if_neg (by decide), Nat.add_zero]
    have h3 : Nd.cP (if Nd.opens k then Nd.toksL kids ++ ((if els.isEmpty then [] else Nd.tElse :: Nd.toksL els) ++ [Nd.tEnd]) else []) ≤ Nd.cntL kids + Nd.cntL els := by
      split
      · rw [Tg.cP_append, Tg.cP_append, e1]
        split
        · rw [e2]; omega
        · rw [e3]; omega
      · rw [e2]; omega
    omega
theorem Tg.cP_L : ∀ l : List Nd.N, Nd.cP (Nd.toksL l) ≤ Nd.cntL l
  | [] => by rw [Nd.toksL_nil, Nd.cntL_nil]; exact Nat.le_refl _
  | n :: l => by
    have h1 := Tg.cP_N n
    have h2 := Tg.cP_L l
    rw [Nd.toksL_cons, Nd.cntL_cons, Tg.cP_append]
    omega
end
/-- A word's first name. -/
def Tg.fst (w : ByteArray) : ByteArray := Vt.rt (Sc.pathR w.data.toList).1
/-- What a right token's word is. -/
theorem Tg.word {t : Sc.T} (h : Sc.okT t = true) (hp : t.path.length ≠ 0) : Sc.pathR (Wp.B (Sc.joinP t.path)).data.toList = (t.path, 0) := by
  have hk : Sc.pathOk (t.path.map (·.data.toList)) = true := by
    unfold Sc.okT at h
    split at h
    · simp only [Bool.and_eq_true, decide_eq_true_eq] at h; exact absurd h.2 hp
    · rw [Bool.and_eq_true] at h; exact h.2
    · rw [Bool.and_eq_true] at h; exact h.2
    · rw [Bool.and_eq_true] at h; exact h.2
    · simp only [Bool.and_eq_true, decide_eq_true_eq] at h; exact absurd h.2 hp
    · simp only [Bool.and_eq_true, decide_eq_true_eq] at h; exact absurd h.2 hp
    · cases h
  unfold Sc.pathR
  rw [Wp.B_data, Sc.path_join hk]
/-- Of each word: it is short, and a path of one to four names. -/
theorem Tg.words {l : List Sc.T} (h : ∀ t ∈ l, Sc.okT t = true) : ∀ w ∈ Nd.wordsT l, w.size ≤ 131 ∧ (Sc.pathR w.data.toList).2 = 0 ∧ (Sc.pathR w.data.toList).1.length ≠ 0 ∧ (Sc.pathR w.data.toList).1.length ≤ 4 := by
  intro w hw
  unfold Nd.wordsT at hw
  obtain ⟨t, ht, rfl⟩ := List.mem_map.1 hw
  obtain ⟨h1, h2⟩ := List.mem_filter.1 ht
  have h3 := of_decide_eq_true h2
  have h4 := Nd.path4 (h t h1)
  rw [Tg.word (h t h1) h3]
  exact ⟨by rw [Wp.B_size]; omega, rfl, h3, h4.1⟩
/-- The words' first names are the paths'. -/
theorem Tg.fst_mem {l : List Sc.T} (h : ∀ t ∈ l, Sc.okT t = true) {t : Sc.T} (ht : t ∈ l) (hp : t.path.length ≠ 0) : Vt.rt t.path ∈ (Nd.wordsT l).map Tg.fst := by
  refine List.mem_map.2 ⟨Wp.B (Sc.joinP t.path), ?_, ?_⟩
  · unfold Nd.wordsT
    exact List.mem_map.2 ⟨t, List.mem_filter.2 ⟨ht, decide_eq_true hp⟩, rfl⟩
  · unfold Tg.fst
    rw [Tg.word (h t ht) hp]
theorem Tg.facts {l : List Nd.N} (hg : Nd.good l = true) : (∀ x ∈ Vt.rootsR l, x ∈ (Nd.wordsT (Nd.toksL l)).map Tg.fst ∧ (x.toList == [116, 104, 105, 115]) = false) ∧ Vt.onlyR l ((Nd.wordsT (Nd.toksL l)).map Tg.fst) = 0 ∧ (Nd.wordsT (Nd.toksL l)).length ≤ Nd.cntL l ∧ (Nd.wordsT (Nd.toksL l)).length ≤ 256 ∧ ∀ w ∈ Nd.wordsT (Nd.toksL l), w.size ≤ 131 ∧ (Sc.pathR w.data.toList).2 = 0 ∧ (Sc.pathR w.data.toList).1.length ≠ 0 ∧ (Sc.pathR w.data.toList).1.length ≤ 4 := by
  have hg2 := hg
  unfold Nd.good Nd.shapedP at hg2
  rw [Bool.and_eq_true, Bool.and_eq_true, decide_eq_true_eq] at hg2
  obtain ⟨⟨h1, h2⟩, h3⟩ := hg2
  have h4 := Nd.all_of h3
  have hr : ∀ x ∈ Vt.rootsR l, x ∈ (Nd.wordsT (Nd.toksL l)).map Tg.fst ∧ (x.toList == [116, 104, 105, 115]) = false := fun x hx => by
    obtain ⟨p, hp, hq, hi⟩ := (Vt.mem_roots hg x).1 hx
    unfold Vt.isRoot at hi
    rw [Bool.and_eq_true, Bool.not_eq_true', Bool.not_eq_true'] at hi
    obtain ⟨t, ht, e⟩ := Tg.vis_tok 8 l 1 false h1 p hp
    have hne : t.path.length ≠ 0 := fun h0 => by
      rw [e] at h0
      rw [List.length_eq_zero_iff.1 h0] at hq
      rw [← hq] at hi
      have : (Vt.rt []).toList = [] := by rw [show Vt.rt [] = ByteArray.empty from rfl, Lib.toList_data]; rfl
      rw [this] at hi
      exact absurd hi.1 (by decide)
    refine ⟨?_, hi.2⟩
    have := Tg.fst_mem h4 ht hne
    rw [e, hq] at this
    exact this
  have hc := Tg.cP_L l
  rw [← Nd.words_cnt] at hc
  exact ⟨hr, ((Vt.only_zero hg _).1).2 fun x hx => (hr x hx).1, hc, by omega, Tg.words h4⟩
end Go.Proofs.YteiccjakaabfnaaGreatDoor
