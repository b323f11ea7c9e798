/-
  What vet's answers have to do with one another: roots as a set, levels one further in, two templates one behind the other. No condition but those that the theorems state.
  The walk of VetWithin: whatever the nodes, the law answers true. Conditions: the nodes and their texts are of a size that the walks hold; the words' table and the errors lie as they are laid, the search's limit is set.
  The walk of VetMore: whatever the nodes and names, the law answers true. Conditions: the nodes and their texts are of a size that the walks hold; the words' table and the errors lie as they are laid, the search's limit is set.
-/
import Derived.Test.YteiccjakaabfnaaGreatDoorZ30
import Derived.Test.YteiccjakaabfnaaGreatDoorVtLives
import Derived.Test.YteiccjakaabfnaaGreatDoorZ28
namespace Go.Proofs.YteiccjakaabfnaaGreatDoor
open Go.Lib

theorem Vt.compact_up {α : Type} [Inhabited α] [DecidableEq α] (d : Array α) : ∀ m j, j < m → d[j]! ∈ compactUpTo d m
  | 0, j, h => absurd h (Nat.not_lt_zero _)
  | m + 1, j, h => by
    rw [compactUpTo_succ, List.mem_append]
    by_cases hj : j < m
    · exact Or.inl (Vt.compact_up d m j hj)
    · obtain rfl : j = m := by omega
      by_cases hk : Lib.keeps d j = true
      · exact Or.inr (by rw [if_pos hk]; exact List.mem_singleton.2 rfl)
      · left
        have h1 : ¬ (j = 0 ∨ d[j]! ≠ d[j - 1]!) := fun e => hk (by unfold Lib.keeps; exact decide_eq_true e)
        have h2 : j ≠ 0 := fun e => h1 (Or.inl e)
        have h3 : d[j]! = d[j - 1]! := Classical.byContradiction fun e => h1 (Or.inr e)
        rw [h3]
        exact Vt.compact_up d j (j - 1) (by omega)
theorem Vt.mem_compact {α : Type} [Inhabited α] [DecidableEq α] (zs : List α) (x : α) : x ∈ compact zs ↔ x ∈ zs := by
  constructor
  · intro h
    unfold compact compactUpTo at h
    obtain ⟨j, hj, rfl⟩ := List.mem_map.1 h
    have hj2 : j < zs.length := List.mem_range.1 (List.mem_filter.1 hj).1
    have : zs.toArray[j]! = zs[j] := by simp [hj2]
    rw [this]
    exact List.getElem_mem hj2
  · intro h
    obtain ⟨j, hj, rfl⟩ := List.mem_iff_getElem.1 h
    have : zs.toArray[j]! = zs[j] := by simp [hj]
    rw [← this]
    exact Vt.compact_up _ _ _ hj
/-- A name that counts. -/
def Vt.isRoot (x : ByteArray) : Bool := !(x.toList == []) && !(x.toList == [116, 104, 105, 115])
theorem Vt.putR_eq (ns p : List ByteArray) : Vt.putR ns p = if Vt.isRoot (Vt.rt p) then ns ++ [Vt.rt p] else ns := by
  unfold Vt.putR Vt.isRoot
  cases (Vt.rt p).toList == [] <;> cases (Vt.rt p).toList == [116, 104, 105, 115] <;> simp
theorem Vt.foldR_mem (x : ByteArray) (ps : List Vt.P) : ∀ ns : List ByteArray, x ∈ ps.foldl (fun ns p => Vt.putR ns p.node.path) ns ↔ x ∈ ns ∨ ∃ p ∈ ps, Vt.rt p.node.path = x ∧ Vt.isRoot x = true := by
  induction ps with
  | nil => intro ns; simp
  | cons p ps ih =>
    intro ns
    rw [List.foldl_cons, ih, Vt.putR_eq]
    constructor
    · rintro (h | ⟨p', h1, h2⟩)
      · by_cases hr : Vt.isRoot (Vt.rt p.node.path) = true
        · rw [if_pos hr, List.mem_append, List.mem_singleton] at h
          rcases h with h | h
          · exact Or.inl h
          · exact Or.inr ⟨p, List.mem_cons_self .., h.symm, by rw [h]; exact hr⟩
        · rw [if_neg hr] at h
          exact Or.inl h
      · exact Or.inr ⟨p', List.mem_cons_of_mem _ h1, h2⟩
    · rintro (h | ⟨p', h1, h2, h3⟩)
      · left
        split
        · exact List.mem_append_left _ h
        · exact h
      · rcases List.mem_cons.1 h1 with rfl | h1
        · left
          rw [h2, if_pos h3]
          exact List.mem_append_right _ (List.mem_singleton.2 rfl)
        · exact Or.inr ⟨p', h1, h2, h3⟩
theorem Vt.mem_names (x : ByteArray) (ps : List Vt.P) : x ∈ Vt.namesP ps ↔ ∃ p ∈ ps, Vt.rt p.node.path = x ∧ Vt.isRoot x = true := by
  unfold Vt.namesP
  rw [Vt.foldR_mem]
  simp
theorem Vt.B_data2 (x : ByteArray) : Wp.B x.data.toList = x := by cases x; simp [Wp.B]
theorem Vt.mem_sorted (x : List UInt8) (ns : List ByteArray) : x ∈ Vt.sortedL ns ↔ Wp.B x ∈ ns := by
  unfold Vt.sortedL
  rw [List.mem_mergeSort, List.mem_map]
  constructor
  · rintro ⟨s, h, rfl⟩
    rw [Vt.B_data2]; exact h
  · intro h
    exact ⟨_, h, by simp [Wp.B]⟩
theorem Vt.mem_roots {l : List Nd.N} (hg : Nd.good l = true) (x : ByteArray) : x ∈ Vt.rootsR l ↔ ∃ p ∈ Vt.visL 1 false l, Vt.rt p.node.path = x ∧ Vt.isRoot x = true := by
  unfold Vt.rootsR
  rw [if_pos hg, List.mem_map, ← Vt.mem_names]
  constructor
  · rintro ⟨s, h, rfl⟩
    exact (Vt.mem_sorted _ _).1 ((Vt.mem_compact _ _).1 h)
  · intro h
    exact ⟨x.data.toList, (Vt.mem_compact _ _).2 ((Vt.mem_sorted _ _).2 (by rw [Vt.B_data2]; exact h)), Vt.B_data2 x⟩
/- The nodes of all places, whatever the level. -/
mutual
theorem Vt.visN_node (a b : Nat) (i j : Bool) : ∀ n : Nd.N, (Vt.visN a i n).map (·.node) = (Vt.visN b j n).map (·.node)
  | .mk k t p kids els => by
    rw [Vt.visN, Vt.visN, List.map_cons, List.map_cons, List.map_append, List.map_append, Vt.visL_node (a + 1) (b + 1) _ (j || k == 5) kids, Vt.visL_node (a + 1) (b + 1) _ j els]
theorem Vt.visL_node (a b : Nat) (i j : Bool) : ∀ l : List Nd.N, (Vt.visL a i l).map (·.node) = (Vt.visL b j l).map (·.node)
  | [] => by rw [Vt.visL, Vt.visL] <;> rfl
  | n :: l => by
    rw [Vt.visL, Vt.visL, List.map_append, List.map_append, Vt.visN_node a b i j n, Vt.visL_node a b i j l]
end
/- One level further in. -/
mutual
theorem Vt.visN_lev (a : Nat) (i j : Bool) : ∀ n : Nd.N, (Vt.visN (a + 1) i n).map (·.lev) = (Vt.visN a j n).map (fun p => p.lev + 1)
  | .mk k t p kids els => by
    rw [Vt.visN, Vt.visN, List.map_cons, List.map_cons, List.map_append, List.map_append, Vt.visL_lev (a + 1) _ (j || k == 5) kids, Vt.visL_lev (a + 1) _ j els]
theorem Vt.visL_lev (a : Nat) (i j : Bool) : ∀ l : List Nd.N, (Vt.visL (a + 1) i l).map (·.lev) = (Vt.visL a j l).map (fun p => p.lev + 1)
  | [] => by rw [Vt.visL, Vt.visL] <;> rfl
  | n :: l => by
    rw [Vt.visL, Vt.visL, List.map_append, List.map_append, Vt.visN_lev a i j n, Vt.visL_lev a i j l]
end
/- Within an each all places are. -/
mutual
theorem Vt.visN_ie (a : Nat) : ∀ n : Nd.N, ∀ p ∈ Vt.visN a true n, p.ie = true
  | .mk k t q kids els => by
    intro p hp
    rw [Vt.visN, List.mem_cons, List.mem_append, Bool.true_or] at hp
    rcases hp with rfl | h | h
    · rfl
    · exact Vt.visL_ie (a + 1) kids p h
    · exact Vt.visL_ie (a + 1) els p h
theorem Vt.visL_ie (a : Nat) : ∀ l : List Nd.N, ∀ p ∈ Vt.visL a true l, p.ie = true
  | [] => by intro p hp; rw [Vt.visL] at hp; cases hp
  | n :: l => by
    intro p hp
    rw [Vt.visL, List.mem_append] at hp
    rcases hp with h | h
    · exact Vt.visN_ie a n p h
    · exact Vt.visL_ie a l p h
end
theorem Vt.fmax (l : List Nat) : ∀ a : Nat, l.foldl max a = max a (l.foldl max 0) := by
  induction l with
  | nil => intro a; simp
  | cons x l ih =>
    intro a
    rw [List.foldl_cons, List.foldl_cons, ih (max a x), ih (max 0 x)]
    omega
theorem Vt.fmax1 (l : List Nat) : max 1 ((l.map (· + 1)).foldl max 0) = l.foldl max 0 + 1 := by
  induction l with
  | nil => rfl
  | cons x l ih =>
    rw [List.map_cons, List.foldl_cons, List.foldl_cons, Vt.fmax _ (max 0 (x + 1)), Vt.fmax _ (max 0 x)]
    omega
theorem Vt.dep_append (a b : List Vt.P) : Vt.dep (a ++ b) = max (Vt.dep a) (Vt.dep b) := by
  unfold Vt.dep
  rw [List.map_append, List.foldl_append, Vt.fmax]
theorem Vt.plen_append (a b : List Vt.P) : Vt.plen (a ++ b) = Vt.plen a + Vt.plen b := by
  unfold Vt.plen
  rw [List.map_append, List.sum_append]
theorem Vt.dep_cons (p : Vt.P) (a : List Vt.P) : Vt.dep (p :: a) = max p.lev (Vt.dep a) := by
  unfold Vt.dep
  rw [List.map_cons, List.foldl_cons, Vt.fmax]
  omega
/-- The template within an each is a level deeper. -/
theorem Vt.dep_within (k : Nat) (t : ByteArray) (p : List ByteArray) (l : List Nd.N) : Vt.dep (Vt.visL 1 false [.mk k t p l []]) = Vt.dep (Vt.visL 1 false l) + 1 := by
  rw [Vt.visL_cons, Vt.visL_nil, List.append_nil, Vt.visN_eq]
  show Vt.dep (_ :: (Vt.visL 2 _ l ++ Vt.visL 2 false [])) = _
  rw [Vt.visL_nil, List.append_nil, Vt.dep_cons]
  unfold Vt.dep
  rw [Vt.visL_lev 1 _ false l]
  have h := Vt.fmax1 ((Vt.visL 1 false l).map (·.lev))
  rw [List.map_map] at h
  exact h
/-- There is no root but these just where each root is one of these. -/
theorem Vt.only_zero {l : List Nd.N} (hg : Nd.good l = true) (names : List ByteArray) : (Vt.onlyR l names = 0 ↔ ∀ x ∈ Vt.rootsR l, x ∈ names) ∧ (Vt.onlyR l names = 0 ∨ Vt.onlyR l names = 13) := by
  unfold Vt.onlyR
  rw [if_pos hg]
  cases h : (Vt.rootsR l).any (fun s => !containsS names s) with
  | true =>
    refine ⟨⟨fun e => by simp at e, fun e => ?_⟩, Or.inr rfl⟩
    obtain ⟨x, hx, hn⟩ := List.any_eq_true.1 h
    rw [(containsS_iff names x).2 (e x hx)] at hn
    cases hn
  | false =>
    refine ⟨⟨fun _ x hx => ?_, fun _ => rfl⟩, Or.inl rfl⟩
    have := List.any_eq_false.1 h x hx
    rw [← containsS_iff]
    simpa using this
theorem Vt.this_within (t : ByteArray) (a : ByteArray) (p : List ByteArray) (l : List Nd.N) (hg : Nd.good [.mk 5 t (a :: p) l []] = true) (ha : (a.toList == [116, 104, 105, 115]) = false) : Vt.thisR [.mk 5 t (a :: p) l []] = 0 := by
  unfold Vt.thisR
  rw [if_pos hg, if_neg]
  rw [Bool.not_eq_true, List.any_eq_false]
  intro x hx
  rw [Vt.visL_cons, Vt.visL_nil, List.append_nil, Vt.visN_eq, List.mem_cons, List.mem_append] at hx
  unfold Vt.astray
  rcases hx with rfl | h | h
  · show ¬ (!false && ((Vt.rt (a :: p)).toList == [116, 104, 105, 115])) = true
    rw [show Vt.rt (a :: p) = a from rfl, ha]
    decide
  · have h := Vt.visL_ie 2 l x h
    rw [h]
    simp
  · change x ∈ Vt.visL 2 false [] at h
    rw [Vt.visL_nil] at h
    cases h
end Go.Proofs.YteiccjakaabfnaaGreatDoor
namespace Go.Proofs.YteiccjakaabfnaaGreatDoor
open Go.RowKit Go.Shelf

theorem Vt.tyTexts : Ow.Ty 23 9 (.string ⟨#[]⟩) := ⟨Tryz.underlying23, by obtain ⟨i, h1, h2, h3, h4⟩ := Vl.infoText; exact ⟨i, h1, h2, h3, by omega⟩, rfl⟩
theorem Vt.listW {ops : Array Oper} {rest : List Oper} {o : Oper} {a : Act} {w : World} {Q : Exit → Act → World → Prop} {α : Type} {mk : α → Value}
    (hw : Region.wanted o (yielded ops a.tmps) = true) (s x : Operand) (t : TypeId) (hop : o.op = Op.call { callee := Callee.builtin Builtin.append, args := #[s, x], argTypes := #[t, t] })
    (h1 : ∀ x, (mk x).oneCell' = true) {e : TypeId} {z : Value} (hT : Ow.Ty t e z) (l m : List α) (v : Value) (q : Option Addr) (n c : Nat) (base : Nat) (hs : a.eval s = v) (hx : a.eval x = .slice q n c)
    (hO : w.ownsRow base e 1 v l.length (l.map mk)) (hA : Wp.At mk w q m) (hn : n = m.length) (hl : l.length ≤ 3000000) (hm : m.length ≤ 3000000) (hb : base ≤ w.heap.size)
    (hK : ∀ v' w', w'.ownsRow base e 1 v' (l ++ m).length ((l ++ m).map mk) → w.grownBy w' v.ownBlock → wpList Tryz.prog ops Q rest (a.put o.dst v') w') : wpList Tryz.prog ops Q (o :: rest) a w := by
  refine BigFrame.wpList_want hw fun K hK2 => ?_
  obtain ⟨v', w', hr, h2, h3⟩ := Ow.append h1 hT l m v q n c base o.type w hO hA hn hl hm hb
  unfold Oper.wp
  simp [execOp, hop, resolve, invoke, builtin, hs, hx, hr, Result.andThen]
  exact hK2 _ _ (hK v' w' h2 h3)
def Vt.LIST : ByteArray := ⟨#[108, 105, 115, 116]⟩
def Vt.each (l : List Nd.N) : List Nd.N := [.mk 5 ⟨#[]⟩ [Vt.LIST] l []]
theorem Vt.each_toks (l : List Nd.N) (h : ∀ t ∈ Nd.toksL l, t.text.size ≤ 4000000000) : ∀ t ∈ Nd.toksL (Vt.each l), t.text.size ≤ 4000000000 := by
  intro t ht
  unfold Vt.each at ht
  rw [Nd.toksL, Nd.toksL, List.append_nil, Nd.N.toks, if_pos (by decide), List.mem_cons, List.mem_append] at ht
  rcases ht with rfl | ht | ht
  · exact Nat.zero_le _
  · exact h t ht
  · change t ∈ [Nd.tEnd] at ht
    rw [List.mem_singleton] at ht
    subst ht
    exact Nat.zero_le _
theorem Vt.each_row (W : World) (p : Option Addr) (c : Nat) (l : List Nd.N) (g : Nat) (hA : Nd.Row W p l) (hn : l.length ≤ 140737488351232) (hc : l.length ≤ c) (hg : W.cell? ⟨g, 0, none⟩ = some (.string Vt.LIST)) :
    Nd.Row (W.alloc (.cells #[.int .u8 5, .string ⟨#[]⟩, .slice (some ⟨g, 0, none⟩) 1 1, .slice p l.length c, .slice none 0 0] 37)) (some ⟨W.heap.size, 0, none⟩) (Vt.each l) := by
  have hb := (Below.refl W.heap.size W).alloc (Nat.le_refl _) (.cells #[.int .u8 5, .string ⟨#[]⟩, .slice (some ⟨g, 0, none⟩) 1 1, .slice p l.length c, .slice none 0 0] 37)
  intro j hj
  obtain rfl : j = 0 := by have : j < 1 := hj; omega
  have h5 := Vl.new W (.cells #[.int .u8 5, .string ⟨#[]⟩, .slice (some ⟨g, 0, none⟩) 1 1, .slice p l.length c, .slice none 0 0] 37)
  refine ⟨W.heap.size, 0, .int .u8 5, .string ⟨#[]⟩, .slice (some ⟨g, 0, none⟩) 1 1, .slice p l.length c, .slice none 0 0, rfl, ⟨?_, ?_, ?_, ?_, ?_⟩, .mk 5 ⟨#[]⟩ [Vt.LIST] l [], rfl, ?_⟩
  · rw [Lib.cell_of_heap h5]; rfl
  · rw [Lib.cell_of_heap h5]; rfl
  · rw [Lib.cell_of_heap h5]; rfl
  · rw [Lib.cell_of_heap h5]; rfl
  · rw [Lib.cell_of_heap h5]; rfl
  · rw [Nd.At.eq]
    refine ⟨some ⟨g, 0, none⟩, 1, p, c, none, 0, rfl, ⟨(show 5 ≤ 255 by decide), (show 0 ≤ 140737488351232 by decide), (show 1 ≤ 140737488351232 by decide), hn, (show 0 ≤ 140737488351232 by decide), fun s (h : s ∈ [Vt.LIST]) => ?_, Nat.le_refl _, hc, Nat.le_refl _⟩, Or.inr ⟨g, 0, rfl, fun i hi => ?_⟩, (Nd.row_iff _ _ l).2 (hA.below hb), (Nd.row_iff _ _ []).2 (Nd.Row.nil _ _)⟩
    · rw [List.mem_singleton] at h
      subst h
      decide
    · obtain rfl : i = 0 := by have : i < 1 := hi; omega
      exact (hb.cell (World.block_lt_of_cell? _ _ hg)).trans hg
/-- What VetWithin asks. -/
theorem Vt.within (l : List Nd.N) : (Nd.chk l = 0 ∧ Nd.chk (Vt.each l) = 0 ∧ Vt.iff (Nd.good (Vt.each l)) (Vt.dep (Vt.visL 1 false (Vt.each l))) = Vt.iff (Nd.good l) (Vt.dep (Vt.visL 1 false l)) + 1 ∧ Vt.iff (Nd.good (Vt.each l)) (Nd.cntL (Vt.each l)) = Vt.iff (Nd.good l) (Nd.cntL l) + 1 ∧ Vt.thisR (Vt.each l) = 0 ∧ Vt.onlyR (Vt.each l) (Vt.rootsR l ++ [Vt.LIST]) = 0) ∨ Nd.chk l = 2 ∨ (Nd.chk l = 0 ∧ Nd.chk (Vt.each l) = 2) := by
  cases hg : Nd.good l with
  | false => exact Or.inr (Or.inl ((Nd.chk_good).2 hg))
  | true =>
    cases hge : Nd.good (Vt.each l) with
    | false => exact Or.inr (Or.inr ⟨(Nd.chk_good).1 hg, (Nd.chk_good).2 hge⟩)
    | true =>
      refine Or.inl ⟨(Nd.chk_good).1 hg, (Nd.chk_good).1 hge, Vt.dep_within _ _ _ _, ?_, Vt.this_within _ _ _ _ hge (by kernel_rfl), ?_⟩
      · show Nd.cntL (Vt.each l) = Nd.cntL l + 1
        simp [Vt.each, Nd.cntL, Nd.N.cnt]
      · refine ((Vt.only_zero hge _).1).2 fun x hx => ?_
        obtain ⟨q, hq, h2, h3⟩ := (Vt.mem_roots hge x).1 hx
        unfold Vt.each at hq
        rw [Vt.visL_cons, Vt.visL_nil, List.append_nil, Vt.visN_eq, List.mem_cons, List.mem_append] at hq
        rw [List.mem_append]
        rcases hq with rfl | hq | hq
        · exact Or.inr (List.mem_singleton.2 h2.symm)
        · left
          change q ∈ Vt.visL 2 true l at hq
          have h4 : q.node ∈ (Vt.visL 2 true l).map (·.node) := List.mem_map.2 ⟨q, hq, rfl⟩
          rw [Vt.visL_node 2 1 true false l] at h4
          obtain ⟨q', h5, h6⟩ := List.mem_map.1 h4
          have h6 : q'.node = q.node := h6
          exact (Vt.mem_roots hg x).2 ⟨q', h5, by rw [h6]; exact h2, h3⟩
        · change q ∈ Vt.visL 2 false [] at hq
          rw [Vt.visL_nil] at hq
          cases hq
end Go.Proofs.YteiccjakaabfnaaGreatDoor
namespace Go.Proofs.YteiccjakaabfnaaGreatDoor
open Go.RowKit Go.Shelf

/-- What VetMore asks. -/
theorem Vt.more (l : List Nd.N) (a b : List ByteArray) : (Nd.chk l = 2 ∧ Vt.onlyR l a = 2) ∨ (Nd.chk l = 0 ∧ Vt.onlyR l (Vt.rootsR l) = 0 ∧ ((Vt.onlyR l a = 13) ∨ (Vt.onlyR l a = 0 ∧ Vt.onlyR l (a ++ b) = 0)) ∧ ((Vt.onlyR l [] = 0 ∧ (Vt.rootsR l).length = 0) ∨ (Vt.onlyR l [] = 13 ∧ (Vt.rootsR l).length ≠ 0))) := by
  cases hg : Nd.good l with
  | false => exact Or.inl ⟨(Nd.chk_good).2 hg, by unfold Vt.onlyR; rw [hg]; rfl⟩
  | true =>
    refine Or.inr ⟨(Nd.chk_good).1 hg, ((Vt.only_zero hg _).1).2 fun x hx => hx, ?_, ?_⟩
    · rcases (Vt.only_zero hg a).2 with h | h
      · exact Or.inr ⟨h, ((Vt.only_zero hg _).1).2 fun x hx => List.mem_append_left _ (((Vt.only_zero hg a).1).1 h x hx)⟩
      · exact Or.inl h
    · have h1 := (Vt.only_zero hg []).1
      cases hr : Vt.rootsR l with
      | nil => exact Or.inl ⟨h1.2 (by rw [hr]; intro x hx; cases hx), rfl⟩
      | cons y r =>
        refine Or.inr ⟨?_, by simp⟩
        rcases (Vt.only_zero hg []).2 with h | h
        · have := h1.1 h y (by rw [hr]; exact List.mem_cons_self ..)
          cases this
        · exact h
set_option maxRecDepth 100000 in
set_option maxHeartbeats 4000000 in
theorem vetMore_law (p : Option Addr) (c : Nat) (l : List Nd.N) (pa pb : Option Addr) (ca cb : Nat) (A B : List ByteArray) (w : World) (a b : Addr) (hA : Nd.Row w p l) (hl : l.length ≤ 1048576) (hts : ∀ t ∈ Nd.toksL l, t.text.size ≤ 4000000000)
    (hNa : Wp.At Wp.mkT w pa A) (hNb : Wp.At Wp.mkT w pb B) (hla : A.length ≤ 1048576) (hlb : B.length ≤ 1048576) (hT : Sc.Laid w) (hM : Sc.MaxLen w) (hE : Nd.Errs w a b) :
    Calls Tryz.prog 4 #[.slice p l.length c, .slice pa A.length ca, .slice pb B.length cb] w fun e w' => e = .returned (.bool true) ∧ Below w.heap.size w w' := by
  have CL := Lib.hid (lives12_any w a b hT hM hE)
  have C1 := Lib.hid (fun W (h : Below w.heap.size w W) => vtRoots_any l p c W (by omega) (hA.below h) hts (hT.below h) (hM.below h))
  have C2 := Lib.hid (fun W names pn cn (h : Below w.heap.size w W) (hN : Wp.At Wp.mkT W pn names) (hnn : names.length ≤ 140737488351232) => vtOnly_any l p c names pn cn W (by omega) (hA.below h) hts (hT.below h) (hM.below h) hN hnn)
  have HZ := Lib.hid (Vt.more l A B)
  have hR := Vt.rootsR_len l
  have HNa := Lib.hid hNa
  have HNb := Lib.hid hNb
  clear hts hT hM hE hA hNa hNb
  obtain ⟨n, hn⟩ : ∃ n, n = l.length := ⟨_, rfl⟩
  rw [← hn] at C1 C2 hl ⊢
  clear hn
  obtain ⟨na, hna⟩ : ∃ n, n = A.length := ⟨_, rfl⟩
  obtain ⟨nb, hnb⟩ : ∃ n, n = B.length := ⟨_, rfl⟩
  have HLa := Lib.hid hna
  have HLb := Lib.hid hnb
  rw [← hna] at hla ⊢
  rw [← hnb] at hlb ⊢
  clear hna hnb
  go_enter Tryz.func4, Tryz.ntmps4
  go_wp2_with fail
  refine CL.out.mono ?_
  rintro e w1 ⟨rfl, b1⟩
  have B1 := Lib.hid b1
  clear b1 CL
  go_wp2_with fail
  refine (C1.out _ B1.out).mono ?_
  rintro e w2 ⟨pr, cr, rfl, -, har, b2⟩
  have B2 := Lib.hid (B1.out.trans (b2.mono B1.out.size))
  have HR := Lib.hid har
  clear b2 har C1 B1
  have HA2 := Lib.hid (HNa.out.below B2.out)
  have CA := Lib.hid (C2.out w2 A pa ca B2.out HA2.out (by rw [← HLa.out]; omega))
  rw [← HLa.out] at CA
  rcases HZ.out with ⟨h1, h2⟩ | ⟨h1, h2, h3, h4⟩
  · rw [h1]
    rw [h2] at CA
    clear HZ h1 h2 C2
    go_wp2_with fail
    refine CA.out.mono ?_
    rintro e w3 ⟨rfl, b3⟩
    have B3 := Lib.hid (B2.out.trans (b3.mono B2.out.size))
    clear b3 CA
    go_wp2_with fail
    go_ret
    exact ⟨rfl, B3.out⟩
  · rw [h1]
    have H2 := Lib.hid h2
    have H3 := Lib.hid h3
    have H4 := Lib.hid h4
    clear HZ h1 h2 h3 h4 CA
    generalize Vt.rootsR l = R at *
    obtain ⟨m, hm⟩ : ∃ m, m = R.length := ⟨_, rfl⟩
    have HM := Lib.hid hm
    rw [← hm] at hR H4 ⊢
    clear hm
    have HB2 := Lib.hid (HNb.out.below B2.out)
    have hbe := Lib.hid ((Below.refl w2.heap.size w2).alloc (Nat.le_refl _) (.cells #[] 9))
    go_wp2_with (at_builtin; go_loud (refine Vt.listW (mk := Wp.mkT) rfl _ _ _ rfl (fun _ => rfl) Vt.tyTexts [] A (.slice (some ⟨w2.heap.size, 0, none⟩) 0 0) _ _ _ w2.heap.size rfl rfl (World.ownsRow_made w2 #[] 0 (Nat.le_refl _) (Nat.zero_le _) rfl) (HA2.out.below hbe.out) HLa.out (by simp) (by have := HLa.out; omega) hbe.out.size ?_))
    intro va wa hoa hga
    have ha : Below w2.heap.size w2 wa := Ow.grown hbe.out (World.ownsRow_made w2 #[] 0 (Nat.le_refl _) (Nat.zero_le _) rfl) hga hbe.out.size
    have Hoa := Lib.hid hoa
    have Ha := Lib.hid ha
    clear hoa hga ha
    go_wp2_with (at_builtin; go_loud (refine Vt.listW (mk := Wp.mkT) rfl _ _ _ rfl (fun _ => rfl) Vt.tyTexts A B va _ _ _ w2.heap.size rfl rfl Hoa.out (HB2.out.below Ha.out) HLb.out (by have := HLa.out; omega) (by have := HLb.out; omega) Ha.out.size ?_))
    intro vb wb hob hgb
    have hb := Ow.grown Ha.out Hoa.out hgb Ha.out.size
    have hob2 : wb.ownsRow w2.heap.size 9 1 vb (A ++ B).length ((A ++ B).map Wp.mkT) := by rw [List.length_append, List.map_append]; simpa using hob
    obtain ⟨pv, cv, rfl, hav⟩ := owns_at (mk := Wp.mkT) hob2
    have HAV := Lib.hid hav
    have HA3 := Lib.hid (HA2.out.below hb)
    have HR := Lib.hid (HR.out.below hb)
    have B8 := Lib.hid (B2.out.trans (hb.mono B2.out.size))
    clear hob hob2 hgb hb hav Hoa Ha hbe HA2 HB2
    obtain ⟨k, hk⟩ : ∃ k, k = (A ++ B).length := ⟨_, rfl⟩
    have HK := Lib.hid hk
    rw [← hk]
    clear hk
    have CO1 := Lib.hid (C2.out wb R pr cr B8.out HR.out (by have := HM.out; omega))
    rw [H2.out, ← HM.out] at CO1
    go_wp2_with fail
    refine CO1.out.mono ?_
    rintro e w4 ⟨rfl, b4⟩
    have HAV := Lib.hid (HAV.out.below b4)
    have HA4 := Lib.hid (HA3.out.below b4)
    have B9 := Lib.hid (B8.out.trans (b4.mono B8.out.size))
    clear b4 CO1 B8 HA3 HR
    have CO2 := Lib.hid (C2.out w4 A pa ca B9.out HA4.out (by have := HLa.out; omega))
    rw [← HLa.out] at CO2
    rcases H3.out with h13 | ⟨h0, hb0⟩
    · rw [h13] at CO2
      clear H3 h13
      go_wp2_with fail
      refine CO2.out.mono ?_
      rintro e w5 ⟨rfl, b5⟩
      have B10 := Lib.hid (B9.out.trans (b5.mono B9.out.size))
      clear b5 CO2 B9
      have CO4 := Lib.hid (C2.out w5 [] none 0 B10.out (Or.inl rfl) (Nat.zero_le _))
      clear C2 HLa HLb HM HK
      rcases H4.out with ⟨h, hm⟩ | ⟨h, hm⟩
      · rw [h] at CO4
        clear H4
        subst hm
        go_wp2_with fail
        refine CO4.out.mono ?_
        rintro e w7 ⟨rfl, b7⟩
        have B12 := Lib.hid (B10.out.trans (b7.mono B10.out.size))
        clear b7 CO4
        go_wp2_with fail
        go_ret
        exact ⟨rfl, B12.out⟩
      · rw [h] at CO4
        clear H4
        have hmz : ((m : Int) == 0) = false := by rw [beq_eq_false_iff_ne]; omega
        have hmn : ¬ (m : Int) = 0 := by omega
        go_wp2_with fail
        refine CO4.out.mono ?_
        rintro e w7 ⟨rfl, b7⟩
        have B12 := Lib.hid (B10.out.trans (b7.mono B10.out.size))
        clear b7 CO4
        go_wp2_with fail
        go_ret
        exact ⟨rfl, B12.out⟩
    · rw [h0] at CO2
      have H0 := Lib.hid hb0
      clear H3 h0 hb0
      go_wp2_with fail
      refine CO2.out.mono ?_
      rintro e w5 ⟨rfl, b5⟩
      have B10 := Lib.hid (B9.out.trans (b5.mono B9.out.size))
      have HAV := Lib.hid (HAV.out.below b5)
      clear b5 CO2 B9
      have CO3 := Lib.hid (C2.out w5 (A ++ B) pv cv B10.out HAV.out (by rw [List.length_append]; have := HLa.out; have := HLb.out; omega))
      rw [H0.out, ← HK.out] at CO3
      go_wp2_with fail
      refine CO3.out.mono ?_
      rintro e w6 ⟨rfl, b6⟩
      have B11 := Lib.hid (B10.out.trans (b6.mono B10.out.size))
      clear b6 CO3 B10 HAV H0
      have CO4 := Lib.hid (C2.out w6 [] none 0 B11.out (Or.inl rfl) (Nat.zero_le _))
      clear C2 HLa HLb HM HK
      rcases H4.out with ⟨h, hm⟩ | ⟨h, hm⟩
      · rw [h] at CO4
        clear H4
        subst hm
        go_wp2_with fail
        refine CO4.out.mono ?_
        rintro e w7 ⟨rfl, b7⟩
        have B12 := Lib.hid (B11.out.trans (b7.mono B11.out.size))
        clear b7 CO4
        go_wp2_with fail
        go_ret
        exact ⟨rfl, B12.out⟩
      · rw [h] at CO4
        clear H4
        have hmz : ((m : Int) == 0) = false := by rw [beq_eq_false_iff_ne]; omega
        have hmn : ¬ (m : Int) = 0 := by omega
        go_wp2_with fail
        refine CO4.out.mono ?_
        rintro e w7 ⟨rfl, b7⟩
        have B12 := Lib.hid (B11.out.trans (b7.mono B11.out.size))
        clear b7 CO4
        go_wp2_with fail
        go_ret
        exact ⟨rfl, B12.out⟩
end Go.Proofs.YteiccjakaabfnaaGreatDoor
