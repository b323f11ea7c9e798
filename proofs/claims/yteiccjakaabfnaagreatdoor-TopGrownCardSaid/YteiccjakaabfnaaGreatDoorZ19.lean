/-
  What is found of a text: its nodes are right, and its tags pair. No condition.
  What a template asks for, and the first names of its paths: each root is one of these, and none is this; there are no more paths than nodes. Conditions: those that the theorems state.
-/
import Derived.Test.YteiccjakaabfnaaGreatDoorZ39
import Derived.Test.YteiccjakaabfnaaGreatDoorZ23
import Derived.Test.YteiccjakaabfnaaGreatDoorZ29
namespace Go.Proofs.YteiccjakaabfnaaGreatDoor.Nd
open Sc

theorem nodesR_none {l : List T} (h : (nodesR l).2 ≠ 0) : (nodesR l).1 = [] := by
  unfold nodesR at h ⊢
  split
  · rename_i ho
    rw [if_pos ho] at h
    split
    · rename_i ns hp
      rw [hp] at h
      simp only at h
      split
      · rename_i hr
        rw [if_pos hr] at h
        exact absurd rfl h
      · rfl
    · rfl
  · rfl
theorem parse_bad {s : List UInt8} (h : (parseR s).2 ≠ 0) : (parseR s).1 = [] := by
  unfold parseR at h ⊢
  split
  · rename_i h0
    rw [if_pos h0] at h
    exact nodesR_none h
  · rfl
theorem parse_ok {s : List UInt8} (h : (parseR s).2 = 0) : (Sc.toksR s).2 = 0 ∧ okTs (Sc.toksR s).1 = true ∧ stk [] (Sc.toksR s).1 = true ∧ good (parseR s).1 = true ∧ Er (Sc.toksR s).1 (toksL (parseR s).1) := by
  unfold parseR at h ⊢
  by_cases h0 : (Sc.toksR s).2 = 0
  · rw [if_pos h0] at h ⊢
    obtain ⟨h1, h2, h3, h4, _⟩ := nodesR_ok (l := (Sc.toksR s).1) (ns := (nodesR (Sc.toksR s).1).1) (by rw [← h])
    exact ⟨h0, h1, h2, h3, h4⟩
  · rw [if_neg h0] at h
    exact absurd h h0
/-- How many tokens of such kinds. -/
def cB (l : List T) : Nat := l.countP fun t => decide (t.kind = 3 ∨ t.kind = 5)
def cE (l : List T) : Nat := l.countP fun t => decide (t.kind = 6)
def cI (l : List T) : Nat := l.countP fun t => decide (t.kind = 3)
def cL (l : List T) : Nat := l.countP fun t => decide (t.kind = 4)
def cP (l : List T) : Nat := l.countP fun t => decide (t.path.length ≠ 0)
theorem words_cnt (l : List T) : (wordsT l).length = cP l := by
  unfold wordsT cP
  rw [List.length_map, ← List.countP_eq_length_filter]
theorem stk_count : ∀ (l : List T) (st : List Nat), stk st l = true → st.length + cB l = cE l ∧ cL l ≤ cI l + st.count 3
  | [], st, h => by
    have : st = [] := List.isEmpty_iff.1 (by cases st <;> simp [stk] at h ⊢)
    subst this
    simp [cB, cE, cL, cI]
  | t :: l, st, h => by
    have eB : cB (t :: l) = cB l + if t.kind = 3 ∨ t.kind = 5 then 1 else 0 := by unfold cB; rw [List.countP_cons]; simp
    have eE : cE (t :: l) = cE l + if t.kind = 6 then 1 else 0 := by unfold cE; rw [List.countP_cons]; simp
    have eI : cI (t :: l) = cI l + if t.kind = 3 then 1 else 0 := by unfold cI; rw [List.countP_cons]; simp
    have eL : cL (t :: l) = cL l + if t.kind = 4 then 1 else 0 := by unfold cL; rw [List.countP_cons]; simp
    rw [stk_cons] at h
    rw [eB, eE, eI, eL]
    by_cases h35 : t.kind = 3 ∨ t.kind = 5
    · rw [if_pos h35] at h
      obtain ⟨i1, i2⟩ := stk_count l _ h
      rw [List.length_cons] at i1
      rw [List.count_cons] at i2
      rw [if_pos h35, if_neg (show ¬ t.kind = 6 by omega), if_neg (show ¬ t.kind = 4 by omega)]
      refine ⟨by omega, ?_⟩
      by_cases h3 : t.kind = 3
      · rw [if_pos h3]
        rw [if_pos (by rw [h3]; rfl)] at i2
        omega
      · rw [if_neg h3]
        rw [if_neg (by rw [beq_iff_eq]; exact h3)] at i2
        omega
    · rw [if_neg h35] at h
      rw [if_neg h35, if_neg (show ¬ t.kind = 3 by omega)]
      by_cases h4 : t.kind = 4
      · rw [if_pos h4] at h
        rw [if_pos h4, if_neg (show ¬ t.kind = 6 by omega)]
        cases st with
        | nil => cases h
        | cons a s =>
          have h : (if a = 3 then stk (4 :: s) l else false) = true := h
          split at h
          · rename_i ha
            obtain ⟨i1, i2⟩ := stk_count l _ h
            subst ha
            rw [List.length_cons] at i1 ⊢
            rw [List.count_cons] at i2 ⊢
            rw [if_neg (by decide)] at i2
            rw [if_pos (by decide)]
            omega
          · cases h
      · rw [if_neg h4] at h
        rw [if_neg h4]
        by_cases h6 : t.kind = 6
        · rw [if_pos h6] at h
          rw [if_pos h6]
          cases st with
          | nil => cases h
          | cons a s =>
            obtain ⟨i1, i2⟩ := stk_count l _ h
            rw [List.length_cons]
            rw [List.count_cons]
            refine ⟨by omega, ?_⟩
            split <;> omega
        · rw [if_neg h6] at h
          rw [if_neg h6]
          exact stk_count l st h
end Go.Proofs.YteiccjakaabfnaaGreatDoor.Nd
namespace Go.Proofs.YteiccjakaabfnaaGreatDoor

theorem Tg.ba_ne {a b : ByteArray} (h : ¬ a = b) : (a == b) = false := by
  rcases a with ⟨x⟩
  rcases b with ⟨y⟩
  have h2 : ¬ x = y := fun e => h (by rw [e])
  exact (beq_eq_false_iff_ne (a := x) (b := y)).2 h2
theorem Tg.ba_nel {a b : ByteArray} (h : ¬ a = b) : (a.toList == b.toList) = false := by
  rw [beq_eq_false_iff_ne, Lib.toList_data, Lib.toList_data]
  intro e
  exact h (by rw [← Wp.B_of a, ← Wp.B_of b, e])
theorem Tg.closed {k nk ne : Nat} (h : Nd.holds k nk ne = true) (ho : Nd.opens k = false) : nk = 0 ∧ ne = 0 := by
  unfold Nd.holds at h
  split at h
  · simpa using h
  · simpa using h
  · simp [Nd.opens] at ho
  · simp [Nd.opens] at ho
  · cases h
/-- Each node's path is a token's. -/
theorem Tg.vis_tok : ∀ (d : Nat) (l : List Nd.N) (a : Nat) (i : Bool), Nd.okL d l = true → ∀ p ∈ Vt.visL a i l, ∃ t ∈ Nd.toksL l, t.path = p.node.path
  | 0, l, a, i, h => by
    rw [Nd.okL, List.isEmpty_iff] at h
    subst h
    intro p hp
    rw [Vt.visL_nil] at hp
    cases hp
  | d + 1, l, a, i, h => by
    have ih := Tg.vis_tok d
    rw [Nd.okL] at h
    induction l with
    | nil => intro p hp; rw [Vt.visL_nil] at hp; cases hp
    | cons x l ihl =>
      intro p hp
      rw [List.all_cons, Bool.and_eq_true] at h
      have h2 := h.1
      rw [Bool.and_eq_true, Bool.and_eq_true] at h2
      obtain ⟨h3, h4, h5⟩ := h2
      rw [Vt.visL_cons, List.mem_append, Vt.visN_eq, List.mem_cons, List.mem_append] at hp
      rw [Nd.toksL_cons]
      rcases hp with (rfl | hp | hp) | hp
      · exact ⟨⟨x.kind, x.text, x.path⟩, List.mem_append_left _ (by rw [Nd.N.toks_eq]; exact List.mem_cons_self ..), rfl⟩
      · obtain ⟨t, ht, e⟩ := ih x.kids _ _ h4 p hp
        have ho : Nd.opens x.kind = true := by
          cases ho : Nd.opens x.kind with
          | true => rfl
          | false =>
            have hk := (Tg.closed h3 ho).1
            rw [List.length_eq_zero_iff.1 hk, Vt.visL_nil] at hp
            cases hp
        exact ⟨t, List.mem_append_left _ (by rw [Nd.N.toks_eq, if_pos ho]; exact List.mem_cons_of_mem _ (List.mem_append_left _ ht)), e⟩
      · obtain ⟨t, ht, e⟩ := ih x.els _ _ h5 p hp
        have ho : Nd.opens x.kind = true := by
          cases ho : Nd.opens x.kind with
          | true => rfl
          | false =>
            have hk := (Tg.closed h3 ho).2
            rw [List.length_eq_zero_iff.1 hk, Vt.visL_nil] at hp
            cases hp
        have hne : x.els.isEmpty = false := by
          cases he : x.els with
          | nil => rw [he, Vt.visL_nil] at hp; cases hp
          | cons => rfl
        refine ⟨t, List.mem_append_left _ ?_, e⟩
        rw [Nd.N.toks_eq, if_pos ho, hne]
        exact List.mem_cons_of_mem _ (List.mem_append_right _ (List.mem_append_left _ (List.mem_cons_of_mem _ ht)))
      · obtain ⟨t, ht, e⟩ := ihl h.2 p hp
        exact ⟨t, List.mem_append_right _ ht, e⟩
/-- There are no more paths than nodes. -/
theorem Tg.cP_append (a b : List Sc.T) : Nd.cP (a ++ b) = Nd.cP a + Nd.cP b := by
  unfold Nd.cP
  rw [List.countP_append]
mutual
theorem Tg.cP_N : ∀ n : Nd.N, Nd.cP n.toks ≤ n.cnt
  | .mk k t p kids els => by
    have h1 := Tg.cP_L kids
    have h2 := Tg.cP_L els
    rw [Nd.N.toks, Nd.N.cnt]
    have hc : ∀ (x : Sc.T) (l : List Sc.T), Nd.cP (x :: l) ≤ Nd.cP l + 1 := fun x l => by
      unfold Nd.cP
      rw [List.countP_cons]
      split <;> omega
    have h0 := hc ⟨k, t, p⟩ (if Nd.opens k then Nd.toksL kids ++ ((if els.isEmpty then [] else Nd.tElse :: Nd.toksL els) ++ [Nd.tEnd]) else [])
    have e1 : Nd.cP [Nd.tEnd] = 0 := by decide
    have e2 : Nd.cP ([] : List Sc.T) = 0 := rfl
    have e3 : Nd.cP (Nd.tElse :: Nd.toksL els) = Nd.cP (Nd.toksL els) := by
      unfold Nd.cP
      rw [List.countP_cons, if_neg (by decide), Nat.add_zero]
    have h3 : Nd.cP (if Nd.opens k then Nd.toksL kids ++ ((if els.isEmpty then [] else Nd.tElse :: Nd.toksL els) ++ [Nd.tEnd]) else []) ≤ Nd.cntL kids + Nd.cntL els := by
      split
      · rw [Tg.cP_append, Tg.cP_append, e1]
        split
        · rw [e2]; omega
        · rw [e3]; omega
      · rw [e2]; omega
    omega
theorem Tg.cP_L : ∀ l : List Nd.N, Nd.cP (Nd.toksL l) ≤ Nd.cntL l
  | [] => by rw [Nd.toksL_nil, Nd.cntL_nil]; exact Nat.le_refl _
  | n :: l => by
    have h1 := Tg.cP_N n
    have h2 := Tg.cP_L l
    rw [Nd.toksL_cons, Nd.cntL_cons, Tg.cP_append]
    omega
end
/-- A word's first name. -/
def Tg.fst (w : ByteArray) : ByteArray := Vt.rt (Sc.pathR w.data.toList).1
/-- What a right token's word is. -/
theorem Tg.word {t : Sc.T} (h : Sc.okT t = true) (hp : t.path.length ≠ 0) : Sc.pathR (Wp.B (Sc.joinP t.path)).data.toList = (t.path, 0) := by
  have hk : Sc.pathOk (t.path.map (·.data.toList)) = true := by
    unfold Sc.okT at h
    split at h
    · simp only [Bool.and_eq_true, decide_eq_true_eq] at h; exact absurd h.2 hp
    · rw [Bool.and_eq_true] at h; exact h.2
    · rw [Bool.and_eq_true] at h; exact h.2
    · rw [Bool.and_eq_true] at h; exact h.2
    · simp only [Bool.and_eq_true, decide_eq_true_eq] at h; exact absurd h.2 hp
    · simp only [Bool.and_eq_true, decide_eq_true_eq] at h; exact absurd h.2 hp
    · cases h
  unfold Sc.pathR
  rw [Wp.B_data, Sc.path_join hk]
/-- Of each word: it is short, and a path of one to four names. -/
theorem Tg.words {l : List Sc.T} (h : ∀ t ∈ l, Sc.okT t = true) : ∀ w ∈ Nd.wordsT l, w.size ≤ 131 ∧ (Sc.pathR w.data.toList).2 = 0 ∧ (Sc.pathR w.data.toList).1.length ≠ 0 ∧ (Sc.pathR w.data.toList).1.length ≤ 4 := by
  intro w hw
  unfold Nd.wordsT at hw
  obtain ⟨t, ht, rfl⟩ := List.mem_map.1 hw
  obtain ⟨h1, h2⟩ := List.mem_filter.1 ht
  have h3 := of_decide_eq_true h2
  have h4 := Nd.path4 (h t h1)
  rw [Tg.word (h t h1) h3]
  exact ⟨by rw [Wp.B_size]; omega, rfl, h3, h4.1⟩
/-- The words' first names are the paths'. -/
theorem Tg.fst_mem {l : List Sc.T} (h : ∀ t ∈ l, Sc.okT t = true) {t : Sc.T} (ht : t ∈ l) (hp : t.path.length ≠ 0) : Vt.rt t.path ∈ (Nd.wordsT l).map Tg.fst := by
  refine List.mem_map.2 ⟨Wp.B (Sc.joinP t.path), ?_, ?_⟩
  · unfold Nd.wordsT
    exact List.mem_map.2 ⟨t, List.mem_filter.2 ⟨ht, decide_eq_true hp⟩, rfl⟩
  · unfold Tg.fst
    rw [Tg.word (h t ht) hp]
theorem Tg.facts {l : List Nd.N} (hg : Nd.good l = true) : (∀ x ∈ Vt.rootsR l, x ∈ (Nd.wordsT (Nd.toksL l)).map Tg.fst ∧ (x.toList == [116, 104, 105, 115]) = false) ∧ Vt.onlyR l ((Nd.wordsT (Nd.toksL l)).map Tg.fst) = 0 ∧ (Nd.wordsT (Nd.toksL l)).length ≤ Nd.cntL l ∧ (Nd.wordsT (Nd.toksL l)).length ≤ 256 ∧ ∀ w ∈ Nd.wordsT (Nd.toksL l), w.size ≤ 131 ∧ (Sc.pathR w.data.toList).2 = 0 ∧ (Sc.pathR w.data.toList).1.length ≠ 0 ∧ (Sc.pathR w.data.toList).1.length ≤ 4 := by
  have hg2 := hg
  unfold Nd.good Nd.shapedP at hg2
  rw [Bool.and_eq_true, Bool.and_eq_true, decide_eq_true_eq] at hg2
  obtain ⟨⟨h1, h2⟩, h3⟩ := hg2
  have h4 := Nd.all_of h3
  have hr : ∀ x ∈ Vt.rootsR l, x ∈ (Nd.wordsT (Nd.toksL l)).map Tg.fst ∧ (x.toList == [116, 104, 105, 115]) = false := fun x hx => by
    obtain ⟨p, hp, hq, hi⟩ := (Vt.mem_roots hg x).1 hx
    unfold Vt.isRoot at hi
    rw [Bool.and_eq_true, Bool.not_eq_true', Bool.not_eq_true'] at hi
    obtain ⟨t, ht, e⟩ := Tg.vis_tok 8 l 1 false h1 p hp
    have hne : t.path.length ≠ 0 := fun h0 => by
      rw [e] at h0
      rw [List.length_eq_zero_iff.1 h0] at hq
      rw [← hq] at hi
      have : (Vt.rt []).toList = [] := by rw [show Vt.rt [] = ByteArray.empty from rfl, Lib.toList_data]; rfl
      rw [this] at hi
      exact absurd hi.1 (by decide)
    refine ⟨?_, hi.2⟩
    have := Tg.fst_mem h4 ht hne
    rw [e, hq] at this
    exact this
  have hc := Tg.cP_L l
  rw [← Nd.words_cnt] at hc
  exact ⟨hr, ((Vt.only_zero hg _).1).2 fun x hx => (hr x hx).1, hc, by omega, Tg.words h4⟩
end Go.Proofs.YteiccjakaabfnaaGreatDoor
