
/-
  Nodes as plain data: their tokens, how many they are, what is right, and the nodes of tokens. No condition.
-/
import Derived.Test.YteiccjakaabfnaaGreatDoorScMath
namespace Go.Proofs.YteiccjakaabfnaaGreatDoor

/-- A node: its kind, its text, its path's names, what is within it, and what is told otherwise. -/
inductive Nd.N where
  | mk (kind : Nat) (text : ByteArray) (path : List ByteArray) (kids els : List Nd.N)
namespace Nd
open Sc
def N.kind : N → Nat | .mk k _ _ _ _ => k
def N.text : N → ByteArray | .mk _ t _ _ _ => t
def N.path : N → List ByteArray | .mk _ _ p _ _ => p
def N.kids : N → List N | .mk _ _ _ l _ => l
def N.els : N → List N | .mk _ _ _ _ l => l
theorem N.eta : ∀ n : N, n = .mk n.kind n.text n.path n.kids n.els | .mk _ _ _ _ _ => rfl
def tElse : T := ⟨4, ⟨#[]⟩, []⟩
def tEnd : T := ⟨6, ⟨#[]⟩, []⟩
def opens (k : Nat) : Bool := decide (k = 3) || decide (k = 5)
/-- Kids and Else are only where the kind has them. -/
def holds (k nk ne : Nat) : Bool :=
  match k with
  | 1 | 2 => decide (nk = 0) && decide (ne = 0)
  | 3 => true
  | 5 => decide (ne = 0)
  | _ => false
mutual
/-- A node's tokens. -/
def N.toks : N → List T
  | .mk k t p kids els => ⟨k, t, p⟩ :: (if opens k then toksL kids ++ ((if els.isEmpty then [] else tElse :: toksL els) ++ [tEnd]) else [])
def toksL : List N → List T
  | [] => []
  | n :: l => n.toks ++ toksL l
end
mutual
/-- How many nodes. -/
def N.cnt : N → Nat
  | .mk _ _ _ kids els => cntL kids + cntL els + 1
def cntL : List N → Nat
  | [] => 0
  | n :: l => n.cnt + cntL l
end
theorem toksL_nil : toksL [] = [] := by rw [toksL]
theorem toksL_cons (n : N) (l : List N) : toksL (n :: l) = n.toks ++ toksL l := by rw [toksL]
theorem toksL_append (a b : List N) : toksL (a ++ b) = toksL a ++ toksL b := by
  induction a with
  | nil => rw [toksL_nil]; rfl
  | cons x a ih => rw [List.cons_append, toksL_cons, toksL_cons, ih, List.append_assoc]
theorem N.toks_eq : ∀ n : N, n.toks = ⟨n.kind, n.text, n.path⟩ :: (if opens n.kind then toksL n.kids ++ ((if n.els.isEmpty then [] else tElse :: toksL n.els) ++ [tEnd]) else [])
  | .mk _ _ _ _ _ => by rw [N.toks]; rfl
theorem cntL_nil : cntL [] = 0 := by rw [cntL]
theorem cntL_cons (n : N) (l : List N) : cntL (n :: l) = n.cnt + cntL l := by rw [cntL]
theorem N.cnt_eq : ∀ n : N, n.cnt = cntL n.kids + cntL n.els + 1 | .mk _ _ _ _ _ => by rw [N.cnt]; rfl
theorem cntL_append (a b : List N) : cntL (a ++ b) = cntL a + cntL b := by
  induction a with
  | nil => rw [List.nil_append, cntL_nil, Nat.zero_add]
  | cons x a ih => rw [List.cons_append, cntL_cons, cntL_cons, ih, Nat.add_assoc]
theorem cntL_len (l : List N) : l.length ≤ cntL l := by
  induction l with
  | nil => simp
  | cons x l ih => rw [cntL_cons, List.length_cons, N.cnt_eq]; omega
/-- Levels, and kinds that have what they hold. -/
def okL : Nat → List N → Bool
  | 0, l => l.isEmpty
  | d + 1, l => l.all fun n => holds n.kind n.kids.length n.els.length && (okL d n.kids && okL d n.els)
/-- Right, and what room is left: as it is gone through. -/
def goAll (f : N → Int → Bool × Int) : List N → Int → Bool × Int
  | [], r => (true, r)
  | x :: l, r => match f x r with
    | (true, r') => goAll f l r'
    | (false, r') => (false, r')
def goN (g : List N → Int → Bool × Int) (n : N) (r : Int) : Bool × Int :=
  if holds n.kind n.kids.length n.els.length then
    match g n.kids r with
    | (true, r') => g n.els r'
    | (false, r') => (false, r')
  else (false, r)
def go : Nat → List N → Int → Bool × Int
  | 0, l, r => if r - l.length < 0 ∨ 0 < l.length then (false, r - l.length) else (true, r - l.length)
  | d + 1, l, r => if r - l.length < 0 then (false, r - l.length) else goAll (goN (go d)) l (r - l.length)
theorem go_ok : ∀ (d : Nat) (l : List N) (r : Int), 0 ≤ r → (((go d l r).1 = true ↔ okL d l = true ∧ (cntL l : Int) ≤ r) ∧ ((go d l r).1 = true → (go d l r).2 = r - cntL l))
  | 0, l, r, hr => by
    have h0 : okL 0 l = true ↔ l = [] := by rw [okL]; exact List.isEmpty_iff
    rw [go, h0]
    have hln := cntL_len l
    by_cases h : r - l.length < 0 ∨ 0 < l.length
    · rw [if_pos h]
      refine ⟨⟨fun h => by simp at h, fun ⟨h1, h2⟩ => ?_⟩, fun h => by simp at h⟩
      subst h1
      rw [List.length_nil] at h
      omega
    · rw [if_neg h]
      obtain rfl : l = [] := List.length_eq_zero_iff.1 (by omega)
      rw [cntL_nil]
      simp [hr]
  | d + 1, l, r, hr => by
    have ih := go_ok d
    have keyN : ∀ (n : N) (r : Int), 0 ≤ r → (((goN (go d) n r).1 = true ↔ (holds n.kind n.kids.length n.els.length && (okL d n.kids && okL d n.els)) = true ∧ (n.cnt : Int) - 1 ≤ r) ∧ ((goN (go d) n r).1 = true → (goN (go d) n r).2 = r - (n.cnt - 1))) := by
      intro n r hr
      rw [goN, N.cnt_eq]
      cases hh : holds n.kind n.kids.length n.els.length with
      | false => simp
      | true =>
        rw [if_pos rfl, Bool.true_and]
        obtain ⟨k1, k2⟩ := ih n.kids r hr
        rcases hk : go d n.kids r with ⟨b, r'⟩
        rw [hk] at k1 k2
        cases b with
        | false =>
          simp only [Bool.false_eq_true, false_iff] at k1 ⊢
          refine ⟨fun h => k1 ⟨(Bool.and_eq_true _ _ ▸ h.1).1, ?_⟩, fun h => h.elim⟩
          have := h.2
          omega
        | true =>
          have e := k2 rfl
          simp only at e
          obtain ⟨o1, o2⟩ := k1.1 rfl
          subst e
          obtain ⟨m1, m2⟩ := ih n.els (r - cntL n.kids) (by omega)
          simp only [o1, Bool.true_and]
          refine ⟨m1.trans ⟨fun h => ⟨h.1, ?_⟩, fun h => ⟨h.1, ?_⟩⟩, fun h => ?_⟩
          · have := h.2; omega
          · have := h.2; omega
          · rw [m2 h]; omega
    have key : ∀ (m : List N) (r : Int), 0 ≤ r → (((goAll (goN (go d)) m r).1 = true ↔ (m.all fun n => holds n.kind n.kids.length n.els.length && (okL d n.kids && okL d n.els)) = true ∧ (cntL m : Int) - m.length ≤ r) ∧ ((goAll (goN (go d)) m r).1 = true → (goAll (goN (go d)) m r).2 = r - (cntL m - m.length))) := by
      intro m
      induction m with
      | nil => intro r hr; simp [goAll, cntL_nil, hr]
      | cons x m ihm =>
        intro r hr
        obtain ⟨i1, i2⟩ := keyN x r hr
        have hx := x.cnt_eq
        have hml := cntL_len m
        rw [goAll]
        rcases hgo : goN (go d) x r with ⟨b, r'⟩
        rw [hgo] at i1 i2
        cases b with
        | false =>
          simp only [Bool.false_eq_true, false_iff] at i1 ⊢
          rw [List.all_cons, Bool.and_eq_true]
          refine ⟨fun h => i1 ⟨h.1.1, ?_⟩, fun h => h.elim⟩
          have := h.2
          rw [cntL_cons, List.length_cons] at this
          omega
        | true =>
          have e := i2 rfl
          simp only at e
          obtain ⟨o1, o2⟩ := i1.1 rfl
          subst e
          obtain ⟨k1, k2⟩ := ihm (r - (x.cnt - 1)) (by omega)
          rw [List.all_cons, o1, Bool.true_and]
          refine ⟨k1.trans ⟨fun h => ⟨h.1, ?_⟩, fun h => ⟨h.1, ?_⟩⟩, fun h => ?_⟩
          · rw [cntL_cons, List.length_cons]; have := h.2; omega
          · have := h.2; rw [cntL_cons, List.length_cons] at this; omega
          · rw [k2 h, cntL_cons, List.length_cons]; omega
    have hln := cntL_len l
    rw [go]
    by_cases h : r - l.length < 0
    · rw [if_pos h]
      refine ⟨⟨fun h => by simp at h, fun ⟨h1, h2⟩ => ?_⟩, fun h => by simp at h⟩
      omega
    · rw [if_neg h]
      obtain ⟨k1, k2⟩ := key l (r - l.length) (by omega)
      rw [okL]
      refine ⟨k1.trans ⟨fun h => ⟨h.1, by have := h.2; omega⟩, fun h => ⟨h.1, by have := h.2; omega⟩⟩, fun h => ?_⟩
      rw [k2 h]
      omega
/-- Nodes are right. -/
def shapedP (l : List N) : Bool := okL 8 l && decide (cntL l ≤ 256)
theorem go_shaped (l : List N) : (go 8 l 256).1 = shapedP l := by
  have h := (go_ok 8 l 256 (by decide)).1
  unfold shapedP
  rw [Bool.eq_iff_iff, h, Bool.and_eq_true, decide_eq_true_eq]
  exact and_congr Iff.rfl (by omega)
def good (l : List N) : Bool := shapedP l && okTs (toksL l)
def chk (l : List N) : Int := if good l then 0 else 2
def toksR (l : List N) : List T × Int := if good l then (toksL l, 0) else ([], 2)
def writeN (l : List N) : List UInt8 × Int := if good l then writeR (toksL l) else ([], 2)
/-- The words of tokens' paths. -/
def wordsT (l : List T) : List ByteArray := (l.filter fun t => decide (t.path.length ≠ 0)).map fun t => Wp.B (joinP t.path)
def pathsR (l : List N) : List ByteArray × Int := if good l then (wordsT (toksL l), 0) else ([], 2)
theorem toks_len : ∀ (d : Nat) (l : List N), okL d l = true → (toksL l).length ≤ 3 * cntL l
  | 0, l, h => by rw [okL, List.isEmpty_iff] at h; subst h; rw [toksL_nil]; simp
  | d + 1, l, h => by
    rw [okL] at h
    induction l with
    | nil => rw [toksL_nil]; simp
    | cons x l ih =>
      rw [List.all_cons, Bool.and_eq_true] at h
      have h1 := ih h.2
      have h2 := h.1
      rw [Bool.and_eq_true, Bool.and_eq_true] at h2
      have h3 := toks_len d _ h2.2.1
      have h4 := toks_len d _ h2.2.2
      rw [toksL_cons, cntL_cons, N.cnt_eq, N.toks_eq, List.length_append, List.length_cons]
      have : (if opens x.kind then toksL x.kids ++ ((if x.els.isEmpty then [] else tElse :: toksL x.els) ++ [tEnd]) else []).length ≤ 3 * cntL x.kids + 3 * cntL x.els + 2 := by
        split
        · rw [List.length_append, List.length_append]
          split
          · simp; omega
          · simp; omega
        · simp
      omega
/-! ### the document's answer -/
def leafR (n : N) : Bool :=
  match n.kind with
  | 1 => decide (n.path.length + n.kids.length + n.els.length = 0)
  | 2 => decide (n.text.size = 0) && decide (n.kids.length + n.els.length = 0)
  | 3 => decide (n.text.size = 0)
  | 5 => decide (n.text.size = 0) && decide (n.els.length = 0)
  | _ => false
def okLR : Nat → List N → Bool
  | 0, l => l.isEmpty
  | d + 1, l => l.all fun n => leafR n && (okLR d n.kids && okLR d n.els)
def rgtAll (f : List N → Nat × Bool) : List N → Nat → Nat × Bool
  | [], n => (n, true)
  | x :: l, n => if (f x.kids).2 = false ∨ (f x.els).2 = false ∨ leafR x = false ∨ 256 < n + (1 + (f x.kids).1 + (f x.els).1) then (0, false) else rgtAll f l (n + (1 + (f x.kids).1 + (f x.els).1))
def rgt : Nat → List N → Nat × Bool
  | 0, l => if l.length = 0 then (0, true) else (0, false)
  | d + 1, l => rgtAll (rgt d) l 0
theorem rgt_eq : ∀ (d : Nat) (l : List N), rgt d l = if okLR d l && decide (cntL l ≤ 256) then (cntL l, true) else (0, false)
  | 0, l => by
    rw [rgt, okLR]
    cases l with
    | nil => rw [cntL_nil]; rfl
    | cons x l => rfl
  | d + 1, l => by
    have ih := rgt_eq d
    have key : ∀ (m : List N) (n : Nat), n ≤ 256 → rgtAll (rgt d) m n = if (m.all fun n => leafR n && (okLR d n.kids && okLR d n.els)) && decide (n + cntL m ≤ 256) then (n + cntL m, true) else (0, false) := by
      intro m
      induction m with
      | nil => intro n hn; rw [rgtAll, cntL_nil]; simp [hn]
      | cons x m ihm =>
        intro n hn
        rw [rgtAll, ih x.kids, ih x.els, List.all_cons, cntL_cons, N.cnt_eq]
        cases hk : okLR d x.kids with
        | false => simp
        | true =>
          cases he : okLR d x.els with
          | false => simp
          | true =>
            cases hl : leafR x with
            | false => simp
            | true =>
              simp only [Bool.true_and, Bool.and_true]
              by_cases c1 : cntL x.kids ≤ 256
              · by_cases c2 : cntL x.els ≤ 256
                · simp only [decide_eq_true c1, decide_eq_true c2, if_true]
                  by_cases c3 : n + (1 + cntL x.kids + cntL x.els) ≤ 256
                  · rw [if_neg (by simp; omega), ihm _ c3]
                    have e : n + (1 + cntL x.kids + cntL x.els) + cntL m = n + (cntL x.kids + cntL x.els + 1 + cntL m) := by omega
                    rw [e]
                  · rw [if_pos (Or.inr (Or.inr (Or.inr (by omega)))), if_neg]
                    rw [Bool.and_eq_true, decide_eq_true_eq]
                    omega
                · rw [if_pos (Or.inr (Or.inl (by simp [c2]))), if_neg]
                  rw [Bool.and_eq_true, decide_eq_true_eq]
                  omega
              · rw [if_pos (Or.inl (by simp [c1])), if_neg]
                rw [Bool.and_eq_true, decide_eq_true_eq]
                omega
    rw [rgt, key l 0 (by omega), okLR, Nat.zero_add]
theorem leaf_holds {n : N} (h : leafR n = true) : holds n.kind n.kids.length n.els.length = true := by
  unfold leafR at h
  unfold holds
  split at h
  · simp only [Bool.and_eq_true, decide_eq_true_eq] at h ⊢
    omega
  · simp only [Bool.and_eq_true, decide_eq_true_eq] at h ⊢
    omega
  · rfl
  · rw [Bool.and_eq_true] at h
    exact h.2
  · cases h
theorem holds_leaf {n : N} (h : holds n.kind n.kids.length n.els.length = true) (ht : okT ⟨n.kind, n.text, n.path⟩ = true) : leafR n = true := by
  obtain ⟨k, t, p, kids, els⟩ := n
  change holds k kids.length els.length = true at h
  change okT ⟨k, t, p⟩ = true at ht
  unfold holds at h
  split at h
  · simp only [okT, Bool.and_eq_true, decide_eq_true_eq] at h ht
    show decide (p.length + kids.length + els.length = 0) = true
    exact decide_eq_true (by omega)
  · simp only [okT, Bool.and_eq_true, decide_eq_true_eq] at h ht
    show (decide (t.size = 0) && decide (kids.length + els.length = 0)) = true
    rw [decide_eq_true ht.1, decide_eq_true (show kids.length + els.length = 0 by omega)]
    rfl
  · simp only [okT, Bool.and_eq_true, decide_eq_true_eq] at ht
    exact decide_eq_true ht.1
  · simp only [okT, Bool.and_eq_true, decide_eq_true_eq] at h ht
    show (decide (t.size = 0) && decide (els.length = 0)) = true
    rw [decide_eq_true ht.1, decide_eq_true h]
    rfl
  · cases h
theorem okLR_okL : ∀ (d : Nat) (l : List N), okLR d l = true → okL d l = true
  | 0, _, h => h
  | d + 1, l, h => by
    rw [okLR, List.all_eq_true] at h
    rw [okL, List.all_eq_true]
    intro x hx
    have := h x hx
    rw [Bool.and_eq_true, Bool.and_eq_true] at this ⊢
    exact ⟨leaf_holds this.1, okLR_okL d _ this.2.1, okLR_okL d _ this.2.2⟩
theorem toks_mem {x : N} {l : List N} (h : x ∈ l) : ∀ t ∈ x.toks, t ∈ toksL l := by
  induction l with
  | nil => simp at h
  | cons y l ih =>
    intro t ht
    rw [toksL_cons, List.mem_append]
    rcases List.mem_cons.1 h with rfl | h
    · exact Or.inl ht
    · exact Or.inr (ih h t ht)
theorem holds_close {k a b : Nat} (h : holds k a b = true) (ho : opens k = false) : a = 0 ∧ b = 0 := by
  unfold holds at h
  unfold opens at ho
  split at h
  · simpa using h
  · simpa using h
  · simp at ho
  · simp at ho
  · cases h
theorem holds_els {k a b : Nat} (h : holds k a b = true) (hb : b ≠ 0) : k = 3 := by
  unfold holds at h
  split at h
  · simp [hb] at h
  · simp [hb] at h
  · rfl
  · simp [hb] at h
  · cases h
theorem holds_kind {k a b : Nat} (h : holds k a b = true) : k = 1 ∨ k = 2 ∨ k = 3 ∨ k = 5 := by
  unfold holds at h
  split at h <;> simp_all
theorem okL_okLR : ∀ (d : Nat) (l : List N), okL d l = true → (∀ t ∈ toksL l, okT t = true) → okLR d l = true
  | 0, _, h, _ => h
  | d + 1, l, h, ht => by
    rw [okL, List.all_eq_true] at h
    rw [okLR, List.all_eq_true]
    intro x hx
    have h1 := h x hx
    have h2 := fun t h => ht t (toks_mem hx t h)
    rw [Bool.and_eq_true, Bool.and_eq_true] at h1 ⊢
    rw [N.toks_eq] at h2
    refine ⟨holds_leaf h1.1 (h2 _ (by simp)), ?_⟩
    cases ho : opens x.kind with
    | false =>
      obtain ⟨e1, e2⟩ := holds_close h1.1 ho
      rw [List.length_eq_zero_iff.1 e1, List.length_eq_zero_iff.1 e2]
      cases d <;> exact ⟨rfl, rfl⟩
    | true =>
      rw [ho, if_pos rfl] at h2
      refine ⟨okL_okLR d _ h1.2.1 (fun t h => h2 t (by simp [h])), okL_okLR d _ h1.2.2 (fun t h => ?_)⟩
      refine h2 t ?_
      have : x.els.isEmpty = false := by
        cases he : x.els with
        | nil => rw [he, toksL_nil] at h; simp at h
        | cons a b => rfl
      rw [this]
      simp [h]
/-- The document's Check is that of the code. -/
theorem good_ref (l : List N) : good l = ((rgt 8 l).2 && okTs (toksL l)) := by
  unfold good shapedP
  rw [rgt_eq]
  cases ht : okTs (toksL l) with
  | false => rw [Bool.and_false, Bool.and_false]
  | true =>
    rw [Bool.and_true, Bool.and_true]
    have hall : ∀ t ∈ toksL l, okT t = true := by
      unfold okTs at ht
      rw [Bool.and_eq_true, List.all_eq_true] at ht
      exact ht.1
    have e : okL 8 l = okLR 8 l := by
      rw [Bool.eq_iff_iff]
      exact ⟨fun h => okL_okLR 8 l h hall, okLR_okL 8 l⟩
    rw [e]
    split
    · rename_i h; exact h
    · rename_i h; simpa using h
/-- The document's tokens, of so many levels at most. -/
def tokF : Nat → List N → List T
  | 0, _ => []
  | d + 1, l => (l.map fun n => (⟨n.kind, n.text, n.path⟩ : T) :: (if opens n.kind then tokF d n.kids ++ ((if n.els.isEmpty then [] else tElse :: tokF d n.els) ++ [tEnd]) else [])).flatten
theorem tokF_eq : ∀ (d : Nat) (l : List N), okLR d l = true → tokF d l = toksL l
  | 0, l, h => by rw [okLR, List.isEmpty_iff] at h; subst h; rw [toksL_nil]; rfl
  | d + 1, l, h => by
    rw [okLR] at h
    rw [tokF]
    induction l with
    | nil => rw [toksL_nil]; rfl
    | cons x l ih =>
      rw [List.all_cons, Bool.and_eq_true, Bool.and_eq_true, Bool.and_eq_true] at h
      rw [List.map_cons, List.flatten_cons, ih h.2, toksL_cons, N.toks_eq, tokF_eq d _ h.1.2.1, tokF_eq d _ h.1.2.2]
end Nd
end Go.Proofs.YteiccjakaabfnaaGreatDoor
