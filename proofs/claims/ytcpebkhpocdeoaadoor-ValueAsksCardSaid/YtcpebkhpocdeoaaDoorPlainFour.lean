
/-
  Plain mathematics of the wire's lists: a list that was put is got, and what is got has its bytes. No condition but those that the theorems state.
-/
import Derived.Test.YtcpebkhpocdeoaaDoorPlainThree
namespace Go.Proofs.YtcpebkhpocdeoaaDoor.Wp

theorem getAll_put {α : Type} (g : List UInt8 → α × List UInt8 × Int) (f : α → List UInt8) (l : List α) (s : List UInt8) (h : ∀ x ∈ l, ∀ s, g (f x ++ s) = (x, s, 0)) : getAll g l.length (flat f l ++ s) = (l, s, 0) := by
  induction l with
  | nil => simp [flat, getAll]
  | cons x l ih =>
    have h1 := h x (by simp) (flat f l ++ s)
    have h2 := ih (fun y hy => h y (by simp [hy]))
    have e : flat f (x :: l) ++ s = f x ++ (flat f l ++ s) := by simp [flat]
    rw [e]
    simp only [List.length_cons, getAll, h1, h2]
    simp
theorem getAll_ok {α : Type} (g : List UInt8 → α × List UInt8 × Int) (f : α → List UInt8) (Q : α → Prop) (h : ∀ s x r, g s = (x, r, 0) → f x ++ r = s ∧ Q x) (n : Nat) (s : List UInt8) (xs : List α) (r : List UInt8) (hg : getAll g n s = (xs, r, 0)) :
    flat f xs ++ r = s ∧ xs.length = n ∧ ∀ x ∈ xs, Q x := by
  induction n generalizing s xs with
  | zero =>
    simp only [getAll, Prod.mk.injEq] at hg
    obtain ⟨rfl, rfl, _⟩ := hg
    exact ⟨by simp [flat], rfl, by simp⟩
  | succ n ih =>
    rcases hs : g s with ⟨x, r1, e⟩
    rcases hq : getAll g n r1 with ⟨ys, q, e2⟩
    simp only [getAll, hs, hq] at hg
    by_cases c : e = 0
    · subst c
      rw [if_neg (by simp)] at hg
      by_cases c2 : e2 = 0
      · subst c2
        rw [if_neg (by simp)] at hg
        simp only [Prod.mk.injEq] at hg
        obtain ⟨rfl, rfl, _⟩ := hg
        obtain ⟨h1, h2⟩ := h s x r1 hs
        obtain ⟨h3, h4, h5⟩ := ih r1 ys hq
        refine ⟨?_, by simp [h4], ?_⟩
        · rw [← h1, ← h3]; simp [flat]
        · intro y hy
          rcases List.mem_cons.1 hy with rfl | hy
          · exact h2
          · exact h5 y hy
      · rw [if_pos c2] at hg
        simp only [Prod.mk.injEq] at hg
        exact absurd hg.2.2 c2
    · rw [if_pos c] at hg
      simp only [Prod.mk.injEq] at hg
      exact absurd hg.2.2 c
theorem cutLen_put (n : Nat) (most : Int) (s : List UInt8) (h : (n : Int) ≤ most) (hm : most ≤ 4096) : cutLen (numB n ++ s) most = ((n : Int), s, 0) := by
  have e1 := getNum_numB n ⟨by omega, by omega⟩ s
  unfold cutLen
  rw [e1, if_neg (by simp), if_neg (by simp only []; omega), if_neg (by simp only []; omega)]
theorem cutLen_ok (s : List UInt8) (most n : Int) (r : List UInt8) (h : cutLen s most = (n, r, 0)) : numB n ++ r = s ∧ 0 ≤ n ∧ n ≤ most := by
  rcases hg : getNum s with ⟨m, q, e⟩
  have h2 := h
  unfold cutLen at h2
  rw [hg] at h2
  simp only [] at h2
  by_cases c : e = 0
  · subst c
    rw [if_neg (by simp)] at h2
    have h3 := (getNum_ok s (by rw [hg])).1
    rw [hg] at h3
    by_cases c1 : m < 0
    · rw [if_pos c1] at h2; simp at h2
    · rw [if_neg c1] at h2
      by_cases c2 : most < m
      · rw [if_pos c2] at h2; simp at h2
      · rw [if_neg c2] at h2
        simp only [Prod.mk.injEq] at h2
        obtain ⟨rfl, rfl, _⟩ := h2
        exact ⟨h3, by omega, by omega⟩
  · rw [if_pos c] at h2
    simp only [Prod.mk.injEq] at h2
    exact absurd h2.2.2 c
theorem getList_put {α : Type} (g : List UInt8 → α × List UInt8 × Int) (f : α → List UInt8) (l : List α) (s : List UInt8) (hl : l.length ≤ 1024) (h : ∀ x ∈ l, ∀ s, g (f x ++ s) = (x, s, 0)) : getList g (listB f l ++ s) = (l, s, 0) := by
  have e := cutLen_put l.length 1024 (flat f l ++ s) (by omega) (by omega)
  unfold getList
  rw [listB, List.append_assoc, e, if_neg (by simp)]
  simp only [Int.toNat_natCast]
  exact getAll_put g f l s h
theorem getList_ok {α : Type} (g : List UInt8 → α × List UInt8 × Int) (f : α → List UInt8) (Q : α → Prop) (h : ∀ s x r, g s = (x, r, 0) → f x ++ r = s ∧ Q x) (s : List UInt8) (xs : List α) (r : List UInt8) (hg : getList g s = (xs, r, 0)) :
    listB f xs ++ r = s ∧ xs.length ≤ 1024 ∧ ∀ x ∈ xs, Q x := by
  rcases hc : cutLen s 1024 with ⟨n, q, e⟩
  unfold getList at hg
  rw [hc] at hg
  simp only [] at hg
  by_cases c : e = 0
  · subst c
    rw [if_neg (by simp)] at hg
    obtain ⟨h1, h2, h3⟩ := cutLen_ok s 1024 n q hc
    obtain ⟨h4, h5, h6⟩ := getAll_ok g f Q h _ _ _ _ hg
    refine ⟨?_, by omega, h6⟩
    rw [listB, h5, List.append_assoc, h4, show ((n.toNat : Nat) : Int) = n by omega]
    exact h1
  · rw [if_pos c] at hg
    simp only [Prod.mk.injEq] at hg
    exact absurd hg.2.2 c
theorem getList_bad {α : Type} (g : List UInt8 → α × List UInt8 × Int) (s : List UInt8) (xs : List α) (r : List UInt8) (e : Int) (hg : getList g s = (xs, r, e)) (he : e ≠ 0) : xs = [] ∧ r = [] := by
  rcases hc : cutLen s 1024 with ⟨n, q, e1⟩
  unfold getList at hg
  rw [hc] at hg
  simp only [] at hg
  by_cases c : e1 = 0
  · rw [if_neg (by simpa using c)] at hg
    have hb := getAll_bad g n.toNat q (by rw [hg]; exact he)
    rw [hg] at hb
    simp only [Prod.mk.injEq] at hb
    exact ⟨hb.1, hb.2.1⟩
  · rw [if_pos c] at hg
    simp only [Prod.mk.injEq] at hg
    exact ⟨hg.1.symm, hg.2.1.symm⟩
theorem getT_put (x : ByteArray) (s : List UInt8) (h : x.size ≤ 4096) : getT (textBs x ++ s) = (x, s, 0) := by
  have e := getText_put x.data.toList s (by rw [← size_len]; exact h)
  unfold getT textBs
  rw [e, B_of]
theorem getText_ok (s t r : List UInt8) (h : getText s = (t, r, 0)) : textB t ++ r = s ∧ t.length ≤ 4096 := by
  rcases hc : cutLen s 4096 with ⟨n, q, e⟩
  unfold getText at h
  rw [hc] at h
  simp only [] at h
  by_cases c : e = 0
  · subst c
    rw [if_neg (by simp)] at h
    by_cases c1 : (q.length : Int) < n
    · rw [if_pos c1] at h; simp at h
    · rw [if_neg c1] at h
      simp only [Prod.mk.injEq] at h
      obtain ⟨rfl, rfl, _⟩ := h
      obtain ⟨h1, h2, h3⟩ := cutLen_ok s 4096 n q hc
      have hl : (q.take n.toNat).length = n.toNat := by rw [List.length_take]; omega
      refine ⟨?_, by omega⟩
      rw [textB, hl, List.append_assoc, List.take_append_drop, show ((n.toNat : Nat) : Int) = n by omega]
      exact h1
  · rw [if_pos c] at h
    simp only [Prod.mk.injEq] at h
    exact absurd h.2.2 c
theorem getT_ok (s : List UInt8) (x : ByteArray) (r : List UInt8) (h : getT s = (x, r, 0)) : textBs x ++ r = s ∧ x.size ≤ 4096 := by
  rcases hg : getText s with ⟨t, q, e⟩
  unfold getT at h
  rw [hg] at h
  simp only [Prod.mk.injEq] at h
  obtain ⟨rfl, rfl, rfl⟩ := h
  have := getText_ok s t q hg
  exact ⟨by unfold textBs; rw [B_data]; exact this.1, by rw [B_size]; exact this.2⟩
theorem getAll_len {α : Type} (g : List UInt8 → α × List UInt8 × Int) (n : Nat) (s : List UInt8) : (getAll g n s).1.length ≤ n := by
  induction n generalizing s with
  | zero => simp [getAll]
  | succ n ih =>
    have := ih (g s).2.1
    simp only [getAll]
    split
    · simp
    · split
      · simp
      · simp only [List.length_cons]; omega
theorem got_len {α : Type} (g : List UInt8 → α × List UInt8 × Int) (s : List UInt8) : (getList g s).1.length ≤ 1024 := by
  rcases hc : cutLen s 1024 with ⟨n, q, e⟩
  unfold getList
  rw [hc]
  simp only []
  by_cases c : e = 0
  · subst c
    rw [if_neg (by simp)]
    have := getAll_len g n.toNat q
    have := (cutLen_ok s 1024 n q hc).2.2
    omega
  · rw [if_pos c]; simp
end Go.Proofs.YtcpebkhpocdeoaaDoor.Wp
