/-
  Plain mathematics of the wire, continued: what was put is got, numbers, texts and lists. No condition but those that the theorems state.
  Plain mathematics of the wire's lists: their bytes, and what is got of bytes. No condition but those that the theorems state.
  Plain mathematics of the wire's lists: a list that was put is got, and what is got has its bytes. No condition but those that the theorems state.
-/
import Derived.Test.YtckcbdnlligndaaDoorPlain
import Derived.WalkKit
import Derived.Lib.Strings
namespace Go.Proofs.YtckcbdnlligndaaDoor.Wp
theorem gn_put (n : Int) (hn : I64 n) (s : ByteArray) : gn (B (numB n) ++ s) = (n, s.data.toList, 0) := by
  rw [gn, data_append, B_data, getNum_numB n hn]
theorem gn_ok (s : ByteArray) (n : Int) (r : List UInt8) (h : gn s = (n, r, 0)) : B (numB n) ++ B r = s ∧ I64 n := by
  have h1 := getNum_ok s.data.toList (by have : getNum s.data.toList = (n, r, 0) := h; rw [this])
  have h2 : getNum s.data.toList = (n, r, 0) := h
  rw [h2] at h1
  refine ⟨?_, h1.2⟩
  rw [B_append, B_data]
  rw [show numB n ++ r = s.data.toList from h1.1, B_of]
theorem gn_err (s : ByteArray) (n : Int) (r : List UInt8) (e : Int) (h : gn s = (n, r, e)) (he : e ≠ 0) : n = 0 ∧ r = [] := by
  have h2 : getNum s.data.toList = (n, r, e) := h
  have h1 := getNum_bad s.data.toList (by rw [h2]; exact he)
  rw [h2] at h1
  exact h1
theorem getText_put (t s : List UInt8) (h : t.length ≤ 4096) : getText (textB t ++ s) = (t, s, 0) := by
  have e1 : getNum (textB t ++ s) = ((t.length : Int), t ++ s, 0) := by
    rw [textB, List.append_assoc, getNum_numB _ ⟨by omega, by omega⟩]
  have e2 : cutLen (textB t ++ s) 4096 = ((t.length : Int), t ++ s, 0) := by
    unfold cutLen
    rw [e1, if_neg (by simp), if_neg (by simp only []; omega), if_neg (by simp only []; omega)]
  unfold getText
  rw [e2, if_neg (by simp), if_neg (by simp only [List.length_append]; omega)]
  simp only [Int.toNat_natCast, List.take_left', List.drop_left']
theorem gt_put (t s : ByteArray) (h : t.size ≤ 4096) : gt (B (textB t.data.toList) ++ s) = (t.data.toList, s.data.toList, 0) := by
  rw [gt, data_append, B_data, getText_put _ _ (by rw [← size_len]; exact h)]
theorem textB_len (t : List UInt8) : (textB t).length ≤ 9 + t.length := by
  have := numB_len t.length
  simp only [textB, List.length_append]
  omega
/-- The number that the document reckons of digits, wrapped as Go wraps. -/
def nnOf (b : Bool) (v : Nat) : Int := if b then RowKit.wrap64 (-(RowKit.wrap64 v)) else RowKit.wrap64 v
theorem nn_I64 (b : Bool) (v : Nat) : I64 (nnOf b v) := by
  unfold nnOf I64 RowKit.wrap64
  split <;> constructor <;> omega
theorem nn_ok (b : Bool) (l : List UInt8) (h : okMag b l = true) : nnOf b (val l) = signed b (val l) := by
  unfold okMag at h
  unfold nnOf signed RowKit.wrap64
  split at h
  · have : val [] = 0 := rfl
    rw [this]
    cases b <;> simp
  · simp only [Bool.and_eq_true, decide_eq_true_eq] at h
    have h2 := h.2
    cases b
    · simp only [Bool.false_eq_true, if_false, decide_eq_true_eq] at h2 ⊢
      omega
    · simp only [if_true, decide_eq_true_eq] at h2 ⊢
      omega
/-- The bytes of that number are those that were read, just if these are a magnitude's. -/
theorem same_bytes (b : Bool) (s : ByteArray) (h0 : 0 < s.size) (k : Nat) (hk : s[0].toNat % 128 = k) (hb : decide (128 ≤ s[0].toNat) = b) (h8 : ¬ 8 < k) (hs : ¬ s.size < 1 + k) (mg : ByteArray) (hm : mg = s.extract 1 (1 + k)) :
    ((B (numB (nnOf b (val mg.data.toList)))).toList == (s.extract 0 (k + 1)).toList) = okMag b mg.data.toList := by
  have hg := gn_eq s h0 k hk b hb mg hm
  rw [if_neg h8, if_neg hs] at hg
  rw [Lib.toList_data, Lib.toList_data, B_data, data_extract, List.drop_zero, Nat.sub_zero]
  have hsl := size_len s
  cases hok : okMag b mg.data.toList with
  | true =>
    rw [hok, if_pos rfl] at hg
    rw [nn_ok b _ hok, beq_iff_eq]
    have h2 : getNum s.data.toList = _ := hg
    have h3 := (getNum_ok s.data.toList (by rw [h2])).1
    rw [h2] at h3
    simp only [] at h3
    have e2 : (s.extract (1 + k) s.size).data.toList.length = s.size - (1 + k) := by rw [← size_len, ByteArray.size_extract]; omega
    have e3 : (numB (signed b (val mg.data.toList))).length = k + 1 := by
      have := congrArg List.length h3
      rw [List.length_append, e2] at this
      omega
    conv => rhs; rw [← h3]
    rw [← e3, List.take_left']
    rfl
  | false =>
    rw [hok, if_neg (by simp)] at hg
    rw [beq_eq_false_iff_ne]
    intro c
    have h2 : getNum s.data.toList = _ := hg
    have h4 := List.take_append_drop (k + 1) s.data.toList
    rw [← c] at h4
    have h5 := getNum_numB _ (nn_I64 b (val mg.data.toList)) (s.data.toList.drop (k + 1))
    rw [h4, h2] at h5
    simp at h5
end Go.Proofs.YtckcbdnlligndaaDoor.Wp
namespace Go.Proofs.YtckcbdnlligndaaDoor.Wp

/-- Lists' bytes. -/
def flat {α : Type} (f : α → List UInt8) (l : List α) : List UInt8 := (l.map f).flatten
def listB {α : Type} (f : α → List UInt8) (l : List α) : List UInt8 := numB l.length ++ flat f l
theorem flat_snoc {α : Type} (f : α → List UInt8) (l : List α) (k : Nat) (h : k < l.length) : flat f (l.take (k + 1)) = flat f (l.take k) ++ f l[k] := by
  simp only [flat]
  rw [List.take_succ_eq_append_getElem h, List.map_append, List.flatten_append]
  simp only [List.map_cons, List.map_nil, List.flatten_cons, List.flatten_nil, List.append_nil]
theorem flat_len {α : Type} (f : α → List UInt8) (c : Nat) (l : List α) (h : ∀ x ∈ l, (f x).length ≤ c) : (flat f l).length ≤ l.length * c := by
  induction l with
  | nil => simp [flat]
  | cons a l ih =>
    have h1 := h a (by simp)
    have h2 := ih (fun x hx => h x (by simp [hx]))
    simp only [flat, List.map_cons, List.flatten_cons, List.length_append, List.length_cons] at *
    rw [Nat.succ_mul]
    omega
def textBs (s : ByteArray) : List UInt8 := textB s.data.toList
/-- n parts that bytes begin with, each by g. -/
def getAll {α : Type} (g : List UInt8 → α × List UInt8 × Int) : Nat → List UInt8 → List α × List UInt8 × Int
  | 0, s => ([], s, 0)
  | n + 1, s => if (g s).2.2 ≠ 0 then ([], [], (g s).2.2) else if (getAll g n (g s).2.1).2.2 ≠ 0 then ([], [], (getAll g n (g s).2.1).2.2) else ((g s).1 :: (getAll g n (g s).2.1).1, (getAll g n (g s).2.1).2.1, 0)
def getList {α : Type} (g : List UInt8 → α × List UInt8 × Int) (s : List UInt8) : List α × List UInt8 × Int :=
  if (cutLen s 1024).2.2 ≠ 0 then ([], [], (cutLen s 1024).2.2) else getAll g (cutLen s 1024).1.toNat (cutLen s 1024).2.1
/-- What is got in the end, where acc is got already. -/
def fin {α : Type} (acc : List α) (q : List α × List UInt8 × Int) : List α × List UInt8 × Int := if q.2.2 ≠ 0 then ([], [], q.2.2) else (acc ++ q.1, q.2.1, 0)
theorem getAll_bad {α : Type} (g : List UInt8 → α × List UInt8 × Int) (n : Nat) (s : List UInt8) (h : (getAll g n s).2.2 ≠ 0) : getAll g n s = ([], [], (getAll g n s).2.2) := by
  cases n with
  | zero => exact absurd rfl h
  | succ n =>
    rcases hg : g s with ⟨x, r, e⟩
    rcases hq : getAll g n r with ⟨xs, q, e2⟩
    simp only [getAll, hg, hq] at h ⊢
    by_cases c : e = 0
    · subst c
      rw [if_neg (by simp)] at h ⊢
      by_cases c2 : e2 = 0
      · subst c2
        rw [if_neg (by simp)] at h
        exact absurd rfl h
      · rw [if_pos c2]
    · rw [if_pos c]
theorem fin_nil {α : Type} (g : List UInt8 → α × List UInt8 × Int) (n : Nat) (s : List UInt8) : fin [] (getAll g n s) = getAll g n s := by
  by_cases h : (getAll g n s).2.2 = 0
  · rcases hq : getAll g n s with ⟨xs, q, e⟩
    rw [hq] at h
    simp only [] at h
    subst h
    simp [fin]
  · have hb := getAll_bad g n s h
    unfold fin
    rw [if_pos h]
    exact hb.symm
theorem fin_step {α : Type} (g : List UInt8 → α × List UInt8 × Int) (acc : List α) (n : Nat) (s r : List UInt8) (x : α) (h : g s = (x, r, 0)) : fin (acc ++ [x]) (getAll g n r) = fin acc (getAll g (n + 1) s) := by
  rcases hq : getAll g n r with ⟨xs, q, e⟩
  simp only [getAll, h, hq]
  rw [if_neg (by simp)]
  by_cases c : e = 0
  · subst c
    simp [fin]
  · rw [if_pos c]
    simp [fin, c]
theorem fin_bad {α : Type} (g : List UInt8 → α × List UInt8 × Int) (acc : List α) (n : Nat) (s r : List UInt8) (x : α) (e : Int) (h : g s = (x, r, e)) (he : e ≠ 0) : fin acc (getAll g (n + 1) s) = ([], [], e) := by
  simp only [getAll, h]
  rw [if_pos he]
  simp [fin, he]
/-- A text's getter, its text as a value. -/
def getT (s : List UInt8) : ByteArray × List UInt8 × Int := (B (getText s).1, (getText s).2.1, (getText s).2.2)
end Go.Proofs.YtckcbdnlligndaaDoor.Wp
namespace Go.Proofs.YtckcbdnlligndaaDoor.Wp

theorem getAll_put {α : Type} (g : List UInt8 → α × List UInt8 × Int) (f : α → List UInt8) (l : List α) (s : List UInt8) (h : ∀ x ∈ l, ∀ s, g (f x ++ s) = (x, s, 0)) : getAll g l.length (flat f l ++ s) = (l, s, 0) := by
  induction l with
  | nil => simp [flat, getAll]
  | cons x l ih =>
    have h1 := h x (by simp) (flat f l ++ s)
    have h2 := ih (fun y hy => h y (by simp [hy]))
    have e : flat f (x :: l) ++ s = f x ++ (flat f l ++ s) := by simp [flat]
    rw [e]
    simp only [List.length_cons, getAll, h1, h2]
    simp
theorem getAll_ok {α : Type} (g : List UInt8 → α × List UInt8 × Int) (f : α → List UInt8) (Q : α → Prop) (h : ∀ s x r, g s = (x, r, 0) → f x ++ r = s ∧ Q x) (n : Nat) (s : List UInt8) (xs : List α) (r : List UInt8) (hg : getAll g n s = (xs, r, 0)) :
    flat f xs ++ r = s ∧ xs.length = n ∧ ∀ x ∈ xs, Q x := by
  induction n generalizing s xs with
  | zero =>
    simp only [getAll, Prod.mk.injEq] at hg
    obtain ⟨rfl, rfl, _⟩ := hg
    exact ⟨by simp [flat], rfl, by simp⟩
  | succ n ih =>
    rcases hs : g s with ⟨x, r1, e⟩
    rcases hq : getAll g n r1 with ⟨ys, q, e2⟩
    simp only [getAll, hs, hq] at hg
    by_cases c : e = 0
    · subst c
      rw [if_neg (by simp)] at hg
      by_cases c2 : e2 = 0
      · subst c2
        rw [if_neg (by simp)] at hg
        simp only [Prod.mk.injEq] at hg
        obtain ⟨rfl, rfl, _⟩ := hg
        obtain ⟨h1, h2⟩ := h s x r1 hs
        obtain ⟨h3, h4, h5⟩ := ih r1 ys hq
        refine ⟨?_, by simp [h4], ?_⟩
        · rw [← h1, ← h3]; simp [flat]
        · intro y hy
          rcases List.mem_cons.1 hy with rfl | hy
          · exact h2
          · exact h5 y hy
      · rw [if_pos c2] at hg
        simp only [Prod.mk.injEq] at hg
        exact absurd hg.2.2 c2
    · rw [if_pos c] at hg
      simp only [Prod.mk.injEq] at hg
      exact absurd hg.2.2 c
theorem cutLen_put (n : Nat) (most : Int) (s : List UInt8) (h : (n : Int) ≤ most) (hm : most ≤ 4096) : cutLen (numB n ++ s) most = ((n : Int), s, 0) := by
  have e1 := getNum_numB n ⟨by omega, by omega⟩ s
  unfold cutLen
  rw [e1, if_neg (by simp), if_neg (by simp only []; omega), if_neg (by simp only []; omega)]
theorem cutLen_ok (s : List UInt8) (most n : Int) (r : List UInt8) (h : cutLen s most = (n, r, 0)) : numB n ++ r = s ∧ 0 ≤ n ∧ n ≤ most := by
  rcases hg : getNum s with ⟨m, q, e⟩
  have h2 := h
  unfold cutLen at h2
  rw [hg] at h2
  simp only [] at h2
  by_cases c : e = 0
  · subst c
    rw [if_neg (by simp)] at h2
    have h3 := (getNum_ok s (by rw [hg])).1
    rw [hg] at h3
    by_cases c1 : m < 0
    · rw [if_pos c1] at h2; simp at h2
    · rw [if_neg c1] at h2
      by_cases c2 : most < m
      · rw [if_pos c2] at h2; simp at h2
      · rw [if_neg c2] at h2
        simp only [Prod.mk.injEq] at h2
        obtain ⟨rfl, rfl, _⟩ := h2
        exact ⟨h3, by omega, by omega⟩
  · rw [if_pos c] at h2
    simp only [Prod.mk.injEq] at h2
    exact absurd h2.2.2 c
theorem getList_put {α : Type} (g : List UInt8 → α × List UInt8 × Int) (f : α → List UInt8) (l : List α) (s : List UInt8) (hl : l.length ≤ 1024) (h : ∀ x ∈ l, ∀ s, g (f x ++ s) = (x, s, 0)) : getList g (listB f l ++ s) = (l, s, 0) := by
  have e := cutLen_put l.length 1024 (flat f l ++ s) (by omega) (by omega)
  unfold getList
  rw [listB, List.append_assoc, e, if_neg (by simp)]
  simp only [Int.toNat_natCast]
  exact getAll_put g f l s h
theorem getList_ok {α : Type} (g : List UInt8 → α × List UInt8 × Int) (f : α → List UInt8) (Q : α → Prop) (h : ∀ s x r, g s = (x, r, 0) → f x ++ r = s ∧ Q x) (s : List UInt8) (xs : List α) (r : List UInt8) (hg : getList g s = (xs, r, 0)) :
    listB f xs ++ r = s ∧ xs.length ≤ 1024 ∧ ∀ x ∈ xs, Q x := by
  rcases hc : cutLen s 1024 with ⟨n, q, e⟩
  unfold getList at hg
  rw [hc] at hg
  simp only [] at hg
  by_cases c : e = 0
  · subst c
    rw [if_neg (by simp)] at hg
    obtain ⟨h1, h2, h3⟩ := cutLen_ok s 1024 n q hc
    obtain ⟨h4, h5, h6⟩ := getAll_ok g f Q h _ _ _ _ hg
    refine ⟨?_, by omega, h6⟩
    rw [listB, h5, List.append_assoc, h4, show ((n.toNat : Nat) : Int) = n by omega]
    exact h1
  · rw [if_pos c] at hg
    simp only [Prod.mk.injEq] at hg
    exact absurd hg.2.2 c
theorem getList_bad {α : Type} (g : List UInt8 → α × List UInt8 × Int) (s : List UInt8) (xs : List α) (r : List UInt8) (e : Int) (hg : getList g s = (xs, r, e)) (he : e ≠ 0) : xs = [] ∧ r = [] := by
  rcases hc : cutLen s 1024 with ⟨n, q, e1⟩
  unfold getList at hg
  rw [hc] at hg
  simp only [] at hg
  by_cases c : e1 = 0
  · rw [if_neg (by simpa using c)] at hg
    have hb := getAll_bad g n.toNat q (by rw [hg]; exact he)
    rw [hg] at hb
    simp only [Prod.mk.injEq] at hb
    exact ⟨hb.1, hb.2.1⟩
  · rw [if_pos c] at hg
    simp only [Prod.mk.injEq] at hg
    exact ⟨hg.1.symm, hg.2.1.symm⟩
theorem getT_put (x : ByteArray) (s : List UInt8) (h : x.size ≤ 4096) : getT (textBs x ++ s) = (x, s, 0) := by
  have e := getText_put x.data.toList s (by rw [← size_len]; exact h)
  unfold getT textBs
  rw [e, B_of]
theorem getText_ok (s t r : List UInt8) (h : getText s = (t, r, 0)) : textB t ++ r = s ∧ t.length ≤ 4096 := by
  rcases hc : cutLen s 4096 with ⟨n, q, e⟩
  unfold getText at h
  rw [hc] at h
  simp only [] at h
  by_cases c : e = 0
  · subst c
    rw [if_neg (by simp)] at h
    by_cases c1 : (q.length : Int) < n
    · rw [if_pos c1] at h; simp at h
    · rw [if_neg c1] at h
      simp only [Prod.mk.injEq] at h
      obtain ⟨rfl, rfl, _⟩ := h
      obtain ⟨h1, h2, h3⟩ := cutLen_ok s 4096 n q hc
      have hl : (q.take n.toNat).length = n.toNat := by rw [List.length_take]; omega
      refine ⟨?_, by omega⟩
      rw [textB, hl, List.append_assoc, List.take_append_drop, show ((n.toNat : Nat) : Int) = n by omega]
      exact h1
  · rw [if_pos c] at h
    simp only [Prod.mk.injEq] at h
    exact absurd h.2.2 c
theorem getT_ok (s : List UInt8) (x : ByteArray) (r : List UInt8) (h : getT s = (x, r, 0)) : textBs x ++ r = s ∧ x.size ≤ 4096 := by
  rcases hg : getText s with ⟨t, q, e⟩
  unfold getT at h
  rw [hg] at h
  simp only [Prod.mk.injEq] at h
  obtain ⟨rfl, rfl, rfl⟩ := h
  have := getText_ok s t q hg
  exact ⟨by unfold textBs; rw [B_data]; exact this.1, by rw [B_size]; exact this.2⟩
theorem getAll_len {α : Type} (g : List UInt8 → α × List UInt8 × Int) (n : Nat) (s : List UInt8) : (getAll g n s).1.length ≤ n := by
  induction n generalizing s with
  | zero => simp [getAll]
  | succ n ih =>
    have := ih (g s).2.1
    simp only [getAll]
    split
    · simp
    · split
      · simp
      · simp only [List.length_cons]; omega
theorem got_len {α : Type} (g : List UInt8 → α × List UInt8 × Int) (s : List UInt8) : (getList g s).1.length ≤ 1024 := by
  rcases hc : cutLen s 1024 with ⟨n, q, e⟩
  unfold getList
  rw [hc]
  simp only []
  by_cases c : e = 0
  · subst c
    rw [if_neg (by simp)]
    have := getAll_len g n.toNat q
    have := (cutLen_ok s 1024 n q hc).2.2
    omega
  · rw [if_pos c]; simp
end Go.Proofs.YtckcbdnlligndaaDoor.Wp
