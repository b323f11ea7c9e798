
/-
  Timers as plain data: which one is ahead, right heaps, order, and what sinking and rising do. No condition but those that the theorems state.
-/
import Derived.Test.YtaaodbljdpchhaaRows
namespace Go.Proofs.Ytaaodbljdpchhaa

/-- A timer's due, its number, its kind and what it is of. -/
def Hp.lt (x y : Int × Int × Int × Int) : Bool := decide (x.1 < y.1 ∨ x.1 = y.1 ∧ x.2.1 < y.2.1)
theorem Hp.lt_iff {x y : Int × Int × Int × Int} : Hp.lt x y = true ↔ (x.1 < y.1 ∨ x.1 = y.1 ∧ x.2.1 < y.2.1) := by unfold Hp.lt; exact decide_eq_true_iff
theorem Hp.nlt_iff {x y : Int × Int × Int × Int} : Hp.lt x y = false ↔ ¬ (x.1 < y.1 ∨ x.1 = y.1 ∧ x.2.1 < y.2.1) := by unfold Hp.lt; exact decide_eq_false_iff_not
theorem Hp.irrefl (x : Int × Int × Int × Int) : Hp.lt x x = false := by rw [Hp.nlt_iff]; omega
theorem Hp.asymm {x y : Int × Int × Int × Int} (h : Hp.lt x y = true) : Hp.lt y x = false := by rw [Hp.nlt_iff]; rw [Hp.lt_iff] at h; omega
theorem Hp.trans {x y z : Int × Int × Int × Int} (h : Hp.lt x y = true) (h2 : Hp.lt y z = true) : Hp.lt x z = true := by rw [Hp.lt_iff] at *; omega
theorem Hp.ntrans {x y z : Int × Int × Int × Int} (h : Hp.lt x y = false) (h2 : Hp.lt y z = false) : Hp.lt x z = false := by rw [Hp.nlt_iff] at *; omega
theorem Hp.mixed {x y z : Int × Int × Int × Int} (h : Hp.lt x z = false) (h2 : Hp.lt y z = true) : Hp.lt x y = false := by rw [Hp.nlt_iff] at *; rw [Hp.lt_iff] at h2; omega
theorem Hp.total {x y : Int × Int × Int × Int} (h : Hp.lt x y = false) (hne : x.2.1 ≠ y.2.1) : Hp.lt y x = true := by rw [Hp.nlt_iff] at h; rw [Hp.lt_iff]; omega

/-- The timer at a place. -/
def Hp.g (l : List (Int × Int × Int × Int)) (i : Nat) : Int × Int × Int × Int := l.getD i (0, 0, 0, 0)
theorem Hp.g_eq (l : List (Int × Int × Int × Int)) (i : Nat) (h : i < l.length) : Hp.g l i = l[i] := by simp [Hp.g, h]
theorem Hp.g_mem {l : List (Int × Int × Int × Int)} {i : Nat} (h : i < l.length) : Hp.g l i ∈ l := by rw [Hp.g_eq l i h]; exact List.getElem_mem h
def Hp.edge (l : List (Int × Int × Int × Int)) (j : Nat) : Prop := Hp.lt (Hp.g l j) (Hp.g l ((j - 1) / 2)) = false
/-- No timer is ahead of its parent. -/
def Hp.Heap (l : List (Int × Int × Int × Int)) : Prop := ∀ j, j < l.length → Hp.edge l j
theorem Hp.heap_of {l : List (Int × Int × Int × Int)} (h : ∀ j, 1 ≤ j → j < l.length → Hp.edge l j) : Hp.Heap l := fun j hj => by
  by_cases h0 : j = 0
  · subst h0; exact Hp.irrefl _
  · exact h j (by omega) hj
theorem Hp.heap_root {l : List (Int × Int × Int × Int)} (h : Hp.Heap l) : ∀ n j, j ≤ n → j < l.length → Hp.lt (Hp.g l j) (Hp.g l 0) = false := by
  intro n
  induction n with
  | zero => intro j h1 _; obtain rfl : j = 0 := by omega
            exact Hp.irrefl _
  | succ n ih =>
    intro j h1 h2
    by_cases h0 : j = 0
    · subst h0; exact Hp.irrefl _
    · exact Hp.ntrans (h j h2) (ih _ (by omega) (by omega))
/-- Two timers change places. -/
def Hp.swap (l : List (Int × Int × Int × Int)) (i j : Nat) : List (Int × Int × Int × Int) := (l.set i (Hp.g l j)).set j (Hp.g l i)
theorem Hp.swap_len (l : List (Int × Int × Int × Int)) (i j : Nat) : (Hp.swap l i j).length = l.length := by simp [Hp.swap]
theorem Hp.g_set (l : List (Int × Int × Int × Int)) (i k : Nat) (x : Int × Int × Int × Int) (hi : i < l.length) : Hp.g (l.set i x) k = if k = i then x else Hp.g l k := by
  unfold Hp.g
  simp only [List.getD_eq_getElem?_getD, List.getElem?_set]
  by_cases h : k = i
  · subst h; simp [hi]
  · rw [if_neg (fun e => h e.symm), if_neg h]
theorem Hp.g_swap (l : List (Int × Int × Int × Int)) (i j k : Nat) (hi : i < l.length) (hj : j < l.length) : Hp.g (Hp.swap l i j) k = if k = j then Hp.g l i else if k = i then Hp.g l j else Hp.g l k := by
  unfold Hp.swap
  rw [Hp.g_set _ _ _ _ (by simpa using hj), Hp.g_set _ _ _ _ hi]
theorem Hp.swap_perm (l : List (Int × Int × Int × Int)) (i j : Nat) (hi : i < l.length) (hj : j < l.length) : (Hp.swap l i j).Perm l := by
  unfold Hp.swap
  rw [Hp.g_eq l i hi, Hp.g_eq l j hj]
  exact List.set_set_perm hi hj
def Hp.bet (l : List (Int × Int × Int × Int)) (a b : Nat) : Nat := if b < l.length ∧ Hp.lt (Hp.g l b) (Hp.g l a) = true then b else a
/-- Which one of a timer and its kids is ahead of the others. -/
def Hp.first (l : List (Int × Int × Int × Int)) (i : Nat) : Nat := Hp.bet l (Hp.bet l i (2 * i + 1)) (2 * i + 2)
theorem Hp.first_spec (l : List (Int × Int × Int × Int)) (i : Nat) : (Hp.first l i = i ∧ ∀ j, 1 ≤ j → j < l.length → (j - 1) / 2 = i → Hp.lt (Hp.g l j) (Hp.g l i) = false) ∨
    ((Hp.first l i - 1) / 2 = i ∧ i < Hp.first l i ∧ Hp.first l i < l.length ∧ Hp.lt (Hp.g l (Hp.first l i)) (Hp.g l i) = true ∧ ∀ j, 1 ≤ j → j < l.length → (j - 1) / 2 = i → Hp.lt (Hp.g l j) (Hp.g l (Hp.first l i)) = false) := by
  have kid : ∀ j, 1 ≤ j → (j - 1) / 2 = i → j = 2 * i + 1 ∨ j = 2 * i + 2 := fun j h1 h2 => by omega
  unfold Hp.first
  by_cases h1 : 2 * i + 1 < l.length ∧ Hp.lt (Hp.g l (2 * i + 1)) (Hp.g l i) = true
  · rw [show Hp.bet l i (2 * i + 1) = 2 * i + 1 from if_pos h1]
    right
    by_cases h2 : 2 * i + 2 < l.length ∧ Hp.lt (Hp.g l (2 * i + 2)) (Hp.g l (2 * i + 1)) = true
    · rw [show Hp.bet l (2 * i + 1) (2 * i + 2) = 2 * i + 2 from if_pos h2]
      refine ⟨by omega, by omega, h2.1, Hp.trans h2.2 h1.2, fun j a b c => ?_⟩
      rcases kid j a c with rfl | rfl
      · exact Hp.asymm h2.2
      · exact Hp.irrefl _
    · rw [show Hp.bet l (2 * i + 1) (2 * i + 2) = 2 * i + 1 from if_neg h2]
      refine ⟨by omega, by omega, h1.1, h1.2, fun j a b c => ?_⟩
      rcases kid j a c with rfl | rfl
      · exact Hp.irrefl _
      · cases e : Hp.lt (Hp.g l (2 * i + 2)) (Hp.g l (2 * i + 1)) with
        | false => rfl
        | true => exact absurd ⟨b, e⟩ h2
  · rw [show Hp.bet l i (2 * i + 1) = i from if_neg h1]
    by_cases h2 : 2 * i + 2 < l.length ∧ Hp.lt (Hp.g l (2 * i + 2)) (Hp.g l i) = true
    · rw [show Hp.bet l i (2 * i + 2) = 2 * i + 2 from if_pos h2]
      right
      refine ⟨by omega, by omega, h2.1, h2.2, fun j a b c => ?_⟩
      rcases kid j a c with rfl | rfl
      · cases e : Hp.lt (Hp.g l (2 * i + 1)) (Hp.g l (2 * i + 2)) with
        | false => rfl
        | true => exact absurd ⟨by omega, Hp.trans e h2.2⟩ h1
      · exact Hp.irrefl _
    · rw [show Hp.bet l i (2 * i + 2) = i from if_neg h2]
      left
      refine ⟨rfl, fun j a b c => ?_⟩
      rcases kid j a c with rfl | rfl
      · cases e : Hp.lt (Hp.g l (2 * i + 1)) (Hp.g l i) with
        | false => rfl
        | true => exact absurd ⟨b, e⟩ h1
      · cases e : Hp.lt (Hp.g l (2 * i + 2)) (Hp.g l i) with
        | false => rfl
        | true => exact absurd ⟨b, e⟩ h2
def Hp.sinkF : Nat → List (Int × Int × Int × Int) → Nat → List (Int × Int × Int × Int)
  | 0, l, _ => l
  | k + 1, l, i => if Hp.first l i = i then l else Hp.sinkF k (Hp.swap l i (Hp.first l i)) (Hp.first l i)
def Hp.riseF : Nat → List (Int × Int × Int × Int) → Nat → List (Int × Int × Int × Int)
  | 0, l, _ => l
  | k + 1, l, i => if Hp.lt (Hp.g l i) (Hp.g l ((i - 1) / 2)) = true then Hp.riseF k (Hp.swap l i ((i - 1) / 2)) ((i - 1) / 2) else l
theorem Hp.sink_perm : ∀ k l i, i < l.length → (Hp.sinkF k l i).Perm l := by
  intro k
  induction k with
  | zero => intro l i _; exact List.Perm.refl _
  | succ k ih =>
    intro l i hi
    unfold Hp.sinkF
    rcases Hp.first_spec l i with ⟨h, _⟩ | ⟨_, h2, h3, _, _⟩
    · rw [if_pos h]
    · rw [if_neg (by omega)]
      exact (ih _ _ (by rw [Hp.swap_len]; exact h3)).trans (Hp.swap_perm l i _ hi h3)
theorem Hp.rise_perm : ∀ k l i, i < l.length → (Hp.riseF k l i).Perm l := by
  intro k
  induction k with
  | zero => intro l i _; exact List.Perm.refl _
  | succ k ih =>
    intro l i hi
    unfold Hp.riseF
    split
    · exact (ih _ _ (by rw [Hp.swap_len]; omega)).trans (Hp.swap_perm l i _ hi (by omega))
    · exact List.Perm.refl _
theorem Hp.sink_ok (lo : Nat) : ∀ k l i, i < l.length → l.length ≤ k + i → lo ≤ i →
    (∀ j, 1 ≤ j → j < l.length → lo ≤ (j - 1) / 2 → (j - 1) / 2 ≠ i → Hp.edge l j) →
    (∀ j, 1 ≤ j → j < l.length → (j - 1) / 2 = i → 1 ≤ i → lo ≤ (i - 1) / 2 → Hp.lt (Hp.g l j) (Hp.g l ((i - 1) / 2)) = false) →
    ∀ j, 1 ≤ j → j < l.length → lo ≤ (j - 1) / 2 → Hp.edge (Hp.sinkF k l i) j := by
  intro k
  induction k with
  | zero => intro l i h1 h2; omega
  | succ k ih =>
    intro l i hi hk hlo ha hb j j1 j2 j3
    unfold Hp.sinkF
    rcases Hp.first_spec l i with ⟨h, hs⟩ | ⟨f1, f2, f3, f4, f5⟩
    · rw [if_pos h]
      by_cases e : (j - 1) / 2 = i
      · unfold Hp.edge; rw [e]; exact hs j j1 j2 e
      · exact ha j j1 j2 j3 e
    · rw [if_neg (by omega)]
      generalize Hp.first l i = f at *
      have hl := Hp.swap_len l i f
      refine ih (Hp.swap l i f) f (by omega) (by omega) (by omega) ?_ ?_ j j1 (by omega) j3
      · intro m m1 m2 m3 m4
        rw [hl] at m2
        unfold Hp.edge
        rw [Hp.g_swap l i f m hi f3, Hp.g_swap l i f _ hi f3, if_neg m4]
        by_cases e1 : m = f
        · subst e1
          rw [if_pos rfl, if_pos f1]
          exact Hp.asymm f4
        · rw [if_neg e1]
          by_cases e2 : m = i
          · subst e2
            rw [if_pos rfl, if_neg (by omega)]
            exact hb f (by omega) f3 f1 m1 m3
          · rw [if_neg e2]
            by_cases e3 : (m - 1) / 2 = i
            · rw [if_pos e3]
              exact f5 m m1 m2 e3
            · rw [if_neg e3]
              exact ha m m1 m2 m3 e3
      · intro m m1 m2 m3 m4 m5
        rw [hl] at m2
        rw [Hp.g_swap l i f m hi f3, Hp.g_swap l i f _ hi f3, if_neg (by omega), if_neg (by omega), if_neg (by omega), if_pos f1]
        have := ha m m1 m2 (by omega) (by omega)
        unfold Hp.edge at this
        rw [m3] at this
        exact this
theorem Hp.rise_ok : ∀ k l i, i < l.length → i ≤ k →
    (∀ j, 1 ≤ j → j < l.length → j ≠ i → Hp.edge l j) →
    (∀ j, 1 ≤ j → j < l.length → (j - 1) / 2 = i → 1 ≤ i → Hp.lt (Hp.g l j) (Hp.g l ((i - 1) / 2)) = false) →
    ∀ j, 1 ≤ j → j < l.length → Hp.edge (Hp.riseF k l i) j := by
  intro k
  induction k with
  | zero => intro l i h1 h2 ha _ j j1 j2; exact ha j j1 j2 (by omega)
  | succ k ih =>
    intro l i hi hk ha hb j j1 j2
    unfold Hp.riseF
    by_cases h : Hp.lt (Hp.g l i) (Hp.g l ((i - 1) / 2)) = true
    · rw [if_pos h]
      have i0 : i ≠ 0 := fun e => by subst e; rw [Hp.irrefl] at h; cases h
      obtain ⟨p, hp⟩ : ∃ p, p = (i - 1) / 2 := ⟨_, rfl⟩
      rw [← hp] at h ⊢
      rw [← hp] at hb
      have hpl : p < l.length := by omega
      have hl := Hp.swap_len l i p
      refine ih (Hp.swap l i p) p (by omega) (by omega) ?_ ?_ j j1 (by omega)
      · intro m m1 m2 m3
        rw [hl] at m2
        unfold Hp.edge
        rw [Hp.g_swap l i p m hi hpl, Hp.g_swap l i p _ hi hpl, if_neg m3]
        by_cases e1 : m = i
        · subst e1
          rw [if_pos rfl, if_pos hp.symm]
          exact Hp.asymm h
        · rw [if_neg e1]
          have he := ha m m1 m2 e1
          unfold Hp.edge at he
          by_cases e2 : (m - 1) / 2 = p
          · rw [if_pos e2]
            rw [e2] at he
            exact Hp.mixed he h
          · rw [if_neg e2]
            by_cases e3 : (m - 1) / 2 = i
            · rw [if_pos e3]
              exact hb m m1 m2 e3 (by omega)
            · rw [if_neg e3]
              exact he
      · intro m m1 m2 m3 m4
        rw [hl] at m2
        have hpe := ha p m4 (by omega) (by omega)
        unfold Hp.edge at hpe
        rw [Hp.g_swap l i p m hi hpl, Hp.g_swap l i p _ hi hpl, if_neg (show ¬ (p - 1) / 2 = p by omega), if_neg (show ¬ (p - 1) / 2 = i by omega), if_neg (show ¬ m = p by omega)]
        by_cases e1 : m = i
        · rw [if_pos e1]; exact hpe
        · rw [if_neg e1]
          have he := ha m m1 m2 e1
          unfold Hp.edge at he
          rw [m3] at he
          exact Hp.ntrans he hpe
    · rw [if_neg h]
      by_cases e : j = i
      · subst e; unfold Hp.edge; cases q : Hp.lt (Hp.g l j) (Hp.g l ((j - 1) / 2)) with
        | false => rfl
        | true => exact absurd q h
      · exact ha j j1 j2 e
theorem Hp.rise_stays (k : Nat) (l : List (Int × Int × Int × Int)) (i : Nat) (h : Hp.edge l i) : Hp.riseF k l i = l := by
  cases k with
  | zero => rfl
  | succ k => unfold Hp.riseF; unfold Hp.edge at h; rw [if_neg (by rw [h]; simp)]
/-- The heap made of timers: those from a place down are put right, the last one first. -/
def Hp.heapF : Nat → List (Int × Int × Int × Int) → List (Int × Int × Int × Int)
  | 0, l => l
  | k + 1, l => Hp.heapF k (Hp.sinkF l.length l k)
theorem Hp.heapF_perm : ∀ k l, k ≤ l.length → (Hp.heapF k l).Perm l := by
  intro k
  induction k with
  | zero => intro l _; exact List.Perm.refl _
  | succ k ih =>
    intro l hk
    have hp := Hp.sink_perm l.length l k (by omega)
    exact (ih _ (by rw [hp.length_eq]; omega)).trans hp
theorem Hp.heapF_ok : ∀ k l, k ≤ l.length → (∀ j, 1 ≤ j → j < l.length → k ≤ (j - 1) / 2 → Hp.edge l j) → Hp.Heap (Hp.heapF k l) := by
  intro k
  induction k with
  | zero => intro l _ h; exact Hp.heap_of fun j h1 h2 => h j h1 h2 (Nat.zero_le _)
  | succ k ih =>
    intro l hk h
    have hp := Hp.sink_perm l.length l k (by omega)
    refine ih _ (by rw [hp.length_eq]; omega) fun j j1 j2 j3 => ?_
    rw [hp.length_eq] at j2
    exact Hp.sink_ok k l.length l k (by omega) (by omega) (Nat.le_refl _) (fun m m1 m2 m3 m4 => h m m1 m2 (by omega)) (fun m m1 m2 m3 m4 m5 => by omega) j j1 j2 j3
def Hp.makeF (l : List (Int × Int × Int × Int)) : List (Int × Int × Int × Int) := Hp.heapF (if l.length = 0 then 0 else (l.length - 2) / 2 + 1) l
theorem Hp.makeF_perm (l : List (Int × Int × Int × Int)) : (Hp.makeF l).Perm l := Hp.heapF_perm _ l (by split <;> omega)
theorem Hp.makeF_heap (l : List (Int × Int × Int × Int)) : Hp.Heap (Hp.makeF l) := Hp.heapF_ok _ l (by split <;> omega) (fun j h1 h2 h3 => by split at h3 <;> omega)
def Hp.pushF (l : List (Int × Int × Int × Int)) (t : Int × Int × Int × Int) : List (Int × Int × Int × Int) := Hp.riseF l.length (l ++ [t]) l.length
theorem Hp.g_left (l m : List (Int × Int × Int × Int)) (i : Nat) (h : i < l.length) : Hp.g (l ++ m) i = Hp.g l i := by simp [Hp.g, List.getElem?_append_left h]
theorem Hp.pushF_perm (l : List (Int × Int × Int × Int)) (t : Int × Int × Int × Int) : (Hp.pushF l t).Perm (t :: l) := (Hp.rise_perm _ _ _ (by simp)).trans List.perm_append_comm
theorem Hp.pushF_heap {l : List (Int × Int × Int × Int)} (h : Hp.Heap l) (t : Int × Int × Int × Int) : Hp.Heap (Hp.pushF l t) := by
  have hp := Hp.rise_perm l.length (l ++ [t]) l.length (by simp)
  refine Hp.heap_of fun j j1 j2 => ?_
  unfold Hp.pushF at j2
  rw [hp.length_eq] at j2
  refine Hp.rise_ok l.length (l ++ [t]) l.length (by simp) (Nat.le_refl _) (fun m m1 m2 m3 => ?_) (fun m m1 m2 m3 => ?_) j j1 j2
  · simp at m2
    unfold Hp.edge
    rw [Hp.g_left _ _ _ (by omega), Hp.g_left _ _ _ (by omega)]
    exact h m (by omega)
  · simp at m2
    omega
/-- A heap without the timer at a place. -/
def Hp.cutF (l : List (Int × Int × Int × Int)) (i : Nat) : List (Int × Int × Int × Int) := (Hp.swap l i (l.length - 1)).take (l.length - 1)
def Hp.woF (l : List (Int × Int × Int × Int)) (i : Nat) : List (Int × Int × Int × Int) := if i < l.length - 1 then Hp.riseF i (Hp.sinkF (l.length - 1) (Hp.cutF l i) i) i else Hp.cutF l i
theorem Hp.cut_len (l : List (Int × Int × Int × Int)) (i : Nat) : (Hp.cutF l i).length = l.length - 1 := by simp [Hp.cutF, Hp.swap_len]
theorem Hp.g_cut (l : List (Int × Int × Int × Int)) (i k : Nat) (hi : i < l.length) (hk : k < l.length - 1) : Hp.g (Hp.cutF l i) k = if k = i then Hp.g l (l.length - 1) else Hp.g l k := by
  have e : Hp.g (Hp.cutF l i) k = Hp.g (Hp.swap l i (l.length - 1)) k := by simp [Hp.g, Hp.cutF, List.getElem?_take_of_lt hk]
  rw [e, Hp.g_swap _ _ _ _ hi (by omega), if_neg (by omega)]
theorem Hp.cut_all (l : List (Int × Int × Int × Int)) (i : Nat) (hi : i < l.length) : Hp.swap l i (l.length - 1) = Hp.cutF l i ++ [Hp.g l i] := by
  have hlast : Hp.g (Hp.swap l i (l.length - 1)) (l.length - 1) = Hp.g l i := by rw [Hp.g_swap _ _ _ _ hi (by omega), if_pos rfl]
  have hl : l.length - 1 < (Hp.swap l i (l.length - 1)).length := by rw [Hp.swap_len]; omega
  rw [Hp.g_eq _ _ hl] at hlast
  unfold Hp.cutF
  rw [← hlast, ← List.take_succ_eq_append_getElem hl, List.take_of_length_le (by rw [Hp.swap_len]; omega)]
theorem Hp.cut_perm (l : List (Int × Int × Int × Int)) (i : Nat) (hi : i < l.length) : (Hp.g l i :: Hp.cutF l i).Perm l := by
  have h1 := Hp.swap_perm l i (l.length - 1) hi (by omega)
  rw [Hp.cut_all l i hi] at h1
  exact (List.perm_append_comm (l₁ := [Hp.g l i])).trans h1
theorem Hp.wo_perm (l : List (Int × Int × Int × Int)) (i : Nat) (hi : i < l.length) : (Hp.g l i :: Hp.woF l i).Perm l := by
  refine List.Perm.trans (List.Perm.cons _ ?_) (Hp.cut_perm l i hi)
  unfold Hp.woF
  split
  · have h1 := Hp.sink_perm (l.length - 1) (Hp.cutF l i) i (by rw [Hp.cut_len]; omega)
    exact (Hp.rise_perm _ _ _ (by rw [h1.length_eq, Hp.cut_len]; omega)).trans h1
  · exact List.Perm.refl _
theorem Hp.wo_len (l : List (Int × Int × Int × Int)) (i : Nat) (hi : i < l.length) : (Hp.woF l i).length = l.length - 1 := by
  have := (Hp.wo_perm l i hi).length_eq
  simp at this
  omega
theorem Hp.wo_heap {l : List (Int × Int × Int × Int)} (h : Hp.Heap l) (i : Nat) (hi : i < l.length) : Hp.Heap (Hp.woF l i) := by
  unfold Hp.woF
  have hc := Hp.cut_len l i
  by_cases h1 : i < l.length - 1
  · rw [if_pos h1]
    have hg := fun k hk => Hp.g_cut l i k hi hk
    generalize Hp.cutF l i = q at *
    have hp := Hp.sink_perm (l.length - 1) q i (by omega)
    have hp2 := Hp.rise_perm i (Hp.sinkF (l.length - 1) q i) i (by rw [hp.length_eq]; omega)
    have kids : ∀ m, 1 ≤ m → m < l.length - 1 → (m - 1) / 2 = i → 1 ≤ i → Hp.lt (Hp.g l m) (Hp.g l ((i - 1) / 2)) = false := fun m m1 m2 m3 m4 => by
      have a := h m (by omega)
      have b := h i (by omega)
      unfold Hp.edge at a b
      rw [m3] at a
      exact Hp.ntrans a b
    have others : ∀ m, 1 ≤ m → m < l.length - 1 → (m - 1) / 2 ≠ i → m ≠ i → Hp.edge q m := fun m m1 m2 m3 m4 => by
      unfold Hp.edge
      rw [hg m m2, hg _ (by omega), if_neg m4, if_neg m3]
      exact h m (by omega)
    refine Hp.heap_of fun j j1 j2 => ?_
    rw [hp2.length_eq, hp.length_eq] at j2
    by_cases hx : 1 ≤ i ∧ Hp.lt (Hp.g l (l.length - 1)) (Hp.g l ((i - 1) / 2)) = true
    · obtain ⟨hi1, hx⟩ := hx
      have kx : ∀ m, 1 ≤ m → m < l.length - 1 → (m - 1) / 2 = i → Hp.lt (Hp.g l m) (Hp.g l (l.length - 1)) = false := fun m m1 m2 m3 => Hp.mixed (kids m m1 m2 m3 hi1) hx
      have hst : Hp.sinkF (l.length - 1) q i = q := by
        rcases Hp.first_spec q i with ⟨e, _⟩ | ⟨f1, f2, f3, f4, _⟩
        · cases l.length - 1 with
          | zero => rfl
          | succ k => unfold Hp.sinkF; rw [if_pos e]
        · rw [hc] at f3
          rw [hg _ f3, hg _ h1, if_neg (by omega), if_pos rfl, kx _ (by omega) f3 f1] at f4
          cases f4
      rw [hst]
      refine Hp.rise_ok i q i (by omega) (Nat.le_refl _) (fun m m1 m2 m3 => ?_) (fun m m1 m2 m3 m4 => ?_) j j1 j2
      · rw [hc] at m2
        by_cases e : (m - 1) / 2 = i
        · unfold Hp.edge
          rw [hg m m2, hg _ (by omega), if_neg m3, if_pos e]
          exact kx m m1 m2 e
        · exact others m m1 m2 e m3
      · rw [hc] at m2
        rw [hg m m2, hg _ (by omega), if_neg (by omega), if_neg (by omega)]
        exact kids m m1 m2 m3 m4
    · have he := Hp.sink_ok 0 (l.length - 1) q i (by omega) (by omega) (Nat.zero_le _) (fun m m1 m2 _ m3 => ?_) (fun m m1 m2 m3 m4 _ => ?_)
      · have hi2 : Hp.edge (Hp.sinkF (l.length - 1) q i) i := by
          by_cases e : i = 0
          · rw [e]; exact Hp.irrefl _
          · exact he i (by omega) (by omega) (Nat.zero_le _)
        rw [Hp.rise_stays _ _ _ hi2]
        exact he j j1 j2 (Nat.zero_le _)
      · rw [hc] at m2
        by_cases e : m = i
        · unfold Hp.edge
          rw [hg m m2, hg _ (by omega), if_pos e, if_neg m3]
          subst e
          cases q2 : Hp.lt (Hp.g l (l.length - 1)) (Hp.g l ((m - 1) / 2)) with
          | false => rfl
          | true => exact absurd ⟨m1, q2⟩ hx
        · exact others m m1 m2 m3 e
      · rw [hc] at m2
        rw [hg m m2, hg _ (by omega), if_neg (by omega), if_neg (by omega)]
        exact kids m m1 m2 m3 m4
  · rw [if_neg h1]
    refine Hp.heap_of fun j j1 j2 => ?_
    rw [hc] at j2
    unfold Hp.edge
    rw [Hp.g_cut l i j hi j2, Hp.g_cut l i _ hi (by omega), if_neg (by omega), if_neg (by omega)]
    exact h j (by omega)
end Go.Proofs.Ytaaodbljdpchhaa
