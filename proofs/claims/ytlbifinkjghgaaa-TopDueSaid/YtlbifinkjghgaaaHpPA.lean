/-
  Timers as plain data: which one is ahead, right heaps, order, and what sinking and rising do. No condition but those that the theorems state.
  How a slice of timers lies in memory, four cells a timer: as an argument, as a row of the call's own, and as the head of a block. No condition but those that the theorems state.
-/
import Derived.Test.YtlbifinkjghgaaaRows
import Derived.WalkKit
import Derived.WalkSpells
import Derived.WalkLawsBesides
import Derived.Lib.Hide
import Derived.Laws.Rows
import Derived.Laws.OwnMore
import Derived.Maps.AppendAt
import Derived.Below
import Derived.Outline
import Derived.WalkSmall
namespace Go.Proofs.Ytlbifinkjghgaaa

/-- A timer's due, its number, its kind and what it is of. -/
def Hp.lt (x y : Int × Int × Int × Int) : Bool := decide (x.1 < y.1 ∨ x.1 = y.1 ∧ x.2.1 < y.2.1)
theorem Hp.lt_iff {x y : Int × Int × Int × Int} : Hp.lt x y = true ↔ (x.1 < y.1 ∨ x.1 = y.1 ∧ x.2.1 < y.2.1) := by unfold Hp.lt; exact decide_eq_true_iff
theorem Hp.nlt_iff {x y : Int × Int × Int × Int} : Hp.lt x y = false ↔ ¬ (x.1 < y.1 ∨ x.1 = y.1 ∧ x.2.1 < y.2.1) := by unfold Hp.lt; exact decide_eq_false_iff_not
theorem Hp.irrefl (x : Int × Int × Int × Int) : Hp.lt x x = false := by rw [Hp.nlt_iff]; omega
theorem Hp.asymm {x y : Int × Int × Int × Int} (h : Hp.lt x y = true) : Hp.lt y x = false := by rw [Hp.nlt_iff]; rw [Hp.lt_iff] at h; omega
theorem Hp.trans {x y z : Int × Int × Int × Int} (h : Hp.lt x y = true) (h2 : Hp.lt y z = true) : Hp.lt x z = true := by rw [Hp.lt_iff] at *; omega
theorem Hp.ntrans {x y z : Int × Int × Int × Int} (h : Hp.lt x y = false) (h2 : Hp.lt y z = false) : Hp.lt x z = false := by rw [Hp.nlt_iff] at *; omega
theorem Hp.mixed {x y z : Int × Int × Int × Int} (h : Hp.lt x z = false) (h2 : Hp.lt y z = true) : Hp.lt x y = false := by rw [Hp.nlt_iff] at *; rw [Hp.lt_iff] at h2; omega
theorem Hp.total {x y : Int × Int × Int × Int} (h : Hp.lt x y = false) (hne : x.2.1 ≠ y.2.1) : Hp.lt y x = true := by rw [Hp.nlt_iff] at h; rw [Hp.lt_iff]; omega

/-- The timer at a place. -/
def Hp.g (l : List (Int × Int × Int × Int)) (i : Nat) : Int × Int × Int × Int := l.getD i (0, 0, 0, 0)
theorem Hp.g_eq (l : List (Int × Int × Int × Int)) (i : Nat) (h : i < l.length) : Hp.g l i = l[i] := by simp [Hp.g, h]
theorem Hp.g_mem {l : List (Int × Int × Int × Int)} {i : Nat} (h : i < l.length) : Hp.g l i ∈ l := by rw [Hp.g_eq l i h]; exact List.getElem_mem h
def Hp.edge (l : List (Int × Int × Int × Int)) (j : Nat) : Prop := Hp.lt (Hp.g l j) (Hp.g l ((j - 1) / 2)) = false
/-- No timer is ahead of its parent. -/
def Hp.Heap (l : List (Int × Int × Int × Int)) : Prop := ∀ j, j < l.length → Hp.edge l j
theorem Hp.heap_of {l : List (Int × Int × Int × Int)} (h : ∀ j, 1 ≤ j → j < l.length → Hp.edge l j) : Hp.Heap l := fun j hj => by
  by_cases h0 : j = 0
  · subst h0; exact Hp.irrefl _
  · exact h j (by omega) hj
theorem Hp.heap_root {l : List (Int × Int × Int × Int)} (h : Hp.Heap l) : ∀ n j, j ≤ n → j < l.length → Hp.lt (Hp.g l j) (Hp.g l 0) = false := by
  intro n
  induction n with
  | zero => intro j h1 _; obtain rfl : j = 0 := by omega
            exact Hp.irrefl _
  | succ n ih =>
    intro j h1 h2
    by_cases h0 : j = 0
    · subst h0; exact Hp.irrefl _
    · exact Hp.ntrans (h j h2) (ih _ (by omega) (by omega))
/-- Two timers change places. -/
def Hp.swap (l : List (Int × Int × Int × Int)) (i j : Nat) : List (Int × Int × Int × Int) := (l.set i (Hp.g l j)).set j (Hp.g l i)
theorem Hp.swap_len (l : List (Int × Int × Int × Int)) (i j : Nat) : (Hp.swap l i j).length = l.length := by simp [Hp.swap]
theorem Hp.g_set (l : List (Int × Int × Int × Int)) (i k : Nat) (x : Int × Int × Int × Int) (hi : i < l.length) : Hp.g (l.set i x) k = if k = i then x else Hp.g l k := by
  unfold Hp.g
  simp only [List.getD_eq_getElem?_getD, List.getElem?_set]
  by_cases h : k = i
  · subst h; simp [hi]
  · rw [if_neg (fun e => h e.symm), if_neg h]
theorem Hp.g_swap (l : List (Int × Int × Int × Int)) (i j k : Nat) (hi : i < l.length) (hj : j < l.length) : Hp.g (Hp.swap l i j) k = if k = j then Hp.g l i else if k = i then Hp.g l j else Hp.g l k := by
  unfold Hp.swap
  rw [Hp.g_set _ _ _ _ (by simpa using hj), Hp.g_set _ _ _ _ hi]
theorem Hp.swap_perm (l : List (Int × Int × Int × Int)) (i j : Nat) (hi : i < l.length) (hj : j < l.length) : (Hp.swap l i j).Perm l := by
  unfold Hp.swap
  rw [Hp.g_eq l i hi, Hp.g_eq l j hj]
  exact List.set_set_perm hi hj
def Hp.bet (l : List (Int × Int × Int × Int)) (a b : Nat) : Nat := if b < l.length ∧ Hp.lt (Hp.g l b) (Hp.g l a) = true then b else a
/-- Which one of a timer and its kids is ahead of the others. -/
def Hp.first (l : List (Int × Int × Int × Int)) (i : Nat) : Nat := Hp.bet l (Hp.bet l i (2 * i + 1)) (2 * i + 2)
theorem Hp.first_spec (l : List (Int × Int × Int × Int)) (i : Nat) : (Hp.first l i = i ∧ ∀ j, 1 ≤ j → j < l.length → (j - 1) / 2 = i → Hp.lt (Hp.g l j) (Hp.g l i) = false) ∨
    ((Hp.first l i - 1) / 2 = i ∧ i < Hp.first l i ∧ Hp.first l i < l.length ∧ Hp.lt (Hp.g l (Hp.first l i)) (Hp.g l i) = true ∧ ∀ j, 1 ≤ j → j < l.length → (j - 1) / 2 = i → Hp.lt (Hp.g l j) (Hp.g l (Hp.first l i)) = false) := by
  have kid : ∀ j, 1 ≤ j → (j - 1) / 2 = i → j = 2 * i + 1 ∨ j = 2 * i + 2 := fun j h1 h2 => by omega
  unfold Hp.first
  by_cases h1 : 2 * i + 1 < l.length ∧ Hp.lt (Hp.g l (2 * i + 1)) (Hp.g l i) = true
  · rw [show Hp.bet l i (2 * i + 1) = 2 * i + 1 from if_pos h1]
    right
    by_cases h2 : 2 * i + 2 < l.length ∧ Hp.lt (Hp.g l (2 * i + 2)) (Hp.g l (2 * i + 1)) = true
    · rw [show Hp.bet l (2 * i + 1) (2 * i + 2) = 2 * i + 2 from if_pos h2]
      refine ⟨by omega, by omega, h2.1, Hp.trans h2.2 h1.2, fun j a b c => ?_⟩
      rcases kid j a c with rfl | rfl
      · exact Hp.asymm h2.2
      · exact Hp.irrefl _
    · rw [show Hp.bet l (2 * i + 1) (2 * i + 2) = 2 * i + 1 from if_neg h2]
      refine ⟨by omega, by omega, h1.1, h1.2, fun j a b c => ?_⟩
      rcases kid j a c with rfl | rfl
      · exact Hp.irrefl _
      · cases e : Hp.lt (Hp.g l (2 * i + 2)) (Hp.g l (2 * i + 1)) with
        | false => rfl
        | true => exact absurd ⟨b, e⟩ h2
  · rw [show Hp.bet l i (2 * i + 1) = i from if_neg h1]
    by_cases h2 : 2 * i + 2 < l.length ∧ Hp.lt (Hp.g l (2 * i + 2)) (Hp.g l i) = true
    · rw [show Hp.bet l i (2 * i + 2) = 2 * i + 2 from if_pos h2]
      right
      refine ⟨by omega, by omega, h2.1, h2.2, fun j a b c => ?_⟩
      rcases kid j a c with rfl | rfl
      · cases e : Hp.lt (Hp.g l (2 * i + 1)) (Hp.g l (2 * i + 2)) with
        | false => rfl
        | true => exact absurd ⟨by omega, Hp.trans e h2.2⟩ h1
      · exact Hp.irrefl _
    · rw [show Hp.bet l i (2 * i + 2) = i from if_neg h2]
      left
      refine ⟨rfl, fun j a b c => ?_⟩
      rcases kid j a c with rfl | rfl
      · cases e : Hp.lt (Hp.g l (2 * i + 1)) (Hp.g l i) with
        | false => rfl
        | true => exact absurd ⟨b, e⟩ h1
      · cases e : Hp.lt (Hp.g l (2 * i + 2)) (Hp.g l i) with
        | false => rfl
        | true => exact absurd ⟨b, e⟩ h2
def Hp.sinkF : Nat → List (Int × Int × Int × Int) → Nat → List (Int × Int × Int × Int)
  | 0, l, _ => l
  | k + 1, l, i => if Hp.first l i = i then l else Hp.sinkF k (Hp.swap l i (Hp.first l i)) (Hp.first l i)
def Hp.riseF : Nat → List (Int × Int × Int × Int) → Nat → List (Int × Int × Int × Int)
  | 0, l, _ => l
  | k + 1, l, i => if Hp.lt (Hp.g l i) (Hp.g l ((i - 1) / 2)) = true then Hp.riseF k (Hp.swap l i ((i - 1) / 2)) ((i - 1) / 2) else l
theorem Hp.sink_perm : ∀ k l i, i < l.length → (Hp.sinkF k l i).Perm l := by
  intro k
  induction k with
  | zero => intro l i _; exact List.Perm.refl _
  | succ k ih =>
    intro l i hi
    unfold Hp.sinkF
    rcases Hp.first_spec l i with ⟨h, _⟩ | ⟨_, h2, h3, _, _⟩
    · rw [if_pos h]
    · rw [if_neg (by omega)]
      exact (ih _ _ (by rw [Hp.swap_len]; exact h3)).trans (Hp.swap_perm l i _ hi h3)
theorem Hp.rise_perm : ∀ k l i, i < l.length → (Hp.riseF k l i).Perm l := by
  intro k
  induction k with
  | zero => intro l i _; exact List.Perm.refl _
  | succ k ih =>
    intro l i hi
    unfold Hp.riseF
    split
    · exact (ih _ _ (by rw [Hp.swap_len]; omega)).trans (Hp.swap_perm l i _ hi (by omega))
    · exact List.Perm.refl _
theorem Hp.sink_ok (lo : Nat) : ∀ k l i, i < l.length → l.length ≤ k + i → lo ≤ i →
    (∀ j, 1 ≤ j → j < l.length → lo ≤ (j - 1) / 2 → (j - 1) / 2 ≠ i → Hp.edge l j) →
    (∀ j, 1 ≤ j → j < l.length → (j - 1) / 2 = i → 1 ≤ i → lo ≤ (i - 1) / 2 → Hp.lt (Hp.g l j) (Hp.g l ((i - 1) / 2)) = false) →
    ∀ j, 1 ≤ j → j < l.length → lo ≤ (j - 1) / 2 → Hp.edge (Hp.sinkF k l i) j := by
  intro k
  induction k with
  | zero => intro l i h1 h2; omega
  | succ k ih =>
    intro l i hi hk hlo ha hb j j1 j2 j3
    unfold Hp.sinkF
    rcases Hp.first_spec l i with ⟨h, hs⟩ | ⟨f1, f2, f3, f4, f5⟩
    · rw [if_pos h]
      by_cases e : (j - 1) / 2 = i
      · unfold Hp.edge; rw [e]; exact hs j j1 j2 e
      · exact ha j j1 j2 j3 e
    · rw [if_neg (by omega)]
      generalize Hp.first l i = f at *
      have hl := Hp.swap_len l i f
      refine ih (Hp.swap l i f) f (by omega) (by omega) (by omega) ?_ ?_ j j1 (by omega) j3
      · intro m m1 m2 m3 m4
        rw [hl] at m2
        unfold Hp.edge
        rw [Hp.g_swap l i f m hi f3, Hp.g_swap l i f _ hi f3, if_neg m4]
        by_cases e1 : m = f
        · subst e1
          rw [if_pos rfl, if_pos f1]
          exact Hp.asymm f4
        · rw [if_neg e1]
          by_cases e2 : m = i
          · subst e2
            rw [if_pos rfl, if_neg (by omega)]
            exact hb f (by omega) f3 f1 m1 m3
          · rw [if_neg e2]
            by_cases e3 : (m - 1) / 2 = i
            · rw [if_pos e3]
              exact f5 m m1 m2 e3
            · rw [if_neg e3]
              exact ha m m1 m2 m3 e3
      · intro m m1 m2 m3 m4 m5
        rw [hl] at m2
        rw [Hp.g_swap l i f m hi f3, Hp.g_swap l i f _ hi f3, if_neg (by omega), if_neg (by omega), if_neg (by omega), if_pos f1]
        have := ha m m1 m2 (by omega) (by omega)
        unfold Hp.edge at this
        rw [m3] at this
        exact this
theorem Hp.rise_ok : ∀ k l i, i < l.length → i ≤ k →
    (∀ j, 1 ≤ j → j < l.length → j ≠ i → Hp.edge l j) →
    (∀ j, 1 ≤ j → j < l.length → (j - 1) / 2 = i → 1 ≤ i → Hp.lt (Hp.g l j) (Hp.g l ((i - 1) / 2)) = false) →
    ∀ j, 1 ≤ j → j < l.length → Hp.edge (Hp.riseF k l i) j := by
  intro k
  induction k with
  | zero => intro l i h1 h2 ha _ j j1 j2; exact ha j j1 j2 (by omega)
  | succ k ih =>
    intro l i hi hk ha hb j j1 j2
    unfold Hp.riseF
    by_cases h : Hp.lt (Hp.g l i) (Hp.g l ((i - 1) / 2)) = true
    · rw [if_pos h]
      have i0 : i ≠ 0 := fun e => by subst e; rw [Hp.irrefl] at h; cases h
      obtain ⟨p, hp⟩ : ∃ p, p = (i - 1) / 2 := ⟨_, rfl⟩
      rw [← hp] at h ⊢
      rw [← hp] at hb
      have hpl : p < l.length := by omega
      have hl := Hp.swap_len l i p
      refine ih (Hp.swap l i p) p (by omega) (by omega) ?_ ?_ j j1 (by omega)
      · intro m m1 m2 m3
        rw [hl] at m2
        unfold Hp.edge
        rw [Hp.g_swap l i p m hi hpl, Hp.g_swap l i p _ hi hpl, if_neg m3]
        by_cases e1 : m = i
        · subst e1
          rw [if_pos rfl, if_pos hp.symm]
          exact Hp.asymm h
        · rw [if_neg e1]
          have he := ha m m1 m2 e1
          unfold Hp.edge at he
          by_cases e2 : (m - 1) / 2 = p
          · rw [if_pos e2]
            rw [e2] at he
            exact Hp.mixed he h
          · rw [if_neg e2]
            by_cases e3 : (m - 1) / 2 = i
            · rw [if_pos e3]
              exact hb m m1 m2 e3 (by omega)
            · rw [if_neg e3]
              exact he
      · intro m m1 m2 m3 m4
        rw [hl] at m2
        have hpe := ha p m4 (by omega) (by omega)
        unfold Hp.edge at hpe
        rw [Hp.g_swap l i p m hi hpl, Hp.g_swap l i p _ hi hpl, if_neg (show ¬ (p - 1) / 2 = p by omega), if_neg (show ¬ (p - 1) / 2 = i by omega), if_neg (show ¬ m = p by omega)]
        by_cases e1 : m = i
        · rw [if_pos e1]; exact hpe
        · rw [if_neg e1]
          have he := ha m m1 m2 e1
          unfold Hp.edge at he
          rw [m3] at he
          exact Hp.ntrans he hpe
    · rw [if_neg h]
      by_cases e : j = i
      · subst e; unfold Hp.edge; cases q : Hp.lt (Hp.g l j) (Hp.g l ((j - 1) / 2)) with
        | false => rfl
        | true => exact absurd q h
      · exact ha j j1 j2 e
theorem Hp.rise_stays (k : Nat) (l : List (Int × Int × Int × Int)) (i : Nat) (h : Hp.edge l i) : Hp.riseF k l i = l := by
  cases k with
  | zero => rfl
  | succ k => unfold Hp.riseF; unfold Hp.edge at h; rw [if_neg (by rw [h]; simp)]
/-- The heap made of timers: those from a place down are put right, the last one first. -/
def Hp.heapF : Nat → List (Int × Int × Int × Int) → List (Int × Int × Int × Int)
  | 0, l => l
  | k + 1, l => Hp.heapF k (Hp.sinkF l.length l k)
theorem Hp.heapF_perm : ∀ k l, k ≤ l.length → (Hp.heapF k l).Perm l := by
  intro k
  induction k with
  | zero => intro l _; exact List.Perm.refl _
  | succ k ih =>
    intro l hk
    have hp := Hp.sink_perm l.length l k (by omega)
    exact (ih _ (by rw [hp.length_eq]; omega)).trans hp
theorem Hp.heapF_ok : ∀ k l, k ≤ l.length → (∀ j, 1 ≤ j → j < l.length → k ≤ (j - 1) / 2 → Hp.edge l j) → Hp.Heap (Hp.heapF k l) := by
  intro k
  induction k with
  | zero => intro l _ h; exact Hp.heap_of fun j h1 h2 => h j h1 h2 (Nat.zero_le _)
  | succ k ih =>
    intro l hk h
    have hp := Hp.sink_perm l.length l k (by omega)
    refine ih _ (by rw [hp.length_eq]; omega) fun j j1 j2 j3 => ?_
    rw [hp.length_eq] at j2
    exact Hp.sink_ok k l.length l k (by omega) (by omega) (Nat.le_refl _) (fun m m1 m2 m3 m4 => h m m1 m2 (by omega)) (fun m m1 m2 m3 m4 m5 => by omega) j j1 j2 j3
def Hp.makeF (l : List (Int × Int × Int × Int)) : List (Int × Int × Int × Int) := Hp.heapF (if l.length = 0 then 0 else (l.length - 2) / 2 + 1) l
theorem Hp.makeF_perm (l : List (Int × Int × Int × Int)) : (Hp.makeF l).Perm l := Hp.heapF_perm _ l (by split <;> omega)
theorem Hp.makeF_heap (l : List (Int × Int × Int × Int)) : Hp.Heap (Hp.makeF l) := Hp.heapF_ok _ l (by split <;> omega) (fun j h1 h2 h3 => by split at h3 <;> omega)
def Hp.pushF (l : List (Int × Int × Int × Int)) (t : Int × Int × Int × Int) : List (Int × Int × Int × Int) := Hp.riseF l.length (l ++ [t]) l.length
theorem Hp.g_left (l m : List (Int × Int × Int × Int)) (i : Nat) (h : i < l.length) : Hp.g (l ++ m) i = Hp.g l i := by simp [Hp.g, List.getElem?_append_left h]
theorem Hp.pushF_perm (l : List (Int × Int × Int × Int)) (t : Int × Int × Int × Int) : (Hp.pushF l t).Perm (t :: l) := (Hp.rise_perm _ _ _ (by simp)).trans List.perm_append_comm
theorem Hp.pushF_heap {l : List (Int × Int × Int × Int)} (h : Hp.Heap l) (t : Int × Int × Int × Int) : Hp.Heap (Hp.pushF l t) := by
  have hp := Hp.rise_perm l.length (l ++ [t]) l.length (by simp)
  refine Hp.heap_of fun j j1 j2 => ?_
  unfold Hp.pushF at j2
  rw [hp.length_eq] at j2
  refine Hp.rise_ok l.length (l ++ [t]) l.length (by simp) (Nat.le_refl _) (fun m m1 m2 m3 => ?_) (fun m m1 m2 m3 => ?_) j j1 j2
  · simp at m2
    unfold Hp.edge
    rw [Hp.g_left _ _ _ (by omega), Hp.g_left _ _ _ (by omega)]
    exact h m (by omega)
  · simp at m2
    omega
/-- A heap without the timer at a place. -/
def Hp.cutF (l : List (Int × Int × Int × Int)) (i : Nat) : List (Int × Int × Int × Int) := (Hp.swap l i (l.length - 1)).take (l.length - 1)
def Hp.woF (l : List (Int × Int × Int × Int)) (i : Nat) : List (Int × Int × Int × Int) := if i < l.length - 1 then Hp.riseF i (Hp.sinkF (l.length - 1) (Hp.cutF l i) i) i else Hp.cutF l i
theorem Hp.cut_len (l : List (Int × Int × Int × Int)) (i : Nat) : (Hp.cutF l i).length = l.length - 1 := by simp [Hp.cutF, Hp.swap_len]
theorem Hp.g_cut (l : List (Int × Int × Int × Int)) (i k : Nat) (hi : i < l.length) (hk : k < l.length - 1) : Hp.g (Hp.cutF l i) k = if k = i then Hp.g l (l.length - 1) else Hp.g l k := by
  have e : Hp.g (Hp.cutF l i) k = Hp.g (Hp.swap l i (l.length - 1)) k := by simp [Hp.g, Hp.cutF, List.getElem?_take_of_lt hk]
  rw [e, Hp.g_swap _ _ _ _ hi (by omega), if_neg (by omega)]
theorem Hp.cut_all (l : List (Int × Int × Int × Int)) (i : Nat) (hi : i < l.length) : Hp.swap l i (l.length - 1) = Hp.cutF l i ++ [Hp.g l i] := by
  have hlast : Hp.g (Hp.swap l i (l.length - 1)) (l.length - 1) = Hp.g l i := by rw [Hp.g_swap _ _ _ _ hi (by omega), if_pos rfl]
  have hl : l.length - 1 < (Hp.swap l i (l.length - 1)).length := by rw [Hp.swap_len]; omega
  rw [Hp.g_eq _ _ hl] at hlast
  unfold Hp.cutF
  rw [← hlast, ← List.take_succ_eq_append_getElem hl, List.take_of_length_le (by rw [Hp.swap_len]; omega)]
theorem Hp.cut_perm (l : List (Int × Int × Int × Int)) (i : Nat) (hi : i < l.length) : (Hp.g l i :: Hp.cutF l i).Perm l := by
  have h1 := Hp.swap_perm l i (l.length - 1) hi (by omega)
  rw [Hp.cut_all l i hi] at h1
  exact (List.perm_append_comm (l₁ := [Hp.g l i])).trans h1
theorem Hp.wo_perm (l : List (Int × Int × Int × Int)) (i : Nat) (hi : i < l.length) : (Hp.g l i :: Hp.woF l i).Perm l := by
  refine List.Perm.trans (List.Perm.cons _ ?_) (Hp.cut_perm l i hi)
  unfold Hp.woF
  split
  · have h1 := Hp.sink_perm (l.length - 1) (Hp.cutF l i) i (by rw [Hp.cut_len]; omega)
    exact (Hp.rise_perm _ _ _ (by rw [h1.length_eq, Hp.cut_len]; omega)).trans h1
  · exact List.Perm.refl _
theorem Hp.wo_len (l : List (Int × Int × Int × Int)) (i : Nat) (hi : i < l.length) : (Hp.woF l i).length = l.length - 1 := by
  have := (Hp.wo_perm l i hi).length_eq
  simp at this
  omega
theorem Hp.wo_heap {l : List (Int × Int × Int × Int)} (h : Hp.Heap l) (i : Nat) (hi : i < l.length) : Hp.Heap (Hp.woF l i) := by
  unfold Hp.woF
  have hc := Hp.cut_len l i
  by_cases h1 : i < l.length - 1
  · rw [if_pos h1]
    have hg := fun k hk => Hp.g_cut l i k hi hk
    generalize Hp.cutF l i = q at *
    have hp := Hp.sink_perm (l.length - 1) q i (by omega)
    have hp2 := Hp.rise_perm i (Hp.sinkF (l.length - 1) q i) i (by rw [hp.length_eq]; omega)
    have kids : ∀ m, 1 ≤ m → m < l.length - 1 → (m - 1) / 2 = i → 1 ≤ i → Hp.lt (Hp.g l m) (Hp.g l ((i - 1) / 2)) = false := fun m m1 m2 m3 m4 => by
      have a := h m (by omega)
      have b := h i (by omega)
      unfold Hp.edge at a b
      rw [m3] at a
      exact Hp.ntrans a b
    have others : ∀ m, 1 ≤ m → m < l.length - 1 → (m - 1) / 2 ≠ i → m ≠ i → Hp.edge q m := fun m m1 m2 m3 m4 => by
      unfold Hp.edge
      rw [hg m m2, hg _ (by omega), if_neg m4, if_neg m3]
      exact h m (by omega)
    refine Hp.heap_of fun j j1 j2 => ?_
    rw [hp2.length_eq, hp.length_eq] at j2
    by_cases hx : 1 ≤ i ∧ Hp.lt (Hp.g l (l.length - 1)) (Hp.g l ((i - 1) / 2)) = true
    · obtain ⟨hi1, hx⟩ := hx
      have kx : ∀ m, 1 ≤ m → m < l.length - 1 → (m - 1) / 2 = i → Hp.lt (Hp.g l m) (Hp.g l (l.length - 1)) = false := fun m m1 m2 m3 => Hp.mixed (kids m m1 m2 m3 hi1) hx
      have hst : Hp.sinkF (l.length - 1) q i = q := by
        rcases Hp.first_spec q i with ⟨e, _⟩ | ⟨f1, f2, f3, f4, _⟩
        · cases l.length - 1 with
          | zero => rfl
          | succ k => unfold Hp.sinkF; rw [if_pos e]
        · rw [hc] at f3
          rw [hg _ f3, hg _ h1, if_neg (by omega), if_pos rfl, kx _ (by omega) f3 f1] at f4
          cases f4
      rw [hst]
      refine Hp.rise_ok i q i (by omega) (Nat.le_refl _) (fun m m1 m2 m3 => ?_) (fun m m1 m2 m3 m4 => ?_) j j1 j2
      · rw [hc] at m2
        by_cases e : (m - 1) / 2 = i
        · unfold Hp.edge
          rw [hg m m2, hg _ (by omega), if_neg m3, if_pos e]
          exact kx m m1 m2 e
        · exact others m m1 m2 e m3
      · rw [hc] at m2
        rw [hg m m2, hg _ (by omega), if_neg (by omega), if_neg (by omega)]
        exact kids m m1 m2 m3 m4
    · have he := Hp.sink_ok 0 (l.length - 1) q i (by omega) (by omega) (Nat.zero_le _) (fun m m1 m2 _ m3 => ?_) (fun m m1 m2 m3 m4 _ => ?_)
      · have hi2 : Hp.edge (Hp.sinkF (l.length - 1) q i) i := by
          by_cases e : i = 0
          · rw [e]; exact Hp.irrefl _
          · exact he i (by omega) (by omega) (Nat.zero_le _)
        rw [Hp.rise_stays _ _ _ hi2]
        exact he j j1 j2 (Nat.zero_le _)
      · rw [hc] at m2
        by_cases e : m = i
        · unfold Hp.edge
          rw [hg m m2, hg _ (by omega), if_pos e, if_neg m3]
          subst e
          cases q2 : Hp.lt (Hp.g l (l.length - 1)) (Hp.g l ((m - 1) / 2)) with
          | false => rfl
          | true => exact absurd ⟨m1, q2⟩ hx
        · exact others m m1 m2 m3 e
      · rw [hc] at m2
        rw [hg m m2, hg _ (by omega), if_neg (by omega), if_neg (by omega)]
        exact kids m m1 m2 m3 m4
  · rw [if_neg h1]
    refine Hp.heap_of fun j j1 j2 => ?_
    rw [hc] at j2
    unfold Hp.edge
    rw [Hp.g_cut l i j hi j2, Hp.g_cut l i _ hi (by omega), if_neg (by omega), if_neg (by omega)]
    exact h j (by omega)
end Go.Proofs.Ytlbifinkjghgaaa
namespace Go.Proofs.Ytlbifinkjghgaaa
open Go.RowKit

def Hp.rc (x : Int × Int × Int × Int) : List Value := [.int .i64 x.1, .int .i64 x.2.1, .int .u8 x.2.2.1, .int .i64 x.2.2.2]
def Hp.rcs (l : List (Int × Int × Int × Int)) : List Value := l.flatMap Hp.rc
theorem Hp.rcs_cons (x : Int × Int × Int × Int) (l : List (Int × Int × Int × Int)) : Hp.rcs (x :: l) = .int .i64 x.1 :: .int .i64 x.2.1 :: .int .u8 x.2.2.1 :: .int .i64 x.2.2.2 :: Hp.rcs l := rfl
theorem Hp.rcs_len (l : List (Int × Int × Int × Int)) : (Hp.rcs l).length = l.length * 4 := by
  induction l with
  | nil => rfl
  | cons x l ih => rw [Hp.rcs_cons]; simp only [List.length_cons, ih]; omega
theorem Hp.rcs_get (l : List (Int × Int × Int × Int)) (i : Nat) (hi : i < l.length) : (Hp.rcs l)[i * 4]? = some (.int .i64 l[i].1) ∧ (Hp.rcs l)[i * 4 + 1]? = some (.int .i64 l[i].2.1) ∧ (Hp.rcs l)[i * 4 + 2]? = some (.int .u8 l[i].2.2.1) ∧ (Hp.rcs l)[i * 4 + 3]? = some (.int .i64 l[i].2.2.2) := by
  induction l generalizing i with
  | nil => simp at hi
  | cons x l ih =>
    rw [Hp.rcs_cons]
    cases i with
    | zero => exact ⟨rfl, rfl, rfl, rfl⟩
    | succ i =>
      have := ih i (by simpa using hi)
      rw [show (i + 1) * 4 = i * 4 + 1 + 1 + 1 + 1 by omega]
      simpa using this
theorem Hp.rcs_append (a b : List (Int × Int × Int × Int)) : Hp.rcs (a ++ b) = Hp.rcs a ++ Hp.rcs b := by simp [Hp.rcs]
theorem Hp.rcs_one (l : List (Int × Int × Int × Int)) : ∀ u ∈ Hp.rcs l, u.oneCell' = true := by
  intro u hu
  obtain ⟨x, _, hx⟩ := List.mem_flatMap.1 hu
  simp [Hp.rc] at hx
  rcases hx with rfl | rfl | rfl | rfl <;> rfl
/-- The cells of one timer at a place. -/
def Hp.At1 (w : World) (b off : Nat) (x : Int × Int × Int × Int) : Prop :=
  w.cell? ⟨b, off, none⟩ = some (.int .i64 x.1) ∧ w.cell? ⟨b, off + 1, none⟩ = some (.int .i64 x.2.1) ∧ w.cell? ⟨b, off + 2, none⟩ = some (.int .u8 x.2.2.1) ∧ w.cell? ⟨b, off + 3, none⟩ = some (.int .i64 x.2.2.2)
theorem Hp.At1.below {w w' : World} {b off B : Nat} {x : Int × Int × Int × Int} (h : Hp.At1 w b off x) (hb : Below B w w') (hB : b < B) : Hp.At1 w' b off x :=
  ⟨(hb.cell (p := ⟨b, off, none⟩) hB).trans h.1, (hb.cell (p := ⟨b, off + 1, none⟩) hB).trans h.2.1, (hb.cell (p := ⟨b, off + 2, none⟩) hB).trans h.2.2.1, (hb.cell (p := ⟨b, off + 3, none⟩) hB).trans h.2.2.2⟩
theorem Hp.At1.lt {w : World} {b off : Nat} {x : Int × Int × Int × Int} (h : Hp.At1 w b off x) : b < w.heap.size := World.block_lt_of_cell? w _ h.1
/-- The slice of timers whose first cell is at p reads as l. -/
def Hp.At (w : World) (p : Option Addr) (l : List (Int × Int × Int × Int)) : Prop :=
  l = [] ∨ ∃ b off, p = some ⟨b, off, none⟩ ∧ ∀ i (h : i < l.length), Hp.At1 w b (off + i * 4) l[i]
theorem Hp.At.nil (w : World) (p : Option Addr) : Hp.At w p [] := Or.inl rfl
theorem Hp.At.below {w w' : World} {p : Option Addr} {l : List (Int × Int × Int × Int)} (h : Hp.At w p l) (hb : Below w.heap.size w w') : Hp.At w' p l := by
  rcases h with h | ⟨b, off, hp, hc⟩
  · exact Or.inl h
  · exact Or.inr ⟨b, off, hp, fun i hi => (hc i hi).below hb (hc i hi).lt⟩
theorem Hp.At.get {w : World} {p : Option Addr} {l : List (Int × Int × Int × Int)} (h : Hp.At w p l) (k : Nat) (hk : k < l.length) :
    ∃ b off, p = some ⟨b, off, none⟩ ∧ Hp.At1 w b (off + k * 4) l[k] := by
  rcases h with h | ⟨b, off, hp, hc⟩
  · subst h; simp at hk
  · exact ⟨b, off, hp, hc k hk⟩
theorem Hp.At.take {w : World} {p : Option Addr} {l : List (Int × Int × Int × Int)} (h : Hp.At w p l) (k : Nat) : Hp.At w p (l.take k) := by
  rcases h with h | ⟨b, off, hp, hc⟩
  · subst h; exact Or.inl (by simp)
  · exact Or.inr ⟨b, off, hp, fun i hi => by rw [List.getElem_take]; exact hc i (by simp at hi; omega)⟩
/-- A row of the call's own that reads as l. -/
def Hp.Own (w : World) (base : Nat) (v : Value) (l : List (Int × Int × Int × Int)) : Prop := w.ownsRow base 29 4 v l.length (Hp.rcs l)
theorem Hp.Own.nil (w : World) (base : Nat) : Hp.Own w base (.slice none 0 0) [] := World.ownsRow_nil _ _ _ _
/-- The head of a block reads as l; what lies behind it. -/
def Hp.Blk (w : World) (g : Nat) (l : List (Int × Int × Int × Int)) (rest : List Value) : Prop := w.heap[g]? = some (.cells (Hp.rcs l ++ rest).toArray 29 (0, 0))
theorem Hp.Blk.lt {w : World} {g : Nat} {l : List (Int × Int × Int × Int)} {rest : List Value} (h : Hp.Blk w g l rest) : g < w.heap.size := (Array.getElem?_eq_some_iff.1 h).1
theorem Hp.Blk.cell {w : World} {g : Nat} {l : List (Int × Int × Int × Int)} {rest : List Value} (h : Hp.Blk w g l rest) (i : Nat) (hi : i < l.length) : Hp.At1 w g (i * 4) l[i] := by
  have hw := Hp.rcs_get l i hi
  have hl := Hp.rcs_len l
  have key : ∀ j v, (Hp.rcs l)[j]? = some v → w.cell? ⟨g, j, none⟩ = some v := by
    intro j v hv
    rw [Lib.cell_of_heap h, List.getElem?_toArray, List.getElem?_append_left (List.getElem?_eq_some_iff.1 hv).1]
    exact hv
  exact ⟨key _ _ hw.1, key _ _ hw.2.1, key _ _ hw.2.2.1, key _ _ hw.2.2.2⟩
theorem Hp.Blk.frozen {w : World} {g : Nat} {l : List (Int × Int × Int × Int)} {rest : List Value} (h : Hp.Blk w g l rest) (j : Nat) : w.frozen? ⟨g, j, none⟩ = false := by
  unfold Hp.Blk at h
  simp [World.frozen?, h]
theorem Hp.Blk.at {w : World} {g : Nat} {l : List (Int × Int × Int × Int)} {rest : List Value} (h : Hp.Blk w g l rest) : Hp.At w (some ⟨g, 0, none⟩) l :=
  Or.inr ⟨g, 0, rfl, fun i hi => by rw [Nat.zero_add]; exact h.cell i hi⟩
theorem Hp.Blk.own {w : World} {g base cap : Nat} {l : List (Int × Int × Int × Int)} {rest : List Value} (h : Hp.Blk w g l rest) (hg : base ≤ g) (hc : cap * 4 = l.length * 4 + rest.length) (hm : cap ≤ maxLen) : Hp.Own w base (.slice (some ⟨g, 0, none⟩) l.length cap) l :=
  ⟨Hp.rcs_len l, Or.inr ⟨g, cap, _, rfl, hg, h, by omega, hm, by simp [Hp.rcs_len]; omega, by rw [List.take_append_of_le_length (by rw [Hp.rcs_len]; omega), List.take_of_length_le (by rw [Hp.rcs_len]; omega)]⟩⟩
theorem Hp.Own.blk {w : World} {base : Nat} {v : Value} {l : List (Int × Int × Int × Int)} (h : Hp.Own w base v l) : (l = [] ∧ v = .slice none 0 0) ∨ ∃ g cap rest, v = .slice (some ⟨g, 0, none⟩) l.length cap ∧ base ≤ g ∧ Hp.Blk w g l rest ∧ cap * 4 = l.length * 4 + rest.length ∧ cap ≤ maxLen := by
  rcases h.2 with ⟨hv, h0⟩ | ⟨g, cap, cur, hv, hg, hc, hn, hm, hs, ht⟩
  · exact Or.inl ⟨List.length_eq_zero_iff.1 h0, hv⟩
  · refine Or.inr ⟨g, cap, cur.toList.drop (l.length * 4), hv, hg, ?_, ?_, hm⟩
    · unfold Hp.Blk
      rw [hc, ← ht, List.take_append_drop]
    · have hsz : cur.toList.length = cap * 4 := by rw [← hs]; simp
      rw [List.length_drop, hsz]; omega
theorem Hp.Own.at {w : World} {base : Nat} {v : Value} {l : List (Int × Int × Int × Int)} (h : Hp.Own w base v l) : ∃ p c, v = .slice p l.length c ∧ Hp.At w p l := by
  rcases h.blk with ⟨h0, hv⟩ | ⟨g, cap, rest, hv, _, hB, _⟩
  · exact ⟨none, 0, by rw [hv, h0]; rfl, Or.inl h0⟩
  · exact ⟨_, _, hv, hB.at⟩
theorem Hp.Own.mono {w : World} {base base' : Nat} {v : Value} {l : List (Int × Int × Int × Int)} (h : Hp.Own w base v l) (hb : base' ≤ base) : Hp.Own w base' v l := by
  refine ⟨h.1, ?_⟩
  rcases h.2 with h2 | ⟨g, cap, cur, hv, hg, r⟩
  · exact Or.inl h2
  · exact Or.inr ⟨g, cap, cur, hv, by omega, r⟩
theorem Hp.Own.below {w w' : World} {base : Nat} {v : Value} {l : List (Int × Int × Int × Int)} (h : Hp.Own w base v l) (hb : Below w.heap.size w w') : Hp.Own w' base v l :=
  World.ownsRow.kept (row := none) h ⟨hb.os, hb.tape, hb.output, hb.size, fun k hk _ => hb.block k hk⟩ (Classical.em _)
theorem Hp.Own.lt {w : World} {base : Nat} {v : Value} {l : List (Int × Int × Int × Int)} (h : Hp.Own w base v l) : ∀ k, v.ownBlock = some k → base ≤ k ∧ k < w.heap.size := World.ownsRow.lt h
theorem hp_new (w : World) (o : Obj) : (w.alloc o).heap[w.heap.size]? = some o := by
  show (w.heap.push o)[w.heap.size]? = _
  simp
theorem hp_past (w : World) (o : Obj) (n : Nat) (h : n < w.heap.size) : (w.alloc o).heap[n]? = w.heap[n]? := by
  show (w.heap.push o)[n]? = _
  rw [Array.getElem?_push, if_neg (by omega)]
theorem hp_box (w : World) (o : Obj) : Below w.heap.size w (w.alloc o) := (Below.refl _ _).alloc (Nat.le_refl _) o
theorem hp_then {w0 w1 w2 : World} {B : Nat} (h1 : Below B w0 w1) (h2 : Below w1.heap.size w1 w2) (hB : B ≤ w1.heap.size) : Below B w0 w2 := h1.trans (h2.mono hB)
theorem infoTimer : ∃ i, Try.prog.info? 29 = some i ∧ i.zero = some (.agg #[.int .i64 0, .int .i64 0, .int .u8 0, .int .i64 0]) ∧ i.size = 4 ∧ i.bytes = 32 := info_parts (by kernel_rfl)
/-- A box of one timer. -/
theorem Hp.box {w : World} {g : Nat} {a b c d : Value} {t : TypeId} (h : w.heap[g]? = some (.cells #[a, b, c, d] t (0, 0))) : w.cell? ⟨g, 0, none⟩ = some a ∧ w.cell? ⟨g, 1, none⟩ = some b ∧ w.cell? ⟨g, 2, none⟩ = some c ∧ w.cell? ⟨g, 3, none⟩ = some d := by
  refine ⟨?_, ?_, ?_, ?_⟩ <;> (rw [Lib.cell_of_heap h]; rfl)
theorem Hp.boxed {w : World} {g : Nat} {x : Int × Int × Int × Int} {t : TypeId} (h : w.heap[g]? = some (.cells #[.int .i64 x.1, .int .i64 x.2.1, .int .u8 x.2.2.1, .int .i64 x.2.2.2] t (0, 0))) : Hp.At1 w g 0 x := by
  obtain ⟨a, b, c, d⟩ := Hp.box h
  exact ⟨a, b, c, d⟩
end Go.Proofs.Ytlbifinkjghgaaa
