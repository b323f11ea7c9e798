/-
  The walks of value's namesRight and fieldsRight: what a value by itself is to have. Conditions: texts and lists are of a size that a machine holds.
  The walks of value's right and Check. Condition: a value's texts and lists are of a size that a machine holds.
-/
import Derived.Test.YteajjlilpikdeaaGreatDoorVlAt
import Derived.Test.YteajjlilpikdeaaGreatDoorVlIndex
import Derived.Test.YteajjlilpikdeaaGreatDoorVlKit
namespace Go.Proofs.YteajjlilpikdeaaGreatDoor
open Go.RowKit

theorem Vl.rise_step (a : ByteArray) (l : List ByteArray) (k : Nat) (h : k < l.length) : Vl.rise a (l.drop k) = (Vl.named l[k] && Vl.upB a l[k] && Vl.rise l[k] (l.drop (k + 1))) := by
  rw [List.drop_eq_getElem_cons h, Vl.rise]
end Go.Proofs.YteajjlilpikdeaaGreatDoor
namespace Go.Proofs.YteajjlilpikdeaaGreatDoor
open Go.RowKit

/-- The room behind so many; whether the next one is wrong. -/
def Vl.sAt (f : Vl.V → Int → Bool × Int) : List Vl.V → Int → Nat → Int
  | _, r, 0 => r
  | [], r, _ + 1 => r
  | x :: l, r, k + 1 => Vl.sAt f l (f x r).2 k
def Vl.pAt (f : Vl.V → Int → Bool × Int) (l : List Vl.V) (r : Int) (k : Nat) : Bool := match l[k]? with
  | none => false
  | some x => !(f x (Vl.sAt f l r k)).1
theorem Vl.sAt_zero (f : Vl.V → Int → Bool × Int) (l : List Vl.V) (r : Int) : Vl.sAt f l r 0 = r := by cases l <;> rfl
theorem Vl.sAt_succ (f : Vl.V → Int → Bool × Int) : ∀ (l : List Vl.V) (r : Int) (k : Nat) (h : k < l.length), Vl.sAt f l r (k + 1) = (f l[k] (Vl.sAt f l r k)).2
  | x :: l, r, 0, _ => by
    show Vl.sAt f l (f x r).2 0 = _
    rw [Vl.sAt_zero, Vl.sAt_zero]
    rfl
  | x :: l, r, k + 1, h => by rw [Vl.sAt, Vl.sAt_succ f l _ k (by simpa using h), Vl.sAt]; rfl
theorem Vl.pAt_get (f : Vl.V → Int → Bool × Int) (l : List Vl.V) (r : Int) (k : Nat) (h : k < l.length) : Vl.pAt f l r k = !(f l[k] (Vl.sAt f l r k)).1 := by
  unfold Vl.pAt
  rw [List.getElem?_eq_getElem h]
theorem Vl.pAt_succ (f : Vl.V → Int → Bool × Int) (x : Vl.V) (l : List Vl.V) (r : Int) (k : Nat) : Vl.pAt f (x :: l) r (k + 1) = Vl.pAt f l (f x r).2 k := by
  unfold Vl.pAt
  rw [List.getElem?_cons_succ, Vl.sAt]
theorem Vl.goAll_hit (f : Vl.V → Int → Bool × Int) : ∀ (l : List Vl.V) (r : Int) (k : Nat), k < l.length → Vl.pAt f l r k = true → (∀ j, j < k → Vl.pAt f l r j = false) → Vl.goAll f l r = (false, Vl.sAt f l r (k + 1))
  | x :: l, r, 0, _, hp, _ => by
    rw [Vl.pAt_get f _ _ 0 (by simp), Vl.sAt_zero] at hp
    rw [Vl.sAt, Vl.sAt_zero, Vl.goAll]
    simp only [List.getElem_cons_zero, Bool.not_eq_true'] at hp
    rcases hx : f x r with ⟨b, r'⟩
    rw [hx] at hp
    cases b
    · rfl
    · cases hp
  | x :: l, r, k + 1, h, hp, hj => by
    have h0 := hj 0 (by omega)
    rw [Vl.pAt_get f _ _ 0 (by simp), Vl.sAt_zero] at h0
    simp only [List.getElem_cons_zero, Bool.not_eq_false'] at h0
    rw [Vl.pAt_succ] at hp
    have ih := Vl.goAll_hit f l (f x r).2 k (by simpa using h) hp (fun j hjk => by have := hj (j + 1) (by omega); rwa [Vl.pAt_succ] at this)
    rw [Vl.sAt, ← ih, Vl.goAll]
    rcases hx : f x r with ⟨b, r'⟩
    rw [hx] at h0
    cases b
    · cases h0
    · rfl
theorem Vl.goAll_all (f : Vl.V → Int → Bool × Int) : ∀ (l : List Vl.V) (r : Int), (∀ j, j < l.length → Vl.pAt f l r j = false) → Vl.goAll f l r = (true, Vl.sAt f l r l.length)
  | [], r, _ => by rw [Vl.goAll, List.length_nil, Vl.sAt_zero]
  | x :: l, r, hj => by
    have h0 := hj 0 (by simp)
    rw [Vl.pAt_get f _ _ 0 (by simp), Vl.sAt_zero] at h0
    simp only [List.getElem_cons_zero, Bool.not_eq_false'] at h0
    have ih := Vl.goAll_all f l (f x r).2 (fun j hjk => by have := hj (j + 1) (by simpa using hjk); rwa [Vl.pAt_succ] at this)
    rw [List.length_cons, Vl.sAt, ← ih, Vl.goAll]
    rcases hx : f x r with ⟨b, r'⟩
    rw [hx] at h0
    cases b
    · cases h0
    · rfl
theorem Vl.sAt_bd (m : Nat) : ∀ (l : List Vl.V) (r : Int) (k : Nat), 0 ≤ r → k ≤ l.length → (∀ j, j < k → Vl.pAt (Vl.go m) l r j = false) → 0 ≤ Vl.sAt (Vl.go m) l r k ∧ Vl.sAt (Vl.go m) l r k ≤ r
  | l, r, 0, h, _, _ => by rw [Vl.sAt_zero]; omega
  | [], r, k + 1, _, h, _ => by simp at h
  | x :: l, r, k + 1, h, hk, hj => by
    have h0 := hj 0 (by omega)
    rw [Vl.pAt_get _ _ _ 0 (by simp), Vl.sAt_zero] at h0
    simp only [List.getElem_cons_zero, Bool.not_eq_false'] at h0
    obtain ⟨o1, o2⟩ := Vl.go_ok m x r
    have e := o2 h0
    have hc := (o1.1 h0).2
    have ih := Vl.sAt_bd m l (Vl.go m x r).2 k (by omega) (by simpa using hk) (fun j hjk => by have := hj (j + 1) (by omega); rwa [Vl.pAt_succ] at this)
    rw [Vl.sAt]
    omega
/-- The post of right: what is handed back, and what room is left. -/
def Vl.RightPost (l : Nat) (x : Vl.V) (r : Int) (g : Nat) (w : World) (e : Ending) (w' : World) : Prop :=
  e = .returned (.bool (Vl.go l x r).1) ∧ w.grownBy w' (some g) ∧ w'.heap[g]? = some (.cells #[.int .i64 (Vl.go l x r).2] 3 (0, 0))
/-- What is known of each item. -/
def Vl.G (d : Nat) (w0 : World) (items : List Vl.V) (i : Nat) (v : Value) : Prop := ∃ y, items[i]? = some y ∧ Vl.At d w0 v y
theorem Vl.rowIs {d : Nat} {w0 : World} {pi : Option Addr} {items : List Vl.V} (hi : items = [] ∨ ∃ b off, pi = some ⟨b, off, none⟩ ∧ ∀ i (h : i < items.length), ∃ c0 c1 c2 c3 c4, Vl.Five w0 b (off + i * 5) c0 c1 c2 c3 c4 ∧ Vl.At d w0 (.agg #[c0, c1, c2, c3, c4]) items[i])
    (W : World) (hb : Below w0.heap.size w0 W) : Vl.RowIs W pi items.length (Vl.G d w0 items) := by
  intro i h
  rcases hi with hi | ⟨b, off, hp, hc⟩
  · subst hi; simp at h
  · obtain ⟨c0, c1, c2, c3, c4, h5, ha⟩ := hc i h
    exact ⟨b, off, c0, c1, c2, c3, c4, hp, h5.below hb, items[i], List.getElem?_eq_getElem h, ha⟩
end Go.Proofs.YteajjlilpikdeaaGreatDoor
