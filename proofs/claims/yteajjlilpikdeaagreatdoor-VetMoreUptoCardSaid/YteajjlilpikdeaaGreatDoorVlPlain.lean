
/-
  Values as plain data: what is right, how many parts, what is a name. No condition.
-/
import Derived.Test.YteajjlilpikdeaaGreatDoorPlain
namespace Go.Proofs.YteajjlilpikdeaaGreatDoor

/-- A value: its kind, its text, its number, its items, its names. -/
inductive Vl.V where
  | mk (kind : Nat) (text : ByteArray) (num : Int) (items : List Vl.V) (names : List ByteArray)
namespace Vl
def V.kind : V → Nat | .mk k _ _ _ _ => k
def V.text : V → ByteArray | .mk _ t _ _ _ => t
def V.num : V → Int | .mk _ _ n _ _ => n
def V.items : V → List V | .mk _ _ _ l _ => l
def V.names : V → List ByteArray | .mk _ _ _ _ l => l
theorem V.eta : ∀ v : V, v = .mk v.kind v.text v.num v.items v.names | .mk _ _ _ _ _ => rfl
def zero : V := .mk 0 ⟨#[]⟩ 0 [] []

/-- A name's byte: the first one, another one. -/
def low (b : UInt8) : Bool := decide (97 ≤ b.toNat) && decide (b.toNat ≤ 122)
def dig (b : UInt8) : Bool := decide (48 ≤ b.toNat) && decide (b.toNat ≤ 57)
def fol (b : UInt8) : Bool := low b || dig b || b == 95
def headLow : List UInt8 → Bool
  | [] => false
  | a :: _ => low a
def nameL (l : List UInt8) : Bool := decide (l.length ≤ 32) && headLow l && l.all fol
def named (s : ByteArray) : Bool := nameL s.data.toList
def nameC (s : ByteArray) : Int := if named s then 0 else 13
/-- Bytes are ahead of others. -/
def ltB (a b : ByteArray) : Bool := Op.bytesLess a.toList b.toList
def upB (a x : ByteArray) : Bool := !(Op.bytesLess x.toList a.toList || x.toList == a.toList)
def rise : ByteArray → List ByteArray → Bool
  | _, [] => true
  | a, x :: l => named x && upB a x && rise x l
def namesOk (l : List ByteArray) : Bool := rise ⟨#[]⟩ l
/-- What a value by itself is to have. -/
def leafC (k : Nat) (t : ByteArray) (n : Int) (ni : Nat) (names : List ByteArray) : Bool :=
  match k with
  | 1 => decide (t.size ≤ 4096) && decide (n = 0) && decide (ni = 0) && decide (names.length = 0)
  | 2 => decide (t.size = 0) && decide (ni = 0) && decide (names.length = 0)
  | 3 => (decide (n = 0) || decide (n = 1)) && (decide (t.size = 0) && decide (ni = 0) && decide (names.length = 0))
  | 4 => decide (t.size = 0) && decide (n = 0) && decide (names.length = 0)
  | 5 => decide (t.size = 0) && decide (n = 0) && decide (names.length = ni) && namesOk names
  | _ => false
def leaf (v : V) : Bool := leafC v.kind v.text v.num v.items.length v.names
/-- Right, of so many levels. -/
def okV : Nat → V → Bool
  | 0, _ => false
  | l + 1, v => leaf v && v.items.all (okV l)
mutual
/-- How many parts. -/
def V.cnt : V → Nat
  | .mk _ _ _ l _ => cntL l + 1
def cntL : List V → Nat
  | [] => 0
  | x :: l => x.cnt + cntL l
end
theorem V.cnt_eq : ∀ v : V, v.cnt = cntL v.items + 1 | .mk _ _ _ _ _ => by rw [V.cnt]; rfl
theorem V.cnt_pos (v : V) : 1 ≤ v.cnt := by rw [V.cnt_eq]; omega
theorem cntL_cons (x : V) (l : List V) : cntL (x :: l) = x.cnt + cntL l := by rw [cntL]
theorem cntL_nil : cntL [] = 0 := by rw [cntL]
theorem cntL_append (a b : List V) : cntL (a ++ b) = cntL a + cntL b := by
  induction a with
  | nil => rw [List.nil_append, cntL_nil, Nat.zero_add]
  | cons x a ih => rw [List.cons_append, cntL_cons, cntL_cons, ih, Nat.add_assoc]
theorem cntL_len (l : List V) : l.length ≤ cntL l := by
  induction l with
  | nil => simp
  | cons x l ih => rw [cntL_cons, List.length_cons]; have := x.cnt_pos; omega
theorem cntL_mem {x : V} {l : List V} (h : x ∈ l) : x.cnt ≤ cntL l := by
  induction l with
  | nil => simp at h
  | cons y l ih =>
    rw [cntL_cons]
    rcases List.mem_cons.1 h with rfl | h
    · omega
    · have := ih h; omega
def good (v : V) : Bool := okV 8 v && decide (v.cnt ≤ 256)
def chk (v : V) : Int := if good v then 0 else 2

/-- Right, and what room is left: as it is gone through. -/
def goAll (f : V → Int → Bool × Int) : List V → Int → Bool × Int
  | [], r => (true, r)
  | x :: l, r => match f x r with
    | (true, r') => goAll f l r'
    | (false, r') => (false, r')
def go : Nat → V → Int → Bool × Int
  | 0, _, r => (false, r - 1)
  | l + 1, v, r => if r - 1 < 0 ∨ (v.items.length : Int) > r - 1 ∨ leaf v = false then (false, r - 1) else goAll (go l) v.items (r - 1)
theorem go_ok : ∀ (l : Nat) (v : V) (r : Int), ((go l v r).1 = true ↔ okV l v = true ∧ (v.cnt : Int) ≤ r) ∧ ((go l v r).1 = true → (go l v r).2 = r - v.cnt)
  | 0, v, r => by simp [go, okV]
  | l + 1, v, r => by
    have ih := go_ok l
    have key : ∀ (m : List V) (r : Int), 0 ≤ r → (((goAll (go l) m r).1 = true ↔ m.all (okV l) = true ∧ (cntL m : Int) ≤ r) ∧ ((goAll (go l) m r).1 = true → (goAll (go l) m r).2 = r - cntL m)) := by
      intro m
      induction m with
      | nil => intro r hr; simp [goAll, cntL_nil, hr]
      | cons x m ihm =>
        intro r hr
        obtain ⟨i1, i2⟩ := ih x r
        rw [goAll]
        rcases hgo : go l x r with ⟨b, r'⟩
        rw [hgo] at i1 i2
        cases b with
        | false =>
          simp only [Bool.false_eq_true, false_iff] at i1 ⊢
          simp only [List.all_cons, Bool.and_eq_true]
          refine ⟨fun h => i1 ⟨h.1.1, ?_⟩, fun h => h.elim⟩
          have := h.2
          rw [cntL_cons] at this
          omega
        | true =>
          have e := i2 rfl
          simp only at e
          obtain ⟨o1, o2⟩ := i1.1 rfl
          subst e
          obtain ⟨k1, k2⟩ := ihm (r - x.cnt) (by omega)
          simp only [List.all_cons, Bool.and_eq_true]
          refine ⟨k1.trans ⟨fun h => ⟨⟨o1, h.1⟩, ?_⟩, fun h => ⟨h.1.2, ?_⟩⟩, fun h => ?_⟩
          · rw [cntL_cons]; have := h.2; omega
          · have := h.2; rw [cntL_cons] at this; omega
          · rw [k2 h, cntL_cons]; omega
    have hc := v.cnt_eq
    have hlen := cntL_len v.items
    rw [go]
    by_cases h : r - 1 < 0 ∨ (v.items.length : Int) > r - 1 ∨ leaf v = false
    · rw [if_pos h]
      refine ⟨⟨fun h => by simp at h, fun ⟨h1, h2⟩ => ?_⟩, fun h => by simp at h⟩
      exfalso
      rw [okV, Bool.and_eq_true] at h1
      rcases h with h | h | h
      · omega
      · omega
      · rw [h1.1] at h; cases h
    · rw [if_neg h]
      have hlf : leaf v = true := by
        cases hl : leaf v with
        | true => rfl
        | false => exact absurd (Or.inr (Or.inr hl)) h
      obtain ⟨k1, k2⟩ := key v.items (r - 1) (by omega)
      rw [okV, hlf, Bool.true_and]
      refine ⟨k1.trans ⟨fun h => ⟨h.1, by have := h.2; omega⟩, fun h => ⟨h.1, by have := h.2; omega⟩⟩, fun h => ?_⟩
      rw [k2 h]
      omega
theorem go_good (v : V) : (go 8 v 256).1 = good v := by
  have h := (go_ok 8 v 256).1
  unfold good
  rw [Bool.eq_iff_iff, h, Bool.and_eq_true, decide_eq_true_eq]
  exact and_congr Iff.rfl (by omega)
/-- The place of a name. -/
def idx (l : List ByteArray) (s : ByteArray) : Option Nat :=
  match l with
  | [] => none
  | x :: l => if x = s then some 0 else (idx l s).map (· + 1)
/-- What a path finds: none, or a value. -/
def find : V → List ByteArray → Option V
  | v, [] => some v
  | v, s :: p => match idx v.names s with
    | none => none
    | some i => match v.items[i]? with
      | none => none
      | some x => find x p
end Vl
end Go.Proofs.YteajjlilpikdeaaGreatDoor
