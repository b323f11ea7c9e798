
/-
  Plain mathematics of the wire's lists: their bytes, and what is got of bytes. No condition but those that the theorems state.
-/
import Derived.Test.YtlbifinkjghgaaaPlainTwo
namespace Go.Proofs.Ytlbifinkjghgaaa.Wp

/-- Lists' bytes. -/
def flat {α : Type} (f : α → List UInt8) (l : List α) : List UInt8 := (l.map f).flatten
def listB {α : Type} (f : α → List UInt8) (l : List α) : List UInt8 := numB l.length ++ flat f l
theorem flat_snoc {α : Type} (f : α → List UInt8) (l : List α) (k : Nat) (h : k < l.length) : flat f (l.take (k + 1)) = flat f (l.take k) ++ f l[k] := by
  simp only [flat]
  rw [List.take_succ_eq_append_getElem h, List.map_append, List.flatten_append]
  simp only [List.map_cons, List.map_nil, List.flatten_cons, List.flatten_nil, List.append_nil]
theorem flat_len {α : Type} (f : α → List UInt8) (c : Nat) (l : List α) (h : ∀ x ∈ l, (f x).length ≤ c) : (flat f l).length ≤ l.length * c := by
  induction l with
  | nil => simp [flat]
  | cons a l ih =>
    have h1 := h a (by simp)
    have h2 := ih (fun x hx => h x (by simp [hx]))
    simp only [flat, List.map_cons, List.flatten_cons, List.length_append, List.length_cons] at *
    rw [Nat.succ_mul]
    omega
def textBs (s : ByteArray) : List UInt8 := textB s.data.toList
/-- n parts that bytes begin with, each by g. -/
def getAll {α : Type} (g : List UInt8 → α × List UInt8 × Int) : Nat → List UInt8 → List α × List UInt8 × Int
  | 0, s => ([], s, 0)
  | n + 1, s => if (g s).2.2 ≠ 0 then ([], [], (g s).2.2) else if (getAll g n (g s).2.1).2.2 ≠ 0 then ([], [], (getAll g n (g s).2.1).2.2) else ((g s).1 :: (getAll g n (g s).2.1).1, (getAll g n (g s).2.1).2.1, 0)
def getList {α : Type} (g : List UInt8 → α × List UInt8 × Int) (s : List UInt8) : List α × List UInt8 × Int :=
  if (cutLen s 1024).2.2 ≠ 0 then ([], [], (cutLen s 1024).2.2) else getAll g (cutLen s 1024).1.toNat (cutLen s 1024).2.1
/-- What is got in the end, where acc is got already. -/
def fin {α : Type} (acc : List α) (q : List α × List UInt8 × Int) : List α × List UInt8 × Int := if q.2.2 ≠ 0 then ([], [], q.2.2) else (acc ++ q.1, q.2.1, 0)
theorem getAll_bad {α : Type} (g : List UInt8 → α × List UInt8 × Int) (n : Nat) (s : List UInt8) (h : (getAll g n s).2.2 ≠ 0) : getAll g n s = ([], [], (getAll g n s).2.2) := by
  cases n with
  | zero => exact absurd rfl h
  | succ n =>
    rcases hg : g s with ⟨x, r, e⟩
    rcases hq : getAll g n r with ⟨xs, q, e2⟩
    simp only [getAll, hg, hq] at h ⊢
    by_cases c : e = 0
    · subst c
      rw [if_neg (by simp)] at h ⊢
      by_cases c2 : e2 = 0
      · subst c2
        rw [if_neg (by simp)] at h
        exact absurd rfl h
      · rw [if_pos c2]
    · rw [if_pos c]
theorem fin_nil {α : Type} (g : List UInt8 → α × List UInt8 × Int) (n : Nat) (s : List UInt8) : fin [] (getAll g n s) = getAll g n s := by
  by_cases h : (getAll g n s).2.2 = 0
  · rcases hq : getAll g n s with ⟨xs, q, e⟩
    rw [hq] at h
    simp only [] at h
    subst h
    simp [fin]
  · have hb := getAll_bad g n s h
    unfold fin
    rw [if_pos h]
    exact hb.symm
theorem fin_step {α : Type} (g : List UInt8 → α × List UInt8 × Int) (acc : List α) (n : Nat) (s r : List UInt8) (x : α) (h : g s = (x, r, 0)) : fin (acc ++ [x]) (getAll g n r) = fin acc (getAll g (n + 1) s) := by
  rcases hq : getAll g n r with ⟨xs, q, e⟩
  simp only [getAll, h, hq]
  rw [if_neg (by simp)]
  by_cases c : e = 0
  · subst c
    simp [fin]
  · rw [if_pos c]
    simp [fin, c]
theorem fin_bad {α : Type} (g : List UInt8 → α × List UInt8 × Int) (acc : List α) (n : Nat) (s r : List UInt8) (x : α) (e : Int) (h : g s = (x, r, e)) (he : e ≠ 0) : fin acc (getAll g (n + 1) s) = ([], [], e) := by
  simp only [getAll, h]
  rw [if_pos he]
  simp [fin, he]
/-- A text's getter, its text as a value. -/
def getT (s : List UInt8) : ByteArray × List UInt8 × Int := (B (getText s).1, (getText s).2.1, (getText s).2.2)
end Go.Proofs.Ytlbifinkjghgaaa.Wp
