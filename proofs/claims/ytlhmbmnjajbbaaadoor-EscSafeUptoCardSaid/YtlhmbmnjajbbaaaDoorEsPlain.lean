
/-
  Plain mathematics of layer 13 (esc): a text for a note, for a mail and for a short text, and back. No condition but those that the theorems state.
-/
import Derived.Test.YtlhmbmnjajbbaaaDoorPlain
namespace Go.Proofs.YtlhmbmnjajbbaaaDoor.Es

/-- A hexadecimal digit of a number below 16. -/
def hexB (n : Nat) : UInt8 := UInt8.ofNat (if n < 10 then 48 + n else 87 + n)
/-- A byte for a note. -/
def pushN (n : Nat) : List UInt8 :=
  if n = 10 then [92, 110] else if n = 9 then [92, 116]
  else if n < 32 ∨ n = 127 then [92, 117, 48, 48, hexB (n / 16), hexB (n % 16)]
  else if n = 34 ∨ n = 92 then [92, UInt8.ofNat n] else [UInt8.ofNat n]
/-- How a byte stands in a mail; empty, if as it is. -/
def nameN (n : Nat) : List UInt8 :=
  if n = 38 then [38, 97, 109, 112, 59] else if n = 60 then [38, 108, 116, 59] else if n = 62 then [38, 103, 116, 59]
  else if n = 34 then [38, 113, 117, 111, 116, 59] else if n = 39 then [38, 35, 51, 57, 59] else []
def mailN (n : Nat) : List UInt8 := if nameN n = [] then [UInt8.ofNat n] else nameN n
/-- A byte's code: for a mail, or else for a note. -/
def code (m : Bool) (b : UInt8) : List UInt8 := if m then mailN b.toNat else pushN b.toNat
def enc (m : Bool) (l : List UInt8) : List UInt8 := l.flatMap (code m)
/-- A byte of a short text, and whether it is one. -/
def smsB (b : UInt8) : UInt8 := if b = 10 ∨ b = 9 then 32 else b
def plainB (b : UInt8) : Bool := decide (32 ≤ b.toNat) && decide (b.toNat ≤ 126)
def sms : Bool → List UInt8 → List UInt8
  | _, [] => []
  | run, b :: l => (if plainB (smsB b) then [smsB b] else if run then [] else [63]) ++ sms (!plainB (smsB b)) l
/-- What a hexadecimal digit tells; capital ones, too. -/
def hexV (b : UInt8) : Option Nat :=
  let n := b.toNat
  if 48 ≤ n ∧ n ≤ 57 then some (n - 48) else if 97 ≤ n ∧ n ≤ 102 then some (n - 87) else if 65 ≤ n ∧ n ≤ 70 then some (n - 55) else none
def hex2 (a b : UInt8) : Nat := match hexV a, hexV b with
  | some x, some y => 16 * x + y
  | _, _ => 0
/-- The byte that a note's text begins with, and how many bytes tell it. -/
def firstP : List UInt8 → UInt8 × Nat
  | [] => (0, 1)
  | [a] => (a, 1)
  | a :: b :: r =>
    if a ≠ 92 then (a, 1) else if b = 110 then (10, 2) else if b = 116 then (9, 2)
    else match b, r with
      | 117, 48 :: 48 :: x :: y :: _ => (UInt8.ofNat (hex2 x y), 6)
      | b, _ => (b, 2)
/-- Likewise a mail's. -/
def firstM (l : List UInt8) : UInt8 × Nat :=
  if (nameN 38).isPrefixOf l then (38, 5) else if (nameN 60).isPrefixOf l then (60, 4) else if (nameN 62).isPrefixOf l then (62, 4)
  else if (nameN 34).isPrefixOf l then (34, 6) else if (nameN 39).isPrefixOf l then (39, 5) else (l.headD 0, 1)
def first (m : Bool) (l : List UInt8) : UInt8 × Nat := if m then firstM l else firstP l
/-- The bytes that a text tells. -/
def undF (m : Bool) : Nat → List UInt8 → List UInt8
  | 0, _ => []
  | _, [] => []
  | f + 1, a :: l => (first m (a :: l)).1 :: undF m f ((a :: l).drop (first m (a :: l)).2)
def und (m : Bool) (l : List UInt8) : List UInt8 := undF m l.length l

theorem u8_all {P : UInt8 → Prop} (h : ∀ n, n < 256 → P (UInt8.ofNat n)) (b : UInt8) : P b := by
  have := h b.toNat b.toNat_lt
  rwa [UInt8.ofNat_toNat] at this

theorem pushN_of (n : Nat) (h : n < 256) : code false (UInt8.ofNat n) = pushN n := by
  show pushN (UInt8.ofNat n).toNat = _
  rw [UInt8.toNat_ofNat_of_lt' (by show n < 256; exact h)]
theorem mailN_of (n : Nat) (h : n < 256) : code true (UInt8.ofNat n) = mailN n := by
  show mailN (UInt8.ofNat n).toNat = _
  rw [UInt8.toNat_ofNat_of_lt' (by show n < 256; exact h)]

theorem hex_back : ∀ n, n < 256 → UInt8.ofNat (hex2 (hexB (n / 16)) (hexB (n % 16))) = UInt8.ofNat n := by decide +kernel

theorem first_push (n : Nat) (h : n < 256) (r : List UInt8) : firstP (pushN n ++ r) = (UInt8.ofNat n, (pushN n).length) := by
  unfold pushN
  split
  · next e => subst e; rfl
  · split
    · next e => subst e; rfl
    · split
      · have := hex_back n h
        show (UInt8.ofNat (hex2 (hexB (n / 16)) (hexB (n % 16))), 6) = _
        rw [this]; rfl
      · split
        · next e => rcases e with rfl | rfl <;> rfl
        · next h1 h2 h3 h4 =>
          have hne : UInt8.ofNat n ≠ 92 := by
            intro e
            have := congrArg UInt8.toNat e
            rw [UInt8.toNat_ofNat_of_lt' (by show n < 256; exact h)] at this
            simp only [UInt8.reduceToNat] at this
            omega
          cases r with
          | nil => rfl
          | cons b r => show (if UInt8.ofNat n ≠ 92 then (UInt8.ofNat n, 1) else _) = _; rw [if_pos hne]; rfl

theorem first_mail (n : Nat) (h : n < 256) (r : List UInt8) : firstM (mailN n ++ r) = (UInt8.ofNat n, (mailN n).length) := by
  by_cases h1 : n = 38
  · subst h1; simp [mailN, nameN, firstM, List.isPrefixOf]
  by_cases h2 : n = 60
  · subst h2; simp [mailN, nameN, firstM, List.isPrefixOf]
  by_cases h3 : n = 62
  · subst h3; simp [mailN, nameN, firstM, List.isPrefixOf]
  by_cases h4 : n = 34
  · subst h4; simp [mailN, nameN, firstM, List.isPrefixOf]
  by_cases h5 : n = 39
  · subst h5; simp [mailN, nameN, firstM, List.isPrefixOf]
  have e : mailN n = [UInt8.ofNat n] := by simp [mailN, nameN, h1, h2, h3, h4, h5]
  have hne : ((38 : UInt8) == UInt8.ofNat n) = false := by
    rw [beq_eq_false_iff_ne]
    intro e
    have := congrArg UInt8.toNat e
    rw [UInt8.toNat_ofNat_of_lt' (by show n < 256; exact h)] at this
    simp only [UInt8.reduceToNat] at this
    omega
  rw [e]
  simp [nameN, firstM, List.isPrefixOf, hne]

theorem first_code (m : Bool) (b : UInt8) (r : List UInt8) : first m (code m b ++ r) = (b, (code m b).length) := by
  revert b
  refine u8_all fun n hn => ?_
  cases m with
  | false => rw [pushN_of n hn]; exact first_push n hn r
  | true => rw [mailN_of n hn]; exact first_mail n hn r

theorem code_len (m : Bool) (b : UInt8) : 1 ≤ (code m b).length ∧ (code m b).length ≤ 6 := by
  cases m with
  | false => show 1 ≤ (pushN _).length ∧ _; show _ ∧ (pushN _).length ≤ 6; unfold pushN; repeat' split
             all_goals simp
  | true => show 1 ≤ (mailN _).length ∧ _; show _ ∧ (mailN _).length ≤ 6; unfold mailN nameN; repeat' split
            all_goals simp_all
theorem enc_cons (m : Bool) (b : UInt8) (l : List UInt8) : enc m (b :: l) = code m b ++ enc m l := by simp [enc]
theorem enc_append (m : Bool) (a b : List UInt8) : enc m (a ++ b) = enc m a ++ enc m b := by simp [enc]
theorem enc_len (m : Bool) (l : List UInt8) : l.length ≤ (enc m l).length ∧ (enc m l).length ≤ 6 * l.length := by
  induction l with
  | nil => simp [enc]
  | cons b l ih => rw [enc_cons, List.length_append, List.length_cons]; have := code_len m b; omega
theorem code_inj (m : Bool) (a b : UInt8) (r s : List UInt8) (h : code m a ++ r = code m b ++ s) : a = b ∧ r = s := by
  have h1 := first_code m a r
  rw [h, first_code m b s] at h1
  have e : b = a := congrArg Prod.fst h1
  subst e
  exact ⟨rfl, List.append_cancel_left h⟩

theorem undF_enc (m : Bool) : ∀ (l : List UInt8) (f : Nat), (enc m l).length ≤ f → undF m f (enc m l) = l
  | [], f, _ => by cases f <;> rfl
  | b :: l, f, h => by
    rw [enc_cons] at h ⊢
    have h1 := first_code m b (enc m l)
    have hl := code_len m b
    generalize code m b = c at *
    cases c with
    | nil => simp at hl
    | cons a c =>
      cases f with
      | zero => simp at h
      | succ f =>
        show (first m (a :: (c ++ enc m l))).1 :: undF m f ((a :: (c ++ enc m l)).drop (first m (a :: (c ++ enc m l))).2) = _
        rw [show a :: (c ++ enc m l) = (a :: c) ++ enc m l from rfl, h1]
        simp only [List.drop_left']
        rw [undF_enc m l f (by simp only [List.length_append, List.length_cons] at h; omega)]
theorem und_enc (m : Bool) (l : List UInt8) : und m (enc m l) = l := undF_enc m l _ (Nat.le_refl _)
theorem first_pos (m : Bool) (l : List UInt8) : 1 ≤ (first m l).2 := by
  cases m with
  | true => show 1 ≤ (firstM l).2; unfold firstM; repeat' split
            all_goals simp
  | false =>
    show 1 ≤ (firstP l).2
    unfold firstP
    repeat' split
    all_goals simp
theorem undF_more (m : Bool) : ∀ (f g : Nat) (l : List UInt8), l.length ≤ f → l.length ≤ g → undF m f l = undF m g l
  | f, g, [], _, _ => by cases f <;> cases g <;> rfl
  | 0, _, a :: l, h, _ => by simp at h
  | _, 0, a :: l, _, h => by simp at h
  | f + 1, g + 1, a :: l, h1, h2 => by
    have := first_pos m (a :: l)
    show _ :: undF m f _ = _ :: undF m g _
    rw [undF_more m f g _ (by rw [List.length_drop]; omega) (by rw [List.length_drop]; omega)]
theorem und_step (m : Bool) (l : List UInt8) (h : l ≠ []) : und m l = (first m l).1 :: und m (l.drop (first m l).2) := by
  cases l with
  | nil => exact absurd rfl h
  | cons a l =>
    have := first_pos m (a :: l)
    show _ :: undF m l.length _ = _
    rw [und, undF_more m l.length ((a :: l).drop (first m (a :: l)).2).length _ (by rw [List.length_drop, List.length_cons]; omega) (Nat.le_refl _)]
theorem und_nil (m : Bool) : und m [] = [] := rfl

/-- The text that one is for the channel, and its error. -/
def fromR (m : Bool) (l : List UInt8) : List UInt8 × Int := if enc m (und m l) = l then (und m l, 0) else ([], 7)
/-- The document's search of one. -/
def find (m : Bool) (l : List UInt8) : Nat → Nat → Option Nat
  | 0, _ => none
  | f + 1, b => if (code m (UInt8.ofNat b)).isPrefixOf l then some b else find m l f (b + 1)
theorem find_none (m : Bool) (l : List UInt8) : ∀ f b, find m l f b = none → ∀ k, b ≤ k → k < b + f → ¬ (code m (UInt8.ofNat k)).isPrefixOf l
  | 0, b, _, k, h1, h2 => by omega
  | f + 1, b, h, k, h1, h2 => by
    unfold find at h
    split at h
    · cases h
    · next hn =>
      rcases Nat.eq_or_lt_of_le h1 with e | e
      · subst e; exact hn
      · exact find_none m l f (b + 1) h k e (by omega)
theorem find_some (m : Bool) (l : List UInt8) : ∀ f b k, find m l f b = some k → (code m (UInt8.ofNat k)).isPrefixOf l ∧ b ≤ k ∧ k < b + f
  | 0, b, k, h => by cases h
  | f + 1, b, k, h => by
    unfold find at h
    split at h
    · next hp => cases h; exact ⟨hp, by omega, by omega⟩
    · have := find_some m l f (b + 1) k h
      exact ⟨this.1, by omega, by omega⟩
end Go.Proofs.YtlhmbmnjajbbaaaDoor.Es
