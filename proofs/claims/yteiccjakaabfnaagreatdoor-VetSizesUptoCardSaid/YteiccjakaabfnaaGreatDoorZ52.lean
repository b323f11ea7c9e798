/-
  Plain mathematics of the wire: a number's bytes, the number that bytes begin with, and that each is the other's inverse. No condition but those that the theorems state.
  A law's last step, once for all laws: where the call has handed back true and nothing that lay below its own blocks has turned, the row's promise is met. Condition: the parameters' types can be read as data.
  What a slice's value reads as, a Builder's contents, and a slice that a call has made, kept where only new memory has come. No condition but those that the theorems state.
  What a law's slice of texts reads as, opened for the walks. No condition but the form's own reach.
-/
import GoSem.ClaimJoined
import Derived.Test.YteiccjakaabfnaaGreatDoorRows
import Derived.ProofKit
import Derived.OpenShut
import Derived.Below
import Derived.ChangeSame
import Derived.SizedLaws
import Derived.WideKeyArgs
import Derived.Test.YteiccjakaabfnaaGreatDoorProg
import Derived.WalkKit
import Derived.WalkSpells
import Derived.WalkLawsBesides
import Derived.Lib.Hide
import Derived.Lib.Strings
import Derived.Shelf.Strings.Builder1
import Derived.SliceStrings
namespace Go.Proofs.YteiccjakaabfnaaGreatDoor.Wp

/-- The digits of m to the base 256, the highest first, at most f of them. -/
def beF : Nat → Nat → List UInt8
  | 0, _ => []
  | f + 1, m => if m = 0 then [] else beF f (m / 256) ++ [UInt8.ofNat m]
def be (m : Nat) : List UInt8 := beF 8 m
/-- The number that digits are. -/
def val (l : List UInt8) : Nat := l.foldl (fun a b => 256 * a + b.toNat) 0
/-- A number's bytes. -/
def head (n : Int) : Nat := (if n < 0 then 128 else 0) + (be n.natAbs).length
def numB (n : Int) : List UInt8 := UInt8.ofNat (head n) :: be n.natAbs

theorem val_snoc (l : List UInt8) (b : UInt8) : val (l ++ [b]) = 256 * val l + b.toNat := by
  simp [val, List.foldl_append]

theorem beF_zero (f : Nat) : beF f 0 = [] := by cases f <;> simp [beF]

theorem beF_length (f m : Nat) : (beF f m).length ≤ f := by
  induction f generalizing m with
  | zero => simp [beF]
  | succ f ih =>
    simp only [beF]
    split
    · simp
    · simp only [List.length_append, List.length_singleton]; have := ih (m / 256); omega

theorem be_length (m : Nat) : (be m).length ≤ 8 := beF_length 8 m

theorem val_beF (f m : Nat) (h : m < 256 ^ f) : val (beF f m) = m := by
  induction f generalizing m with
  | zero => simp at h; subst h; rfl
  | succ f ih =>
    simp only [beF]
    split
    · next h0 => subst h0; rfl
    · rw [val_snoc, ih (m / 256) (by rw [Nat.pow_succ] at h; omega)]
      simp only [UInt8.toNat_ofNat']
      omega

theorem val_be (m : Nat) (h : m < 2 ^ 64) : val (be m) = m := val_beF 8 m (by simpa using h)

/-- Digits begin with 0 never. -/
theorem beF_head (f m : Nat) (h : m < 256 ^ f) : ∀ b t, beF f m = b :: t → b ≠ 0 := by
  induction f generalizing m with
  | zero => intro b t e; simp [beF] at e
  | succ f ih =>
    intro b t e
    simp only [beF] at e
    split at e
    · simp at e
    · next h0 =>
      have hm : m / 256 < 256 ^ f := by rw [Nat.pow_succ] at h; omega
      cases hb : beF f (m / 256) with
      | nil =>
        rw [hb] at e
        simp only [List.nil_append, List.cons.injEq] at e
        obtain ⟨rfl, rfl⟩ := e
        have hv := val_beF f (m / 256) hm
        rw [hb] at hv
        have : m / 256 = 0 := by rw [← hv]; rfl
        intro hc
        have := congrArg UInt8.toNat hc
        simp only [UInt8.toNat_ofNat', UInt8.toNat_zero] at this
        omega
      | cons c r =>
        rw [hb] at e
        simp only [List.cons_append, List.cons.injEq] at e
        obtain ⟨rfl, rfl⟩ := e
        exact ih _ hm _ _ hb

theorem val_cons_pos (l : List UInt8) (b : UInt8) (hb : b ≠ 0) : val (b :: l) ≠ 0 := by
  have gen : ∀ (l : List UInt8) (a : Nat), a ≠ 0 → l.foldl (fun a b => 256 * a + b.toNat) a ≠ 0 := by
    intro l
    induction l with
    | nil => intro a h; exact h
    | cons c r ih => intro a h; exact ih _ (by simp only []; omega)
  refine gen l _ ?_
  intro h
  apply hb
  apply UInt8.toNat_inj.1
  simp only [UInt8.toNat_zero]
  simp only [] at h
  omega

/-- Digits that do not begin with 0 are those of their number. -/
theorem beF_val (l : List UInt8) : ∀ f, l.length ≤ f → (∀ b t, l = b :: t → b ≠ 0) → beF f (val l) = l := by
  have key : ∀ (r : List UInt8) f, r.length ≤ f → (∀ b t, r.reverse = b :: t → b ≠ 0) → beF f (val r.reverse) = r.reverse := by
    intro r
    induction r with
    | nil => intro f _ _; exact beF_zero f
    | cons b r ih =>
      intro f hf hh
      cases f with
      | zero => simp at hf
      | succ f =>
        simp only [List.reverse_cons] at hh ⊢
        have hr : beF f (val r.reverse) = r.reverse := by
          refine ih f (by simpa using hf) ?_
          intro c t e
          exact hh c (t ++ [b]) (by rw [e]; rfl)
        rw [val_snoc]
        simp only [beF]
        have hb := b.toNat_lt
        have h0 : ¬ (256 * val r.reverse + b.toNat = 0) := by
          rw [← val_snoc]
          cases hrr : r.reverse with
          | nil =>
            exact val_cons_pos [] b (hh b [] (by rw [hrr]; rfl))
          | cons c t =>
            exact val_cons_pos (t ++ [b]) c (hh c (t ++ [b]) (by rw [hrr]; rfl))
        rw [if_neg h0]
        rw [show (256 * val r.reverse + b.toNat) / 256 = val r.reverse by omega, hr]
        congr 2
        apply UInt8.toNat_inj.1
        simp only [UInt8.toNat_ofNat']
        omega
  intro f hf hh
  have := key l.reverse f (by simpa using hf) (by simpa using hh)
  simpa using this

theorem val_lt (l : List UInt8) : val l < 256 ^ l.length := by
  have key : ∀ r : List UInt8, val r.reverse < 256 ^ r.length := by
    intro r
    induction r with
    | nil => simp [val]
    | cons b r ih =>
      simp only [List.reverse_cons, List.length_cons]
      rw [val_snoc, Nat.pow_succ]
      have := b.toNat_lt
      omega
  have := key l.reverse
  simpa using this

/-- Is m a magnitude of that sign? -/
def okMag (below : Bool) (m : List UInt8) : Bool :=
  match m with
  | [] => !below
  | h :: _ => decide (h ≠ 0) && (if below then decide (val m ≤ 9223372036854775808) else decide (val m < 9223372036854775808))
def signed (below : Bool) (m : Nat) : Int := if below then -(m : Int) else m
/-- The number that bytes begin with, what is behind it, and why there is none. -/
def getNum (s : List UInt8) : Int × List UInt8 × Int :=
  match s with
  | [] => (0, [], 5)
  | h :: t =>
    if 8 < h.toNat % 128 then (0, [], 7)
    else if t.length < h.toNat % 128 then (0, [], 5)
    else if okMag (decide (128 ≤ h.toNat)) (t.take (h.toNat % 128)) then (signed (decide (128 ≤ h.toNat)) (val (t.take (h.toNat % 128))), t.drop (h.toNat % 128), 0)
    else (0, [], 7)

def I64 (n : Int) : Prop := -9223372036854775808 ≤ n ∧ n ≤ 9223372036854775807

theorem head_lt (n : Int) : head n < 256 := by have := be_length n.natAbs; unfold head; split <;> omega

theorem getNum_numB (n : Int) (hn : I64 n) (s : List UInt8) : getNum (numB n ++ s) = (n, s, 0) := by
  obtain ⟨h1, h2⟩ := hn
  have hl := be_length n.natAbs
  have hv := val_be n.natAbs (by omega)
  have hh := beF_head 8 n.natAbs (by omega)
  have hh2 : ∀ b t, be n.natAbs = b :: t → b ≠ 0 := hh
  have e1 : (UInt8.ofNat (head n)).toNat = head n := by
    have := head_lt n
    simp only [UInt8.toNat_ofNat']; omega
  unfold numB getNum
  simp only [List.cons_append, e1]
  have e2 : head n % 128 = (be n.natAbs).length := by unfold head; split <;> omega
  have e3 : decide (128 ≤ head n) = decide (n < 0) := by
    unfold head; rw [decide_eq_decide]; split <;> omega
  simp only [e2, e3]
  rw [if_neg (by omega), if_neg (by simp), List.take_left' rfl, List.drop_left' rfl]
  have ok : okMag (decide (n < 0)) (be n.natAbs) = true := by
    unfold okMag
    split
    · next hb =>
      rw [hb] at hv
      have : n.natAbs = 0 := by rw [← hv]; rfl
      simp; omega
    · next b t hb =>
      rw [hv]
      simp only [Bool.and_eq_true, decide_eq_true_eq]
      refine ⟨hh2 b t hb, ?_⟩
      split
      · simp; omega
      · next hs => simp at hs; simp; omega
  rw [if_pos ok, hv]
  congr 1
  unfold signed
  by_cases h : n < 0
  · simp [h]; omega
  · simp [h]; omega

theorem getNum_ok (s : List UInt8) (h : (getNum s).2.2 = 0) : numB (getNum s).1 ++ (getNum s).2.1 = s ∧ I64 (getNum s).1 := by
  unfold getNum at h ⊢
  split at h
  · simp at h
  · next b t =>
    split at h
    · simp at h
    · next h8 =>
      split at h
      · simp at h
      · next hlen =>
        split at h
        · next hok =>
          rw [if_neg h8, if_neg hlen, if_pos hok]
          have hb := b.toNat_lt
          generalize hk : b.toNat % 128 = k at *
          have htl : (t.take k).length = k := by simp; omega
          generalize hm : t.take k = m at *
          have hmt : m ++ t.drop k = t := by rw [← hm]; exact List.take_append_drop k t
          have hhd : ∀ c r, m = c :: r → c ≠ 0 := by
            intro c r e; subst e; simp [okMag] at hok; exact hok.1
          have hbe : be (val m) = m := beF_val m 8 (by omega) hhd
          have hab : (signed (decide (128 ≤ b.toNat)) (val m)).natAbs = val m := by unfold signed; split <;> omega
          have hneg : (signed (decide (128 ≤ b.toNat)) (val m) < 0) ↔ 128 ≤ b.toNat := by
            unfold signed
            by_cases h : 128 ≤ b.toNat
            · have : val m ≠ 0 := by
                cases hmm : m with
                | nil => rw [hmm] at hok; simp [okMag, h] at hok
                | cons c r => exact val_cons_pos r c (hhd c r hmm)
              simp [h]; omega
            · simp [h]; try omega
          refine ⟨?_, ?_⟩
          · unfold numB
            rw [hab, hbe]
            simp only [List.cons_append, hmt]
            congr 1
            apply UInt8.toNat_inj.1
            unfold head
            rw [hab, hbe, htl]
            simp only [UInt8.toNat_ofNat']
            by_cases h : 128 ≤ b.toNat
            · rw [if_pos (hneg.2 h)]; omega
            · rw [if_neg (fun c => h (hneg.1 c))]; omega
          · unfold I64 signed
            unfold okMag at hok
            split at hok
            · simp [val]
            · simp only [Bool.and_eq_true] at hok
              have h2 := hok.2
              split at h2 <;> simp_all <;> omega
        · simp at h

theorem getNum_bad (s : List UInt8) (h : (getNum s).2.2 ≠ 0) : (getNum s).1 = 0 ∧ (getNum s).2.1 = [] := by
  unfold getNum at h ⊢
  split
  · simp
  · next b t =>
    simp only [] at h ⊢
    repeat' split
    all_goals simp_all

/-- Of two numbers none's bytes begin the other's, but their own. -/
theorem numB_apart (a b : Int) (ha : I64 a) (hb : I64 b) (h : (numB b).take (numB a).length = numB a) : a = b := by
  have e1 : numB a ++ (numB b).drop (numB a).length = numB b := by
    have := List.take_append_drop (numB a).length (numB b)
    rw [h] at this; exact this
  have e2 := getNum_numB a ha ((numB b).drop (numB a).length)
  rw [e1] at e2
  have e3 := getNum_numB b hb []
  rw [List.append_nil, e2] at e3
  exact (Prod.mk.inj e3).1

/-- A text of those bytes. -/
def B (l : List UInt8) : ByteArray := ⟨l.toArray⟩
theorem B_data (l : List UInt8) : (B l).data.toList = l := rfl
theorem B_size (l : List UInt8) : (B l).size = l.length := by simp [B, ByteArray.size]
theorem B_of (s : ByteArray) : B s.data.toList = s := by cases s; rfl
theorem B_inj {a b : List UInt8} (h : B a = B b) : a = b := by rw [← B_data a, h, B_data]
theorem size_len (s : ByteArray) : s.size = s.data.toList.length := by rw [Array.length_toList]; rfl
theorem data_append (a b : ByteArray) : (a ++ b).data.toList = a.data.toList ++ b.data.toList := by simp [ByteArray.data_append]
theorem B_append (a : List UInt8) (s : ByteArray) : B a ++ s = B (a ++ s.data.toList) := by
  rw [← B_of (B a ++ s), data_append, B_data]
theorem data_extract (s : ByteArray) (a b : Nat) : (s.extract a b).data.toList = (s.data.toList.drop a).take (b - a) := by
  simp [ByteArray.data_extract, List.extract_eq_take_drop]
theorem extract_B (s : ByteArray) (a b : Nat) : s.extract a b = B ((s.data.toList.drop a).take (b - a)) := by
  rw [← B_of (s.extract a b), data_extract]
theorem getElem_data (s : ByteArray) (k : Nat) (hk : k < s.size) : s.data.toList[k]'(by rw [← size_len]; exact hk) = s[k] := by
  simp [ByteArray.getElem_eq_getElem_data]
theorem take_snoc (s : ByteArray) (k : Nat) (h : k < s.size) : s.data.toList.take (k + 1) = s.data.toList.take k ++ [s[k]] := by
  rw [List.take_succ_eq_append_getElem (by rw [← size_len]; exact h), getElem_data s k h]
theorem cons_of (s : ByteArray) (h : 0 < s.size) : s.data.toList = s[0] :: s.data.toList.drop 1 := by
  have h' : 0 < s.data.toList.length := by rw [← size_len]; exact h
  have e := List.drop_eq_getElem_cons h'
  rw [List.drop_zero] at e
  rw [e, getElem_data s 0 h]
  simp
def gn (s : ByteArray) : Int × List UInt8 × Int := getNum s.data.toList
theorem gn_empty (s : ByteArray) (h : s.size = 0) : gn s = (0, [], 5) := by
  have hd : s.data.toList = [] := by rw [← List.length_eq_zero_iff, ← size_len]; exact h
  rw [gn, hd]; rfl
theorem gn_eq (s : ByteArray) (h : 0 < s.size) (k : Nat) (hk : s[0].toNat % 128 = k) (b : Bool) (hb : decide (128 ≤ s[0].toNat) = b) (mg : ByteArray) (hm : mg = s.extract 1 (1 + k)) :
    gn s = if 8 < k then (0, [], 7) else if s.size < 1 + k then (0, [], 5) else if okMag b mg.data.toList then (signed b (val mg.data.toList), (s.extract (1 + k) s.size).data.toList, 0) else (0, [], 7) := by
  have hl : (s.data.toList.drop 1).length = s.size - 1 := by rw [List.length_drop, ← size_len]
  have e1 : mg.data.toList = (s.data.toList.drop 1).take k := by rw [hm, data_extract]; congr 1; omega
  have e2 : (s.extract (1 + k) s.size).data.toList = (s.data.toList.drop 1).drop k := by
    rw [data_extract, List.drop_drop]
    exact List.take_of_length_le (by rw [List.length_drop, ← size_len]; omega)
  rw [e1, e2, gn]
  conv => lhs; rw [cons_of s h]
  simp only [getNum, hk, hb]
  split
  · rfl
  · by_cases c : s.size < 1 + k
    · rw [if_pos (by omega), if_pos c]
    · rw [if_neg (by omega), if_neg c]
/-- What wire.number tells beside whether there is one. -/
def numOf (below : Bool) (l : List UInt8) : Int :=
  match l with
  | [] => 0
  | h :: _ => if h = 0 then 0 else if below then IntKind.i64.wrap (IntKind.u64.wrap (-(val l : Int))) else IntKind.i64.wrap (val l)
theorem numOf_ok (below : Bool) (l : List UInt8) (h : okMag below l = true) : numOf below l = signed below (val l) := by
  unfold numOf okMag at *
  split
  · simp [signed, val]
  · simp only [Bool.and_eq_true, decide_eq_true_eq] at h
    rw [if_neg h.1]
    have h2 := h.2
    have w64 : ∀ n : Int, IntKind.u64.wrap n = n % 18446744073709551616 := fun n => by simp [IntKind.wrap, IntKind.bits, IntKind.signed]
    have wi : ∀ n : Int, IntKind.i64.wrap n = if 9223372036854775808 ≤ n % 18446744073709551616 then n % 18446744073709551616 - 18446744073709551616 else n % 18446744073709551616 := fun n => by simp [IntKind.wrap, IntKind.bits, IntKind.signed]
    unfold signed
    cases below
    · simp only [Bool.false_eq_true, if_false, decide_eq_true_eq] at h2 ⊢
      rw [wi]; split <;> omega
    · simp only [if_true, decide_eq_true_eq] at h2 ⊢
      rw [w64, wi]; split <;> omega
theorem okMag_cons (below : Bool) (s : ByteArray) (h : 0 < s.size) (h0 : s[0] ≠ 0) : okMag below s.data.toList = if below then decide (val s.data.toList ≤ 9223372036854775808) else decide (val s.data.toList < 9223372036854775808) := by
  conv => lhs; rw [cons_of s h]
  simp only [okMag]
  rw [← cons_of s h]
  simp [h0]
theorem okMag_zero (below : Bool) (s : ByteArray) (h : 0 < s.size) (h0 : s[0] = 0) : okMag below s.data.toList = false := by
  rw [cons_of s h]
  simp [okMag, h0]
theorem numOf_cons (below : Bool) (s : ByteArray) (h : 0 < s.size) (h0 : s[0] ≠ 0) : numOf below s.data.toList = if below then IntKind.i64.wrap (IntKind.u64.wrap (-(val s.data.toList : Int))) else IntKind.i64.wrap (val s.data.toList) := by
  conv => lhs; rw [cons_of s h]
  simp only [numOf]
  rw [← cons_of s h, if_neg h0]
theorem numOf_zero (below : Bool) (s : ByteArray) (h : 0 < s.size) (h0 : s[0] = 0) : numOf below s.data.toList = 0 := by
  rw [cons_of s h]
  simp [numOf, h0]

/-- How many bytes, or parts, there are, what is behind that, and why there is no such number. -/
def cutLen (s : List UInt8) (most : Int) : Int × List UInt8 × Int :=
  if (getNum s).2.2 ≠ 0 then (0, [], (getNum s).2.2)
  else if (getNum s).1 < 0 then (0, [], 7)
  else if most < (getNum s).1 then (0, [], 12)
  else ((getNum s).1, (getNum s).2.1, 0)
/-- The text that bytes begin with. -/
def getText (s : List UInt8) : List UInt8 × List UInt8 × Int :=
  if (cutLen s 4096).2.2 ≠ 0 then ([], [], (cutLen s 4096).2.2)
  else if ((cutLen s 4096).2.1.length : Int) < (cutLen s 4096).1 then ([], [], 5)
  else ((cutLen s 4096).2.1.take (cutLen s 4096).1.toNat, (cutLen s 4096).2.1.drop (cutLen s 4096).1.toNat, 0)
def gl (s : ByteArray) (most : Int) : Int × List UInt8 × Int := cutLen s.data.toList most
def gt (s : ByteArray) : List UInt8 × List UInt8 × Int := getText s.data.toList
theorem gl_eq (s : ByteArray) (most n : Int) (r : List UInt8) (e : Int) (h : gn s = (n, r, e)) :
    gl s most = if e ≠ 0 then (0, [], e) else if n < 0 then (0, [], 7) else if most < n then (0, [], 12) else (n, r, 0) := by
  unfold gl cutLen
  have h' : getNum s.data.toList = (n, r, e) := h
  rw [h']
theorem gt_eq (s : ByteArray) (n : Int) (r : List UInt8) (e : Int) (h : gl s 4096 = (n, r, e)) :
    gt s = if e ≠ 0 then ([], [], e) else if (r.length : Int) < n then ([], [], 5) else (r.take n.toNat, r.drop n.toNat, 0) := by
  unfold gt getText
  have h' : cutLen s.data.toList 4096 = (n, r, e) := h
  rw [h']
theorem gn_rest (s : ByteArray) (n : Int) (r : List UInt8) (e : Int) (h : gn s = (n, r, e)) : r.length ≤ s.size := by
  by_cases h0 : s.size = 0
  · rw [gn_empty s h0] at h
    have := (Prod.mk.inj (Prod.mk.inj h).2).1
    rw [← this]; simp
  · have hg := gn_eq s (by omega) _ rfl _ rfl _ rfl
    rw [h] at hg
    have hr : r = [] ∨ r = (s.extract (1 + s[0].toNat % 128) s.size).data.toList := by
      repeat' split at hg
      all_goals simp only [Prod.mk.injEq] at hg
      all_goals first | exact Or.inl hg.2.1 | exact Or.inr hg.2.1
    rcases hr with rfl | rfl
    · simp
    · rw [← size_len, ByteArray.size_extract]; omega
/-- A text's bytes. -/
def textB (t : List UInt8) : List UInt8 := numB t.length ++ t
theorem numB_len (n : Int) : (numB n).length ≤ 9 := by have := be_length n.natAbs; simp [numB]; omega
theorem numB_pos (n : Int) : 1 ≤ (numB n).length := by simp [numB]
theorem gl_bounds (s : ByteArray) (most n : Int) (r : List UInt8) (h : gl s most = (n, r, 0)) : 0 ≤ n ∧ n ≤ most ∧ r.length ≤ s.size := by
  obtain ⟨⟨n', r', e'⟩, hg⟩ : ∃ g, gn s = g := ⟨_, rfl⟩
  rw [gl_eq s most _ _ _ hg] at h
  have hr := gn_rest s _ _ _ hg
  split at h
  · next he => exact absurd (Prod.mk.inj (Prod.mk.inj h).2).2 he
  · split at h
    · simp at h
    · split at h
      · simp at h
      · simp only [Prod.mk.injEq] at h
        obtain ⟨rfl, rfl, _⟩ := h
        exact ⟨by omega, by omega, hr⟩
theorem gt_rest (s : ByteArray) (t r : List UInt8) (e : Int) (h : gt s = (t, r, e)) : r.length ≤ s.size ∧ t.length ≤ s.size := by
  obtain ⟨⟨n', r', e'⟩, hg⟩ : ∃ g, gl s 4096 = g := ⟨_, rfl⟩
  rw [gt_eq s _ _ _ hg] at h
  split at h
  · simp only [Prod.mk.injEq] at h
    obtain ⟨rfl, rfl, _⟩ := h
    simp
  · next he =>
    have := gl_bounds s 4096 n' r' (by rw [hg]; congr 2; omega)
    split at h
    · simp only [Prod.mk.injEq] at h
      obtain ⟨rfl, rfl, _⟩ := h
      simp
    · simp only [Prod.mk.injEq] at h
      obtain ⟨rfl, rfl, _⟩ := h
      rw [List.length_drop, List.length_take]
      omega
end Go.Proofs.YteiccjakaabfnaaGreatDoor.Wp
namespace Go.Proofs.YteiccjakaabfnaaGreatDoor
open Go.ChangeShapes Go.WideShapes Go.ChangeAt Go.RowKit

theorem own : ownKnob Tryz.prog.godebug = none := by kernel_rfl
theorem laidOut : laidOutB Tryz.prog = true := by kernel_rfl

section
variable {H : Type} {enc : TypeId × Value → H} {P : Program}

theorem trodAll_stays (hl : laidOutB P = true) {W W' : World} {sp : Nat → Bool} : ∀ (ts : List TypeId) (vs : List Value) (ds : List (DataW H)) (ps : List MemPlace),
    (ts.all fun t => P.readableRec t && decide (t < P.types.size)) = true → DataW.TrodAll enc P W 0 (fun _ => true) true ts vs ds ps → (∀ p ∈ ps, W.sameAt W' p) → (∀ p ∈ ps, sp p.block = true) →
    DataW.TrodAll enc P W' 0 sp true ts vs ds ps
  | [], vs, ds, ps, _, h, _, _ => by
    obtain ⟨rfl, rfl, rfl⟩ := trodAll_nil h
    exact trodAll_mk0
  | t :: ts, vs, ds, ps, ht, h, hs, hp => by
    obtain ⟨v, vs', d, ds', p, q, rfl, rfl, rfl, h1, h2⟩ := trodAll_cons h
    simp only [List.all_cons, Bool.and_eq_true, decide_eq_true_eq] at ht
    exact trodAll_cons_mk (WideElems.Trod_stays hl ht.1.1 ht.1.2 h1 (fun x hx => hs x (List.mem_append_left _ hx)) (fun x hx => hp x (List.mem_append_left _ hx)))
      (trodAll_stays hl ts vs' ds' q (by simpa using ht.2) h2 (fun x hx => hs x (List.mem_append_right _ hx)) (fun x hx => hp x (List.mem_append_right _ hx)))

/-- THE STEP: true was handed back, and what was there reads as it did. -/
theorem law_post {f : Func} {s : ChangeSpec} {apart fresh handsOn again : Bool} {W W' : World} {args : Array Value} {ds gs : List (DataW H)} {before : List MemPlace} {b : TypeId}
    (hl : laidOutB P = true) (hts : (f.params.toList.all fun t => P.readableRec t && decide (t < P.types.size)) = true) (hv : s.vars = []) (hr : f.resultTypes = #[b]) (hb4 : P.underlying b = some .bool)
    (hf : s.fn H (ds ++ gs) = { results := [.lit (.bool true)], args := ds })
    (hW : DataW.Whole enc P f.params.toList s.vars apart W args.toList ds gs before) (hb : Below W.heap.size W W') :
    s.post enc P f apart fresh handsOn again W args (.bool true) W' := by
  have hlt : ∀ p ∈ before, p.block < W.heap.size := fun p hp => hW.lt p hp
  have hold : ∀ p ∈ before, (fun b => decide (b < W.heap.size)) p.block = true := fun p hp => by simpa using hlt p hp
  have hW' := hW
  obtain ⟨p, q, hA, hV, hpq, hz, hn⟩ := hW'
  rw [hv] at hV
  obtain ⟨rfl, rfl⟩ := trodVars_none hV
  rw [List.append_nil] at hpq
  subst hpq
  have hargs : ∀ sp : Nat → Bool, (∀ x ∈ before, sp x.block = true) → DataW.TrodAll enc P W' 0 sp true f.params.toList args.toList (s.fn H (ds ++ [])).args before := fun sp hsp => by
    rw [hf]
    exact trodAll_stays hl _ _ _ _ hts hA (fun x hx => hb.same (hlt x hx)) hsp
  have hres : ∀ (b0 : Nat) (sp : Nat → Bool) (hd : Bool), DataW.TrodAll enc P W' b0 sp hd f.resultTypes.toList ((Value.bool true).resultList f.resultTypes.size) (s.fn H (ds ++ [])).results [] := fun _ _ _ => by
    rw [hf, hr]
    exact trodAll_mk1 (shut_bool hb4 _)
  have hvars : ∀ sp : Nat → Bool, DataW.TrodVars enc P W' sp s.vars (s.fn H (ds ++ [])).vars [] := fun _ => by
    rw [hf, hv]; rfl
  refine ⟨ds, [], before, [], before, [], hW, hres _ _ _, hargs _ hold, hvars _, World.keptBut_mono (fun p hp => ⟨hp, Or.inr (by simpa using hp)⟩) (hb.frame (· ∈ before)), fun _ => ?_⟩
  refine ⟨?_, _, _, ([] ++ before) ++ [], ⟨[] ++ before, [], trodAll_append (hargs _ (fun _ _ => rfl)) (hres _ _ _), hvars _, rfl, ?_, ?_⟩, ?_⟩
  · exact ok_one hr rfl (okWide_bool_mk hb4 _)
  · intro bl off hp
    have hin : MemPlace.cell bl off ∈ before := by simpa using hp
    rw [hb.frozen (hlt _ hin)]
    exact hz bl off hin
  · intro ha
    have := hn ha
    simpa using this
  · intro p hp _
    simpa using hp
end
end Go.Proofs.YteiccjakaabfnaaGreatDoor
namespace Go.Proofs.YteiccjakaabfnaaGreatDoor
open Go.RowKit

/-- The slice whose first cell is at p reads as l: each cell holds its part. -/
def Wp.At {α : Type} (mk : α → Value) (w : World) (p : Option Addr) (l : List α) : Prop :=
  l = [] ∨ ∃ b off, p = some ⟨b, off, none⟩ ∧ ∀ i (h : i < l.length), w.cell? ⟨b, off + i, none⟩ = some (mk l[i])
theorem Wp.At.below {α : Type} {mk : α → Value} {w w' : World} {p : Option Addr} {l : List α} (h : Wp.At mk w p l) (hb : Below w.heap.size w w') : Wp.At mk w' p l := by
  rcases h with h | ⟨b, off, hp, hc⟩
  · exact Or.inl h
  · exact Or.inr ⟨b, off, hp, fun i hi => (hb.cell (World.block_lt_of_cell? w _ (hc i hi))).trans (hc i hi)⟩
theorem Wp.At.get {α : Type} {mk : α → Value} {w : World} {p : Option Addr} {l : List α} (h : Wp.At mk w p l) (k : Nat) (hk : k < l.length) :
    ∃ b off, p = some ⟨b, off, none⟩ ∧ w.cell? ⟨b, off + k, none⟩ = some (mk l[k]) := by
  rcases h with h | ⟨b, off, hp, hc⟩
  · subst h; simp at hk
  · exact ⟨b, off, hp, hc k hk⟩
theorem isBuilder_below {T e : TypeId} {B b : Nat} {bs : List Value} {w w' : World} (h : Lib.IsBuilder T e B b bs w) (hb : Below w.heap.size w w') : Lib.IsBuilder T e B b bs w' := by
  have key : ∀ p, Lib.BuilderAt T e B b p bs w → Lib.BuilderAt T e B b p bs w' := by
    intro p h
    have hlt := h.lt
    obtain ⟨hB, v, hc, hown, hne⟩ := h
    exact ⟨hB, v, (hb.block b hlt).trans hc, hown.kept (row := none) ⟨hb.os, hb.tape, hb.output, hb.size, fun k hk _ => hb.block k hk⟩ (Classical.em _), hne⟩
  rcases h with h | h
  · exact Or.inl (key _ h)
  · exact Or.inr (key _ h)
theorem isBuilder_new (T e : TypeId) (w : World) : Lib.IsBuilder T e w.heap.size w.heap.size [] (w.alloc (.cells #[.pointer none, .slice none 0 0] T)) := by
  refine Or.inl ⟨Nat.le_refl _, .slice none 0 0, ?_, World.ownsRow_nil _ _ _ _, by simp [Value.ownBlock]⟩
  show (w.heap.push _)[w.heap.size]? = _
  simp
theorem ownsRow_below {w w' : World} {base : Nat} {e : TypeId} {size : Nat} {v : Value} {n : Nat} {xs : List Value} (h : w.ownsRow base e size v n xs) (hb : Below w.heap.size w w') : w'.ownsRow base e size v n xs :=
  h.kept (row := none) ⟨hb.os, hb.tape, hb.output, hb.size, fun k hk _ => hb.block k hk⟩ (Classical.em _)
theorem owns_at {α : Type} {mk : α → Value} {w : World} {base : Nat} {e : TypeId} {v : Value} {l : List α} (h : w.ownsRow base e 1 v l.length (l.map mk)) :
    ∃ p c, v = .slice p l.length c ∧ Wp.At mk w p l := by
  rcases h.2 with ⟨hv, h0⟩ | ⟨g, cap, cur, hv, hg, hc, hn, hm, hs, ht⟩
  · exact ⟨none, 0, by rw [hv, h0], Or.inl (List.length_eq_zero_iff.1 h0)⟩
  · refine ⟨some ⟨g, 0, none⟩, cap, hv, Or.inr ⟨g, 0, rfl, fun i hi => ?_⟩⟩
    have h1 : w.cell? ⟨g, 0 + i, none⟩ = cur[0 + i]? := Lib.cell_of_heap hc _
    rw [h1, Nat.zero_add]
    have h2 : (cur.toList.take (l.length * 1))[i]? = (l.map mk)[i]? := by rw [ht]
    rw [List.getElem?_take_of_lt (by omega), List.getElem?_map, List.getElem?_eq_getElem hi] at h2
    rw [Array.getElem?_toList] at h2
    exact h2
theorem below_grown {w w' w0 : World} {base : Nat} {e : TypeId} {v : Value} {n : Nat} {xs : List Value} (hb : Below w0.heap.size w0 w) (ho : w.ownsRow base e 1 v n xs) (hbase : w0.heap.size ≤ base) (hg : w.grownBy w' v.ownBlock) : Below w0.heap.size w0 w' :=
  hb.grown hg hb.size (fun k hk => Nat.le_trans hbase (ho.lt k hk).1)
def Wp.mkN (x : Int) : Value := .int .i64 x
def Wp.mkT (x : ByteArray) : Value := .string x
end Go.Proofs.YteiccjakaabfnaaGreatDoor
namespace Go.Proofs.YteiccjakaabfnaaGreatDoor
open Go.ChangeShapes Go.WideShapes Go.ChangeAt Go.RowKit

set_option maxRecDepth 100000 in
theorem cells_text : Tryz.prog.cellsOf 9 = 1 := by kernel_rfl
set_option maxRecDepth 100000 in
theorem bytes_text : Tryz.prog.bytesOf 9 = 16 := by kernel_rfl
set_option maxRecDepth 100000 in
theorem weights_text {H : Type} (e : TypeId) (l : List ByteArray) (x : ByteArray) (hx : x ∈ l) : x.size ∈ DataW.weightsAll Tryz.prog e (strs (H := H) l) := by
  induction l with
  | nil => simp at hx
  | cons y l ih =>
    simp only [strs, List.map_cons, DataW.weightsAll, DataW.weights, List.mem_append, List.mem_singleton]
    rcases List.mem_cons.1 hx with rfl | h
    · exact Or.inl (by rw [Wp.size_len])
    · exact Or.inr (ih h)
set_option maxRecDepth 100000 in
theorem Wp.open_texts {H : Type} {enc : TypeId × Value → H} {W : World} {base : Nat} {ts : List TypeId} {ds : List (DataW H)} (hsz : (DataW.weightsEach Tryz.prog ts ds).all (· ≤ reachBytes) = true)
    (j : Nat) {v : Value} {d : DataW H} {ps : List MemPlace} (ht : ts[j]? = some 23) (hd : ds[j]? = some d) (hval : Value.okWide Tryz.prog W .any base 23 v)
    (h : DataW.Trod enc Tryz.prog W 0 (fun _ => true) true 23 v d ps) :
    ∃ p c, ∃ l : List ByteArray, v = .slice p l.length c ∧ Wp.At Wp.mkT W p l ∧ l.length ≤ 140737488351232 ∧ ∀ x ∈ l, x.size ≤ 140737488351232 := by
  obtain ⟨a0, len, cap, rfl⟩ := okWide_slice Tryz.underlying23 hval
  obtain ⟨fuel, hf⟩ := h
  rcases open_strings Tryz.underlying23 Tryz.underlying9 cells_text hf with ⟨hc, hx⟩ | ⟨a, len', cap', zs, hc, hb, hl, hm, hz, hx, hcell, hw⟩
  · simp [Value.cells] at hc
    obtain ⟨rfl, rfl, rfl⟩ := hc
    exact ⟨none, 0, [], rfl, Or.inl rfl, by simp, by simp⟩
  · simp [Value.cells] at hc
    obtain ⟨rfl, rfl, rfl⟩ := hc
    simp only [if_true] at hz
    simp only [Prod.mk.injEq] at hx
    obtain ⟨rfl, rfl⟩ := hx
    have hlen : (zs.take len).length = len := by rw [List.length_take]; omega
    have hs := sized_slice hsz ht hd Tryz.underlying23
    rw [bytes_text] at hs
    simp only [strs, List.length_map, List.length_take, List.length_drop, reachBytes] at hs
    obtain ⟨b, off, sp⟩ := a
    refine ⟨some ⟨b, off, sp⟩, cap, zs.take len, by rw [hlen], ?_, by rw [hlen]; omega, ?_⟩
    · by_cases h0 : len = 0
      · left; subst h0; rfl
      · right
        have h1 := hcell 0 (by omega)
        have hsp : sp = none := by
          cases sp with
          | none => rfl
          | some x => simp [World.cell?, Addr.add] at h1; split at h1 <;> simp_all
        subst hsp
        refine ⟨b, off, rfl, fun i hi => ?_⟩
        have h2 := hcell i (by omega)
        have e : (⟨b, off, none⟩ : Addr).add i = ⟨b, off + i, none⟩ := by simp [Addr.add]
        rw [e] at h2
        rw [h2, List.getElem_take]
        have h3 : i < zs.length := by omega
        simp [List.getD, List.getElem?_eq_getElem h3, Wp.mkT]
    · intro x hx
      have h5 := weights_text (H := H) 9 (zs.take len) x hx
      have h6 := List.all_eq_true.1 hsz _ (DataW.weights_mem_each ht hd x.size (by
        simp only [DataW.weights, Tryz.underlying23, List.mem_cons, List.mem_append]
        exact Or.inr (Or.inl h5)))
      have h7 : x.size ≤ reachBytes := by simpa using h6
      exact h7
end Go.Proofs.YteiccjakaabfnaaGreatDoor
