/-
  Plain mathematics of weeks: which are right, which minutes they have, and that a right week is told by those; what lies between, what both have, and ranges that are joined. No condition but those that the theorems state.
-/
import GoSem.ClaimJoined
namespace Go.Proofs.YtpaleljnkejdgaaGreatDoor.Wk

/-- Each range lies above the bound, and the next one above its end. -/
def Ch (a : Int) : List (Int × Int) → Prop
  | [] => True
  | r :: l => a < r.1 ∧ r.1 < r.2 ∧ r.2 ≤ 10080 ∧ Ch r.2 l
def decCh : (a : Int) → (l : List (Int × Int)) → Decidable (Ch a l)
  | _, [] => isTrue trivial
  | a, r :: l => by
    unfold Ch
    have := decCh r.2 l
    infer_instance
instance instDecCh (a : Int) (l : List (Int × Int)) : Decidable (Ch a l) := decCh a l
/-- A right week. -/
def Ok (w : List (Int × Int)) : Prop := w.length ≤ 64 ∧ Ch (-1) w
instance instDecOk (w : List (Int × Int)) : Decidable (Ok w) := by unfold Ok; infer_instance
def inR (r : Int × Int) (m : Int) : Bool := decide (r.1 ≤ m) && decide (m < r.2)
def has (w : List (Int × Int)) (m : Int) : Bool := w.any fun r => inR r m
theorem inR_iff {r : Int × Int} {m : Int} : inR r m = true ↔ r.1 ≤ m ∧ m < r.2 := by simp [inR]
theorem has_iff {w : List (Int × Int)} {m : Int} : has w m = true ↔ ∃ r ∈ w, r.1 ≤ m ∧ m < r.2 := by
  unfold has
  rw [List.any_eq_true]
  constructor
  · rintro ⟨r, h1, h2⟩; exact ⟨r, h1, inR_iff.1 h2⟩
  · rintro ⟨r, h1, h2⟩; exact ⟨r, h1, inR_iff.2 h2⟩
theorem has_nil (m : Int) : has [] m = false := rfl
theorem has_cons (r : Int × Int) (w : List (Int × Int)) (m : Int) : has (r :: w) m = (inR r m || has w m) := rfl
theorem has_append (a b : List (Int × Int)) (m : Int) : has (a ++ b) m = (has a m || has b m) := List.any_append
theorem bool_ext {a b : Bool} (h : a = true ↔ b = true) : a = b := by cases a <;> cases b <;> simp_all

theorem Ch.mono {a b : Int} {l : List (Int × Int)} (h : Ch a l) (hb : b ≤ a) : Ch b l := by
  cases l with
  | nil => trivial
  | cons r l => obtain ⟨h1, h2⟩ := h; exact ⟨by omega, h2⟩
theorem Ch.all {a : Int} {l : List (Int × Int)} (h : Ch a l) : ∀ r ∈ l, a < r.1 ∧ r.1 < r.2 ∧ r.2 ≤ 10080 := by
  induction l generalizing a with
  | nil => simp
  | cons s l ih =>
    obtain ⟨h1, h2, h3, h4⟩ := h
    intro r hr
    rcases List.mem_cons.1 hr with rfl | hr
    · exact ⟨h1, h2, h3⟩
    · have := ih h4 r hr
      exact ⟨by omega, this.2⟩
theorem Ch.below {a m : Int} {l : List (Int × Int)} (h : Ch a l) (hm : m ≤ a) : has l m = false := by
  apply Bool.eq_false_iff.2
  intro hh
  obtain ⟨r, hr, h1, h2⟩ := has_iff.1 hh
  have := h.all r hr
  omega
theorem Ch.above {a m : Int} {l : List (Int × Int)} (h : Ch a l) (hm : 10080 ≤ m) : has l m = false := by
  apply Bool.eq_false_iff.2
  intro hh
  obtain ⟨r, hr, h1, h2⟩ := has_iff.1 hh
  have := h.all r hr
  omega
theorem Ch.append {a b : Int} {l l' : List (Int × Int)} (h : Ch a l) (hl : ∀ x ∈ l, x.2 ≤ b) (h' : Ch b l') (hab : a ≤ b) : Ch a (l ++ l') := by
  induction l generalizing a with
  | nil => exact h'.mono hab
  | cons r l ih =>
    obtain ⟨h1, h2, h3, h4⟩ := h
    exact ⟨h1, h2, h3, ih h4 (fun x hx => hl x (List.mem_cons_of_mem _ hx)) (hl r List.mem_cons_self)⟩
theorem Ch.tail {a : Int} {p : List (Int × Int)} {r : Int × Int} {q : List (Int × Int)} (h : Ch a (p ++ r :: q)) : Ch r.2 q ∧ r.1 < r.2 ∧ r.2 ≤ 10080 ∧ ∀ x ∈ p, x.2 < r.1 := by
  induction p generalizing a with
  | nil => exact ⟨h.2.2.2, h.2.1, h.2.2.1, by simp⟩
  | cons s p ih =>
    obtain ⟨h1, h2, h3, h4⟩ := h
    obtain ⟨a1, a2, a3, a4⟩ := ih h4
    refine ⟨a1, a2, a3, fun x hx => ?_⟩
    rcases List.mem_cons.1 hx with rfl | hx
    · exact (h4.all r (by simp)).1
    · exact a4 x hx
/-- A right week is told by its minutes. -/
theorem Ch.ext {a b : Int} {w v : List (Int × Int)} (hw : Ch a w) (hv : Ch b v) (h : ∀ m, has w m = has v m) : w = v := by
  induction w generalizing a b v with
  | nil =>
    cases v with
    | nil => rfl
    | cons s v =>
      obtain ⟨h1, h2, _⟩ := hv
      have := h s.1
      rw [has_cons, show inR s s.1 = true from inR_iff.2 ⟨Int.le_refl _, h2⟩] at this
      simp [has_nil] at this
  | cons r w ih =>
    cases v with
    | nil =>
      obtain ⟨h1, h2, _⟩ := hw
      have := h r.1
      rw [has_cons, show inR r r.1 = true from inR_iff.2 ⟨Int.le_refl _, h2⟩] at this
      simp [has_nil] at this
    | cons s v =>
      obtain ⟨a1, a2, a3, a4⟩ := hw
      obtain ⟨b1, b2, b3, b4⟩ := hv
      have e1 : r.1 = s.1 := by
        rcases Int.lt_trichotomy r.1 s.1 with c | c | c
        · have := h r.1
          rw [has_cons, has_cons, show inR r r.1 = true from inR_iff.2 ⟨Int.le_refl _, a2⟩, show inR s r.1 = false from Bool.eq_false_iff.2 fun e => by have := inR_iff.1 e; omega, b4.below (show r.1 ≤ s.2 by omega)] at this
          simp at this
        · exact c
        · have := h s.1
          rw [has_cons, has_cons, show inR s s.1 = true from inR_iff.2 ⟨Int.le_refl _, b2⟩, show inR r s.1 = false from Bool.eq_false_iff.2 fun e => by have := inR_iff.1 e; omega, a4.below (show s.1 ≤ r.2 by omega)] at this
          simp at this
      have e2 : r.2 = s.2 := by
        rcases Int.lt_trichotomy r.2 s.2 with c | c | c
        · have := h r.2
          rw [has_cons, has_cons, show inR s r.2 = true from inR_iff.2 ⟨by omega, c⟩, show inR r r.2 = false from Bool.eq_false_iff.2 fun e => by have := inR_iff.1 e; omega, a4.below (Int.le_refl _)] at this
          simp at this
        · exact c
        · have := h s.2
          rw [has_cons, has_cons, show inR r s.2 = true from inR_iff.2 ⟨by omega, c⟩, show inR s s.2 = false from Bool.eq_false_iff.2 fun e => by have := inR_iff.1 e; omega, b4.below (Int.le_refl _)] at this
          simp at this
      have e : r = s := Prod.ext e1 e2
      subst e
      rw [ih a4 b4 fun m => ?_]
      by_cases c : m ≤ r.2
      · rw [a4.below c, b4.below c]
      · have := h m
        rw [has_cons, has_cons, show inR r m = false from Bool.eq_false_iff.2 fun e => by have := inR_iff.1 e; omega] at this
        simpa using this

/-- What is wrong with a range, behind a bound. -/
def bad (a : Int) (r : Int × Int) : Bool := decide (r.1 ≤ a) || decide (r.2 ≤ r.1) || decide (10080 < r.2)
def ahd (a : Int) (l : List (Int × Int)) (k : Nat) : Int := (((0, a) :: l).getD k (0, 0)).2
theorem ahd_succ (a : Int) (l : List (Int × Int)) (k : Nat) (h : k < l.length) : ahd a l (k + 1) = l[k].2 := by
  unfold ahd
  rw [List.getD_cons_succ, List.getD_eq_getElem?_getD, List.getElem?_eq_getElem h]
  rfl
theorem ahd_zero (a : Int) (l : List (Int × Int)) : ahd a l 0 = a := rfl
theorem bad_iff {a : Int} {r : Int × Int} : bad a r = false ↔ a < r.1 ∧ r.1 < r.2 ∧ r.2 ≤ 10080 := by
  unfold bad
  simp only [Bool.or_eq_false_iff, decide_eq_false_iff_not]
  constructor
  · rintro ⟨⟨h1, h2⟩, h3⟩; omega
  · rintro ⟨h1, h2, h3⟩; omega
theorem ch_iff {a : Int} {l : List (Int × Int)} : Ch a l ↔ ∀ k (h : k < l.length), bad (ahd a l k) l[k] = false := by
  induction l generalizing a with
  | nil => simp [Ch]
  | cons r l ih =>
    constructor
    · rintro ⟨h1, h2, h3, h4⟩ k hk
      cases k with
      | zero => exact bad_iff.2 ⟨h1, h2, h3⟩
      | succ k =>
        have := ih.1 h4 k (by simpa using hk)
        rw [ahd_succ _ _ _ (by simp at hk; omega)]
        cases k with
        | zero => exact this
        | succ k =>
          rw [ahd_succ _ _ _ (by simp at hk; omega)] at this
          simpa using this
    · intro h
      have h0 := bad_iff.1 (h 0 (by simp))
      refine ⟨h0.1, h0.2.1, h0.2.2, ih.2 fun k hk => ?_⟩
      have := h (k + 1) (by simp; omega)
      rw [ahd_succ _ _ _ (by simp; omega)] at this
      cases k with
      | zero => exact this
      | succ k =>
        rw [ahd_succ _ _ _ (by omega)]
        simpa using this

/-- A range, if it has a minute. -/
def rg (f t : Int) : List (Int × Int) := if f < t then [(f, t)] else []
theorem has_rg (f t m : Int) : has (rg f t) m = inR (f, t) m := by
  unfold rg
  split
  · simp [has_cons, has_nil]
  · next h =>
    rw [has_nil]
    exact (Bool.eq_false_iff.2 fun e => by have := inR_iff.1 e; simp only [] at this; omega).symm
theorem rg_len (f t : Int) : (rg f t).length ≤ 1 := by unfold rg; split <;> simp
theorem ch_rg {a f t : Int} (h1 : a < f) (h2 : t ≤ 10080) : Ch a (rg f t) := by
  unfold rg
  split
  · exact ⟨h1, by assumption, h2, trivial⟩
  · trivial

/-- What lies between the ranges, from a minute on. -/
def gaps (f : Int) : List (Int × Int) → List (Int × Int)
  | [] => rg f 10080
  | r :: l => rg f r.1 ++ gaps r.2 l
theorem gaps_len (f : Int) (l : List (Int × Int)) : (gaps f l).length ≤ l.length + 1 := by
  induction l generalizing f with
  | nil => exact rg_len _ _
  | cons r l ih => have := ih r.2; have := rg_len f r.1; simp only [gaps, List.length_append, List.length_cons]; omega
theorem gaps_ch {f : Int} {l : List (Int × Int)} (h : Ch (f - 1) l) : Ch (f - 1) (gaps f l) := by
  induction l generalizing f with
  | nil => exact ch_rg (by omega) (by omega)
  | cons r l ih =>
    obtain ⟨h1, h2, h3, h4⟩ := h
    have := ih (h4.mono (show r.2 - 1 ≤ r.2 by omega))
    refine Ch.append (b := r.1) (ch_rg (by omega) (by omega)) ?_ (this.mono (by omega)) (by omega)
    intro x hx
    unfold rg at hx
    split at hx
    · obtain rfl := List.mem_singleton.1 hx; exact Int.le_refl _
    · cases hx
theorem gaps_has {f : Int} {l : List (Int × Int)} (h : Ch (f - 1) l) (m : Int) : has (gaps f l) m = (decide (f ≤ m) && decide (m < 10080) && !has l m) := by
  induction l generalizing f with
  | nil => simp [gaps, has_rg, has_nil, inR]
  | cons r l ih =>
    obtain ⟨h1, h2, h3, h4⟩ := h
    rw [gaps, has_append, has_rg, ih (h4.mono (show r.2 - 1 ≤ r.2 by omega)), has_cons]
    by_cases c : m < r.2
    · rw [h4.below (show m ≤ r.2 by omega)]
      apply bool_ext
      simp [inR]
      omega
    · apply bool_ext
      simp [inR]
      cases has l m <;> simp <;> omega
def sum : List (Int × Int) → Int
  | [] => 0
  | r :: l => (r.2 - r.1) + sum l
theorem sum_append (a b : List (Int × Int)) : sum (a ++ b) = sum a + sum b := by
  induction a with
  | nil => simp [sum]
  | cons r a ih => simp only [List.cons_append, sum, ih]; omega
theorem sum_rg {f t : Int} (h : f ≤ t) : sum (rg f t) = t - f := by
  unfold rg
  split
  · simp [sum]
  · simp [sum]; omega
theorem gaps_sum {f : Int} {l : List (Int × Int)} (h : Ch (f - 1) l) (hf : f ≤ 10080) : sum (gaps f l) + sum l = 10080 - f := by
  induction l generalizing f with
  | nil => simp [gaps, sum, sum_rg hf]
  | cons r l ih =>
    obtain ⟨h1, h2, h3, h4⟩ := h
    have := ih (h4.mono (show r.2 - 1 ≤ r.2 by omega)) h3
    rw [gaps, sum_append, sum_rg (by omega), sum]
    omega
theorem sum_bd {a : Int} {l : List (Int × Int)} (h : Ch a l) (ha : -1 ≤ a) (hb : a ≤ 10080) : 0 ≤ sum l ∧ sum l ≤ 10080 - a := by
  induction l generalizing a with
  | nil => simp [sum]; omega
  | cons r l ih =>
    obtain ⟨h1, h2, h3, h4⟩ := h
    have := ih h4 (by omega) h3
    simp only [sum]
    omega
theorem sum_zero {a : Int} {l : List (Int × Int)} (h : Ch a l) (ha : -1 ≤ a) (hs : sum l = 0) : l = [] := by
  cases l with
  | nil => rfl
  | cons r l =>
    obtain ⟨h1, h2, h3, h4⟩ := h
    have := (sum_bd h4 (by omega) h3).1
    simp only [sum] at hs
    omega

/-- What both have. -/
def meet (r : Int × Int) (b : List (Int × Int)) : List (Int × Int) := b.flatMap fun s => rg (max r.1 s.1) (min r.2 s.2)
def both (a b : List (Int × Int)) : List (Int × Int) := a.flatMap fun r => meet r b
theorem meet_len (r : Int × Int) (b : List (Int × Int)) : (meet r b).length ≤ b.length := by
  unfold meet
  induction b with
  | nil => simp
  | cons s b ih => have := rg_len (max r.1 s.1) (min r.2 s.2); simp only [List.flatMap_cons, List.length_append, List.length_cons]; omega
theorem both_len (a b : List (Int × Int)) : (both a b).length ≤ a.length * b.length := by
  unfold both
  induction a with
  | nil => simp
  | cons r a ih => have := meet_len r b; simp only [List.flatMap_cons, List.length_append, List.length_cons, Nat.succ_mul]; omega
theorem meet_ch {r : Int × Int} {c : Int} {b : List (Int × Int)} (h : Ch c b) : Ch (max c (r.1 - 1)) (meet r b) ∧ ∀ x ∈ meet r b, x.2 ≤ r.2 := by
  induction b generalizing c with
  | nil => exact ⟨trivial, by simp [meet]⟩
  | cons s b ih =>
    obtain ⟨h1, h2, h3, h4⟩ := h
    obtain ⟨i1, i2⟩ := ih h4
    have e : meet r (s :: b) = rg (max r.1 s.1) (min r.2 s.2) ++ meet r b := by simp [meet]
    rw [e]
    by_cases hc : max r.1 s.1 < min r.2 s.2
    · rw [show rg (max r.1 s.1) (min r.2 s.2) = [(max r.1 s.1, min r.2 s.2)] from if_pos hc]
      refine ⟨⟨by simp only []; omega, hc, by simp only []; omega, i1.mono (by simp only []; omega)⟩, fun x hx => ?_⟩
      rcases List.mem_cons.1 hx with rfl | hx
      · exact (by simp only []; omega)
      · exact i2 x hx
    · rw [show rg (max r.1 s.1) (min r.2 s.2) = [] from if_neg hc]
      exact ⟨i1.mono (by omega), i2⟩
theorem both_ch {a : Int} {w b : List (Int × Int)} (h : Ch a w) (hb : Ch (-1) b) : Ch a (both w b) := by
  induction w generalizing a with
  | nil => trivial
  | cons r w ih =>
    obtain ⟨h1, h2, h3, h4⟩ := h
    have e : both (r :: w) b = meet r b ++ both w b := by simp [both]
    obtain ⟨i1, i2⟩ := meet_ch (r := r) hb
    rw [e]
    exact Ch.append (i1.mono (by omega)) i2 (ih h4) (by omega)
theorem both_has (a b : List (Int × Int)) (m : Int) : has (both a b) m = (has a m && has b m) := by
  apply bool_ext
  rw [Bool.and_eq_true, has_iff, has_iff, has_iff]
  constructor
  · rintro ⟨x, hx, h1, h2⟩
    obtain ⟨r, hr, hx⟩ := List.mem_flatMap.1 hx
    obtain ⟨s, hs, hx⟩ := List.mem_flatMap.1 hx
    unfold rg at hx
    split at hx
    · obtain rfl := List.mem_singleton.1 hx
      simp only [] at h1 h2
      exact ⟨⟨r, hr, by omega, by omega⟩, s, hs, by omega, by omega⟩
    · cases hx
  · rintro ⟨⟨r, hr, h1, h2⟩, s, hs, h3, h4⟩
    refine ⟨(max r.1 s.1, min r.2 s.2), List.mem_flatMap.2 ⟨r, hr, List.mem_flatMap.2 ⟨s, hs, ?_⟩⟩, by simp only []; omega, by simp only []; omega⟩
    rw [show rg (max r.1 s.1) (min r.2 s.2) = [(max r.1 s.1, min r.2 s.2)] from if_pos (by omega)]
    exact List.mem_singleton.2 rfl

/-- Ranges that touch are put together. -/
def joinF (c : Int × Int) : List (Int × Int) → List (Int × Int)
  | [] => [c]
  | r :: l => if c.2 < r.1 then c :: joinF r l else joinF (c.1, max c.2 r.2) l
def join : List (Int × Int) → List (Int × Int)
  | [] => []
  | r :: l => joinF r l
def Fit (l : List (Int × Int)) : Prop := ∀ r ∈ l, 0 ≤ r.1 ∧ r.1 < r.2 ∧ r.2 ≤ 10080
def Rise (l : List (Int × Int)) : Prop := l.Pairwise fun a b => a.1 ≤ b.1
theorem joinF_len (c : Int × Int) (l : List (Int × Int)) : (joinF c l).length ≤ l.length + 1 := by
  induction l generalizing c with
  | nil => simp [joinF]
  | cons r l ih =>
    unfold joinF
    split
    · have := ih r; simp only [List.length_cons]; omega
    · have := ih (c.1, max c.2 r.2); simp only [List.length_cons]; omega
theorem join_len (l : List (Int × Int)) : (join l).length ≤ l.length := by
  cases l with
  | nil => simp [join]
  | cons r l => exact joinF_len r l
theorem joinF_ch {a : Int} {c : Int × Int} {l : List (Int × Int)} (h1 : a < c.1) (h2 : c.1 < c.2) (h3 : c.2 ≤ 10080) (hf : ∀ r ∈ l, r.1 < r.2 ∧ r.2 ≤ 10080) : Ch a (joinF c l) := by
  induction l generalizing a c with
  | nil => exact ⟨h1, h2, h3, trivial⟩
  | cons r l ih =>
    have hr := hf r List.mem_cons_self
    have hl : ∀ x ∈ l, x.1 < x.2 ∧ x.2 ≤ 10080 := fun x hx => hf x (List.mem_cons_of_mem _ hx)
    unfold joinF
    split
    · next h => exact ⟨h1, h2, h3, ih h hr.1 hr.2 hl⟩
    · exact ih h1 (by simp only []; omega) (by simp only []; omega) hl
theorem joinF_has {c : Int × Int} {l : List (Int × Int)} (hr : ∀ r ∈ l, c.1 ≤ r.1) (hl : Rise l) (hc : c.1 < c.2) (hf : ∀ r ∈ l, r.1 < r.2) (m : Int) : has (joinF c l) m = (inR c m || has l m) := by
  induction l generalizing c with
  | nil => rfl
  | cons r l ih =>
    have h0 := hr r List.mem_cons_self
    have f0 := hf r List.mem_cons_self
    have hf' : ∀ x ∈ l, x.1 < x.2 := fun x hx => hf x (List.mem_cons_of_mem _ hx)
    obtain ⟨h1, h2⟩ := List.pairwise_cons.1 hl
    unfold joinF
    split
    · rw [has_cons, ih h1 h2 f0 hf', has_cons]
    · next h =>
      rw [ih (fun x hx => by have := h1 x hx; simp only []; omega) h2 (by simp only []; omega) hf', has_cons, ← Bool.or_assoc]
      congr 1
      apply bool_ext
      rw [Bool.or_eq_true, inR_iff, inR_iff, inR_iff]
      simp only []
      omega
theorem join_ch {l : List (Int × Int)} (hf : Fit l) : Ch (-1) (join l) := by
  cases l with
  | nil => trivial
  | cons r l =>
    have h0 := hf r List.mem_cons_self
    exact joinF_ch (by omega) h0.2.1 h0.2.2 fun x hx => (hf x (List.mem_cons_of_mem _ hx)).2
theorem join_has {l : List (Int × Int)} (hf : Fit l) (hl : Rise l) (m : Int) : has (join l) m = has l m := by
  cases l with
  | nil => rfl
  | cons r l =>
    obtain ⟨h1, h2⟩ := List.pairwise_cons.1 hl
    exact joinF_has h1 h2 (hf r List.mem_cons_self).2.1 (fun x hx => (hf x (List.mem_cons_of_mem _ hx)).2.1) m
theorem has_perm {l l' : List (Int × Int)} (h : l'.Perm l) (m : Int) : has l' m = has l m := by
  apply bool_ext
  rw [has_iff, has_iff]
  constructor
  · rintro ⟨r, hr, h2⟩; exact ⟨r, h.mem_iff.1 hr, h2⟩
  · rintro ⟨r, hr, h2⟩; exact ⟨r, h.mem_iff.2 hr, h2⟩
theorem Fit.perm {l l' : List (Int × Int)} (hf : Fit l) (h : l'.Perm l) : Fit l' := fun r hr => hf r (h.mem_iff.1 hr)
/-- What a list of ranges is joined to, however it is sorted. -/
def Joined (l j : List (Int × Int)) : Prop := Ch (-1) j ∧ (∀ m, has j m = has l m) ∧ j.length ≤ l.length
theorem joined_of {l l' : List (Int × Int)} (hf : Fit l) (h : l'.Perm l) (hl : Rise l') : Joined l (join l') :=
  ⟨join_ch (hf.perm h), fun m => by rw [join_has (hf.perm h) hl, has_perm h], by have := join_len l'; rw [h.length_eq] at this; exact this⟩
theorem Joined.one {l j j' : List (Int × Int)} (h : Joined l j) (h' : Joined l j') : j = j' := h.1.ext h'.1 fun m => by rw [h.2.1, h'.2.1]

/-- The ranges of one that may go on behind the week's end. -/
def wrap (r : Int × Int) : List (Int × Int) := if r.2 < r.1 then rg r.1 10080 ++ rg 0 r.2 else rg r.1 r.2
def wraps (l : List (Int × Int)) : List (Int × Int) := l.flatMap wrap
def Edge (n : Int) : Prop := 0 ≤ n ∧ n ≤ 10080
def Edges (l : List (Int × Int)) : Prop := ∀ r ∈ l, Edge r.1 ∧ Edge r.2
theorem fit_rg {f t : Int} (h1 : 0 ≤ f) (h2 : t ≤ 10080) : Fit (rg f t) := by
  unfold rg
  split
  · intro r hr; obtain rfl := List.mem_singleton.1 hr; exact ⟨h1, by assumption, h2⟩
  · intro r hr; cases hr
theorem Fit.append {a b : List (Int × Int)} (ha : Fit a) (hb : Fit b) : Fit (a ++ b) := fun r hr => by
  rcases List.mem_append.1 hr with h | h
  · exact ha r h
  · exact hb r h
theorem fit_wrap {r : Int × Int} (h1 : Edge r.1) (h2 : Edge r.2) : Fit (wrap r) := by
  unfold Edge at h1 h2
  unfold wrap
  split
  · exact (fit_rg h1.1 (by omega)).append (fit_rg (by omega) h2.2)
  · exact fit_rg h1.1 h2.2
theorem fit_wraps {l : List (Int × Int)} (h : Edges l) : Fit (wraps l) := fun x hx => by
  obtain ⟨r, hr, hx⟩ := List.mem_flatMap.1 hx
  exact fit_wrap (h r hr).1 (h r hr).2 x hx
theorem wrap_len (r : Int × Int) : (wrap r).length ≤ 2 := by
  unfold wrap
  split
  · have := rg_len r.1 10080; have := rg_len 0 r.2; rw [List.length_append]; omega
  · have := rg_len r.1 r.2; omega
theorem wraps_len (l : List (Int × Int)) : (wraps l).length ≤ 2 * l.length := by
  unfold wraps
  induction l with
  | nil => simp
  | cons r l ih => have := wrap_len r; simp only [List.flatMap_cons, List.length_append, List.length_cons]; omega
/-- Has a range, that may go on behind the week's end, the minute? -/
def inW (r : Int × Int) (m : Int) : Bool := (decide (r.1 ≤ r.2) && decide (r.1 ≤ m) && decide (m < r.2)) || (decide (r.2 < r.1) && (decide (r.1 ≤ m) || decide (m < r.2)))
theorem has_wrap (r : Int × Int) {m : Int} (h1 : 0 ≤ m) (h2 : m < 10080) : has (wrap r) m = inW r m := by
  unfold wrap inW
  split
  · rw [has_append, has_rg, has_rg]; apply bool_ext; simp [inR]; omega
  · rw [has_rg]; apply bool_ext; simp [inR]; omega
theorem has_wraps (l : List (Int × Int)) {m : Int} (h1 : 0 ≤ m) (h2 : m < 10080) : has (wraps l) m = l.any fun r => inW r m := by
  unfold wraps
  induction l with
  | nil => rfl
  | cons r l ih => rw [List.flatMap_cons, has_append, ih, has_wrap r h1 h2]; rfl
theorem wraps_ok {a : Int} {l : List (Int × Int)} (h : Ch a l) : wraps l = l := by
  unfold wraps
  induction l generalizing a with
  | nil => rfl
  | cons r l ih =>
    obtain ⟨h1, h2, h3, h4⟩ := h
    rw [List.flatMap_cons, ih h4, wrap, if_neg (by omega), rg, if_pos h2]
    rfl
theorem Ch.fit {l : List (Int × Int)} (h : Ch (-1) l) : Fit l := fun r hr => by have := h.all r hr; omega
theorem Ch.edges {l : List (Int × Int)} (h : Ch (-1) l) : Edges l := fun r hr => by have := h.all r hr; unfold Edge; omega
theorem joined_self {l : List (Int × Int)} (h : Ch (-1) l) : Joined l l := ⟨h, fun _ => rfl, Nat.le_refl _⟩

/-- How far the next minute is. -/
def nx (v : List (Int × Int)) (m : Int) : Int :=
  match v.find? fun r => decide (m < r.2) with
  | some r => max (r.1 - m) 0
  | none => (v.headD (0, 0)).1 + 10080 - m
theorem nx_spec {v : List (Int × Int)} {m : Int} (h : Ch (-1) v) (hv : v ≠ []) (h1 : 0 ≤ m) (h2 : m < 10080) :
    0 ≤ nx v m ∧ nx v m < 10080 ∧ has v ((m + nx v m) % 10080) = true ∧ ∀ j, 0 ≤ j → j < nx v m → has v ((m + j) % 10080) = false := by
  unfold nx
  cases hf : v.find? fun r => decide (m < r.2) with
  | some r =>
    obtain ⟨hr, p, q, rfl, hp⟩ := List.find?_eq_some_iff_append.1 hf
    have hr' : m < r.2 := by simpa using hr
    obtain ⟨t1, t2, t3, t4⟩ := h.tail
    have hra := h.all r (by simp)
    simp only []
    refine ⟨by omega, by omega, ?_, fun j hj1 hj2 => ?_⟩
    · rw [show (m + max (r.1 - m) 0) % 10080 = m + max (r.1 - m) 0 by omega]
      exact has_iff.2 ⟨r, by simp, by omega, by omega⟩
    · rw [show (m + j) % 10080 = m + j by omega]
      apply Bool.eq_false_iff.2
      intro hh
      obtain ⟨x, hx, a1, a2⟩ := has_iff.1 hh
      rcases List.mem_append.1 hx with hx | hx
      · have := hp x hx
        simp at this
        omega
      · rcases List.mem_cons.1 hx with rfl | hx
        · omega
        · have := t1.all x hx
          omega
  | none =>
    cases v with
    | nil => exact absurd rfl hv
    | cons r v =>
      have hall : ∀ x ∈ r :: v, x.2 ≤ m := fun x hx => by
        have := List.find?_eq_none.1 hf x hx
        simp at this
        omega
      have hr := hall r List.mem_cons_self
      obtain ⟨a1, a2, a3, a4⟩ := h
      simp only [List.headD_cons]
      refine ⟨by omega, by omega, ?_, fun j hj1 hj2 => ?_⟩
      · rw [show (m + (r.1 + 10080 - m)) % 10080 = r.1 by omega]
        exact has_iff.2 ⟨r, List.mem_cons_self, Int.le_refl _, a2⟩
      · apply Bool.eq_false_iff.2
        intro hh
        obtain ⟨x, hx, b1, b2⟩ := has_iff.1 hh
        have c := hall x hx
        rcases List.mem_cons.1 hx with rfl | hx
        · omega
        · have := a4.all x hx
          omega
end Go.Proofs.YtpaleljnkejdgaaGreatDoor.Wk
