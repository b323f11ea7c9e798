
/-
  Plain mathematics of layer 13's statements. No condition but those that the theorems state.
-/
import Derived.Test.YtlhmbmnjajbbaaaDoorEsFrom
namespace Go.Proofs.YtlhmbmnjajbbaaaDoor.Es

theorem toR_app (c : Nat) (h : c ≠ 3) (s t : List UInt8) : (toR c (s ++ t)).1 = (toR c s).1 ++ (toR c t).1 ∧ (toR c t).2 = (toR c s).2 ∧ (toR c (s ++ t)).2 = (toR c s).2 := by
  by_cases h1 : c = 1
  · subst h1; exact ⟨enc_append false s t, rfl, rfl⟩
  by_cases h2 : c = 2
  · subst h2; exact ⟨enc_append true s t, rfl, rfl⟩
  unfold toR
  simp [h, h1, h2]
theorem toR_len (c : Nat) (l : List UInt8) : (toR c l).1.length ≤ 6 * l.length := by
  unfold toR
  split
  · exact (enc_len _ _).2
  split
  · exact (enc_len _ _).2
  split
  · have := sms_len false l
    show (sms false l).length ≤ _
    omega
  · simp
/-- A text for a note: each byte is one that may stand there. -/
def okP : Nat → List UInt8 → Bool
  | _, [] => true
  | p, b :: l => decide (32 ≤ b.toNat) && decide (b.toNat ≠ 127) && (decide (b.toNat ≠ 34) || decide (p = 92)) && okP b.toNat l
theorem okP_one (p : Nat) (b : UInt8) (r : List UInt8) (h1 : 32 ≤ b.toNat) (h2 : b.toNat ≠ 127) (h3 : b.toNat ≠ 34) : okP p (b :: r) = okP b.toNat r := by
  rw [okP, decide_eq_true h1, decide_eq_true h2, decide_eq_true h3]
  simp
theorem okP_code : ∀ n, n < 256 → ∀ (p : Nat), (∃ q, ∀ r, okP p (pushN n ++ r) = okP q r) := by
  intro n hn p
  have hb : (UInt8.ofNat n).toNat = n := UInt8.toNat_ofNat_of_lt' (by exact hn)
  have hx : ∀ k, k < 16 → (48 ≤ (hexB k).toNat ∧ (hexB k).toNat ≤ 102) ∧ (hexB k).toNat ≠ 34 := by decide
  have h1 := hx (n / 16) (by omega)
  have h2 := hx (n % 16) (by omega)
  unfold pushN
  split
  · exact ⟨110, fun r => rfl⟩
  split
  · exact ⟨116, fun r => rfl⟩
  split
  · refine ⟨(hexB (n % 16)).toNat, fun r => ?_⟩
    show (decide (32 ≤ (92 : UInt8).toNat) && decide ((92 : UInt8).toNat ≠ 127) && (decide ((92 : UInt8).toNat ≠ 34) || decide (p = 92)) && okP 92 (117 :: 48 :: 48 :: hexB (n / 16) :: hexB (n % 16) :: r)) = _
    have e : okP 92 (117 :: 48 :: 48 :: hexB (n / 16) :: hexB (n % 16) :: r) = okP 48 (hexB (n / 16) :: hexB (n % 16) :: r) := rfl
    rw [e]
    show (true && okP 48 (hexB (n / 16) :: hexB (n % 16) :: r)) = _
    rw [Bool.true_and, okP_one _ _ _ (by omega) (by omega) (by omega), okP_one _ _ _ (by omega) (by omega) (by omega)]
  split
  · refine ⟨n, fun r => ?_⟩
    rename_i h
    rcases h with rfl | rfl <;> rfl
  · refine ⟨n, fun r => ?_⟩
    show okP p (UInt8.ofNat n :: r) = _
    rw [okP_one _ _ _ (by omega) (by omega) (by omega), hb]
theorem okP_enc : ∀ (s : List UInt8) (p : Nat), okP p (enc false s) = true
  | [], _ => rfl
  | b :: s, p => by
    rw [enc_cons]
    obtain ⟨q, hq⟩ := okP_code b.toNat b.toNat_lt p
    show okP p (pushN b.toNat ++ enc false s) = true
    rw [hq, okP_enc s q]
theorem okP_at : ∀ (l : List UInt8) (p : Nat), okP p l = true → ∀ k (h : k < l.length), 32 ≤ l[k].toNat ∧ l[k].toNat ≠ 127 ∧ (l[k].toNat = 34 → (k = 0 ∧ p = 92) ∨ (∃ h0 : 0 < k, (l[k - 1]'(by omega)).toNat = 92))
  | [], _, _, k, h => by simp at h
  | b :: l, p, hk, k, h => by
    rw [okP, Bool.and_eq_true, Bool.and_eq_true, Bool.and_eq_true, decide_eq_true_eq, decide_eq_true_eq, Bool.or_eq_true, decide_eq_true_eq, decide_eq_true_eq] at hk
    obtain ⟨⟨⟨h1, h2⟩, h3⟩, h4⟩ := hk
    cases k with
    | zero => exact ⟨h1, h2, fun e => Or.inl ⟨rfl, h3.resolve_left (fun f => f e)⟩⟩
    | succ k =>
      obtain ⟨a1, a2, a3⟩ := okP_at l b.toNat h4 k (by simpa using h)
      refine ⟨a1, a2, fun e => Or.inr ⟨by omega, ?_⟩⟩
      rcases a3 e with ⟨rfl, hb⟩ | ⟨h0, hb⟩
      · exact hb
      · obtain ⟨j, rfl⟩ : ∃ j, k = j + 1 := ⟨k - 1, by omega⟩
        exact hb
def okM (b : UInt8) : Bool := decide (b.toNat ≠ 60) && decide (b.toNat ≠ 62) && decide (b.toNat ≠ 34) && decide (b.toNat ≠ 39)
theorem okM_code : ∀ n, n < 256 → (mailN n).all okM = true := by decide +kernel
theorem okM_enc : ∀ (s : List UInt8), (enc true s).all okM = true
  | [] => rfl
  | b :: s => by
    rw [enc_cons, List.all_append, okM_enc s, Bool.and_true]
    exact okM_code b.toNat b.toNat_lt
theorem all_at {f : UInt8 → Bool} {l : List UInt8} (h : l.all f = true) (k : Nat) (hk : k < l.length) : f l[k] = true := List.all_eq_true.1 h _ (List.getElem_mem hk)
theorem getB (l : List UInt8) (k : Nat) (h : k < (Wp.B l).size) : (Wp.B l)[k]'h = l[k]'(by rw [← Wp.B_size]; exact h) := rfl
/-- What From tells is for the channel what it was told of. -/
theorem from_cases (c : Nat) (hc : c = 1 ∨ c = 2 ∨ c = 3) (l : List UInt8) : (∃ u, fromC c l = (u, 0) ∧ toR c u = (l, 0) ∧ u.length ≤ l.length) ∨ fromC c l = ([], 7) := by
  rcases hc with rfl | rfl | rfl
  · rw [fromC_1]
    unfold fromT
    by_cases h : enc false (und false l) = l
    · rw [if_pos h]
      exact Or.inl ⟨_, rfl, by show (enc false (und false l), (0 : Int)) = _; rw [h], und_len false _ l (Nat.le_refl _)⟩
    · rw [if_neg h]; exact Or.inr rfl
  · rw [fromC_2]
    unfold fromT
    by_cases h : enc true (und true l) = l
    · rw [if_pos h]
      exact Or.inl ⟨_, rfl, by show (enc true (und true l), (0 : Int)) = _; rw [h], und_len true _ l (Nat.le_refl _)⟩
    · rw [if_neg h]; exact Or.inr rfl
  · rw [fromC_3]
    unfold fromT
    by_cases h : sms false l = l
    · rw [if_pos h]
      exact Or.inl ⟨_, rfl, by show (sms false l, (0 : Int)) = _; rw [h], Nat.le_refl _⟩
    · rw [if_neg h]; exact Or.inr rfl
/-- What To tells is told back. -/
theorem from_to (c : Nat) (s : List UInt8) : (c = 1 ∨ c = 2) → fromC c (toR c s).1 = (s, 0) := by
  rintro (rfl | rfl)
  · exact from_ok false s
  · exact from_ok true s
theorem from_to3 (s : List UInt8) : fromC 3 (toR 3 s).1 = (sms false s, 0) := by
  show (if (sms false s).all plainB then (sms false s, (0 : Int)) else ([], 7)) = _
  rw [if_pos (sms_all false s)]
end Go.Proofs.YtlhmbmnjajbbaaaDoor.Es
