
/-
  Plain mathematics of the check sum: four bits at once are four single bits; the sum is injective in what there is, and in each byte; its bytes, the lowest first. No condition but those that the theorems state.
-/
import Derived.Test.YtpmhgfjnabgilabDoorPlainTwo
namespace Go.Proofs.YtpmhgfjnabgilabDoor.Sp
open Wp

/-- What four bits put in. -/
def tabL : List Nat := [0, 274646895, 549293790, 820201905, 1098587580, 1361435347, 1640403810, 1905808397, 2197175160, 2460548119, 2722870694, 2987750089, 3280807620, 3553878443, 3811616794, 4084100981]
def tab (i : Nat) : Nat := tabL.getD i 0
def nib (t : Nat) : Nat := (t / 16) ^^^ tab (t % 16)
def step (t : Nat) (b : UInt8) : Nat := nib (nib (t ^^^ b.toNat))
def run (t : Nat) (l : List UInt8) : Nat := l.foldl step t
def on (n : Nat) (l : List UInt8) : Nat := 4294967295 - run (4294967295 - n) l
/-- One bit. -/
def g (t : Nat) : Nat := if t % 2 = 1 then (t / 2) ^^^ 2197175160 else t / 2

theorem tab_lt (i : Nat) (h : i < 16) : tab i < 4294967296 := by
  have : ∀ i : Fin 16, tab i.val < 4294967296 := by decide +kernel
  exact this ⟨i, h⟩
theorem xor_lt (a b : Nat) (ha : a < 4294967296) (hb : b < 4294967296) : a ^^^ b < 4294967296 := Nat.xor_lt_two_pow (n := 32) ha hb
theorem nib_lt (t : Nat) (h : t < 4294967296) : nib t < 4294967296 := xor_lt _ _ (by omega) (tab_lt _ (by omega))
theorem step_lt (t : Nat) (b : UInt8) (h : t < 4294967296) : step t b < 4294967296 := by
  have := b.toNat_lt
  exact nib_lt _ (nib_lt _ (xor_lt _ _ h (by omega)))
theorem run_lt (t : Nat) (l : List UInt8) (h : t < 4294967296) : run t l < 4294967296 := by
  induction l generalizing t with
  | nil => exact h
  | cons b l ih => exact ih _ (step_lt t b h)
theorem on_lt (n : Nat) (l : List UInt8) : on n l < 4294967296 := by unfold on; omega
theorem run_append (t : Nat) (a b : List UInt8) : run t (a ++ b) = run (run t a) b := by simp [run, List.foldl_append]
theorem run_snoc (t : Nat) (a : List UInt8) (b : UInt8) : run t (a ++ [b]) = step (run t a) b := by simp [run, List.foldl_append]
theorem on_append (n : Nat) (a b : List UInt8) (h : n < 4294967296) : on (on n a) b = on n (a ++ b) := by
  have := run_lt (4294967295 - n) a (by omega)
  unfold on
  rw [run_append, show 4294967295 - (4294967295 - run (4294967295 - n) a) = run (4294967295 - n) a by omega]
theorem on_nil (n : Nat) (h : n < 4294967296) : on n [] = n := by unfold on run; simp; omega

theorem xor_div2 (a b : Nat) : (a ^^^ b) / 2 = a / 2 ^^^ b / 2 := by
  have := Nat.shiftRight_xor_distrib (a := a) (b := b) (i := 1)
  simpa [Nat.shiftRight_eq_div_pow] using this
theorem xor_mod2 (a b : Nat) : (a ^^^ b) % 2 = (a + b) % 2 := by
  have h := Nat.xor_mod_two_pow (a := a) (b := b) (n := 1)
  rw [Nat.pow_one] at h
  rw [h]
  rcases Nat.mod_two_eq_zero_or_one a with ha | ha <;> rcases Nat.mod_two_eq_zero_or_one b with hb | hb <;> rw [ha, hb]
  · show 0 = _; omega
  · show 1 = _; omega
  · show 1 = _; omega
  · show 0 = _; omega
theorem xor_rc (a b c : Nat) (h : a ^^^ c = b ^^^ c) : a = b := by
  have := congrArg (· ^^^ c) h
  simpa [Nat.xor_assoc] using this
theorem xor_lc (a b c : Nat) (h : c ^^^ a = c ^^^ b) : a = b := xor_rc a b c (by rw [Nat.xor_comm a, Nat.xor_comm b, h])
theorem g_xor (a b : Nat) : g (a ^^^ b) = g a ^^^ g b := by
  unfold g
  rw [xor_mod2, xor_div2]
  by_cases ha : a % 2 = 1 <;> by_cases hb : b % 2 = 1
  · rw [if_neg (by omega), if_pos ha, if_pos hb, Nat.xor_assoc, Nat.xor_comm 2197175160, Nat.xor_assoc, Nat.xor_self, Nat.xor_zero]
  · rw [if_pos (by omega), if_pos ha, if_neg hb, Nat.xor_assoc, Nat.xor_assoc, Nat.xor_comm 2197175160]
  · rw [if_pos (by omega), if_neg ha, if_pos hb, Nat.xor_assoc]
  · rw [if_neg (by omega), if_neg ha, if_neg hb]
theorem nib_g (t : Nat) : nib t = g (g (g (g t))) := by
  have h1 : t = (16 * (t / 16)) ^^^ (t % 16) := by
    have h2 : (16 * (t / 16)) ||| (t % 16) = 16 * (t / 16) + t % 16 := by
      have h3 := Nat.two_pow_add_eq_or_of_lt (i := 4) (b := t % 16) (by omega) (t / 16)
      rw [← h3]
    have h4 : (16 * (t / 16)) ^^^ (t % 16) = 16 * (t / 16) + t % 16 := by
      rw [← h2]
      apply Nat.eq_of_testBit_eq
      intro i
      rw [Nat.testBit_xor, Nat.testBit_or]
      have h5 : (16 * (t / 16)).testBit i = (decide (i ≥ 4) && (t / 16).testBit (i - 4)) := by
        have := Nat.testBit_two_pow_mul (i := 4) (a := t / 16) (j := i)
        simpa using this
      have h6 : (t % 16).testBit i = (decide (i < 4) && t.testBit i) := Nat.testBit_mod_two_pow t 4 i
      rw [h5, h6]
      by_cases c : i < 4
      · have c2 : ¬ i ≥ 4 := by omega
        simp [c, c2]
      · simp [c]
    rw [h4]
    omega
  have hq : g (g (g (g (16 * (t / 16))))) = t / 16 := by
    generalize t / 16 = q
    have e1 : g (16 * q) = 8 * q := by unfold g; rw [if_neg (by omega)]; omega
    have e2 : g (8 * q) = 4 * q := by unfold g; rw [if_neg (by omega)]; omega
    have e3 : g (4 * q) = 2 * q := by unfold g; rw [if_neg (by omega)]; omega
    have e4 : g (2 * q) = q := by unfold g; rw [if_neg (by omega)]; omega
    rw [e1, e2, e3, e4]
  have hr : ∀ r : Fin 16, g (g (g (g r.val))) = tab r.val := by decide +kernel
  have hr' := hr ⟨t % 16, by omega⟩
  simp only [] at hr'
  conv => rhs; rw [h1]
  rw [g_xor, g_xor, g_xor, g_xor, hq, hr']
  rfl

theorem g_lt (t : Nat) (h : t < 4294967296) : g t < 4294967296 := by
  unfold g
  split
  · exact xor_lt _ _ (by omega) (by omega)
  · omega
theorem g_top (t : Nat) (h : t < 4294967296) : (g t).testBit 31 = decide (t % 2 = 1) := by
  have h1 : (t / 2).testBit 31 = false := Nat.testBit_lt_two_pow (by omega)
  unfold g
  split
  · next c => rw [Nat.testBit_xor, h1, c]; decide
  · next c => rw [h1]; simp [c]
theorem g_inj (a b : Nat) (ha : a < 4294967296) (hb : b < 4294967296) (h : g a = g b) : a = b := by
  have h1 := g_top a ha
  have h2 := g_top b hb
  rw [h, h2, decide_eq_decide] at h1
  unfold g at h
  by_cases c : a % 2 = 1
  · have c2 : b % 2 = 1 := h1.2 c
    rw [if_pos c, if_pos c2] at h
    have := xor_rc _ _ _ h
    omega
  · have c2 : ¬ b % 2 = 1 := fun x => c (h1.1 x)
    rw [if_neg c, if_neg c2] at h
    omega
theorem nib_inj (a b : Nat) (ha : a < 4294967296) (hb : b < 4294967296) (h : nib a = nib b) : a = b := by
  rw [nib_g, nib_g] at h
  have a1 := g_lt a ha
  have b1 := g_lt b hb
  have a2 := g_lt _ a1
  have b2 := g_lt _ b1
  have a3 := g_lt _ a2
  have b3 := g_lt _ b2
  exact g_inj _ _ ha hb (g_inj _ _ a1 b1 (g_inj _ _ a2 b2 (g_inj _ _ a3 b3 h)))
theorem step_inj (a b : Nat) (x y : UInt8) (ha : a < 4294967296) (hb : b < 4294967296) (h : step a x = step b y) : a ^^^ x.toNat = b ^^^ y.toNat := by
  have hx := x.toNat_lt
  have hy := y.toNat_lt
  have h1 := xor_lt a x.toNat ha (by omega)
  have h2 := xor_lt b y.toNat hb (by omega)
  exact nib_inj _ _ h1 h2 (nib_inj _ _ (nib_lt _ h1) (nib_lt _ h2) h)
theorem run_inj (l : List UInt8) (a b : Nat) (ha : a < 4294967296) (hb : b < 4294967296) (h : run a l = run b l) : a = b := by
  induction l generalizing a b with
  | nil => exact h
  | cons x l ih =>
    have := ih (step a x) (step b x) (step_lt a x ha) (step_lt b x hb) h
    exact xor_rc _ _ _ (step_inj a b x x ha hb this)
/-- Data of which one byte is another have another sum. -/
theorem on_turned (n : Nat) (p : List UInt8) (x y : UInt8) (q : List UInt8) (h : x ≠ y) : on n (p ++ x :: q) ≠ on n (p ++ y :: q) := by
  intro c
  have t0 : 4294967295 - n < 4294967296 := by omega
  have h1 := run_lt _ p t0
  have l1 := run_lt (4294967295 - n) (p ++ x :: q) t0
  have l2 := run_lt (4294967295 - n) (p ++ y :: q) t0
  have c1 : run (4294967295 - n) (p ++ x :: q) = run (4294967295 - n) (p ++ y :: q) := by unfold on at c; omega
  rw [run_append, run_append] at c1
  have c2 := run_inj q (step (run (4294967295 - n) p) x) (step (run (4294967295 - n) p) y) (step_lt _ _ h1) (step_lt _ _ h1) c1
  have c3 := step_inj _ _ _ _ h1 h1 c2
  exact h (UInt8.toNat_inj.1 (xor_lc _ _ _ c3))

/-- The document's reckoning: of each byte, from its lowest bit on. -/
def bit (b : Nat) (r k : Nat) : Nat := if (r ^^^ (b / 2 ^ k)) % 2 = 1 then (r / 2) ^^^ 2197175160 else r / 2
theorem bit_g (b r k : Nat) : bit b r k ^^^ (b / 2 ^ (k + 1)) = g (r ^^^ (b / 2 ^ k)) := by
  have e : b / 2 ^ (k + 1) = (b / 2 ^ k) / 2 := by rw [Nat.pow_succ, Nat.div_div_eq_div_mul]
  unfold bit g
  rw [e, xor_div2]
  split
  · rw [Nat.xor_assoc, Nat.xor_comm 2197175160, ← Nat.xor_assoc]
  · rfl
/-- Behind k bits. -/
def bitsOf (b r : Nat) : Nat → Nat
  | 0 => r
  | k + 1 => bit b (bitsOf b r k) k
/-- k bits more. -/
def gk (v : Nat) : Nat → Nat
  | 0 => v
  | k + 1 => g (gk v k)
theorem bits_step (b : UInt8) (r : Nat) : bitsOf b.toNat r 8 = step r b := by
  have hb := b.toNat_lt
  have h : ∀ k, bitsOf b.toNat r k ^^^ (b.toNat / 2 ^ k) = gk (r ^^^ b.toNat) k := by
    intro k
    induction k with
    | zero => simp [bitsOf, gk]
    | succ k ih =>
      show bit b.toNat (bitsOf b.toNat r k) k ^^^ _ = g _
      rw [bit_g, ih]
  have h8 := h 8
  rw [show b.toNat / 2 ^ 8 = 0 by omega, Nat.xor_zero] at h8
  rw [h8]
  show g (g (g (g (g (g (g (g (r ^^^ b.toNat)))))))) = _
  unfold step
  rw [nib_g, nib_g]
theorem bit_lt (b r k : Nat) (h : r < 4294967296) : bit b r k < 4294967296 := by
  unfold bit
  split
  · exact xor_lt _ _ (by omega) (by omega)
  · omega
theorem bitsOf_lt (b r k : Nat) (h : r < 4294967296) : bitsOf b r k < 4294967296 := by
  induction k with
  | zero => exact h
  | succ k ih => exact bit_lt _ _ _ ih

/-- A sum's four bytes, the lowest first. -/
def four (n : Nat) : List UInt8 := [UInt8.ofNat n, UInt8.ofNat (n / 256), UInt8.ofNat (n / 65536), UInt8.ofNat (n / 16777216)]
theorem four_inj (a b : Nat) (ha : a < 4294967296) (hb : b < 4294967296) (h : four a = four b) : a = b := by
  simp only [four, List.cons.injEq, and_true] at h
  obtain ⟨h1, h2, h3, h4⟩ := h
  have e1 := congrArg UInt8.toNat h1
  have e2 := congrArg UInt8.toNat h2
  have e3 := congrArg UInt8.toNat h3
  have e4 := congrArg UInt8.toNat h4
  simp only [UInt8.toNat_ofNat'] at e1 e2 e3 e4
  omega
end Go.Proofs.YtpmhgfjnabgilabDoor.Sp
