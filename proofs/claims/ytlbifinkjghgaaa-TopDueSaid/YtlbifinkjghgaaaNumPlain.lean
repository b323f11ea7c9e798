
/-
  Plain mathematics of wire.Num's array: how many bytes a magnitude has, and what the array holds behind each round. No condition but those that the theorems state.
-/
import Derived.Lib.BitFns
import Derived.Lib.Strings
import Derived.WalkKit
import Derived.Test.YtlbifinkjghgaaaPlain
namespace Go.Proofs.Ytlbifinkjghgaaa.Wp

theorem bitLen_beF (f m : Nat) (hf : f ≤ 8) (h : m < 256 ^ f) : (Lib.bitLen m + 7) / 8 = (beF f m).length := by
  induction f generalizing m with
  | zero => simp at h; subst h; rfl
  | succ f ih =>
    simp only [beF]
    have h64 : m < 2 ^ 64 := Nat.lt_of_lt_of_le h (by
      have : (256 : Nat) ^ (f + 1) ≤ 256 ^ 8 := Nat.pow_le_pow_right (by omega) hf
      simpa using this)
    split
    · next h0 => subst h0; rfl
    · next h0 =>
      by_cases h1 : 256 ≤ m
      · rw [Lib.bitLen_shift8 m h1 (by simpa using h64)]
        have := ih (m / 256) (by omega) (by rw [Nat.pow_succ] at h; omega)
        simp only [List.length_append, List.length_singleton]
        omega
      · have hz : m / 256 = 0 := by omega
        rw [hz, beF_zero]
        have hle := Lib.bitLen_le8 ⟨m, by omega⟩
        simp only [] at hle
        have hpos := Lib.bitLen_half m h0 h64
        simp only [List.nil_append, List.length_singleton]
        omega

theorem bitLen_be (m : Nat) (h : m < 18446744073709551616) : (Lib.bitLen m + 7) / 8 = (be m).length := bitLen_beF 8 m (by omega) (by simpa using h)

theorem bitLen_le (m : Nat) (h : m < 18446744073709551616) : Lib.bitLen m ≤ 64 := by
  have e := bitLen_be m h
  have := be_length m
  omega

/-- Digit number j, from the highest on. -/
theorem beF_get (f m : Nat) (j : Nat) (hj : j < (beF f m).length) : (beF f m)[j] = UInt8.ofNat (m / 256 ^ ((beF f m).length - 1 - j)) := by
  induction f generalizing m j with
  | zero => simp [beF] at hj
  | succ f ih =>
    by_cases h0 : m = 0
    · subst h0; rw [beF_zero] at hj; simp at hj
    · have e : beF (f + 1) m = beF f (m / 256) ++ [UInt8.ofNat m] := by simp [beF, h0]
      have hlen : (beF (f + 1) m).length = (beF f (m / 256)).length + 1 := by rw [e]; simp
      have : (beF (f + 1) m)[j] = (beF f (m / 256) ++ [UInt8.ofNat m])[j]'(by rw [← e]; exact hj) := by
        congr 1
      rw [this]
      by_cases hl : j < (beF f (m / 256)).length
      · rw [List.getElem_append_left hl, ih (m / 256) j hl, hlen]
        congr 1
        rw [Nat.div_div_eq_div_mul]
        congr 1
        rw [show (beF f (m / 256)).length + 1 - 1 - j = ((beF f (m / 256)).length - 1 - j) + 1 by omega, Nat.pow_succ, Nat.mul_comm]
      · have : j = (beF f (m / 256)).length := by omega
        subst this
        rw [List.getElem_append_right (by omega)]
        simp [hlen]

/-- What stands in the array's place q behind i rounds: hd the head, k the digits' number. -/
def slotAt (hd : Int) (k m i q : Nat) : Int := if q = 0 then hd else if k < q + i ∧ q ≤ k then ((m / 256 ^ (k - q) % 256 : Nat) : Int) else 0
def cellsAt (hd : Int) (k m i : Nat) : Array Value := ((List.range 9).map fun q => Value.int .u8 (slotAt hd k m i q)).toArray

theorem cellsAt_size (hd : Int) (k m i : Nat) : (cellsAt hd k m i).size = 9 := by simp [cellsAt]
theorem cellsAt_get (hd : Int) (k m i q : Nat) (hq : q < 9) : (cellsAt hd k m i)[q]? = some (.int .u8 (slotAt hd k m i q)) := by
  simp [cellsAt, List.getElem?_map, List.getElem?_range hq]

theorem cellsAt_zero (hd : Int) (k m : Nat) : cellsAt hd k m 0 = #[.int .u8 hd, .int .u8 0, .int .u8 0, .int .u8 0, .int .u8 0, .int .u8 0, .int .u8 0, .int .u8 0, .int .u8 0] := by
  have h : ∀ q, slotAt hd k m 0 q = if q = 0 then hd else 0 := by
    intro q; unfold slotAt; split
    · rfl
    · rw [if_neg (by omega)]
  simp only [cellsAt, h]
  rfl

theorem cellsAt_step (hd : Int) (k m i : Nat) (hi : i < k) (hk : k ≤ 8) : (cellsAt hd k m i).setIfInBounds (k - i) (.int .u8 ((m / 256 ^ i % 256 : Nat) : Int)) = cellsAt hd k m (i + 1) := by
  apply Array.ext_getElem?
  intro q
  by_cases hq : q < 9
  · rw [Array.getElem?_setIfInBounds, cellsAt_get _ _ _ _ _ hq, cellsAt_get _ _ _ _ _ hq]
    by_cases h : k - i = q
    · subst h
      rw [if_pos rfl, if_pos (by rw [cellsAt_size]; omega)]
      unfold slotAt
      rw [if_neg (by omega), if_pos (by omega), show k - (k - i) = i by omega]
    · rw [if_neg h]
      unfold slotAt
      congr 2
      split
      · rfl
      · by_cases c : k < q + i ∧ q ≤ k
        · rw [if_pos c, if_pos (by omega)]
        · rw [if_neg c, if_neg (by omega)]
  · rw [Array.getElem?_eq_none (by rw [Array.size_setIfInBounds, cellsAt_size]; omega), Array.getElem?_eq_none (by rw [cellsAt_size]; omega)]

/-- At the end: the head, and the digits. -/
theorem cellsAt_end (n : Int) (j : Nat) (hj : j < (numB n).length) :
    (cellsAt (head n) (be n.natAbs).length n.natAbs (be n.natAbs).length)[j]? = some (.int .u8 (((numB n)[j]).toNat : Int)) := by
  have hl := be_length n.natAbs
  have hn : (numB n).length = (be n.natAbs).length + 1 := by simp [numB]
  rw [cellsAt_get _ _ _ _ _ (by omega)]
  congr 2
  cases j with
  | zero =>
    have := head_lt n
    simp [slotAt, numB]
    omega
  | succ j =>
    have hjl : j < (be n.natAbs).length := by omega
    have e : (numB n)[j + 1] = (be n.natAbs)[j] := by simp [numB]
    rw [e]
    have := beF_get 8 n.natAbs j hjl
    have e2 : (be n.natAbs)[j] = UInt8.ofNat (n.natAbs / 256 ^ ((be n.natAbs).length - 1 - j)) := this
    rw [e2]
    unfold slotAt
    rw [if_neg (by omega), if_pos (by omega)]
    simp only [UInt8.toNat_ofNat']
    rw [show (be n.natAbs).length - (j + 1) = (be n.natAbs).length - 1 - j by omega]
theorem bitLenAux_mono (f a b : Nat) (h : a ≤ b) : Lib.bitLenAux f a ≤ Lib.bitLenAux f b := by
  induction f generalizing a b with
  | zero => simp [Lib.bitLenAux]
  | succ f ih =>
    simp only [Lib.bitLenAux]
    by_cases ha : a = 0
    · rw [if_pos ha]; exact Nat.zero_le _
    · rw [if_neg ha, if_neg (by omega)]
      have := ih (a / 2) (b / 2) (by omega)
      omega
theorem beF_mono (f a b : Nat) (h : a ≤ b) : (beF f a).length ≤ (beF f b).length := by
  induction f generalizing a b with
  | zero => simp [beF]
  | succ f ih =>
    simp only [beF]
    by_cases ha : a = 0
    · rw [if_pos ha]; exact Nat.zero_le _
    · rw [if_neg ha, if_neg (by omega)]
      have := ih (a / 256) (b / 256) (by omega)
      simp only [List.length_append, List.length_singleton]
      omega
theorem numB_mono (a b : Int) (h0 : 0 ≤ a) (h : a ≤ b) : (numB a).length ≤ (numB b).length := by
  have := beF_mono 8 a.natAbs b.natAbs (by omega)
  simp only [numB, List.length_cons]
  show (beF 8 a.natAbs).length + 1 ≤ (beF 8 b.natAbs).length + 1
  omega
/-- WireApart's question: does a's text begin b's? Just if they are one. -/
theorem begins (a b : Int) (ha : I64 a) (hb : I64 b) : (((B (numB b)).extract 0 (B (numB a)).size).toList == (B (numB a)).toList) = (a == b) := by
  rw [Bool.eq_iff_iff, beq_iff_eq, beq_iff_eq, Lib.toList_data, Lib.toList_data, data_extract, B_data, B_data, B_size, List.drop_zero, Nat.sub_zero]
  constructor
  · exact numB_apart a b ha hb
  · rintro rfl
    exact List.take_length
theorem beF_fuel (f m : Nat) (h : m < 256 ^ f) : beF (f + 1) m = beF f m := by
  induction f generalizing m with
  | zero => simp at h; subst h; rfl
  | succ f ih =>
    rw [beF]
    conv => rhs; rw [beF]
    split
    · rfl
    · rw [ih (m / 256) (by rw [Nat.pow_succ] at h; omega)]
/-- The digits of m: those of m / 256, and one more. -/
theorem be_step (m : Nat) (h0 : 0 < m) (h : m < 18446744073709551616) : be m = be (m / 256) ++ [UInt8.ofNat (m % 256)] := by
  have e1 : be m = beF 7 (m / 256) ++ [UInt8.ofNat m] := by
    show beF (7 + 1) m = _
    rw [beF, if_neg (by omega)]
  have e2 : be (m / 256) = beF 7 (m / 256) := beF_fuel 7 (m / 256) (by omega)
  rw [e1, e2]
  congr 2
  apply UInt8.toNat_inj.1
  simp only [UInt8.toNat_ofNat']
  omega
end Go.Proofs.Ytlbifinkjghgaaa.Wp
