/-
  Plain mathematics of wire.Num's array: how many bytes a magnitude has, and what the array holds behind each round. No condition but those that the theorems state.
  The walks of wire.Num and of what it calls: whatever number of 64 bits is put, its bytes are handed back, and what was there stays. Conditions: the number fits 64 bits.
-/
import Derived.Lib.BitFns
import Derived.Lib.Strings
import Derived.WalkKit
import Derived.Test.YteiccjakaabfnaaGreatDoorPlain
import Derived.Test.YteiccjakaabfnaaGreatDoorRows
import Derived.Test.YteiccjakaabfnaaGreatDoorShelf
import Derived.WalkSpells
import Derived.WalkLawsBesides
import Derived.Lib.Hide
namespace Go.Proofs.YteiccjakaabfnaaGreatDoor.Wp

theorem bitLen_beF (f m : Nat) (hf : f ≤ 8) (h : m < 256 ^ f) : (Lib.bitLen m + 7) / 8 = (beF f m).length := by
  induction f generalizing m with
  | zero => simp at h; subst h; rfl
  | succ f ih =>
    simp only [beF]
    have h64 : m < 2 ^ 64 := Nat.lt_of_lt_of_le h (by
      have : (256 : Nat) ^ (f + 1) ≤ 256 ^ 8 := Nat.pow_le_pow_right (by omega) hf
      simpa using this)
    split
    · next h0 => subst h0; rfl
    · next h0 =>
      by_cases h1 : 256 ≤ m
      · rw [Lib.bitLen_shift8 m h1 (by simpa using h64)]
        have := ih (m / 256) (by omega) (by rw [Nat.pow_succ] at h; omega)
        simp only [List.length_append, List.length_singleton]
        omega
      · have hz : m / 256 = 0 := by omega
        rw [hz, beF_zero]
        have hle := Lib.bitLen_le8 ⟨m, by omega⟩
        simp only [] at hle
        have hpos := Lib.bitLen_half m h0 h64
        simp only [List.nil_append, List.length_singleton]
        omega

theorem bitLen_be (m : Nat) (h : m < 18446744073709551616) : (Lib.bitLen m + 7) / 8 = (be m).length := bitLen_beF 8 m (by omega) (by simpa using h)

theorem bitLen_le (m : Nat) (h : m < 18446744073709551616) : Lib.bitLen m ≤ 64 := by
  have e := bitLen_be m h
  have := be_length m
  omega

/-- Digit number j, from the highest on. -/
theorem beF_get (f m : Nat) (j : Nat) (hj : j < (beF f m).length) : (beF f m)[j] = UInt8.ofNat (m / 256 ^ ((beF f m).length - 1 - j)) := by
  induction f generalizing m j with
  | zero => simp [beF] at hj
  | succ f ih =>
    by_cases h0 : m = 0
    · subst h0; rw [beF_zero] at hj; simp at hj
    · have e : beF (f + 1) m = beF f (m / 256) ++ [UInt8.ofNat m] := by simp [beF, h0]
      have hlen : (beF (f + 1) m).length = (beF f (m / 256)).length + 1 := by rw [e]; simp
      have : (beF (f + 1) m)[j] = (beF f (m / 256) ++ [UInt8.ofNat m])[j]'(by rw [← e]; exact hj) := by
        congr 1
      rw [this]
      by_cases hl : j < (beF f (m / 256)).length
      · rw [List.getElem_append_left hl, ih (m / 256) j hl, hlen]
        congr 1
        rw [Nat.div_div_eq_div_mul]
        congr 1
        rw [show (beF f (m / 256)).length + 1 - 1 - j = ((beF f (m / 256)).length - 1 - j) + 1 by omega, Nat.pow_succ, Nat.mul_comm]
      · have : j = (beF f (m / 256)).length := by omega
        subst this
        rw [List.getElem_append_right (by omega)]
        simp [hlen]

/-- What stands in the array's place q behind i rounds: hd the head, k the digits' number. -/
def slotAt (hd : Int) (k m i q : Nat) : Int := if q = 0 then hd else if k < q + i ∧ q ≤ k then ((m / 256 ^ (k - q) % 256 : Nat) : Int) else 0
def cellsAt (hd : Int) (k m i : Nat) : Array Value := ((List.range 9).map fun q => Value.int .u8 (slotAt hd k m i q)).toArray

theorem cellsAt_size (hd : Int) (k m i : Nat) : (cellsAt hd k m i).size = 9 := by simp [cellsAt]
theorem cellsAt_get (hd : Int) (k m i q : Nat) (hq : q < 9) : (cellsAt hd k m i)[q]? = some (.int .u8 (slotAt hd k m i q)) := by
  simp [cellsAt, List.getElem?_map, List.getElem?_range hq]

theorem cellsAt_zero (hd : Int) (k m : Nat) : cellsAt hd k m 0 = #[.int .u8 hd, .int .u8 0, .int .u8 0, .int .u8 0, .int .u8 0, .int .u8 0, .int .u8 0, .int .u8 0, .int .u8 0] := by
  have h : ∀ q, slotAt hd k m 0 q = if q = 0 then hd else 0 := by
    intro q; unfold slotAt; split
    · rfl
    · rw [if_neg (by omega)]
  simp only [cellsAt, h]
  rfl

theorem cellsAt_step (hd : Int) (k m i : Nat) (hi : i < k) (hk : k ≤ 8) : (cellsAt hd k m i).setIfInBounds (k - i) (.int .u8 ((m / 256 ^ i % 256 : Nat) : Int)) = cellsAt hd k m (i + 1) := by
  apply Array.ext_getElem?
  intro q
  by_cases hq : q < 9
  · rw [Array.getElem?_setIfInBounds, cellsAt_get _ _ _ _ _ hq, cellsAt_get _ _ _ _ _ hq]
    by_cases h : k - i = q
    · subst h
      rw [if_pos rfl, if_pos (by rw [cellsAt_size]; omega)]
      unfold slotAt
      rw [if_neg (by omega), if_pos (by omega), show k - (k - i) = i by omega]
    · rw [if_neg h]
      unfold slotAt
      congr 2
      split
      · rfl
      · by_cases c : k < q + i ∧ q ≤ k
        · rw [if_pos c, if_pos (by omega)]
        · rw [if_neg c, if_neg (by omega)]
  · rw [Array.getElem?_eq_none (by rw [Array.size_setIfInBounds, cellsAt_size]; omega), Array.getElem?_eq_none (by rw [cellsAt_size]; omega)]

/-- At the end: the head, and the digits. -/
theorem cellsAt_end (n : Int) (j : Nat) (hj : j < (numB n).length) :
    (cellsAt (head n) (be n.natAbs).length n.natAbs (be n.natAbs).length)[j]? = some (.int .u8 (((numB n)[j]).toNat : Int)) := by
  have hl := be_length n.natAbs
  have hn : (numB n).length = (be n.natAbs).length + 1 := by simp [numB]
  rw [cellsAt_get _ _ _ _ _ (by omega)]
  congr 2
  cases j with
  | zero =>
    have := head_lt n
    simp [slotAt, numB]
    omega
  | succ j =>
    have hjl : j < (be n.natAbs).length := by omega
    have e : (numB n)[j + 1] = (be n.natAbs)[j] := by simp [numB]
    rw [e]
    have := beF_get 8 n.natAbs j hjl
    have e2 : (be n.natAbs)[j] = UInt8.ofNat (n.natAbs / 256 ^ ((be n.natAbs).length - 1 - j)) := this
    rw [e2]
    unfold slotAt
    rw [if_neg (by omega), if_pos (by omega)]
    simp only [UInt8.toNat_ofNat']
    rw [show (be n.natAbs).length - (j + 1) = (be n.natAbs).length - 1 - j by omega]
theorem bitLenAux_mono (f a b : Nat) (h : a ≤ b) : Lib.bitLenAux f a ≤ Lib.bitLenAux f b := by
  induction f generalizing a b with
  | zero => simp [Lib.bitLenAux]
  | succ f ih =>
    simp only [Lib.bitLenAux]
    by_cases ha : a = 0
    · rw [if_pos ha]; exact Nat.zero_le _
    · rw [if_neg ha, if_neg (by omega)]
      have := ih (a / 2) (b / 2) (by omega)
      omega
theorem beF_mono (f a b : Nat) (h : a ≤ b) : (beF f a).length ≤ (beF f b).length := by
  induction f generalizing a b with
  | zero => simp [beF]
  | succ f ih =>
    simp only [beF]
    by_cases ha : a = 0
    · rw [if_pos ha]; exact Nat.zero_le _
    · rw [if_neg ha, if_neg (by omega)]
      have := ih (a / 256) (b / 256) (by omega)
      simp only [List.length_append, List.length_singleton]
      omega
theorem numB_mono (a b : Int) (h0 : 0 ≤ a) (h : a ≤ b) : (numB a).length ≤ (numB b).length := by
  have := beF_mono 8 a.natAbs b.natAbs (by omega)
  simp only [numB, List.length_cons]
  show (beF 8 a.natAbs).length + 1 ≤ (beF 8 b.natAbs).length + 1
  omega
/-- WireApart's question: does a's text begin b's? Just if they are one. -/
theorem begins (a b : Int) (ha : I64 a) (hb : I64 b) : (((B (numB b)).extract 0 (B (numB a)).size).toList == (B (numB a)).toList) = (a == b) := by
  rw [Bool.eq_iff_iff, beq_iff_eq, beq_iff_eq, Lib.toList_data, Lib.toList_data, data_extract, B_data, B_data, B_size, List.drop_zero, Nat.sub_zero]
  constructor
  · exact numB_apart a b ha hb
  · rintro rfl
    exact List.take_length
theorem beF_fuel (f m : Nat) (h : m < 256 ^ f) : beF (f + 1) m = beF f m := by
  induction f generalizing m with
  | zero => simp at h; subst h; rfl
  | succ f ih =>
    rw [beF]
    conv => rhs; rw [beF]
    split
    · rfl
    · rw [ih (m / 256) (by rw [Nat.pow_succ] at h; omega)]
/-- The digits of m: those of m / 256, and one more. -/
theorem be_step (m : Nat) (h0 : 0 < m) (h : m < 18446744073709551616) : be m = be (m / 256) ++ [UInt8.ofNat (m % 256)] := by
  have e1 : be m = beF 7 (m / 256) ++ [UInt8.ofNat m] := by
    show beF (7 + 1) m = _
    rw [beF, if_neg (by omega)]
  have e2 : be (m / 256) = beF 7 (m / 256) := beF_fuel 7 (m / 256) (by omega)
  rw [e1, e2]
  congr 2
  apply UInt8.toNat_inj.1
  simp only [UInt8.toNat_ofNat']
  omega
end Go.Proofs.YteiccjakaabfnaaGreatDoor.Wp
namespace Go.Proofs.YteiccjakaabfnaaGreatDoor
open Go.RowKit

theorem len64_any (m : Nat) (w : World) (h1 : m < 18446744073709551616) :
    Calls Tryz.prog 133 #[.int .u64 (m : Int)] w fun e w' => e = .returned (.int .i64 (Lib.bitLen m)) ∧ w = w' := by
  refine (Tryz.bits_Len64 m w (by omega) (by omega)).mono ?_
  rintro e w' ⟨rfl, rfl⟩
  exact ⟨by rw [Int.toNat_natCast], rfl⟩
theorem wrap_neg (n : Int) (h1 : -9223372036854775808 ≤ n) (h2 : n < 0) : IntKind.u64.wrap (-IntKind.u64.wrap n) = (n.natAbs : Int) := by
  simp [IntKind.wrap, IntKind.signed, IntKind.bits]; omega
theorem arr_slice (a : Addr) (k : Nat) (hk : k ≤ 8) (w : World) :
    (Instr.sliceAt 175 (.pointer (some a)) none (some (.int .i64 (1 + (k : Int)))) none).run Tryz.prog w = .ok (.slice (some a) (k + 1) 9) w := by
  have hl : Tryz.prog.arrayLen 175 = 9 := by kernel_rfl
  have he : Tryz.prog.elem 175 = 5 := by kernel_rfl
  have h := run_sliceAt_array_h (P := Tryz.prog) w 175 a (by rw [hl, he]; exact Tryz.underlying175) .i64 (1 + (k : Int)) (by omega) (by rw [hl]; omega)
  rw [he, hl] at h
  rw [h, Tryz.sizeOf5]
  simp only [Result.andThen, slicedAt, Nat.zero_mul, Nat.sub_zero]
  rw [show (1 + (k : Int)).toNat = k + 1 by omega]
  simp [Addr.add]
theorem bytes_conv (w : World) (bs : List UInt8) (C : Array Value) (T : TypeId) (hc : ∀ j (hj : j < bs.length), C[j]? = some (.int .u8 (bs[j].toNat : Int))) (cap : Nat) :
    (convert 84 9 (.slice (some ⟨w.heap.size, 0, none⟩) bs.length cap)).run Tryz.prog (w.alloc (.cells C T)) = .ok (.string (Wp.B bs)) (w.alloc (.cells C T)) := by
  refine run_convert_bytes_back _ 84 9 5 _ cap bs Tryz.underlying84 Tryz.underlying5 Tryz.underlying9 ?_
  intro j hj
  have e : (⟨w.heap.size, 0, none⟩ : Addr).add j = ⟨w.heap.size, j, none⟩ := by simp [Addr.add]; omega
  rw [e, World.cell?_alloc_at _ _ _ _ rfl]
  exact hc j hj
theorem pow8 (i : Nat) : (2 : Int) ^ (8 * i) = ((256 ^ i : Nat) : Int) := by
  rw [Int.pow_mul, Int.natCast_pow]
  rfl
theorem num_conv (n hd : Int) (i m : Nat) (w : World) (Hhd : hd = Wp.head n) (Hk : i = (Wp.be n.natAbs).length) (Hm : m = n.natAbs) :
    (convert 84 9 (.slice (some ⟨w.heap.size, 0, none⟩) (i + 1) 9)).run Tryz.prog (w.alloc (.cells (Wp.cellsAt hd i m i) 175)) = .ok (.string (Wp.B (Wp.numB n))) (w.alloc (.cells (Wp.cellsAt hd i m i) 175)) := by
  subst Hhd Hk Hm
  have hcv := bytes_conv w (Wp.numB n) (Wp.cellsAt (Wp.head n) (Wp.be n.natAbs).length n.natAbs (Wp.be n.natAbs).length) 175 (fun j hj => Wp.cellsAt_end n j hj) 9
  rw [show (Wp.numB n).length = (Wp.be n.natAbs).length + 1 by simp [Wp.numB]] at hcv
  exact hcv

set_option maxHeartbeats 400000 in
theorem num_neg (n : Int) (w : World) (h1 : -9223372036854775808 ≤ n) (h2 : n < 0) :
    Calls Tryz.prog 86 #[.int .i64 n] w fun e w' => e = .returned (.string (Wp.B (Wp.numB n))) ∧ Below w.heap.size w w' := by
  have hbl := Wp.bitLen_be n.natAbs (by omega)
  have hle := Wp.bitLen_le n.natAbs (by omega)
  have hk8 := Wp.be_length n.natAbs
  obtain ⟨L, hL⟩ : ∃ L, L = Lib.bitLen n.natAbs := ⟨_, rfl⟩
  rw [← hL] at hbl hle
  obtain ⟨k, hk⟩ : ∃ k, k = (Wp.be n.natAbs).length := ⟨_, rfl⟩
  rw [← hk] at hbl hk8
  obtain ⟨m, hm⟩ : ∃ m, m = n.natAbs := ⟨_, rfl⟩
  have hmb : m < 18446744073709551616 := by omega
  have hwn := wrap_neg n h1 h2
  rw [← hm] at hwn hL
  have HL := Lib.hid hL
  have Hbl := Lib.hid hbl
  have Hk := Lib.hid hk
  have Hm := Lib.hid hm
  have Hwn := Lib.hid hwn
  clear hL hbl hk hm hwn
  go_enter Tryz.func86, Tryz.ntmps86
  go_wp2_with fail
  rw [Hwn.out]
  refine (len64_any m _ hmb).mono ?_
  rintro e w' ⟨rfl, rfl⟩
  rw [← HL.out]
  go_wp2
  rw [show ((L : Int) + 7) / 8 = (k : Int) by have := Hbl.out; omega]
  rw [← Wp.cellsAt_zero (128 + (k : Int)) k m]
  obtain ⟨hd, hhd⟩ : ∃ hd : Int, hd = 128 + (k : Int) := ⟨_, rfl⟩
  rw [← hhd]
  have Hhd := Lib.hid (show hd = Wp.head n by rw [hhd, Hk.out]; unfold Wp.head; rw [if_pos h2]; omega)
  clear hhd
  go_loopw [7, 24] (fun _ t wr => ∃ i : Nat, i ≤ k ∧ t = .int .i64 i ∧ wr = w.alloc (.cells (Wp.cellsAt hd k m i) 175)) (fun _ t _ => k - (intOf t).toNat)
  case atStart => exact ⟨0, Nat.zero_le _, rfl, rfl⟩
  case round =>
    obtain ⟨i, hi, rfl, rfl⟩ := hrel
    by_cases hlt : i < k
    · have hst := Wp.cellsAt_step hd k m i hlt hk8
      have hcell : (w.alloc (.cells (Wp.cellsAt hd k m i) 175)).cell? ⟨w.heap.size, k - i, none⟩ = some (.int .u8 (Wp.slotAt hd k m i (k - i))) := by
        rw [World.cell?_alloc_at _ _ _ _ rfl, Wp.cellsAt_get _ _ _ _ _ (by omega)]
      have Hst := Lib.hid hst
      clear hst
      go_wp2
      refine ⟨⟨i + 1, by omega, by go_num, ?_⟩, by simp [intOf]; omega⟩
      rw [← Hst.out, pow8 i, Int.natCast_emod, Int.natCast_ediv]
      rfl
    · obtain rfl : i = k := by omega
      have hsl := fun W => arr_slice ⟨w.heap.size, 0, none⟩ i hk8 W
      have hcv := num_conv n hd i m w Hhd.out Hk.out Hm.out
      go_wp2
      go_ret
      exact ⟨rfl, (Below.refl _ _).alloc (Nat.le_refl _) _⟩

set_option maxHeartbeats 400000 in
theorem num_pos (m : Nat) (w : World) (h2 : (m : Int) ≤ 9223372036854775807) :
    Calls Tryz.prog 86 #[.int .i64 (m : Int)] w fun e w' => e = .returned (.string (Wp.B (Wp.numB (m : Int)))) ∧ Below w.heap.size w w' := by
  have hmn : ((m : Int)).natAbs = m := by omega
  have hbl := Wp.bitLen_be m (by omega)
  have hle := Wp.bitLen_le m (by omega)
  have hk8 := Wp.be_length m
  obtain ⟨L, hL⟩ : ∃ L, L = Lib.bitLen m := ⟨_, rfl⟩
  rw [← hL] at hbl hle
  obtain ⟨k, hk⟩ : ∃ k, k = (Wp.be m).length := ⟨_, rfl⟩
  rw [← hk] at hbl hk8
  have hmb : m < 18446744073709551616 := by omega
  have HL := Lib.hid hL
  have Hbl := Lib.hid hbl
  have Hk := Lib.hid hk
  have Hmn := Lib.hid hmn
  clear hL hbl hk hmn
  have hge : ¬ (m : Int) < 0 := by omega
  go_enter Tryz.func86, Tryz.ntmps86
  go_wp2_with fail
  refine (len64_any m _ hmb).mono ?_
  rintro e w' ⟨rfl, rfl⟩
  rw [← HL.out]
  go_wp2
  rw [show ((L : Int) + 7) / 8 = (k : Int) by have := Hbl.out; omega]
  rw [← Wp.cellsAt_zero (k : Int) k m]
  obtain ⟨hd, hhd⟩ : ∃ hd : Int, hd = (k : Int) := ⟨_, rfl⟩
  rw [show Wp.cellsAt (k : Int) k m 0 = Wp.cellsAt hd k m 0 by rw [hhd]]
  have Hhd := Lib.hid (show hd = Wp.head (m : Int) by rw [hhd, Hk.out]; unfold Wp.head; rw [if_neg (by omega), Hmn.out]; omega)
  clear hhd
  go_loopw [7, 24] (fun _ t wr => ∃ i : Nat, i ≤ k ∧ t = .int .i64 i ∧ wr = w.alloc (.cells (Wp.cellsAt hd k m i) 175)) (fun _ t _ => k - (intOf t).toNat)
  case atStart => exact ⟨0, Nat.zero_le _, rfl, rfl⟩
  case round =>
    obtain ⟨i, hi, rfl, rfl⟩ := hrel
    by_cases hlt : i < k
    · have hst := Wp.cellsAt_step hd k m i hlt hk8
      have hcell : (w.alloc (.cells (Wp.cellsAt hd k m i) 175)).cell? ⟨w.heap.size, k - i, none⟩ = some (.int .u8 (Wp.slotAt hd k m i (k - i))) := by
        rw [World.cell?_alloc_at _ _ _ _ rfl, Wp.cellsAt_get _ _ _ _ _ (by omega)]
      have Hst := Lib.hid hst
      clear hst
      go_wp2
      refine ⟨⟨i + 1, by omega, by go_num, ?_⟩, by simp [intOf]; omega⟩
      rw [← Hst.out, pow8 i, Int.natCast_emod, Int.natCast_ediv]
      rfl
    · obtain rfl : i = k := by omega
      have hsl := fun W => arr_slice ⟨w.heap.size, 0, none⟩ i hk8 W
      have hcv := num_conv (m : Int) hd i m w Hhd.out (by rw [Hmn.out]; exact Hk.out) Hmn.out.symm
      go_wp2
      go_ret
      exact ⟨rfl, (Below.refl _ _).alloc (Nat.le_refl _) _⟩


theorem num_any (n : Int) (w : World) (h1 : -9223372036854775808 ≤ n) (h2 : n ≤ 9223372036854775807) :
    Calls Tryz.prog 86 #[.int .i64 n] w fun e w' => e = .returned (.string (Wp.B (Wp.numB n))) ∧ Below w.heap.size w w' := by
  by_cases h : n < 0
  · exact num_neg n w h1 h
  · obtain ⟨m, rfl⟩ := Int.eq_ofNat_of_zero_le (by omega : 0 ≤ n)
    exact num_pos m w h2
end Go.Proofs.YteiccjakaabfnaaGreatDoor
