
/-
  The walks of wire.Num and of what it calls: whatever number of 64 bits is put, its bytes are handed back, and what was there stays. Conditions: the number fits 64 bits.
-/
import Derived.Test.YtlbifinkjghgaaaRows
import Derived.Test.YtlbifinkjghgaaaPlain
import Derived.Test.YtlbifinkjghgaaaNumPlain
import Derived.Test.YtlbifinkjghgaaaShelf
import Derived.WalkKit
import Derived.WalkSpells
import Derived.WalkLawsBesides
import Derived.Lib.Hide
import Derived.Lib.BitFns
namespace Go.Proofs.Ytlbifinkjghgaaa
open Go.RowKit

theorem len64_any (m : Nat) (w : World) (h1 : m < 18446744073709551616) :
    Calls Try.prog 22 #[.int .u64 (m : Int)] w fun e w' => e = .returned (.int .i64 (Lib.bitLen m)) ∧ w = w' := by
  refine (Try.bits_Len64 m w (by omega) (by omega)).mono ?_
  rintro e w' ⟨rfl, rfl⟩
  exact ⟨by rw [Int.toNat_natCast], rfl⟩
theorem wrap_neg (n : Int) (h1 : -9223372036854775808 ≤ n) (h2 : n < 0) : IntKind.u64.wrap (-IntKind.u64.wrap n) = (n.natAbs : Int) := by
  simp [IntKind.wrap, IntKind.signed, IntKind.bits]; omega
theorem arr_slice (a : Addr) (k : Nat) (hk : k ≤ 8) (w : World) :
    (Instr.sliceAt 53 (.pointer (some a)) none (some (.int .i64 (1 + (k : Int)))) none).run Try.prog w = .ok (.slice (some a) (k + 1) 9) w := by
  have hl : Try.prog.arrayLen 53 = 9 := by kernel_rfl
  have he : Try.prog.elem 53 = 5 := by kernel_rfl
  have h := run_sliceAt_array_h (P := Try.prog) w 53 a (by rw [hl, he]; exact Try.underlying53) .i64 (1 + (k : Int)) (by omega) (by rw [hl]; omega)
  rw [he, hl] at h
  rw [h, Try.sizeOf5]
  simp only [Result.andThen, slicedAt, Nat.zero_mul, Nat.sub_zero]
  rw [show (1 + (k : Int)).toNat = k + 1 by omega]
  simp [Addr.add]
theorem bytes_conv (w : World) (bs : List UInt8) (C : Array Value) (T : TypeId) (hc : ∀ j (hj : j < bs.length), C[j]? = some (.int .u8 (bs[j].toNat : Int))) (cap : Nat) :
    (convert 54 9 (.slice (some ⟨w.heap.size, 0, none⟩) bs.length cap)).run Try.prog (w.alloc (.cells C T)) = .ok (.string (Wp.B bs)) (w.alloc (.cells C T)) := by
  refine run_convert_bytes_back _ 54 9 5 _ cap bs Try.underlying54 Try.underlying5 Try.underlying9 ?_
  intro j hj
  have e : (⟨w.heap.size, 0, none⟩ : Addr).add j = ⟨w.heap.size, j, none⟩ := by simp [Addr.add]; omega
  rw [e, World.cell?_alloc_at _ _ _ _ rfl]
  exact hc j hj
theorem pow8 (i : Nat) : (2 : Int) ^ (8 * i) = ((256 ^ i : Nat) : Int) := by
  rw [Int.pow_mul, Int.natCast_pow]
  rfl
theorem num_conv (n hd : Int) (i m : Nat) (w : World) (Hhd : hd = Wp.head n) (Hk : i = (Wp.be n.natAbs).length) (Hm : m = n.natAbs) :
    (convert 54 9 (.slice (some ⟨w.heap.size, 0, none⟩) (i + 1) 9)).run Try.prog (w.alloc (.cells (Wp.cellsAt hd i m i) 53)) = .ok (.string (Wp.B (Wp.numB n))) (w.alloc (.cells (Wp.cellsAt hd i m i) 53)) := by
  subst Hhd Hk Hm
  have hcv := bytes_conv w (Wp.numB n) (Wp.cellsAt (Wp.head n) (Wp.be n.natAbs).length n.natAbs (Wp.be n.natAbs).length) 53 (fun j hj => Wp.cellsAt_end n j hj) 9
  rw [show (Wp.numB n).length = (Wp.be n.natAbs).length + 1 by simp [Wp.numB]] at hcv
  exact hcv

set_option maxHeartbeats 400000 in
theorem num_neg (n : Int) (w : World) (h1 : -9223372036854775808 ≤ n) (h2 : n < 0) :
    Calls Try.prog 9 #[.int .i64 n] w fun e w' => e = .returned (.string (Wp.B (Wp.numB n))) ∧ Below w.heap.size w w' := by
  have hbl := Wp.bitLen_be n.natAbs (by omega)
  have hle := Wp.bitLen_le n.natAbs (by omega)
  have hk8 := Wp.be_length n.natAbs
  obtain ⟨L, hL⟩ : ∃ L, L = Lib.bitLen n.natAbs := ⟨_, rfl⟩
  rw [← hL] at hbl hle
  obtain ⟨k, hk⟩ : ∃ k, k = (Wp.be n.natAbs).length := ⟨_, rfl⟩
  rw [← hk] at hbl hk8
  obtain ⟨m, hm⟩ : ∃ m, m = n.natAbs := ⟨_, rfl⟩
  have hmb : m < 18446744073709551616 := by omega
  have hwn := wrap_neg n h1 h2
  rw [← hm] at hwn hL
  have HL := Lib.hid hL
  have Hbl := Lib.hid hbl
  have Hk := Lib.hid hk
  have Hm := Lib.hid hm
  have Hwn := Lib.hid hwn
  clear hL hbl hk hm hwn
  go_enter Try.func9, Try.ntmps9
  go_wp2_with fail
  rw [Hwn.out]
  refine (len64_any m _ hmb).mono ?_
  rintro e w' ⟨rfl, rfl⟩
  rw [← HL.out]
  go_wp2
  rw [show ((L : Int) + 7) / 8 = (k : Int) by have := Hbl.out; omega]
  rw [← Wp.cellsAt_zero (128 + (k : Int)) k m]
  obtain ⟨hd, hhd⟩ : ∃ hd : Int, hd = 128 + (k : Int) := ⟨_, rfl⟩
  rw [← hhd]
  have Hhd := Lib.hid (show hd = Wp.head n by rw [hhd, Hk.out]; unfold Wp.head; rw [if_pos h2]; omega)
  clear hhd
  go_loopw [7, 24] (fun _ t wr => ∃ i : Nat, i ≤ k ∧ t = .int .i64 i ∧ wr = w.alloc (.cells (Wp.cellsAt hd k m i) 53)) (fun _ t _ => k - (intOf t).toNat)
  case atStart => exact ⟨0, Nat.zero_le _, rfl, rfl⟩
  case round =>
    obtain ⟨i, hi, rfl, rfl⟩ := hrel
    by_cases hlt : i < k
    · have hst := Wp.cellsAt_step hd k m i hlt hk8
      have hcell : (w.alloc (.cells (Wp.cellsAt hd k m i) 53)).cell? ⟨w.heap.size, k - i, none⟩ = some (.int .u8 (Wp.slotAt hd k m i (k - i))) := by
        rw [World.cell?_alloc_at _ _ _ _ rfl, Wp.cellsAt_get _ _ _ _ _ (by omega)]
      have Hst := Lib.hid hst
      clear hst
      go_wp2
      refine ⟨⟨i + 1, by omega, by go_num, ?_⟩, by simp [intOf]; omega⟩
      rw [← Hst.out, pow8 i, Int.natCast_emod, Int.natCast_ediv]
      rfl
    · obtain rfl : i = k := by omega
      have hsl := fun W => arr_slice ⟨w.heap.size, 0, none⟩ i hk8 W
      have hcv := num_conv n hd i m w Hhd.out Hk.out Hm.out
      go_wp2
      go_ret
      exact ⟨rfl, (Below.refl _ _).alloc (Nat.le_refl _) _⟩

set_option maxHeartbeats 400000 in
theorem num_pos (m : Nat) (w : World) (h2 : (m : Int) ≤ 9223372036854775807) :
    Calls Try.prog 9 #[.int .i64 (m : Int)] w fun e w' => e = .returned (.string (Wp.B (Wp.numB (m : Int)))) ∧ Below w.heap.size w w' := by
  have hmn : ((m : Int)).natAbs = m := by omega
  have hbl := Wp.bitLen_be m (by omega)
  have hle := Wp.bitLen_le m (by omega)
  have hk8 := Wp.be_length m
  obtain ⟨L, hL⟩ : ∃ L, L = Lib.bitLen m := ⟨_, rfl⟩
  rw [← hL] at hbl hle
  obtain ⟨k, hk⟩ : ∃ k, k = (Wp.be m).length := ⟨_, rfl⟩
  rw [← hk] at hbl hk8
  have hmb : m < 18446744073709551616 := by omega
  have HL := Lib.hid hL
  have Hbl := Lib.hid hbl
  have Hk := Lib.hid hk
  have Hmn := Lib.hid hmn
  clear hL hbl hk hmn
  have hge : ¬ (m : Int) < 0 := by omega
  go_enter Try.func9, Try.ntmps9
  go_wp2_with fail
  refine (len64_any m _ hmb).mono ?_
  rintro e w' ⟨rfl, rfl⟩
  rw [← HL.out]
  go_wp2
  rw [show ((L : Int) + 7) / 8 = (k : Int) by have := Hbl.out; omega]
  rw [← Wp.cellsAt_zero (k : Int) k m]
  obtain ⟨hd, hhd⟩ : ∃ hd : Int, hd = (k : Int) := ⟨_, rfl⟩
  rw [show Wp.cellsAt (k : Int) k m 0 = Wp.cellsAt hd k m 0 by rw [hhd]]
  have Hhd := Lib.hid (show hd = Wp.head (m : Int) by rw [hhd, Hk.out]; unfold Wp.head; rw [if_neg (by omega), Hmn.out]; omega)
  clear hhd
  go_loopw [7, 24] (fun _ t wr => ∃ i : Nat, i ≤ k ∧ t = .int .i64 i ∧ wr = w.alloc (.cells (Wp.cellsAt hd k m i) 53)) (fun _ t _ => k - (intOf t).toNat)
  case atStart => exact ⟨0, Nat.zero_le _, rfl, rfl⟩
  case round =>
    obtain ⟨i, hi, rfl, rfl⟩ := hrel
    by_cases hlt : i < k
    · have hst := Wp.cellsAt_step hd k m i hlt hk8
      have hcell : (w.alloc (.cells (Wp.cellsAt hd k m i) 53)).cell? ⟨w.heap.size, k - i, none⟩ = some (.int .u8 (Wp.slotAt hd k m i (k - i))) := by
        rw [World.cell?_alloc_at _ _ _ _ rfl, Wp.cellsAt_get _ _ _ _ _ (by omega)]
      have Hst := Lib.hid hst
      clear hst
      go_wp2
      refine ⟨⟨i + 1, by omega, by go_num, ?_⟩, by simp [intOf]; omega⟩
      rw [← Hst.out, pow8 i, Int.natCast_emod, Int.natCast_ediv]
      rfl
    · obtain rfl : i = k := by omega
      have hsl := fun W => arr_slice ⟨w.heap.size, 0, none⟩ i hk8 W
      have hcv := num_conv (m : Int) hd i m w Hhd.out (by rw [Hmn.out]; exact Hk.out) Hmn.out.symm
      go_wp2
      go_ret
      exact ⟨rfl, (Below.refl _ _).alloc (Nat.le_refl _) _⟩


theorem num_any (n : Int) (w : World) (h1 : -9223372036854775808 ≤ n) (h2 : n ≤ 9223372036854775807) :
    Calls Try.prog 9 #[.int .i64 n] w fun e w' => e = .returned (.string (Wp.B (Wp.numB n))) ∧ Below w.heap.size w w' := by
  by_cases h : n < 0
  · exact num_neg n w h1 h
  · obtain ⟨m, rfl⟩ := Int.eq_ofNat_of_zero_le (by omega : 0 ≤ n)
    exact num_pos m w h2
end Go.Proofs.Ytlbifinkjghgaaa
