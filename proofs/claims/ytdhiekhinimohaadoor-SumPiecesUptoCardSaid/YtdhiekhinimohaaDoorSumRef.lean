/-
  The walks of the document's own sum, bit by bit (bellmanref02: On, Of, four): it is the one that Sp's plain functions tell. Conditions: a number fits 32 bits, a text takes at most 2^48 bytes.
-/
import Derived.Test.YtdhiekhinimohaaDoorSumFold
namespace Go.Proofs.YtdhiekhinimohaaDoor
open Go.RowKit

theorem Sp.bit_xor (r b q : Nat) (h : r < 4294967296) (hb : b < 2 ^ 8) : bits BinOp.xor IntKind.u32 (r : Int) ((b : Int) / 2 ^ q % 4294967296) = ((r ^^^ (b / 2 ^ q) : Nat) : Int) := by
  have hq : b / 2 ^ q ≤ b := Nat.div_le_self _ _
  have e : (b : Int) / 2 ^ q = ((b / 2 ^ q : Nat) : Int) := by rw [Int.natCast_ediv, Int.natCast_pow]; rfl
  rw [e]
  generalize b / 2 ^ q = y at hq ⊢
  rw [show (y : Int) % 4294967296 = (y : Int) by omega, u32_xor_nat _ _ h (by omega)]
theorem Sp.poly_xor (r : Nat) (h : r < 4294967296) : bits BinOp.xor IntKind.u32 ((r : Int) / 2) 2197175160 = (((r / 2) ^^^ 2197175160 : Nat) : Int) := by
  have := u32_xor_nat (r / 2) 2197175160 (by omega) (by omega)
  rw [show ((r : Int) / 2) = ((r / 2 : Nat) : Int) by omega]
  exact this
set_option maxHeartbeats 1000000 in
theorem ron_any (n : Nat) (s : ByteArray) (w : World) (h : n < 4294967296) (hs : s.size ≤ 281474976710656) :
    Calls Tryd.prog 17 #[.int .u32 (n : Int), .string s] w fun e w' => e = .returned (.int .u32 (Sp.on n s.data.toList)) ∧ w = w' := by
  obtain ⟨m, hm⟩ : ∃ m : Nat, m = 4294967295 - n := ⟨_, rfl⟩
  have hmi : (4294967295 : Int) - n = m := by omega
  have hml : m < 4294967296 := by omega
  have hon := Lib.hid (show Sp.on n s.data.toList = 4294967295 - Sp.run m s.data.toList by rw [hm]; rfl)
  clear hm
  go_enter Tryd.func17, Tryd.ntmps17
  go_wp2_with fail
  clear hmi
  go_loop [5, 6, 7, 8] (fun t i _ _ => ∃ k : Nat, k ≤ s.size ∧ i = .int .i64 k ∧ t = .int .u32 (Sp.run m (s.data.toList.take k))) (fun _ i _ _ => s.size - (intOf i).toNat)
  case atStart => exact ⟨0, Nat.zero_le _, rfl, rfl⟩
  case round =>
    obtain ⟨k, hk, rfl, rfl⟩ := hrel
    have hrl := Sp.run_lt m (s.data.toList.take k) hml
    by_cases hlt : k < s.size
    · obtain ⟨t, ht⟩ : ∃ t, t = Sp.run m (s.data.toList.take k) := ⟨_, rfl⟩
      rw [← ht] at hrl ⊢
      have Hend := Lib.hid (show Sp.run m (s.data.toList.take (k + 1)) = Sp.bitsOf s[k].toNat t 8 by rw [Wp.take_snoc s k hlt, Sp.run_snoc, ← ht, Sp.bits_step])
      clear ht
      have hbl := s[k].toNat_lt
      obtain ⟨b, hb⟩ : ∃ b, b = s[k].toNat := ⟨_, rfl⟩
      have hbi : (s[k].toNat : Int) = b := by rw [hb]
      rw [← hb] at hbl Hend
      clear hb
      go_wp2_with fail
      have H0 := Lib.hid hrl
      go_loop [5, 7, 8] (fun u j _ => ∃ q : Nat, q ≤ 8 ∧ j = .int .i64 q ∧ u = .int .u32 (Sp.bitsOf b t q)) (fun _ j _ => 8 - (intOf j).toNat)
      case atStart => exact ⟨0, by omega, rfl, rfl⟩
      case round =>
        obtain ⟨q, hq, rfl, rfl⟩ := hrel
        by_cases hlq : q < 8
        · have hrq := Sp.bitsOf_lt b t q H0.out
          have hnx : Sp.bitsOf b t (q + 1) = Sp.bit b (Sp.bitsOf b t q) q := rfl
          obtain ⟨r, hr⟩ : ∃ r, r = Sp.bitsOf b t q := ⟨_, rfl⟩
          rw [← hr] at hrq hnx ⊢
          clear hr
          have e1 := Sp.bit_xor r b q hrq hbl
          have hxl := Sp.xor_lt r (b / 2 ^ q) hrq (Nat.lt_of_le_of_lt (Nat.div_le_self _ _) (by omega))
          have e2 := Sp.poly_xor r hrq
          have hbit : Sp.bit b r q = if (r ^^^ (b / 2 ^ q)) % 2 = 1 then (r / 2) ^^^ 2197175160 else r / 2 := rfl
          obtain ⟨x, hx⟩ : ∃ x, x = r ^^^ (b / 2 ^ q) := ⟨_, rfl⟩
          rw [← hx] at e1 hxl hbit
          clear hx
          obtain ⟨y, hy⟩ : ∃ y, y = (r / 2) ^^^ 2197175160 := ⟨_, rfl⟩
          rw [← hy] at e2 hbit
          clear hy
          by_cases hodd : x % 2 = 1
          · rw [if_pos hodd] at hbit
            rw [hbit] at hnx
            have Hnx := Lib.hid hnx
            have ho : ((x : Int) % 2 == 1) = true := by rw [beq_iff_eq]; omega
            clear hbit hnx hodd
            go_wp2_with fail
            refine ⟨⟨q + 1, by omega, by go_num, by rw [Hnx.out]⟩, by simp [intOf]; omega⟩
          · rw [if_neg hodd] at hbit
            rw [hbit] at hnx
            have Hnx := Lib.hid hnx
            have ho : ((x : Int) % 2 == 1) = false := by rw [beq_eq_false_iff_ne]; omega
            clear hbit hnx hodd
            go_wp2_with fail
            refine ⟨⟨q + 1, by omega, by go_num, by rw [Hnx.out]; go_num⟩, by simp [intOf]; omega⟩
        · obtain rfl : q = 8 := by omega
          go_wp2_with fail
          refine ⟨⟨k + 1, by omega, by go_num, by rw [Hend.out]⟩, by simp [intOf]; omega⟩
    · obtain rfl : k = s.size := by omega
      rw [show s.data.toList.take s.size = s.data.toList from List.take_of_length_le (by rw [← Wp.size_len]; omega)] at hrl ⊢
      obtain ⟨t, ht⟩ : ∃ t, t = Sp.run m s.data.toList := ⟨_, rfl⟩
      rw [← ht] at hrl hon ⊢
      clear ht
      go_wp2_with fail
      go_ret
      refine ⟨?_, rfl⟩
      rw [hon.out, show ((4294967295 - t : Nat) : Int) = 4294967295 - (t : Int) by omega]
      rfl

theorem rof_any (s : ByteArray) (w : World) (hs : s.size ≤ 281474976710656) :
    Calls Tryd.prog 15 #[.string s] w fun e w' => e = .returned (.int .u32 (Sp.on 0 s.data.toList)) ∧ w = w' := by
  have Hc := Lib.hid (ron_any 0 s w (by omega) hs)
  go_enter Tryd.func15, Tryd.ntmps15
  go_wp2_with fail
  refine Hc.out.mono ?_
  rintro e w' ⟨rfl, rfl⟩
  go_wp2_with fail
  go_ret
  exact ⟨rfl, rfl⟩
set_option maxHeartbeats 400000 in
theorem rfour_any (n : Nat) (w : World) (h : n < 4294967296) :
    Calls Tryd.prog 29 #[.int .u32 (n : Int)] w fun e w' => e = .returned (.string (Wp.B (Sp.four n))) ∧ Below w.heap.size w w' := by
  have hcv := four_conv n w h 5
  go_enter Tryd.func29, Tryd.ntmps29
  go_wp2_with fail
  go_ret
  exact ⟨rfl, (Below.refl _ _).alloc (Nat.le_refl _) _⟩
end Go.Proofs.YtdhiekhinimohaaDoor
