
/-
  The walks of sum.On, sum.Of and sum.Fold: the sum that Sp's plain functions tell, and what was there stays. Conditions: the table reads as it is laid, a number fits 32 bits, a text takes at most 2^48 bytes.
-/
import Derived.Test.YtpmhgfjnabgilabDoorWire
import Derived.Test.YtpmhgfjnabgilabDoorSumPlain
namespace Go.Proofs.YtpmhgfjnabgilabDoor
open Go.RowKit

/-- The table of what four bits put in, in its block. -/
def Sp.Laid (w : World) : Prop := ∀ i, i < 16 → w.cell? ⟨2, i, none⟩ = some (.int .u32 (Sp.tab i))
theorem Sp.Laid.below {w w' : World} (h : Sp.Laid w) (hb : Below w.heap.size w w') : Sp.Laid w' := fun i hi => (hb.cell (World.block_lt_of_cell? w _ (h i hi))).trans (h i hi)

theorem Sp.max_xor (n : Nat) (h : n < 4294967296) : bits BinOp.xor IntKind.u32 IntKind.u32.max (n : Int) = ((4294967295 - n : Nat) : Int) := by
  have e : IntKind.u32.max = ((4294967295 : Nat) : Int) := by decide
  rw [e, u32_xor_nat _ _ (by omega) h]
  congr 1
  apply Nat.eq_of_testBit_eq
  intro i
  rw [Nat.testBit_xor]
  have e2 : 4294967295 - n = 2 ^ 32 - (n + 1) := by omega
  rw [e2, Nat.testBit_two_pow_sub_succ (by omega)]
  have e3 : (4294967295 : Nat).testBit i = decide (i < 32) := Nat.testBit_two_pow_sub_one 32 i
  rw [e3]
  by_cases c : i < 32
  · simp [c]
  · have : n.testBit i = false := Nat.testBit_lt_two_pow (Nat.lt_of_lt_of_le h (by
      have : (2 : Nat) ^ 32 ≤ 2 ^ i := Nat.pow_le_pow_right (by omega) (by omega)
      omega))
    simp [c, this]
theorem Sp.byte_xor (t : Nat) (b : UInt8) (h : t < 4294967296) : bits BinOp.xor IntKind.u32 (t : Int) (b.toNat : Int) = ((t ^^^ b.toNat : Nat) : Int) := by
  have hb := b.toNat_lt
  rw [u32_xor_nat _ _ h (by omega)]
theorem Sp.low4 (u : Nat) (h : u < 4294967296) : bits BinOp.and IntKind.u32 (u : Int) 15 = ((u % 16 : Nat) : Int) := by
  have := u32_and_nat u 15 h (by omega)
  rw [nat_mask4] at this
  exact this
theorem Sp.nib_xor (u : Nat) (h : u < 4294967296) : bits BinOp.xor IntKind.u32 ((u : Int) / 16) ((Sp.tab (u % 16) : Nat) : Int) = ((Sp.nib u : Nat) : Int) := by
  rw [show ((u : Int) / 16) = ((u / 16 : Nat) : Int) by omega, u32_xor_nat _ _ (by omega) (Sp.tab_lt _ (by omega))]
  rfl

set_option maxHeartbeats 400000 in
theorem on_any (n : Nat) (s : ByteArray) (w : World) (hl : Sp.Laid w) (h : n < 4294967296) (hs : s.size ≤ 281474976710656) :
    Calls Tryd.prog 147 #[.int .u32 (n : Int), .string s] w fun e w' => e = .returned (.int .u32 (Sp.on n s.data.toList)) ∧ w = w' := by
  have Hl := Lib.hid hl
  have e0 := Sp.max_xor n h
  obtain ⟨m, hm⟩ : ∃ m, m = 4294967295 - n := ⟨_, rfl⟩
  rw [← hm] at e0
  have hml : m < 4294967296 := by omega
  have hon := Lib.hid (show Sp.on n s.data.toList = 4294967295 - Sp.run m s.data.toList by rw [hm]; rfl)
  clear hl hm
  go_enter Tryd.func147, Tryd.ntmps147
  go_wp2_with fail
  clear e0
  go_loop [5, 6, 11] (fun t _ i => ∃ k : Nat, k ≤ s.size ∧ i = .int .i64 k ∧ t = .int .u32 (Sp.run m (s.data.toList.take k))) (fun _ _ i => s.size - (intOf i).toNat)
  case atStart => exact ⟨0, Nat.zero_le _, rfl, rfl⟩
  case round =>
    obtain ⟨k, hk, rfl, rfl⟩ := hrel
    have hrl := Sp.run_lt m (s.data.toList.take k) hml
    by_cases hlt : k < s.size
    · have hsn := Wp.take_snoc s k hlt
      have hnext : Sp.run m (s.data.toList.take (k + 1)) = Sp.nib (Sp.nib (Sp.run m (s.data.toList.take k) ^^^ s[k].toNat)) := by rw [hsn, Sp.run_snoc]; rfl
      obtain ⟨t, ht⟩ : ∃ t, t = Sp.run m (s.data.toList.take k) := ⟨_, rfl⟩
      rw [← ht] at hrl hnext ⊢
      have e1 := Sp.byte_xor t s[k] hrl
      have hb := s[k].toNat_lt
      have hu := Sp.xor_lt t s[k].toNat hrl (by omega)
      obtain ⟨u, hue⟩ : ∃ u, u = t ^^^ s[k].toNat := ⟨_, rfl⟩
      rw [← hue] at e1 hu hnext
      have e2 := Sp.low4 u hu
      have c1 := Hl.out (u % 16) (by omega)
      have e3 := Sp.nib_xor u hu
      have hu2 := Sp.nib_lt u hu
      have hi : u % 16 < 16 := by omega
      obtain ⟨u2, hu2e⟩ : ∃ u2, u2 = Sp.nib u := ⟨_, rfl⟩
      rw [← hu2e] at hnext e3 hu2
      have e4 := Sp.low4 u2 hu2
      have c2 := Hl.out (u2 % 16) (by omega)
      have e5 := Sp.nib_xor u2 hu2
      have hi2 : u2 % 16 < 16 := by omega
      obtain ⟨u3, hu3e⟩ : ∃ u3, u3 = Sp.nib u2 := ⟨_, rfl⟩
      rw [← hu3e] at hnext e5
      obtain ⟨i1, hi1⟩ : ∃ i1, i1 = u % 16 := ⟨_, rfl⟩
      obtain ⟨i2, hi2e⟩ : ∃ i2, i2 = u2 % 16 := ⟨_, rfl⟩
      rw [← hi1] at e2 c1 e3 hi
      rw [← hi2e] at e4 c2 e5 hi2
      obtain ⟨a1, ha1⟩ : ∃ a1, a1 = Sp.tab i1 := ⟨_, rfl⟩
      obtain ⟨a2, ha2⟩ : ∃ a2, a2 = Sp.tab i2 := ⟨_, rfl⟩
      rw [← ha1] at c1 e3
      rw [← ha2] at c2 e5
      have Hnext := Lib.hid hnext
      clear hnext ht hue hu2e hu3e hi1 hi2e ha1 ha2 hsn
      go_wp2_with fail
      refine ⟨⟨k + 1, by omega, by go_num, by rw [Hnext.out]⟩, by simp [intOf]; omega⟩
    · obtain rfl : k = s.size := by omega
      rw [show s.data.toList.take s.size = s.data.toList from List.take_of_length_le (by rw [← Wp.size_len]; omega)] at hrl ⊢
      have e6 := Sp.max_xor _ hrl
      obtain ⟨t, ht⟩ : ∃ t, t = Sp.run m s.data.toList := ⟨_, rfl⟩
      rw [← ht] at hrl e6 hon ⊢
      clear ht
      go_wp2_with fail
      go_ret
      exact ⟨by rw [hon.out]; rfl, rfl⟩

theorem of_any (s : ByteArray) (w : World) (hl : Sp.Laid w) (hs : s.size ≤ 281474976710656) :
    Calls Tryd.prog 130 #[.string s] w fun e w' => e = .returned (.int .u32 (Sp.on 0 s.data.toList)) ∧ w = w' := by
  have hc := on_any 0 s w hl (by omega) hs
  have Hc := Lib.hid hc
  clear hc hl
  go_enter Tryd.func130, Tryd.ntmps130
  go_wp2_with fail
  refine Hc.out.mono ?_
  rintro e w' ⟨rfl, rfl⟩
  go_wp2_with fail
  go_ret
  exact ⟨rfl, rfl⟩
end Go.Proofs.YtpmhgfjnabgilabDoor
