
/-
  The walks of wire's functions on one number and one text: each hands back what Wp's plain functions say, and what was there stays. Conditions: a text takes at most 2^48 bytes.
-/
import Derived.Test.YtlbifinkjghgaaaWireNum
import Derived.Deep.QuietTactic
import Derived.BigQuiet
import Derived.Laws.BitsAllLaws
import Derived.Lib.Strings
import Derived.Deep.RegionWith
import Derived.IntWalk
namespace Go.Proofs.Ytlbifinkjghgaaa
open Go.RowKit

theorem below_drewN {B : Nat} {a w : World} (h : Below B a w) (q : Nat) : Below B a (w.drewN q) := by
  refine h.trans ?_
  induction q with
  | zero => exact Below.refl _ _
  | succ q ih => exact ih.drew
theorem below_then {a b c : World} {B : Nat} (h1 : Below B a b) (h2 : Below b.heap.size b c) (hB : B ≤ b.heap.size) : Below B a c := h1.trans (h2.mono hB)
theorem isEmpty_yes (s : ByteArray) (h : s.size = 0) : s.toList.isEmpty = true := by
  rw [Lib.toList_data]
  have hd : s.data.toList = [] := by rw [← List.length_eq_zero_iff, ← Wp.size_len]; exact h
  rw [hd]; rfl
theorem isEmpty_no (s : ByteArray) (h : 0 < s.size) : s.toList.isEmpty = false := by
  rw [Lib.toList_data, Wp.cons_of s h]; rfl
theorem or_round (s : ByteArray) (k : Nat) (hk : k < s.size) (h8 : s.size ≤ 8) :
    bits BinOp.or IntKind.u64 (IntKind.u64.wrap ((Wp.val (s.data.toList.take k) : Int) * 256)) (IntKind.u64.wrap (s[k].toNat : Int)) = ((Wp.val (s.data.toList.take (k + 1)) : Nat) : Int) := by
  have hv := Wp.val_lt (s.data.toList.take k)
  have hp : (256 : Nat) ^ (s.data.toList.take k).length ≤ 256 ^ 7 := Nat.pow_le_pow_right (by omega) (by rw [List.length_take]; omega)
  have h7 : (256 : Nat) ^ 7 = 72057594037927936 := by decide
  have hb := s[k].toNat_lt
  have w64 : ∀ n : Int, IntKind.u64.wrap n = n % 18446744073709551616 := fun n => by simp [IntKind.wrap, IntKind.bits, IntKind.signed]
  rw [w64, w64, Wp.take_snoc s k hk, Wp.val_snoc]
  generalize Wp.val (s.data.toList.take k) = v at *
  generalize s[k].toNat = b at *
  rw [show ((v : Int) * 256) % 18446744073709551616 = ((256 * v : Nat) : Int) by omega, show ((b : Int)) % 18446744073709551616 = (b : Int) by omega]
  rw [u64_or_nat _ _ (by omega) (by omega), nat_join 8 _ _ (by omega) (by omega)]

set_option maxHeartbeats 400000 in
theorem number_any (below : Bool) (mg : ByteArray) (w : World) (hl : mg.size ≤ 8) :
    Calls Try.prog 32 #[.bool below, .string mg] w fun e w' => e = .returned (.tuple #[.int .i64 (Wp.numOf below mg.data.toList), .bool (Wp.okMag below mg.data.toList)]) ∧ w = w' := by
  by_cases h0 : mg.size = 0
  · have hd : mg.data.toList = [] := by rw [← List.length_eq_zero_iff, ← Wp.size_len]; exact h0
    have h1 := isEmpty_yes mg h0
    rw [hd]
    go_enter Try.func32, Try.ntmps32
    go_wp2
    go_ret2
    exact ⟨rfl, rfl⟩
  · have hpos : 0 < mg.size := by omega
    have he := isEmpty_no mg hpos
    by_cases hz : mg[0] = 0
    · have hz' : ((mg[0].toNat : Int) == 0) = true := by rw [hz]; rfl
      have e1 := Lib.hid (Wp.okMag_zero below mg hpos hz)
      have e2 := Lib.hid (Wp.numOf_zero below mg hpos hz)
      clear hz
      go_enter Try.func32, Try.ntmps32
      go_wp2
      go_ret2
      exact ⟨by rw [e1.out, e2.out]; rfl, rfl⟩
    · have hz' : ((mg[0].toNat : Int) == 0) = false := by
        rw [beq_eq_false_iff_ne]
        intro c
        exact hz (UInt8.toNat_inj.1 (by simpa using c))
      have e1 := Lib.hid (Wp.okMag_cons below mg hpos hz)
      have e2 := Lib.hid (Wp.numOf_cons below mg hpos hz)
      clear hz
      go_enter Try.func32, Try.ntmps32
      go_wp2
      go_loop [6, 7, 17] (fun m _ i => ∃ k : Nat, k ≤ mg.size ∧ i = .int .i64 k ∧ m = .int .u64 (Wp.val (mg.data.toList.take k) : Nat)) (fun _ _ i => mg.size - (intOf i).toNat)
      case atStart => exact ⟨0, Nat.zero_le _, rfl, rfl⟩
      case round =>
        obtain ⟨k, hk, rfl, rfl⟩ := hrel
        by_cases hlt : k < mg.size
        · have hor := Lib.hid (or_round mg k hlt hl)
          go_wp2
          refine ⟨⟨k + 1, by omega, by go_num, by rw [hor.out]⟩, by simp [intOf]; omega⟩
        · obtain rfl : k = mg.size := by omega
          rw [show mg.data.toList.take mg.size = mg.data.toList from List.take_of_length_le (by rw [← Wp.size_len]; omega)]
          obtain ⟨v, hv⟩ : ∃ v, v = Wp.val mg.data.toList := ⟨_, rfl⟩
          rw [← hv] at e1 e2 ⊢
          clear hv
          cases below
          · go_wp2
            go_ret2
            exact ⟨by rw [e1.out, e2.out]; simp; exact ⟨(IntWalk.i64_left _).symm, by omega⟩, rfl⟩
          · go_wp2
            go_ret2
            exact ⟨by rw [e1.out, e2.out]; simp; exact ⟨(IntWalk.i64_left _).symm, by omega⟩, rfl⟩

set_option maxHeartbeats 400000 in
theorem cutNum_any (s : ByteArray) (w : World) (hl : s.size ≤ 281474976710656) :
    Calls Try.prog 20 #[.string s] w fun e w' => e = .returned (.tuple #[.int .i64 (Wp.gn s).1, .string (Wp.B (Wp.gn s).2.1), .int .i64 (Wp.gn s).2.2]) ∧ Below w.heap.size w w' := by
  by_cases h0 : s.size = 0
  · have h1 := isEmpty_yes s h0
    have hg := Lib.hid (Wp.gn_empty s h0)
    clear h0
    go_enter Try.func20, Try.ntmps20
    go_wp2_with fail
    go_ret3
    exact ⟨by rw [hg.out]; rfl, Below.refl _ _⟩
  have hpos : 0 < s.size := by omega
  have he := isEmpty_no s hpos
  obtain ⟨k, hk⟩ : ∃ k, s[0].toNat % 128 = k := ⟨_, rfl⟩
  obtain ⟨b, hb⟩ : ∃ b, decide (128 ≤ s[0].toNat) = b := ⟨_, rfl⟩
  obtain ⟨mg, hm⟩ : ∃ mg, mg = s.extract 1 (1 + k) := ⟨_, rfl⟩
  have hg := Wp.gn_eq s hpos k hk b hb mg hm
  have hk' : ((s[0].toNat : Int) % 128) = (k : Int) := by omega
  have hb' : decide ((128 : Int) ≤ (s[0].toNat : Int)) = b := by rw [← hb]; exact decide_eq_decide.2 (by omega)
  have Hk := Lib.hid hk'
  have Hb := Lib.hid hb'
  have Hm := Lib.hid hm
  clear hk hb hk' hb' hm h0
  by_cases h8 : 8 < k
  · rw [if_pos h8] at hg
    have Hg := Lib.hid hg
    clear hg
    go_enter Try.func20, Try.ntmps20
    go_wp2_with fail
    go_quiet (fail)
    simp only [Hk.out, Hb.out]
    go_wp2_with fail
    go_ret3
    exact ⟨by rw [Hg.out]; rfl, below_drewN (Below.refl _ _) _⟩
  rw [if_neg h8] at hg
  by_cases hs : s.size < 1 + k
  · rw [if_pos hs] at hg
    have Hg := Lib.hid hg
    clear hg
    go_enter Try.func20, Try.ntmps20
    go_wp2_with fail
    go_quiet (fail)
    simp only [Hk.out, Hb.out]
    go_wp2_with fail
    go_ret3
    exact ⟨by rw [Hg.out]; rfl, below_drewN (Below.refl _ _) _⟩
  rw [if_neg hs] at hg
  have hsz : mg.size ≤ 8 := by rw [Hm.out, ByteArray.size_extract]; omega
  have hs2 : 1 + k ≤ s.size := by omega
  cases hok : Wp.okMag b mg.data.toList with
  | false =>
    rw [hok, if_neg (by simp)] at hg
    have Hg := Lib.hid hg
    clear hg
    go_enter Try.func20, Try.ntmps20
    go_wp2_with fail
    go_quiet (fail)
    simp only [Hk.out, Hb.out]
    go_wp2_with fail
    rw [← Hm.out]
    refine (number_any _ _ _ hsz).mono ?_
    rintro e w' ⟨rfl, rfl⟩
    go_wp2_with fail
    go_ret3
    exact ⟨by rw [Hg.out]; rfl, below_drewN (Below.refl _ _) _⟩
  | true =>
    rw [hok, if_pos rfl, ← Wp.numOf_ok b _ hok] at hg
    have Hg := Lib.hid hg
    clear hg
    go_enter Try.func20, Try.ntmps20
    go_wp2_with fail
    go_quiet (fail)
    simp only [Hk.out, Hb.out]
    go_wp2_with fail
    rw [← Hm.out]
    refine (number_any _ _ _ hsz).mono ?_
    rintro e w' ⟨rfl, rfl⟩
    go_wp2_with fail
    go_quiet (fail)
    go_wp2_with fail
    go_ret3
    exact ⟨by rw [Hg.out, Wp.B_of]; rfl, below_drewN (below_drewN (Below.refl _ _) _) _⟩

theorem clone_any (s : ByteArray) (w : World) (hl : s.size ≤ 281474976710656) :
    Calls Try.prog 21 #[.string s] w fun e w' => e = .returned (.string s) ∧ Below w.heap.size w w' := by
  go_enter Try.func21, Try.ntmps21
  go_wp2_with fail
  refine (Try.stringslite_Clone s _ hl).mono ?_
  rintro e w1 ⟨rfl, hb⟩
  go_wp2_with fail
  go_ret
  exact ⟨rfl, hb⟩

set_option maxHeartbeats 400000 in
theorem getNum_any (s : ByteArray) (w : World) (hl : s.size ≤ 281474976710656) :
    Calls Try.prog 8 #[.string s] w fun e w' => e = .returned (.tuple #[.int .i64 (Wp.gn s).1, .string (Wp.B (Wp.gn s).2.1), .int .i64 (Wp.gn s).2.2]) ∧ Below w.heap.size w w' := by
  have hc := fun w => cutNum_any s w hl
  obtain ⟨⟨n, r, er⟩, hg⟩ : ∃ g, Wp.gn s = g := ⟨_, rfl⟩
  have hr := Wp.gn_rest s _ _ _ hg
  rw [hg] at hc ⊢
  simp only [] at hc ⊢
  clear hg
  go_enter Try.func8, Try.ntmps8
  go_wp2_with fail
  refine (hc _).mono ?_
  rintro e w1 ⟨rfl, hb⟩
  go_wp2_with fail
  refine (clone_any _ _ (by rw [Wp.B_size]; omega)).mono ?_
  rintro e w2 ⟨rfl, hb2⟩
  go_wp2_with fail
  go_ret3
  exact ⟨rfl, hb.trans (hb2.mono hb.size)⟩

end Go.Proofs.Ytlbifinkjghgaaa
