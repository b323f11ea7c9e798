
/-
  The law EscSafe: whatever the channel and the text, it hands back true. Conditions: a text of at most 2^20 bytes; the table of the channels reads as it is laid; the library's ErrSyntax is an error.
-/
import Derived.Test.YtlhmbmnjajbbaaaDoorEsLives
import Derived.Test.YtlhmbmnjajbbaaaDoorEsMath
namespace Go.Proofs.YtlhmbmnjajbbaaaDoor
open Go.RowKit

set_option maxRecDepth 100000 in
set_option maxHeartbeats 2000000 in
theorem escSafe_push (s x : ByteArray) (w : World) (hL : Es.Laid w) (hx : s.size ≤ x.size) (hs : x.size ≤ 6291456)
    (hA : ∀ W, Calls Tryd.prog 8 #[.int .u8 1, .string s] W fun e w' => e = .returned (.tuple #[.string x, .int .i64 0]) ∧ Below W.heap.size W w')
    (hok : ∀ k (h : k < x.size), 32 ≤ x[k].toNat ∧ x[k].toNat ≠ 127 ∧ (x[k].toNat = 34 → ∃ j, ∃ hj : j < x.size, k = j + 1 ∧ x[j].toNat = 92)) :
    Calls Tryd.prog 6 #[.int .u8 1, .string s] w fun e w' => e = .returned (.bool true) ∧ Below w.heap.size w w' := by
  have HLv := Lib.hid (lives13_any w hL)
  have HA := Lib.hid hA
  have HO := Lib.hid hok
  clear hL hA hok
  go_enter Tryd.func6, Tryd.ntmps6
  go_wp2_with fail
  refine HLv.out.mono ?_
  rintro e w1 ⟨rfl, b1⟩
  have B1 := Lib.hid b1
  clear b1 HLv
  go_wp2_with fail
  refine (HA.out _).mono ?_
  rintro e w2 ⟨rfl, b2⟩
  have B2 := Lib.hid (B1.out.trans (b2.mono B1.out.size))
  clear b2 HA
  go_wp2_with fail
  go_loop [7] (fun t => ∃ k : Nat, k ≤ x.size ∧ t = .int .i64 k) (fun t => x.size - (intOf t).toNat)
  case atStart => exact ⟨0, Nat.zero_le _, rfl⟩
  case round =>
    obtain ⟨k, hk, rfl⟩ := hrel
    by_cases hlt : k < x.size
    · obtain ⟨a1, a2, a3⟩ := HO.out k hlt
      have hbk := x[k].toNat_lt
      have h32 : ¬ x[k].toNat < 32 := by omega
      have e127 : ((x[k].toNat : Int) == 127) = false := beq_eq_false_iff_ne.2 (by omega)
      by_cases h34 : x[k].toNat = 34
      · obtain ⟨j, hj, hkj, hb⟩ := a3 h34
        have e34 : ((x[k].toNat : Int) == 34) = true := by rw [h34]; rfl
        have e92 : ((x[j].toNat : Int) != 92) = false := by rw [hb]; rfl
        have ek0 : ((k : Int) == 0) = false := beq_eq_false_iff_ne.2 (by omega)
        have hsub : (k : Int) - 1 = (j : Int) := by omega
        clear a1 a2 a3 h34 hb hkj
        go_wp2_with fail
        exact ⟨⟨k + 1, by omega, by go_num⟩, by simp [intOf]; omega⟩
      · have e34 : ((x[k].toNat : Int) == 34) = false := beq_eq_false_iff_ne.2 (by omega)
        clear a1 a2 a3 h34
        go_wp2_with fail
        exact ⟨⟨k + 1, by omega, by go_num⟩, by simp [intOf]; omega⟩
    · obtain rfl : k = x.size := by omega
      go_wp2_with fail
      go_ret
      exact ⟨rfl, B2.out⟩
set_option maxRecDepth 100000 in
set_option maxHeartbeats 2000000 in
theorem escSafe_mail (s x : ByteArray) (w : World) (hL : Es.Laid w) (hx : s.size ≤ x.size) (hs : x.size ≤ 6291456)
    (hA : ∀ W, Calls Tryd.prog 8 #[.int .u8 2, .string s] W fun e w' => e = .returned (.tuple #[.string x, .int .i64 0]) ∧ Below W.heap.size W w')
    (hok : ∀ k (h : k < x.size), x[k].toNat ≠ 60 ∧ x[k].toNat ≠ 62 ∧ x[k].toNat ≠ 34 ∧ x[k].toNat ≠ 39) :
    Calls Tryd.prog 6 #[.int .u8 2, .string s] w fun e w' => e = .returned (.bool true) ∧ Below w.heap.size w w' := by
  have HLv := Lib.hid (lives13_any w hL)
  have HA := Lib.hid hA
  have HO := Lib.hid hok
  clear hL hA hok
  go_enter Tryd.func6, Tryd.ntmps6
  go_wp2_with fail
  refine HLv.out.mono ?_
  rintro e w1 ⟨rfl, b1⟩
  have B1 := Lib.hid b1
  clear b1 HLv
  go_wp2_with fail
  refine (HA.out _).mono ?_
  rintro e w2 ⟨rfl, b2⟩
  have B2 := Lib.hid (B1.out.trans (b2.mono B1.out.size))
  clear b2 HA
  go_wp2_with fail
  go_loop [7] (fun t => ∃ k : Nat, k ≤ x.size ∧ t = .int .i64 k) (fun t => x.size - (intOf t).toNat)
  case atStart => exact ⟨0, Nat.zero_le _, rfl⟩
  case round =>
    obtain ⟨k, hk, rfl⟩ := hrel
    by_cases hlt : k < x.size
    · obtain ⟨a1, a2, a3, a4⟩ := HO.out k hlt
      have e1 : ((x[k].toNat : Int) == 60) = false := beq_eq_false_iff_ne.2 (by omega)
      have e2 : ((x[k].toNat : Int) == 62) = false := beq_eq_false_iff_ne.2 (by omega)
      have e3 : ((x[k].toNat : Int) == 34) = false := beq_eq_false_iff_ne.2 (by omega)
      have e4 : ((x[k].toNat : Int) == 39) = false := beq_eq_false_iff_ne.2 (by omega)
      clear a1 a2 a3 a4
      go_wp2_with fail
      exact ⟨⟨k + 1, by omega, by go_num⟩, by simp [intOf]; omega⟩
    · obtain rfl : k = x.size := by omega
      go_wp2_with fail
      go_ret
      exact ⟨rfl, B2.out⟩
set_option maxRecDepth 100000 in
set_option maxHeartbeats 2000000 in
theorem escSafe_sms (s x : ByteArray) (w : World) (hL : Es.Laid w) (hx : x.size ≤ s.size) (hs : x.size ≤ 6291456)
    (hA : ∀ W, Calls Tryd.prog 8 #[.int .u8 3, .string s] W fun e w' => e = .returned (.tuple #[.string x, .int .i64 0]) ∧ Below W.heap.size W w')
    (hok : ∀ k (h : k < x.size), 32 ≤ x[k].toNat ∧ x[k].toNat ≤ 126) :
    Calls Tryd.prog 6 #[.int .u8 3, .string s] w fun e w' => e = .returned (.bool true) ∧ Below w.heap.size w w' := by
  have HLv := Lib.hid (lives13_any w hL)
  have HA := Lib.hid hA
  have HO := Lib.hid hok
  have hx2 : ¬ s.size < x.size := by omega
  clear hL hA hok
  go_enter Tryd.func6, Tryd.ntmps6
  go_wp2_with fail
  refine HLv.out.mono ?_
  rintro e w1 ⟨rfl, b1⟩
  have B1 := Lib.hid b1
  clear b1 HLv
  go_wp2_with fail
  refine (HA.out _).mono ?_
  rintro e w2 ⟨rfl, b2⟩
  have B2 := Lib.hid (B1.out.trans (b2.mono B1.out.size))
  clear b2 HA
  go_wp2_with fail
  go_loop [7] (fun t => ∃ k : Nat, k ≤ x.size ∧ t = .int .i64 k) (fun t => x.size - (intOf t).toNat)
  case atStart => exact ⟨0, Nat.zero_le _, rfl⟩
  case round =>
    obtain ⟨k, hk, rfl⟩ := hrel
    by_cases hlt : k < x.size
    · obtain ⟨a1, a2⟩ := HO.out k hlt
      have h1 : ¬ x[k].toNat < 32 := by omega
      have h2 : ¬ 126 < x[k].toNat := by omega
      go_wp2_with fail
      exact ⟨⟨k + 1, by omega, by go_num⟩, by simp [intOf]; omega⟩
    · obtain rfl : k = x.size := by omega
      go_wp2_with fail
      go_ret
      exact ⟨rfl, B2.out⟩
set_option maxRecDepth 100000 in
theorem escSafe_law (c : Nat) (s : ByteArray) (w : World) (hs : s.size ≤ 1048576) (hL : Es.Laid w) :
    Calls Tryd.prog 6 #[.int .u8 (c : Int), .string s] w fun e w' => e = .returned (.bool true) ∧ Below w.heap.size w w' := by
  have hlen := Wp.size_len s
  have hA := fun W => esTo_any c s W (by omega)
  by_cases h1 : c = 1
  · subst h1
    have hl := Es.enc_len false s.data.toList
    refine escSafe_push s (Wp.B (Es.enc false s.data.toList)) w hL (by rw [Wp.B_size]; omega) (by rw [Wp.B_size]; omega) hA (fun k hk => ?_)
    rw [Wp.B_size] at hk
    obtain ⟨a1, a2, a3⟩ := Es.okP_at _ 0 (Es.okP_enc s.data.toList 0) k hk
    refine ⟨a1, a2, fun e => ?_⟩
    rcases a3 e with ⟨_, h⟩ | ⟨h0, hb⟩
    · cases h
    · exact ⟨k - 1, by rw [Wp.B_size]; omega, by omega, hb⟩
  by_cases h2 : c = 2
  · subst h2
    have hl := Es.enc_len true s.data.toList
    refine escSafe_mail s (Wp.B (Es.enc true s.data.toList)) w hL (by rw [Wp.B_size]; omega) (by rw [Wp.B_size]; omega) hA (fun k hk => ?_)
    rw [Wp.B_size] at hk
    have h := Es.all_at (Es.okM_enc s.data.toList) k hk
    unfold Es.okM at h
    simp only [Bool.and_eq_true, decide_eq_true_eq] at h
    exact ⟨h.1.1.1, h.1.1.2, h.1.2, h.2⟩
  by_cases h3 : c = 3
  · subst h3
    have hl := Es.sms_len false s.data.toList
    refine escSafe_sms s (Wp.B (Es.sms false s.data.toList)) w hL (by rw [Wp.B_size]; omega) (by rw [Wp.B_size]; omega) hA (fun k hk => ?_)
    rw [Wp.B_size] at hk
    have h := Es.all_at (Es.sms_all false s.data.toList) k hk
    unfold Es.plainB at h
    simp only [Bool.and_eq_true, decide_eq_true_eq] at h
    exact h
  rw [show Es.toR c s.data.toList = ([], 1) by unfold Es.toR; rw [if_neg h1, if_neg h2, if_neg h3]] at hA
  have HA := Lib.hid hA
  have HLv := Lib.hid (lives13_any w hL)
  have q1 : ((Wp.B []).toList == []) = true := by rw [Lib.toList_data]; rfl
  clear hA hL h1 h2 h3 hlen
  generalize Wp.B [] = x at *
  go_enter Tryd.func6, Tryd.ntmps6
  go_wp2_with fail
  refine HLv.out.mono ?_
  rintro e w1 ⟨rfl, b1⟩
  have B1 := Lib.hid b1
  clear b1 HLv
  go_wp2_with fail
  refine (HA.out _).mono ?_
  rintro e w2 ⟨rfl, b2⟩
  have B2 := Lib.hid (B1.out.trans (b2.mono B1.out.size))
  clear b2 HA
  go_wp2_with fail
  go_ret
  exact ⟨rfl, B2.out⟩
end Go.Proofs.YtlhmbmnjajbbaaaDoor
