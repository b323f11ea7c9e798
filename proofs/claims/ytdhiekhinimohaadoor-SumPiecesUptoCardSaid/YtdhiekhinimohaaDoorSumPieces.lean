/-
  The law SumPieces: any sum is gone on with, and any texts have the sum together, as the document says. Conditions: the table reads as it is laid, a text takes at most 2^47 bytes, all texts of the list together at most 2^20.
-/
import Derived.Test.YtdhiekhinimohaaDoorLives
import Derived.Test.YtdhiekhinimohaaDoorSumRef
namespace Go.Proofs.YtdhiekhinimohaaDoor
open Go.RowKit

set_option maxHeartbeats 1000000 in
theorem rfold_any (p : Option Addr) (c : Nat) (l : List ByteArray) (w : World) (hm : l.length ≤ 9223372036854775807) (hl : Wp.At Wp.mkT w p l) (hx : ∀ x ∈ l, x.size ≤ 281474976710656) (hb : (Wp.flat Sp.bytes l).length ≤ 1048576) :
    Calls Tryd.prog 19 #[.slice p l.length c] w fun e w' => e = .returned (.int .u32 (Sp.on 0 (Wp.flat Sp.bytes l))) ∧ w = w' := by
  have hfl : ∀ k, (Wp.B (Wp.flat Sp.bytes (l.take k))).size ≤ 1048576 := fun k => by
    have h : Wp.flat Sp.bytes l = Wp.flat Sp.bytes (l.take k) ++ Wp.flat Sp.bytes (l.drop k) := by
      conv => lhs; rw [← List.take_append_drop k l]
      simp only [Wp.flat, List.map_append, List.flatten_append]
    rw [h, List.length_append] at hb
    rw [Wp.B_size]
    omega
  have Hfl := Lib.hid hfl
  have H1 := Lib.hid hl
  have Hx := Lib.hid hx
  have h0 := fun w => rof_any (Wp.B (Wp.flat Sp.bytes l)) w (by rw [Wp.B_size]; omega)
  rw [Wp.B_data] at h0
  have H0 := Lib.hid h0
  obtain ⟨n, hn⟩ : ∃ n, n = l.length := ⟨_, rfl⟩
  have Hn := Lib.hid hn
  rw [← hn] at hm ⊢
  clear hl hn hx h0 hfl hb
  go_enter Tryd.func19, Tryd.ntmps19
  go_wp2_with fail
  go_loop [3, 5, 8] (fun t _ i => ∃ k : Nat, k ≤ n ∧ i = .int .i64 k ∧ t = .string (Wp.B (Wp.flat Sp.bytes (l.take k)))) (fun _ _ i => n - (intOf i).toNat)
  case atStart => exact ⟨0, Nat.zero_le _, rfl, by rw [List.take_zero]; rfl⟩
  case round =>
    obtain ⟨k, hk, rfl, rfl⟩ := hrel
    by_cases hlt : k < n
    · have hkl : k < l.length := by rw [← Hn.out]; exact hlt
      obtain ⟨b1, o1, rfl, hc1⟩ := H1.out.get k hkl
      have hsx := Hx.out l[k] (List.getElem_mem _)
      have hsn := Wp.flat_snoc Sp.bytes l k hkl
      obtain ⟨x, hx⟩ : ∃ x, x = l[k] := ⟨_, rfl⟩
      rw [← hx] at hc1 hsx hsn
      simp only [Wp.mkT] at hc1
      have hz := Hfl.out k
      have hst := Lib.hid (show Wp.B (Wp.flat Sp.bytes (l.take k)) ++ x = Wp.B (Wp.flat Sp.bytes (l.take (k + 1))) by rw [Wp.B_append, hsn]; rfl)
      obtain ⟨S, hS⟩ : ∃ S, S = Wp.B (Wp.flat Sp.bytes (l.take k)) := ⟨_, rfl⟩
      rw [← hS] at hz hst ⊢
      clear hx hkl hsn hS
      go_wp2_with fail
      refine ⟨⟨k + 1, by omega, by go_num, by rw [hst.out]⟩, by simp [intOf]; omega⟩
    · obtain rfl : k = n := by omega
      rw [show l.take k = l by rw [Hn.out, List.take_length]]
      go_wp2_with fail
      refine (H0.out _).mono ?_
      rintro e w2 ⟨rfl, rfl⟩
      go_wp2_with fail
      go_ret
      exact ⟨rfl, rfl⟩

set_option maxHeartbeats 1000000 in
theorem pieces_any (n : Nat) (s : ByteArray) (p : Option Addr) (c : Nat) (l : List ByteArray) (hn : n < 4294967296) (hs : s.size ≤ 140737488351232) (hm : l.length ≤ 140737488351232) (hx : ∀ x ∈ l, x.size ≤ 140737488351232) (hb : (Wp.flat Sp.bytes l).length ≤ 1048576) (w : World) (hL : Sp.Laid w) (hl : Wp.At Wp.mkT w p l) :
    Calls Tryd.prog 4 #[.int .u32 (n : Int), .string s, .slice p l.length c] w fun e w' => e = .returned (.bool true) ∧ Below w.heap.size w w' := by
  have HL := Lib.hid hL
  have Hl := Lib.hid hl
  have C1 := Lib.hid (fun w hL => on_any n s w hL hn (by omega))
  have C2 := Lib.hid (fun w => ron_any n s w hn (by omega))
  have C3 := Lib.hid (fun w hL hA => fold_any p c l w hL (by omega) hA (fun x h => by have := hx x h; omega))
  have C4 := Lib.hid (fun w hA => rfold_any p c l w (by omega) hA (fun x h => by have := hx x h; omega) hb)
  clear hL hl hx hb
  go_enter Tryd.func4, Tryd.ntmps4
  go_wp2_with fail
  refine (lives_any _ HL.out).mono ?_
  rintro e w1 ⟨rfl, b1⟩
  have HL1 := Lib.hid (HL.out.below b1)
  have Hl1 := Lib.hid (Hl.out.below b1)
  go_wp2_with fail
  refine (C1.out _ HL1.out).mono ?_
  rintro e w2 ⟨rfl, rfl⟩
  go_wp2_with fail
  refine (C2.out _).mono ?_
  rintro e w3 ⟨rfl, rfl⟩
  go_wp2_with fail
  refine (C3.out _ HL1.out Hl1.out).mono ?_
  rintro e w4 ⟨rfl, rfl⟩
  go_wp2_with fail
  refine (C4.out _ Hl1.out).mono ?_
  rintro e w5 ⟨rfl, rfl⟩
  go_wp2_with fail
  go_ret
  exact ⟨rfl, b1⟩
end Go.Proofs.YtdhiekhinimohaaDoor
