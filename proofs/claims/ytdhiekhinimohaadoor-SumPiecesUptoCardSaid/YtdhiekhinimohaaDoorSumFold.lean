/-
  The walks of sum.Fold and sum.sumBytes: the sum of all texts, one behind the other, and a sum's four bytes. Conditions: the table reads as it is laid, a sum fits 32 bits, a text takes at most 2^48 bytes.
-/
import Derived.Test.YtdhiekhinimohaaDoorSumOn
import Derived.Test.YtdhiekhinimohaaDoorPut
namespace Go.Proofs.YtdhiekhinimohaaDoor
open Go.RowKit

def Sp.bytes (x : ByteArray) : List UInt8 := x.data.toList
set_option maxHeartbeats 400000 in
theorem fold_any (p : Option Addr) (c : Nat) (l : List ByteArray) (w : World) (hL : Sp.Laid w) (hm : l.length ≤ 9223372036854775807) (hl : Wp.At Wp.mkT w p l) (hx : ∀ x ∈ l, x.size ≤ 281474976710656) :
    Calls Tryd.prog 18 #[.slice p l.length c] w fun e w' => e = .returned (.int .u32 (Sp.on 0 (Wp.flat Sp.bytes l))) ∧ w = w' := by
  have HL := Lib.hid hL
  have H1 := Lib.hid hl
  have Hx := Lib.hid hx
  have h0 := of_any ⟨#[]⟩ w hL (by decide)
  have H0 := Lib.hid (show Calls Tryd.prog 14 #[.string ⟨#[]⟩] w fun e w' => e = .returned (.int .u32 (Sp.on 0 [])) ∧ w = w' from h0)
  obtain ⟨n, hn⟩ : ∃ n, n = l.length := ⟨_, rfl⟩
  have Hn := Lib.hid hn
  rw [← hn] at hm ⊢
  clear hl hn hx hL h0
  go_enter Tryd.func18, Tryd.ntmps18
  go_wp2_with fail
  refine H0.out.mono ?_
  rintro e w1 ⟨rfl, rfl⟩
  go_wp2_with fail
  go_loop [3, 5, 9] (fun t _ i => ∃ k : Nat, k ≤ n ∧ i = .int .i64 k ∧ t = .int .u32 (Sp.on 0 (Wp.flat Sp.bytes (l.take k)))) (fun _ _ i => n - (intOf i).toNat)
  case atStart => exact ⟨0, Nat.zero_le _, rfl, by rw [List.take_zero]; rfl⟩
  case round =>
    obtain ⟨k, hk, rfl, rfl⟩ := hrel
    by_cases hlt : k < n
    · have hkl : k < l.length := by rw [← Hn.out]; exact hlt
      obtain ⟨b1, o1, rfl, hc1⟩ := H1.out.get k hkl
      have hsx := Hx.out l[k] (List.getElem_mem _)
      have hsn := Wp.flat_snoc Sp.bytes l k hkl
      obtain ⟨x, hx⟩ : ∃ x, x = l[k] := ⟨_, rfl⟩
      rw [← hx] at hc1 hsx hsn
      simp only [Wp.mkT] at hc1
      have hol := Sp.on_lt 0 (Wp.flat Sp.bytes (l.take k))
      have hcall := on_any (Sp.on 0 (Wp.flat Sp.bytes (l.take k))) x w HL.out hol hsx
      have hnx : Sp.on (Sp.on 0 (Wp.flat Sp.bytes (l.take k))) x.data.toList = Sp.on 0 (Wp.flat Sp.bytes (l.take (k + 1))) := by
        rw [Sp.on_append _ _ _ (by omega), hsn]; rfl
      rw [hnx] at hcall
      have Hcall := Lib.hid hcall
      clear hx hkl hsn hcall hnx
      go_wp2_with fail
      refine Hcall.out.mono ?_
      rintro e w2 ⟨rfl, rfl⟩
      go_wp2_with fail
      refine ⟨⟨k + 1, by omega, by go_num, rfl⟩, by simp [intOf]; omega⟩
    · obtain rfl : k = n := by omega
      go_wp2_with fail
      go_ret
      refine ⟨?_, rfl⟩
      rw [show Wp.flat Sp.bytes l = Wp.flat Sp.bytes (l.take k) by rw [Hn.out, List.take_length]]
      rfl

theorem four_conv (n : Nat) (w : World) (h : n < 4294967296) (T : TypeId) :
    (convert 36 9 (.slice (some ⟨w.heap.size, 0, none⟩) 4 4)).run Tryd.prog (w.alloc (.cells #[.int .u8 ((n : Int) % 256), .int .u8 ((n : Int) / 256 % 256), .int .u8 ((n : Int) / 65536 % 256), .int .u8 ((n : Int) / 16777216)] T)) =
      .ok (.string (Wp.B (Sp.four n))) (w.alloc (.cells #[.int .u8 ((n : Int) % 256), .int .u8 ((n : Int) / 256 % 256), .int .u8 ((n : Int) / 65536 % 256), .int .u8 ((n : Int) / 16777216)] T)) :=
  bytes_conv w (Sp.four n) _ T (fun j hj => by
    have h4 : j < 4 := hj
    match j, h4 with
    | 0, _ => show some _ = some (Value.int .u8 ((UInt8.ofNat n).toNat : Int)); rw [UInt8.toNat_ofNat']; congr 2
    | 1, _ => show some _ = some (Value.int .u8 ((UInt8.ofNat (n / 256)).toNat : Int)); rw [UInt8.toNat_ofNat']; congr 2
    | 2, _ => show some _ = some (Value.int .u8 ((UInt8.ofNat (n / 65536)).toNat : Int)); rw [UInt8.toNat_ofNat']; congr 2
    | 3, _ => show some _ = some (Value.int .u8 ((UInt8.ofNat (n / 16777216)).toNat : Int)); rw [UInt8.toNat_ofNat', show ((n / 16777216 % 2 ^ 8 : Nat) : Int) = (n : Int) / 16777216 by omega]; rfl) 4
set_option maxHeartbeats 400000 in
theorem sumBytes_any (n : Nat) (w : World) (h : n < 4294967296) :
    Calls Tryd.prog 27 #[.int .u32 (n : Int)] w fun e w' => e = .returned (.string (Wp.B (Sp.four n))) ∧ Below w.heap.size w w' := by
  have hcv := four_conv n w h 64
  go_enter Tryd.func27, Tryd.ntmps27
  go_wp2_with fail
  refine wp_loop_rounds 5 ?_
  rw [rounds_succ]
  go_wp2_with fail
  rw [rounds_succ]
  go_wp2_with fail
  rw [rounds_succ]
  go_wp2_with fail
  rw [rounds_succ]
  go_wp2_with fail
  rw [rounds_succ]
  go_wp2_with fail
  go_ret
  exact ⟨rfl, (Below.refl _ _).alloc (Nat.le_refl _) _⟩
end Go.Proofs.YtdhiekhinimohaaDoor
