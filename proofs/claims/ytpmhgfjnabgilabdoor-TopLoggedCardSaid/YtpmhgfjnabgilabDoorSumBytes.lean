
/-
  The walk of sum.sumBytes: a sum's four bytes. Condition: a sum fits 32 bits.
-/
import Derived.Test.YtpmhgfjnabgilabDoorSumOn
namespace Go.Proofs.YtpmhgfjnabgilabDoor
open Go.RowKit

theorem four_conv (n : Nat) (w : World) (h : n < 4294967296) (T : TypeId) :
    (convert 95 9 (.slice (some ⟨w.heap.size, 0, none⟩) 4 4)).run Tryd.prog (w.alloc (.cells #[.int .u8 ((n : Int) % 256), .int .u8 ((n : Int) / 256 % 256), .int .u8 ((n : Int) / 65536 % 256), .int .u8 ((n : Int) / 16777216)] T)) =
      .ok (.string (Wp.B (Sp.four n))) (w.alloc (.cells #[.int .u8 ((n : Int) % 256), .int .u8 ((n : Int) / 256 % 256), .int .u8 ((n : Int) / 65536 % 256), .int .u8 ((n : Int) / 16777216)] T)) :=
  bytes_conv w (Sp.four n) _ T (fun j hj => by
    have h4 : j < 4 := hj
    match j, h4 with
    | 0, _ => show some _ = some (Value.int .u8 ((UInt8.ofNat n).toNat : Int)); rw [UInt8.toNat_ofNat']; congr 2
    | 1, _ => show some _ = some (Value.int .u8 ((UInt8.ofNat (n / 256)).toNat : Int)); rw [UInt8.toNat_ofNat']; congr 2
    | 2, _ => show some _ = some (Value.int .u8 ((UInt8.ofNat (n / 65536)).toNat : Int)); rw [UInt8.toNat_ofNat']; congr 2
    | 3, _ => show some _ = some (Value.int .u8 ((UInt8.ofNat (n / 16777216)).toNat : Int)); rw [UInt8.toNat_ofNat', show ((n / 16777216 % 2 ^ 8 : Nat) : Int) = (n : Int) / 16777216 by omega]; rfl) 4
set_option maxHeartbeats 400000 in
theorem sumBytes_any (n : Nat) (w : World) (h : n < 4294967296) :
    Calls Tryd.prog 129 #[.int .u32 (n : Int)] w fun e w' => e = .returned (.string (Wp.B (Sp.four n))) ∧ Below w.heap.size w w' := by
  have hcv := four_conv n w h 191
  go_enter Tryd.func129, Tryd.ntmps129
  go_wp2_with fail
  refine wp_loop_rounds 5 ?_
  rw [rounds_succ]
  go_wp2_with fail
  rw [rounds_succ]
  go_wp2_with fail
  rw [rounds_succ]
  go_wp2_with fail
  rw [rounds_succ]
  go_wp2_with fail
  rw [rounds_succ]
  go_wp2_with fail
  go_ret
  exact ⟨rfl, (Below.refl _ _).alloc (Nat.le_refl _) _⟩
end Go.Proofs.YtpmhgfjnabgilabDoor
