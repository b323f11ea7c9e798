
/-
  The walk of block.Read, at whatever device. Conditions: a device's lists and numbers are of a size that a machine holds.
-/
import Derived.Test.YtpmhgfjnabgilabDoorHas
import Derived.Test.YtpmhgfjnabgilabDoorShelf
namespace Go.Proofs.YtpmhgfjnabgilabDoor
open Go.RowKit

set_option maxRecDepth 100000 in
set_option maxHeartbeats 400000 in
theorem clone_text (s : ByteArray) (w : World) (hs : s.size ≤ 281474976710656) :
    Calls Tryd.prog 27 #[.string s] w fun e w' => e = .returned (.string s) ∧ Below w.heap.size w w' := by
  go_enter Tryd.func27, Tryd.ntmps27
  go_wp2_with fail
  refine (Tryd.stringslite_Clone s w hs).mono ?_
  rintro e w' ⟨rfl, hb⟩
  go_wp2_with fail
  go_ret
  exact ⟨rfl, hb⟩

set_option maxRecDepth 100000 in
theorem Wp.hasF_size (a : Int) (ws : List (Int × ByteArray)) (s : ByteArray) (h : ∀ x ∈ ws, x.2.size ≤ 64) (hs : s.size ≤ 64) : (Wp.hasF a ws s).size ≤ 64 := by
  induction ws generalizing s with
  | nil => exact hs
  | cons x ws ih =>
    simp only [Wp.hasF, List.foldl_cons]
    refine ih _ (fun y hy => h y (by simp [hy])) ?_
    split
    · exact h x (by simp)
    · exact hs
end Go.Proofs.YtpmhgfjnabgilabDoor
