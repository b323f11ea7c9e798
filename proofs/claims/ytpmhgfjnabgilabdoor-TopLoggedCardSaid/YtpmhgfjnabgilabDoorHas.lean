
/-
  The walks of a device's has (a range over slices.Backward) and of block.Read. Conditions: a device's lists and numbers are of a size that a machine holds.
-/
import Derived.Test.YtpmhgfjnabgilabDoorHasAll
import Derived.RangeFuncNested
import Derived.RangeFuncBound
import Derived.RangeFuncCalls
import Derived.RangeFuncLeaves
import Derived.Shelf.Abstract
import Derived.Shelf.RegionOpen
import Derived.OwnWalkIn
import Derived.TacticsInMore
import Derived.LoopNIn
import Derived.LoopIn
namespace Go.Proofs.YtpmhgfjnabgilabDoor
open Go.RowKit Go.Shelf
attribute [local go_sem] Oper.semAt_some

/-- What comes when k rounds are over, from the last on. -/
def Wp.back (ws : List (Int × ByteArray)) (k : Nat) : List (Nat × (Int × ByteArray)) := (List.range k).map fun j => (ws.length - 1 - j, ws[ws.length - 1 - j]?.getD (0, ByteArray.empty))
set_option maxRecDepth 100000 in
theorem Wp.back_succ (ws : List (Int × ByteArray)) (k : Nat) : Wp.back ws (k + 1) = Wp.back ws k ++ [(ws.length - 1 - k, ws[ws.length - 1 - k]?.getD (0, ByteArray.empty))] := by simp [Wp.back, List.range_succ]
set_option maxRecDepth 100000 in
theorem Wp.back_length (ws : List (Int × ByteArray)) (k : Nat) : (Wp.back ws k).length = k := by simp [Wp.back]

set_option maxRecDepth 100000 in
theorem Wp.aat (w : World) (o : Obj) (n : Nat) (h : n = w.heap.size) : (w.alloc o).heap[n]? = some o := alloc_at w o n h
set_option maxRecDepth 100000 in
theorem Wp.ap (w : World) (o : Obj) (n : Nat) (h : n < w.heap.size) : (w.alloc o).heap[n]? = w.heap[n]? := alloc_past w o n h
end Go.Proofs.YtpmhgfjnabgilabDoor
