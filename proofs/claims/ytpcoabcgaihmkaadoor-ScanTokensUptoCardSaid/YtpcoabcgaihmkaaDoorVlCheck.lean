
/-
  The walks of value's namesRight and fieldsRight: what a value by itself is to have. Conditions: texts and lists are of a size that a machine holds.
-/
import Derived.Test.YtpcoabcgaihmkaaDoorVlAt
namespace Go.Proofs.YtpcoabcgaihmkaaDoor
open Go.RowKit

theorem Vl.rise_step (a : ByteArray) (l : List ByteArray) (k : Nat) (h : k < l.length) : Vl.rise a (l.drop k) = (Vl.named l[k] && Vl.upB a l[k] && Vl.rise l[k] (l.drop (k + 1))) := by
  rw [List.drop_eq_getElem_cons h, Vl.rise]
end Go.Proofs.YtpcoabcgaihmkaaDoor
