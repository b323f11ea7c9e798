
/-
  The walks of due's of, of its closures, of due.Of and due.Clear. Condition: the list is of a size that a machine holds.
-/
import Derived.Test.YtlbifinkjghgaaaDuSD
namespace Go.Proofs.Ytlbifinkjghgaaa
open Go.RowKit Go.Lib Go.Sort Go.Shelf

theorem du_store_func (P : Program) (w : World) (a : Addr) (m : Mode) (fn : Fn) (first captured : Array Value) : (store a (.func fn first captured) m).run P w = stored P w a (.func fn first captured) m := run_store P w a _ m rfl
attribute [local go_sem] du_store_func
/-- Whether a timer is of that kind and reference. -/
def Du.is (k r : Int) (x : Int × Int × Int × Int) : Bool := decide (x.2.2.1 = k) && decide (x.2.2.2 = r)
/-- A slice that is nil, or of a block that is there. -/
def Du.Sl (p : Option Addr) (n c : Nat) : Prop := (p = none ∧ n = 0 ∧ c = 0) ∨ ∃ g, p = some ⟨g, 0, none⟩ ∧ n ≤ c
end Go.Proofs.Ytlbifinkjghgaaa
