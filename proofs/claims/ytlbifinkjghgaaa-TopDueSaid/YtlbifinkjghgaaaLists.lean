
/-
  What a slice's value reads as, and a Builder's contents kept where only new memory has come: for the walks over lists. No condition but those that the theorems state.
-/
import Derived.Test.YtlbifinkjghgaaaWire
import Derived.Test.YtlbifinkjghgaaaBuilder
import Derived.Test.YtlbifinkjghgaaaPlainThree
import Derived.Test.YtlbifinkjghgaaaAt
namespace Go.Proofs.Ytlbifinkjghgaaa
open Go.RowKit

theorem cells_app (a b : List UInt8) : Lib.byteCells a ++ Lib.strCells (Wp.B b) = Lib.byteCells (a ++ b) := by
  rw [Lib.strCells_eq, Wp.B_data, Lib.byteCells_append]
end Go.Proofs.Ytlbifinkjghgaaa
