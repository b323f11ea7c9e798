
/-
  The walks of wire.putList at numbers and at texts: how many parts there are, and each one's bytes, as one text. Conditions: at most 1024 parts, each of at most 4105 bytes.
-/
import Derived.Test.YtlbifinkjghgaaaLists
namespace Go.Proofs.Ytlbifinkjghgaaa
open Go.RowKit

end Go.Proofs.Ytlbifinkjghgaaa
