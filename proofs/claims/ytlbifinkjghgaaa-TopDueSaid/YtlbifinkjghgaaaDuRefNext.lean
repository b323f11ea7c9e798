
/-
  The walk of the document's Next for timers. Condition: the list is of a size that a machine holds.
-/
import Derived.Test.YtlbifinkjghgaaaDuRefDrain
namespace Go.Proofs.Ytlbifinkjghgaaa
open Go.RowKit Go.Lib Go.Sort Go.Shelf

end Go.Proofs.Ytlbifinkjghgaaa
