
/-
  The library's contracts of strings.Builder, laid at this program by hand (the laying tool passes them over, for a type that only the panic names): copyCheck, WriteString, String. No walk: each is one application of the library's own theorem.
-/
import Derived.Shelf.Strings.Builder1
import Derived.Shelf.Strings.BuilderF
import Derived.Shelf.Strings.BuilderK
import Derived.Test.YtlbifinkjghgaaaProg
import Derived.Test.YtlbifinkjghgaaaShelf
import Derived.KernelRfl
namespace Go.Proofs
open Go.Shelf
end Go.Proofs
