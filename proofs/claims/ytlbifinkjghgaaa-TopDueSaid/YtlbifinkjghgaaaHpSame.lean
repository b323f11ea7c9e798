
/-
  The walk of the reference's Same at two slices of timers: whether they read as one list. Condition: a list is of a size that a machine holds.
-/
import Derived.Test.YtlbifinkjghgaaaHpSort
namespace Go.Proofs.Ytlbifinkjghgaaa
open Go.RowKit Go.Lib Go.Shelf

theorem Hp.eq_of_all {a b : List (Int × Int × Int × Int)} (h : a.length = b.length) (he : ∀ k (h1 : k < a.length) (h2 : k < b.length), a[k] = b[k]) : a = b := List.ext_getElem h he
end Go.Proofs.Ytlbifinkjghgaaa
