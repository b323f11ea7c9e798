
/-
  The library's contracts of strings.Builder's WriteByte and WriteString in the form that tells what stands above the builder too, laid at this program by hand. No walk: each is one application of the library's own theorem.
-/
import Derived.Test.YtpcoabcgaihmkaaDoorBuilder
namespace Go.Proofs
open Go.Shelf
open Go.RowKit in
theorem Tryd.Builder_PutString (B b : Nat) (bs : List Value) (s : ByteArray) (w : World) (h : Lib.IsBuilderF 56 5 B b bs w) (hlen : bs.length + s.size ≤ 140737488355328) (hBw : B ≤ w.heap.size) :
    Calls Tryd.prog 28 #[.pointer (some ⟨b, 0, none⟩), .string s] w fun e w' => e = .returned (.tuple #[.int .i64 s.size, .nilIface]) ∧ (Lib.BuilderAtF 56 5 B b (.pointer (some ⟨b, 0, none⟩)) (bs ++ Lib.strCells s) w' ∧ Below B w w' ∧ Lib.OthersKept 5 (some b) w w') := Any.Builder_WriteString_k Tryd.layb166 Tryd.Builder_Extra B b bs s w h hlen hBw
end Go.Proofs
