
/-
  The walk of layer 16's lives: the answers that the document gives. No condition.
-/
import Derived.Test.YtlbifinkjghgaaaDuOf
import Derived.Test.YtlbifinkjghgaaaDuSD
namespace Go.Proofs.Ytlbifinkjghgaaa
open Go.RowKit Go.Lib Go.Sort Go.Shelf

theorem Du.mo_eval {l k r : List (Int × Int × Int × Int)} {s d : Int} {x : Int × Int × Int × Int} {z : Int} (hc : Hp.caL l s = k ∧ Hp.caT l s = x ∧ Hp.caC l s = 0) (hp : Hp.puL k (d, x.2.1, x.2.2.1, x.2.2.2) = r ∧ Hp.puC k x.2.1 = z) : Du.moL l s d = r ∧ Du.moC l s d = z := by
  unfold Du.moL Du.moC Du.moT
  rw [if_pos hc.2.2, if_pos hc.2.2, hc.1, hc.2.1]
  exact hp
theorem Du.mo_none {l r : List (Int × Int × Int × Int)} {s d : Int} {x : Int × Int × Int × Int} {z : Int} (hc : Hp.caL l s = r ∧ Hp.caT l s = x ∧ Hp.caC l s = z) (hz : z ≠ 0) : Du.moL l s d = r ∧ Du.moC l s d = z := by
  unfold Du.moL Du.moC
  rw [if_neg (by rw [hc.2.2]; exact hz), if_neg (by rw [hc.2.2]; exact hz)]
  exact ⟨hc.1, hc.2.2⟩
end Go.Proofs.Ytlbifinkjghgaaa
