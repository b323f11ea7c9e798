
/-
  The walk of wire.GetText: the text that bytes begin with, and what is behind it. Condition: the bytes are at most 2^48.
-/
import Derived.Test.YtckcbdnlligndaaDoorWire
namespace Go.Proofs.YtckcbdnlligndaaDoor
open Go.RowKit

set_option maxHeartbeats 400000 in
theorem getText_any (s : ByteArray) (w : World) (hl : s.size ≤ 281474976710656) :
    Calls Tryd.prog 107 #[.string s] w fun e w' => e = .returned (.tuple #[.string (Wp.B (Wp.gt s).1), .string (Wp.B (Wp.gt s).2.1), .int .i64 (Wp.gt s).2.2]) ∧ Below w.heap.size w w' := by
  have hc := fun w => cutText_any s w hl
  obtain ⟨⟨t, r, er⟩, hg⟩ : ∃ g, Wp.gt s = g := ⟨_, rfl⟩
  have hr := Wp.gt_rest s _ _ _ hg
  rw [hg] at hc ⊢
  simp only [] at hc ⊢
  clear hg
  go_enter Tryd.func107, Tryd.ntmps107
  go_wp2_with fail
  refine (hc _).mono ?_
  rintro e w1 ⟨rfl, hb⟩
  go_wp2_with fail
  refine (clone_any _ _ (by rw [Wp.B_size]; omega)).mono ?_
  rintro e w2 ⟨rfl, hb2⟩
  go_wp2_with fail
  go_ret3
  exact ⟨rfl, hb.trans (hb2.mono hb.size)⟩
end Go.Proofs.YtckcbdnlligndaaDoor
