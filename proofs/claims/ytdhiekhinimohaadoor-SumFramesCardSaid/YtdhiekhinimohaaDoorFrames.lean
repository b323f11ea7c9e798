/-
  The law SumFrames: any data have the sum and the frame, and any bytes begin with the frame, that the document says. Conditions: the table reads as it is laid, each text takes at most 2^47 bytes.
-/
import Derived.Test.YtdhiekhinimohaaDoorLives
import Derived.Test.YtdhiekhinimohaaDoorSumRefTwo
namespace Go.Proofs.YtdhiekhinimohaaDoor
open Go.RowKit

set_option maxHeartbeats 2000000 in
theorem frames_any (s f : ByteArray) (hs : s.size ≤ 140737488351232) (hf : f.size ≤ 140737488351232) (w : World) (hL : Sp.Laid w) :
    Calls Tryd.prog 3 #[.string s, .string f] w fun e w' => e = .returned (.bool true) ∧ Below w.heap.size w w' := by
  have HL := Lib.hid hL
  have hs2 : s.size ≤ 281474976710656 := by omega
  have hf2 : f.size ≤ 281474976710656 := by omega
  clear hL
  go_enter Tryd.func3, Tryd.ntmps3
  go_wp2_with fail
  refine (frame_any s _ HL.out hs2).mono ?_
  rintro e w1 ⟨rfl, b1⟩
  have a1 := b1
  go_wp2_with fail
  refine (rframe_any s _ hs2).mono ?_
  rintro e w2 ⟨rfl, b2⟩
  have a2 := below_then a1 b2 a1.size
  go_wp2_with fail
  refine (next_any f _ (HL.out.below a2) hf2).mono ?_
  rintro e w3 ⟨rfl, b3⟩
  have a3 := below_then a2 b3 a2.size
  go_wp2_with fail
  refine (rnext_any f _ hf2).mono ?_
  rintro e w4 ⟨rfl, b4⟩
  have a4 := below_then a3 b4 a3.size
  go_wp2_with fail
  refine (lives_any _ (HL.out.below a4)).mono ?_
  rintro e w5 ⟨rfl, b5⟩
  have a5 := below_then a4 b5 a4.size
  go_wp2_with fail
  refine (of_any s _ (HL.out.below a5) hs2).mono ?_
  rintro e w6 ⟨rfl, rfl⟩
  go_wp2_with fail
  refine (rof_any s _ hs2).mono ?_
  rintro e w7 ⟨rfl, rfl⟩
  go_wp2_with fail
  go_ret
  exact ⟨rfl, a5⟩
end Go.Proofs.YtdhiekhinimohaaDoor
