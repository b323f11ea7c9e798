
/-
  The law EscChannels: whatever the channel and the text, it hands back true. Conditions: the table of the channels reads as it is laid; the library's ErrSyntax is an error.
-/
import Derived.Test.YtlhmbmnjajbbaaaDoorEsLives
namespace Go.Proofs.YtlhmbmnjajbbaaaDoor
open Go.RowKit

set_option maxRecDepth 100000 in
set_option maxHeartbeats 1000000 in
theorem escChannels_law (c : Nat) (s : ByteArray) (w : World) (hL : Es.Laid w) :
    Calls Tryd.prog 4 #[.int .u8 (c : Int), .string s] w fun e w' => e = .returned (.bool true) ∧ Below w.heap.size w w' := by
  have HLv := Lib.hid (fun W (h : Es.Laid W) => lives13_any W h)
  have HL := Lib.hid hL
  have HA := Lib.hid (fun W (h : Es.Laid W) => esMost_any c W h.ways)
  have HB := Lib.hid (fun W => esRefMost_any c W)
  have HC := Lib.hid (fun W (h : Es.Laid W) => esName_any c W h.ways)
  have HD := Lib.hid (fun W => esRefName_any c W)
  have HE := Lib.hid (fun W (h : Es.Laid W) => esNamed_any s W h.ways)
  have HF := Lib.hid (fun W => esRefNamed_any s W)
  clear hL
  generalize (Es.mostR c).1 = x at *
  generalize (Es.mostR c).2 = z at *
  generalize (Es.nameR c).1 = y at *
  generalize (Es.nameR c).2 = v at *
  generalize (Es.namedR s).1 = p at *
  generalize (Es.namedR s).2 = q at *
  go_enter Tryd.func4, Tryd.ntmps4
  go_wp2_with fail
  refine (HA.out _ HL.out).mono ?_
  rintro e w1 ⟨rfl, hw1⟩
  rw [hw1]
  clear hw1 w1 HA
  go_wp2_with fail
  refine (HB.out _).mono ?_
  rintro e w1 ⟨rfl, hw1⟩
  rw [hw1]
  clear hw1 w1 HB
  go_wp2_with fail
  refine (HC.out _ HL.out).mono ?_
  rintro e w3 ⟨rfl, b3⟩
  have B3 := Lib.hid b3
  clear b3 HC
  go_wp2_with fail
  refine (HD.out _).mono ?_
  rintro e w1 ⟨rfl, hw1⟩
  rw [hw1]
  clear hw1 w1 HD
  go_wp2_with fail
  refine (HE.out _ (HL.out.below B3.out)).mono ?_
  rintro e w5 ⟨rfl, b5⟩
  have B5 := Lib.hid (B3.out.trans (b5.mono B3.out.size))
  clear b5 HE
  go_wp2_with fail
  refine (HF.out _).mono ?_
  rintro e w1 ⟨rfl, hw1⟩
  rw [hw1]
  clear hw1 w1 HF
  go_wp2_with fail
  refine (HLv.out _ (HL.out.below B5.out)).mono ?_
  rintro e w6 ⟨rfl, b6⟩
  have B6 := Lib.hid (B5.out.trans (b6.mono B5.out.size))
  clear b6
  go_wp2_with fail
  go_ret
  exact ⟨rfl, B6.out⟩
end Go.Proofs.YtlhmbmnjajbbaaaDoor
