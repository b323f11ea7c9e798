
/-
  The law EscTexts: whatever the channel and the texts, it hands back true. Conditions: texts of at most 2^20 bytes; the table of the channels reads as it is laid; the library's ErrSyntax is an error.
-/
import Derived.Test.YtlhmbmnjajbbaaaDoorEsLives
namespace Go.Proofs.YtlhmbmnjajbbaaaDoor
open Go.RowKit

set_option maxRecDepth 100000 in
set_option maxHeartbeats 1000000 in
theorem escTexts_law (c : Nat) (s t : ByteArray) (w : World) (hs : s.size ≤ 1048576) (ht : t.size ≤ 1048576) (hL : Es.Laid w) :
    Calls Tryd.prog 3 #[.int .u8 (c : Int), .string s, .string t] w fun e w' => e = .returned (.bool true) ∧ Below w.heap.size w w' := by
  have HLv := Lib.hid (fun W (h : Es.Laid W) => lives13_any W h)
  have HL := Lib.hid hL
  have HA := Lib.hid (fun W => esTo_any c s W (by omega))
  have HB := Lib.hid (fun W => esRefTo_any c s W (by omega))
  have HC := Lib.hid (fun W (h : Es.Laid W) => esFrom_any c t W (by omega) h.syn)
  have HD := Lib.hid (fun W => esRefFrom_any c t W (by omega))
  clear hL
  generalize Wp.B (Es.toR c s.data.toList).1 = x at *
  generalize (Es.toR c s.data.toList).2 = z at *
  generalize Wp.B (Es.fromC c t.data.toList).1 = y at *
  generalize (Es.fromC c t.data.toList).2 = v at *
  go_enter Tryd.func3, Tryd.ntmps3
  go_wp2_with fail
  refine (HA.out _).mono ?_
  rintro e w1 ⟨rfl, b1⟩
  have B1 := Lib.hid b1
  clear b1 HA
  go_wp2_with fail
  refine (HB.out _).mono ?_
  rintro e w2 ⟨rfl, b2⟩
  have B2 := Lib.hid (B1.out.trans (b2.mono B1.out.size))
  clear b2 HB
  go_wp2_with fail
  refine (HC.out _ (HL.out.below B2.out)).mono ?_
  rintro e w3 ⟨rfl, b3⟩
  have B3 := Lib.hid (B2.out.trans (b3.mono B2.out.size))
  clear b3 HC
  go_wp2_with fail
  refine (HD.out _).mono ?_
  rintro e w4 ⟨rfl, b4⟩
  have B4 := Lib.hid (B3.out.trans (b4.mono B3.out.size))
  clear b4 HD
  go_wp2_with fail
  refine (HLv.out _ (HL.out.below B4.out)).mono ?_
  rintro e w5 ⟨rfl, b5⟩
  have B5 := Lib.hid (B4.out.trans (b5.mono B4.out.size))
  clear b5
  go_wp2_with fail
  go_ret
  exact ⟨rfl, B5.out⟩
end Go.Proofs.YtlhmbmnjajbbaaaDoor
