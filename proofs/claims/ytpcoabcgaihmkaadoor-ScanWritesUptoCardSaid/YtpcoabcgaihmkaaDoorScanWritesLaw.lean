/-
  The law ScanWrites: whatever the tokens, it hands back true. Conditions: the tokens' texts, and how many they are, are at most 1048576; the words' table reads as it is laid, the search's limit is set.
-/
import Derived.Test.YtpcoabcgaihmkaaDoorScLives
import Derived.Test.YtpcoabcgaihmkaaDoorRScWrite
namespace Go.Proofs.YtpcoabcgaihmkaaDoor
open Go.RowKit Go.Shelf

set_option maxRecDepth 100000 in
set_option maxHeartbeats 4000000 in
theorem scanWrites_law (p : Option Addr) (c : Nat) (l : List Sc.T) (w : World) (hA : Sc.At w p l) (hl : l.length ≤ 1048576) (hts : ∀ t ∈ l, t.text.size ≤ 1048576) (hT : Sc.Laid w) (hM : Sc.MaxLen w) :
    Calls Tryd.prog 4 #[.slice p l.length c] w fun e w' => e = .returned (.bool true) ∧ Below w.heap.size w w' := by
  have hts4 : ∀ t ∈ l, t.text.size ≤ 4000000000 := fun t h => by have := hts t h; omega
  have HLv := Lib.hid (fun W (h : Below w.heap.size w W) => lives10_any W (hT.below h) (hM.below h))
  have HW := Lib.hid (scWrite_any l p c w hA (by omega) hts4 hT hM)
  have HR := Lib.hid (fun W (h : Below w.heap.size w W) => refWrite10_any l p c W (hA.below h) hl hts)
  have HCk := Lib.hid (fun W (h : Below w.heap.size w W) => scCheck_any l p c W (hA.below h) (by omega) hts4 (hT.below h) (hM.below h))
  have HRk := Lib.hid (fun W (h : Below w.heap.size w W) => refCheck10_any l p c W (hA.below h) (by omega))
  clear hA hts hts4 hT hM
  generalize Wp.B (Sc.writeR l).1 = u at *
  generalize (Sc.writeR l).2 = why at *
  generalize Sc.chkTs l = ck at *
  generalize l.length = n at *
  go_enter Tryd.func4, Tryd.ntmps4
  go_wp2_with fail
  refine HW.out.mono ?_
  rintro e w1 ⟨rfl, b1⟩
  have B1 := Lib.hid b1
  clear b1 HW
  go_wp2_with fail
  refine (HR.out _ B1.out).mono ?_
  rintro e w2 ⟨rfl, b2⟩
  have B2 := Lib.hid (B1.out.trans (b2.mono B1.out.size))
  clear b2 HR B1
  go_wp2_with fail
  refine (HLv.out _ B2.out).mono ?_
  rintro e w3 ⟨rfl, b3⟩
  have B3 := Lib.hid (B2.out.trans (b3.mono B2.out.size))
  clear b3 HLv B2
  go_wp2_with fail
  refine (HCk.out _ B3.out).mono ?_
  rintro e w4 ⟨rfl, b4⟩
  have B4 := Lib.hid (B3.out.trans (b4.mono B3.out.size))
  clear b4 HCk B3
  go_wp2_with fail
  refine (HRk.out _ B4.out).mono ?_
  rintro e w5 ⟨rfl, b5⟩
  have B5 := Lib.hid (B4.out.trans (b5.mono B4.out.size))
  clear b5 HRk B4
  go_wp2_with fail
  go_ret
  exact ⟨rfl, B5.out⟩
end Go.Proofs.YtpcoabcgaihmkaaDoor
