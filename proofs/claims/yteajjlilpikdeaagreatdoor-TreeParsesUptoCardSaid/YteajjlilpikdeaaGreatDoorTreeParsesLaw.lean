/-
  The walk of TreeParses: whatever the text and the tokens, the law answers true. Conditions: the text, the tokens and their texts are of a size that the walks hold; the words' table and the errors lie as they are laid, the search's limit is set.
-/
import Derived.Test.YteajjlilpikdeaaGreatDoorNdLives
import Derived.Test.YteajjlilpikdeaaGreatDoorRNp
namespace Go.Proofs.YteajjlilpikdeaaGreatDoor
open Go.RowKit

set_option maxRecDepth 100000 in
set_option maxHeartbeats 4000000 in
theorem treeParses_law (s : ByteArray) (p : Option Addr) (c : Nat) (l : List Sc.T) (w : World) (a b : Addr) (hs : s.size ≤ 140737488351232) (hA : Sc.At w p l) (hc : l.length ≤ c ∧ c ≤ 9223372036854775807) (hl : l.length ≤ 1048576) (hts : ∀ t ∈ l, t.text.size ≤ 4000000000) (hT : Sc.Laid w) (hM : Sc.MaxLen w) (hE : Nd.Errs w a b) :
    Calls Tryz.prog 3 #[.string s, .slice p l.length c] w fun e w' => e = .returned (.bool true) ∧ Below w.heap.size w w' := by
  have CL := Lib.hid (fun W (h : Below w.heap.size w W) => lives11_any W a b (hT.below h) (hM.below h) (hE.below h))
  have C1 := Lib.hid (ndParse_any s w a b (by omega) hT hM hE)
  have C2 := Lib.hid (fun W => refParse11_any s W hs)
  have C3 := Lib.hid (fun W (h : Below w.heap.size w W) => ndNodes_any l p c W a b (hA.below h) (by omega) hc.1 hc.2 hts (hT.below h) (hM.below h) (hE.below h))
  have C4 := Lib.hid (fun W (h : Below w.heap.size w W) => refNodes11_any l p c W (hA.below h) hl hc.1 hc.2)
  have HP := Lib.hid (Nd.parseR_len s.data.toList)
  have HN := Lib.hid (Nat.le_trans (Nd.nodesR_len l) hl)
  clear hA hts hT hM hE hl hs hc
  generalize Nd.parseR s.data.toList = P at *
  generalize Nd.nodesR l = Q at *
  generalize l.length = n at *
  obtain ⟨pl, zp⟩ := P
  obtain ⟨ql, zq⟩ := Q
  simp only at HP HN
  go_enter Tryz.func3, Tryz.ntmps3
  go_wp2_with fail
  refine C1.out.mono ?_
  rintro e w1 ⟨v1, rfl, hO1, b1⟩
  obtain ⟨p1, c1, hv1, -, hA1⟩ := hO1.at
  obtain rfl : v1 = .slice p1 pl.length c1 := hv1
  have B1 := Lib.hid b1
  have HA1 := Lib.hid (show Nd.Row w1 p1 pl from hA1)
  clear b1 C1 hO1 hA1
  go_wp2_with fail
  refine (C2.out w1).mono ?_
  rintro e w2 ⟨v2, rfl, hO2, b2⟩
  obtain ⟨p2, c2, hv2, -, hA2⟩ := hO2.at
  obtain rfl : v2 = .slice p2 pl.length c2 := hv2
  have B2 := Lib.hid (B1.out.trans (b2.mono B1.out.size))
  have HB1 := Lib.hid (HA1.out.below b2)
  have HB2 := Lib.hid (show Nd.Row w2 p2 pl from hA2)
  clear b2 C2 hO2 hA2 B1 HA1
  go_wp2_with fail
  refine (C3.out w2 B2.out).mono ?_
  rintro e w3 ⟨v3, rfl, hO3, b3⟩
  obtain ⟨p3, c3, hv3, -, hA3⟩ := hO3.at
  obtain rfl : v3 = .slice p3 ql.length c3 := hv3
  have B3 := Lib.hid (B2.out.trans (b3.mono B2.out.size))
  have HC1 := Lib.hid (HB1.out.below b3)
  have HC2 := Lib.hid (HB2.out.below b3)
  have HC3 := Lib.hid (show Nd.Row w3 p3 ql from hA3)
  clear b3 C3 hO3 hA3 B2 HB1 HB2
  go_wp2_with fail
  refine (C4.out w3 B3.out).mono ?_
  rintro e w4 ⟨v4, rfl, hO4, b4⟩
  obtain ⟨p4, c4, hv4, -, hA4⟩ := hO4.at
  obtain rfl : v4 = .slice p4 ql.length c4 := hv4
  have B4 := Lib.hid (B3.out.trans (b4.mono B3.out.size))
  have HD1 := Lib.hid (HC1.out.below b4)
  have HD2 := Lib.hid (HC2.out.below b4)
  have HD3 := Lib.hid (HC3.out.below b4)
  have HD4 := Lib.hid (show Nd.Row w4 p4 ql from hA4)
  clear b4 C4 hO4 hA4 B3 HC1 HC2 HC3
  have CS := Lib.hid (fun W (h : Below w4.heap.size w4 W) => ndSame_any pl p1 p2 c1 c2 W (by have := HP.out; omega) (HD1.out.below h) (HD2.out.below h))
  have CT := Lib.hid (fun W (h : Below w4.heap.size w4 W) => ndSame_any ql p3 p4 c3 c4 W (by have := HN.out; omega) (HD3.out.below h) (HD4.out.below h))
  generalize pl.length = np at *
  generalize ql.length = nq at *
  go_wp2_with fail
  refine (CL.out _ B4.out).mono ?_
  rintro e w5 ⟨rfl, b5⟩
  have B5 := Lib.hid (B4.out.trans (b5.mono B4.out.size))
  have G5 := Lib.hid b5
  clear b5 CL B4
  go_wp2_with fail
  refine (CS.out _ G5.out).mono ?_
  rintro e w6 ⟨rfl, b6⟩
  have B6 := Lib.hid (B5.out.trans (b6.mono B5.out.size))
  have G6 := Lib.hid (G5.out.trans (b6.mono G5.out.size))
  clear b6 CS B5 G5
  go_wp2_with fail
  refine (CT.out _ G6.out).mono ?_
  rintro e w7 ⟨rfl, b7⟩
  have B7 := Lib.hid (B6.out.trans (b7.mono B6.out.size))
  clear b7 CT B6 G6
  go_wp2_with fail
  go_ret
  exact ⟨rfl, B7.out⟩
end Go.Proofs.YteajjlilpikdeaaGreatDoor
