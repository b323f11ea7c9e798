/-
  The law ScanTokens: whatever the text and the word, it hands back true. Conditions: the text and the word are at most 1048576 bytes; the words' table reads as it is laid, the search's limit is set.
-/
import Derived.Test.YtpcoabcgaihmkaaDoorScLives
import Derived.Test.YtpcoabcgaihmkaaDoorScSameW
import Derived.Test.YtpcoabcgaihmkaaDoorRScToks
namespace Go.Proofs.YtpcoabcgaihmkaaDoor
open Go.RowKit Go.Shelf

set_option maxRecDepth 100000 in
set_option maxHeartbeats 4000000 in
theorem scanTokens_law (s word : ByteArray) (w : World) (hs : s.size ≤ 1048576) (hwd : word.size ≤ 1048576) (hT : Sc.Laid w) (hM : Sc.MaxLen w) :
    Calls Tryd.prog 3 #[.string s, .string word] w fun e w' => e = .returned (.bool true) ∧ Below w.heap.size w w' := by
  have H1 := Lib.hid (scTokens_any s w (by omega) hT hM)
  have H2 := Lib.hid (fun W => refToks_any s W (by omega))
  have H3 := Lib.hid (fun W (h : Below w.heap.size w W) => scPath_any word W (by omega) (hT.below h) (hM.below h))
  have H4 := Lib.hid (fun W => refPath_any word W (by omega))
  have H5 := Lib.hid (fun W (h : Below w.heap.size w W) => lives10_any W (hT.below h) (hM.below h))
  have hc := Sc.toks_len s.data.toList
  have hp := (Sc.path_fits word.data.toList (by rw [← Wp.size_len]; omega)).1
  clear hT hM
  generalize Sc.toksR s.data.toList = R at *
  generalize Sc.pathR word.data.toList = Q at *
  obtain ⟨m, why⟩ := R
  obtain ⟨ps, pw⟩ := Q
  change m.length ≤ 1024 at hc
  change ps.length ≤ 4 at hp
  go_enter Tryd.func3, Tryd.ntmps3
  go_wp2_with fail
  refine H1.out.mono ?_
  rintro e w1 ⟨v1, rfl, hO1, b1⟩
  obtain ⟨p1, c1, hv1, -, hA1⟩ := hO1.at
  obtain rfl : v1 = .slice p1 m.length c1 := hv1
  have HA1 := Lib.hid hA1
  have B1 := Lib.hid b1
  clear b1 hO1 hA1 H1
  go_wp2_with fail
  refine (H2.out _).mono ?_
  rintro e w2 ⟨v2, rfl, hO2, b2⟩
  obtain ⟨p2, c2, hv2, -, hA2⟩ := hO2.at
  obtain rfl : v2 = .slice p2 m.length c2 := hv2
  have HX2 := Lib.hid (HA1.out.below b2)
  have HY2 := Lib.hid hA2
  have B2 := Lib.hid (B1.out.trans (b2.mono B1.out.size))
  clear b2 hO2 hA2 H2 HA1 B1
  go_wp2_with fail
  refine (H3.out _ B2.out).mono ?_
  rintro e w3 ⟨p3, c3, rfl, -, ho3, b3⟩
  have HX3 := Lib.hid (HX2.out.below b3)
  have HY3 := Lib.hid (HY2.out.below b3)
  have HP3 := Lib.hid (ho3 w3 (fun _ _ _ => rfl))
  have B3 := Lib.hid (B2.out.trans (b3.mono B2.out.size))
  clear b3 ho3 H3 HX2 HY2 B2
  go_wp2_with fail
  refine (H4.out _).mono ?_
  rintro e w4 ⟨p4, c4, rfl, -, ho4, b4⟩
  have HX4 := Lib.hid (HX3.out.below b4)
  have HY4 := Lib.hid (HY3.out.below b4)
  have HP4 := Lib.hid (HP3.out.below b4)
  have HQ4 := Lib.hid (ho4 w4 (fun _ _ _ => rfl))
  have B4 := Lib.hid (B3.out.trans (b4.mono B3.out.size))
  clear b4 ho4 H4 HX3 HY3 HP3 B3
  go_wp2_with fail
  refine (H5.out _ B4.out).mono ?_
  rintro e w5 ⟨rfl, b5⟩
  have HX5 := Lib.hid (HX4.out.below b5)
  have HY5 := Lib.hid (HY4.out.below b5)
  have HP5 := Lib.hid (HP4.out.below b5)
  have HQ5 := Lib.hid (HQ4.out.below b5)
  have B5 := Lib.hid (B4.out.trans (b5.mono B4.out.size))
  clear b5 H5 HX4 HY4 HP4 HQ4 B4
  have HS := Lib.hid (refSame_any m p1 p2 c1 c2 w5 (by omega) HX5.out HY5.out)
  have HT := Lib.hid (fun W (h : Below w5.heap.size w5 W) => same_texts p3 p4 c3 c4 ps W (by omega) (HP5.out.below h) (HQ5.out.below h))
  clear HX5 HY5 HP5 HQ5
  change Hid (Calls Tryd.prog 13 #[.slice p1 m.length c1, .slice p2 m.length c2] w5 _) at HS
  go_wp2_with fail
  refine HS.out.mono ?_
  rintro e w6 ⟨rfl, b6⟩
  have HT6 := Lib.hid (HT.out _ b6)
  have B6 := Lib.hid (B5.out.trans (b6.mono B5.out.size))
  clear b6 HS HT B5
  go_wp2_with fail
  refine HT6.out.mono ?_
  rintro e w7 ⟨rfl, b7⟩
  have B7 := Lib.hid (B6.out.trans (b7.mono B6.out.size))
  clear b7 HT6 B6
  go_wp2_with fail
  go_ret
  exact ⟨rfl, B7.out⟩
end Go.Proofs.YtpcoabcgaihmkaaDoor
