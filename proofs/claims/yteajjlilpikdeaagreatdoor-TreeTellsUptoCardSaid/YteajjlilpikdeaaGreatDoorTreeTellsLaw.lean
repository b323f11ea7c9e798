
/-
  The walk of TreeTells: whatever the nodes, the law answers true. Conditions: the nodes, their texts and their paths are of a size that the walks hold; the words' table and the errors lie as they are laid, the search's limit is set.
-/
import Derived.Test.YteajjlilpikdeaaGreatDoorNdLives
import Derived.Test.YteajjlilpikdeaaGreatDoorRNd
namespace Go.Proofs.YteajjlilpikdeaaGreatDoor
open Go.RowKit

set_option maxRecDepth 100000 in
set_option maxHeartbeats 4000000 in
theorem treeTells_law (p : Option Addr) (c : Nat) (l : List Nd.N) (w : World) (a b : Addr) (hA : Nd.Row w p l) (hl : l.length ≤ 1048576) (hts : ∀ t ∈ Nd.toksL l, t.text.size ≤ 1048576) (hps : ∀ t ∈ Nd.toksL l, t.path.length ≤ 3000000) (hT : Sc.Laid w) (hM : Sc.MaxLen w) (hE : Nd.Errs w a b) :
    Calls Tryz.prog 4 #[.slice p l.length c] w fun e w' => e = .returned (.bool true) ∧ Below w.heap.size w w' := by
  have hts4 : ∀ t ∈ Nd.toksL l, t.text.size ≤ 4000000000 := fun t h => by have := hts t h; omega
  have CL := Lib.hid (fun W (h : Below w.heap.size w W) => lives11_any W a b (hT.below h) (hM.below h) (hE.below h))
  have C1 := Lib.hid (ndTokens_any l p c w (by omega) hA hts4 hT hM)
  have C2 := Lib.hid (fun W (h : Below w.heap.size w W) => refTokens11_any l p c W (by omega) (hA.below h) hps)
  have C3 := Lib.hid (fun W (h : Below w.heap.size w W) => ndWrite_any l p c W (by omega) (hA.below h) hts4 (hT.below h) (hM.below h))
  have C4 := Lib.hid (fun W (h : Below w.heap.size w W) => refWrite11_any l p c W (by omega) (hA.below h) hps hts)
  have C5 := Lib.hid (fun W (h : Below w.heap.size w W) => ndPaths_any l p c W (by omega) (hA.below h) hts4 (hT.below h) (hM.below h))
  have C6 := Lib.hid (fun W (h : Below w.heap.size w W) => refPaths11_any l p c W (by omega) (hA.below h) hps)
  have C7 := Lib.hid (fun W (h : Below w.heap.size w W) => ndCheck_any l p c W (by omega) (hA.below h) hts4 (hT.below h) (hM.below h))
  have C8 := Lib.hid (fun W (h : Below w.heap.size w W) => refCheck11_any l p c W (by omega) (hA.below h) hps)
  have HF := Lib.hid (Nd.toksR_facts l).1
  have HP := Lib.hid (show (Nd.pathsR l).1.length ≤ 1000 by
    rw [Nd.pathsR_eq]
    have h1 := Nd.words_len (Nd.toksR l).1 (Nd.toksR l).1.length
    rw [List.take_length] at h1
    exact Nat.le_trans h1 (Nd.toksR_facts l).1)
  clear hA hts hts4 hps hT hM hE hl
  generalize Nd.toksR l = T at *
  generalize Nd.pathsR l = P at *
  generalize Wp.B (Nd.writeN l).1 = u at *
  generalize (Nd.writeN l).2 = why at *
  generalize Nd.chk l = ck at *
  generalize l.length = n at *
  obtain ⟨tl, zt⟩ := T
  obtain ⟨pl, zp⟩ := P
  simp only at HF HP
  go_enter Tryz.func4, Tryz.ntmps4
  go_wp2_with fail
  refine C1.out.mono ?_
  rintro e w1 ⟨p1, c1, rfl, hA1, -, b1⟩
  have B1 := Lib.hid b1
  have HA1 := Lib.hid (show Sc.At w1 p1 tl from hA1)
  clear b1 C1 hA1
  go_wp2_with fail
  refine (C2.out _ B1.out).mono ?_
  rintro e w2 ⟨p2, c2, rfl, hA2, b2⟩
  have B2 := Lib.hid (B1.out.trans (b2.mono B1.out.size))
  have HB1 := Lib.hid (HA1.out.below b2)
  have HA2 := Lib.hid (show Sc.At w2 p2 tl from hA2)
  clear b2 C2 B1 HA1 hA2
  go_wp2_with fail
  refine (C3.out _ B2.out).mono ?_
  rintro e w3 ⟨rfl, b3⟩
  have B3 := Lib.hid (B2.out.trans (b3.mono B2.out.size))
  have HC1 := Lib.hid (HB1.out.below b3)
  have HC2 := Lib.hid (HA2.out.below b3)
  clear b3 C3 B2 HB1 HA2
  go_wp2_with fail
  refine (C4.out _ B3.out).mono ?_
  rintro e w4 ⟨rfl, b4⟩
  have B4 := Lib.hid (B3.out.trans (b4.mono B3.out.size))
  have HD1 := Lib.hid (HC1.out.below b4)
  have HD2 := Lib.hid (HC2.out.below b4)
  clear b4 C4 B3 HC1 HC2
  go_wp2_with fail
  refine (C5.out _ B4.out).mono ?_
  rintro e w5 ⟨v5, rfl, hO5, b5⟩
  obtain ⟨p5, c5, hv5, -, hr5⟩ := Nd.texts_off hO5
  obtain rfl : v5 = .slice p5 pl.length c5 := hv5
  have HP5 := Lib.hid (show Wp.At Wp.mkT w5 p5 pl from hr5 w5 (fun _ _ _ => rfl))
  have B5 := Lib.hid (B4.out.trans (b5.mono B4.out.size))
  have HE1 := Lib.hid (HD1.out.below b5)
  have HE2 := Lib.hid (HD2.out.below b5)
  clear b5 C5 B4 HD1 HD2 hO5 hr5
  go_wp2_with fail
  refine (C6.out _ B5.out).mono ?_
  rintro e w6 ⟨v6, rfl, hO6, b6⟩
  obtain ⟨p6, c6, hv6, -, hr6⟩ := Nd.texts_off hO6
  obtain rfl : v6 = .slice p6 pl.length c6 := hv6
  have HP6 := Lib.hid (show Wp.At Wp.mkT w6 p6 pl from hr6 w6 (fun _ _ _ => rfl))
  have HQ5 := Lib.hid (HP5.out.below b6)
  have B6 := Lib.hid (B5.out.trans (b6.mono B5.out.size))
  have HF1 := Lib.hid (HE1.out.below b6)
  have HF2 := Lib.hid (HE2.out.below b6)
  clear b6 C6 B5 HE1 HE2 hO6 hr6 HP5
  have CS := Lib.hid (fun W (h : Below w6.heap.size w6 W) => refSame_any tl p1 p2 c1 c2 W (by have := HF.out; omega) (HF1.out.below h) (HF2.out.below h))
  have CT := Lib.hid (fun W (h : Below w6.heap.size w6 W) => same_texts p5 p6 c5 c6 pl W (by have := HP.out; omega) (HQ5.out.below h) (HP6.out.below h))
  generalize tl.length = nt at *
  generalize pl.length = np at *
  go_wp2_with fail
  refine (CL.out _ B6.out).mono ?_
  rintro e w7 ⟨rfl, b7⟩
  have B7 := Lib.hid (B6.out.trans (b7.mono B6.out.size))
  have G7 := Lib.hid b7
  clear b7 CL B6
  go_wp2_with fail
  refine (CS.out _ G7.out).mono ?_
  rintro e w8 ⟨rfl, b8⟩
  have B8 := Lib.hid (B7.out.trans (b8.mono B7.out.size))
  have G8 := Lib.hid (G7.out.trans (b8.mono G7.out.size))
  clear b8 CS B7 G7
  go_wp2_with fail
  refine (CT.out _ G8.out).mono ?_
  rintro e w9 ⟨rfl, b9⟩
  have B9 := Lib.hid (B8.out.trans (b9.mono B8.out.size))
  clear b9 CT B8 G8
  go_wp2_with fail
  refine (C7.out _ B9.out).mono ?_
  rintro e w10 ⟨rfl, b10⟩
  have B10 := Lib.hid (B9.out.trans (b10.mono B9.out.size))
  clear b10 C7 B9
  go_wp2_with fail
  refine (C8.out _ B10.out).mono ?_
  rintro e w11 ⟨rfl, b11⟩
  have B11 := Lib.hid (B10.out.trans (b11.mono B10.out.size))
  clear b11 C8 B10
  go_wp2_with fail
  go_ret
  exact ⟨rfl, B11.out⟩
end Go.Proofs.YteajjlilpikdeaaGreatDoor
