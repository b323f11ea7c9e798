
/-
  The walk of TreeBack: whatever the nodes and the text, the law answers true. Conditions: the nodes' texts are of a size that the walks hold; the words' table and the errors lie as they are laid, the search's limit is set.
-/
import Derived.Test.YtokbmfolbgcfcaaGreatDoorNdLives
import Derived.Test.YtokbmfolbgcfcaaGreatDoorNdW
namespace Go.Proofs.YtokbmfolbgcfcaaGreatDoor
open Go.RowKit

set_option maxRecDepth 100000 in
set_option maxHeartbeats 4000000 in
theorem treeBack_law (p : Option Addr) (c : Nat) (l : List Nd.N) (s : ByteArray) (w : World) (a b : Addr) (hA : Nd.Row w p l) (hl : l.length ≤ 140737488351232) (hts : ∀ t ∈ Nd.toksL l, t.text.size ≤ 4000000000) (hs : s.size ≤ 140737488351232) (hT : Sc.Laid w) (hM : Sc.MaxLen w) (hE : Nd.Errs w a b) :
    Calls Tryz.prog 5 #[.slice p l.length c, .string s] w fun e w' => e = .returned (.bool true) ∧ Below w.heap.size w w' := by
  have CL := Lib.hid (lives11_any w a b hT hM hE)
  have CP : Hid (∀ W, Below w.heap.size w W → Calls Tryz.prog 13 #[.string s] W (Nd.TopPost (Nd.parseR s.data.toList) W)) := Lib.hid (fun W hb => ndParse_any s W a b (by omega) (hT.below hb) (hM.below hb) (hE.below hb))
  have CT : Hid (∀ W, Below w.heap.size w W → Calls Tryz.prog 19 #[.slice p l.length c] W (Nd.TokensPost (Nd.toksR l) W)) := Lib.hid (fun W hb => ndTokens_any l p c W hl (hA.below hb) hts (hT.below hb) (hM.below hb))
  have CN : Hid (∀ W q d, Below w.heap.size w W → (Nd.toksR l).2 = 0 → Sc.At W q (Nd.toksR l).1 → (Nd.toksR l).1.length ≤ d → d ≤ 9223372036854775807 → Calls Tryz.prog 15 #[.slice q (Nd.toksR l).1.length d] W (Nd.TopPost (l, 0) W)) := Lib.hid (fun W q d hb h0 hq h1 h2 => by
    have hg : Nd.good l = true := by
      cases h : Nd.good l with
      | true => rfl
      | false => rw [Nd.toksR_bad h] at h0; cases h0
    have hf := (Nd.toksR_facts l).1
    rw [Nd.toksR_ok hg] at hq h1 hf ⊢
    have := ndNodes_any (Nd.toksL l) q d W a b hq (by have hf : (Nd.toksL l).length ≤ 1000 := hf; omega) h1 h2 hts (hT.below hb) (hM.below hb) (hE.below hb)
    rw [Nd.nodesR_back hg] at this
    exact this)
  have CS : Hid (∀ W q d, Below w.heap.size w W → Nd.Row W q l → Calls Tryz.prog 18 #[.slice q l.length d, .slice p l.length c] W fun e w' => e = .returned (.bool true) ∧ Below W.heap.size W w') := Lib.hid (fun W q d hb hq => ndSame_any l q p d c W hl hq (hA.below hb))
  have HO : Hid ((Nd.parseR s.data.toList).2 = 0 → ∃ um : ByteArray, (um.size : Int) ≤ (s.size : Int) ∧
      (∀ W q d, Below w.heap.size w W → Nd.Row W q (Nd.parseR s.data.toList).1 → Calls Tryz.prog 21 #[.slice q (Nd.parseR s.data.toList).1.length d] W fun e w' => e = .returned (.tuple #[.string um, .int .i64 0]) ∧ Below W.heap.size W w') ∧
      (∀ W q d, Below w.heap.size w W → Nd.Row W q (Nd.parseR s.data.toList).1 → Calls Tryz.prog 27 #[.slice q (Nd.parseR s.data.toList).1.length d] W fun e w' => e = .returned (.int .i64 0) ∧ Below W.heap.size W w') ∧
      (∀ W, Below w.heap.size w W → Calls Tryz.prog 13 #[.string um] W (Nd.TopPost ((Nd.parseR s.data.toList).1, 0) W)) ∧
      (∀ W q d q2 d2, Nd.Row W q (Nd.parseR s.data.toList).1 → Nd.Row W q2 (Nd.parseR s.data.toList).1 → Calls Tryz.prog 18 #[.slice q (Nd.parseR s.data.toList).1.length d, .slice q2 (Nd.parseR s.data.toList).1.length d2] W fun e w' => e = .returned (.bool true) ∧ Below W.heap.size W w')) := Lib.hid (fun h => by
    obtain ⟨g1, g2, g3, g4, g5, g6, g7⟩ := Nd.parse_back h
    have g7' : ∀ t ∈ Nd.toksL (Nd.parseR s.data.toList).1, t.text.size ≤ 4000000000 := fun t ht => by have := g7 t ht; omega
    refine ⟨Wp.B (Sc.srcs (Nd.toksL (Nd.parseR s.data.toList).1)), by rw [Wp.B_size]; rw [← Wp.size_len] at g3; omega, fun W q d hb hq => ?_, fun W q d hb hq => ?_, fun W hb => ?_, fun W q d q2 d2 h1 h2 => ndSame_any (Nd.parseR s.data.toList).1 q q2 d d2 W (by omega) h1 h2⟩
    · have := ndWrite_any (Nd.parseR s.data.toList).1 q d W (by omega) hq g7' (hT.below hb) (hM.below hb)
      rw [g2] at this
      exact this
    · have := ndCheck_any (Nd.parseR s.data.toList).1 q d W (by omega) hq g7' (hT.below hb) (hM.below hb)
      rw [g1] at this
      exact this
    · have := ndParse_any (Wp.B (Sc.srcs (Nd.toksL (Nd.parseR s.data.toList).1))) W a b (by rw [Wp.B_size]; omega) (hT.below hb) (hM.below hb) (hE.below hb)
      rw [Wp.B_data, g5] at this
      exact this)
  have HX : Hid ((Nd.parseR s.data.toList).2 ≠ 0 → (Nd.parseR s.data.toList).1 = []) := Lib.hid (fun h => Nd.parse_bad h)
  clear hA hts hT hM hE hs
  generalize (Nd.parseR s.data.toList) = R at *
  generalize Nd.toksR l = TT at *
  obtain ⟨m, cm⟩ := R
  obtain ⟨tl, ct⟩ := TT
  simp only at CN HO HX
  obtain ⟨n, hn⟩ : ∃ n, n = l.length := ⟨_, rfl⟩
  rw [← hn] at hl CT CS ⊢
  have HN := Lib.hid hn
  clear hn
  go_enter Tryz.func5, Tryz.ntmps5
  go_wp2_with fail
  refine CL.out.mono ?_
  rintro e w1 ⟨rfl, hb⟩
  have B1 := Lib.hid hb
  clear hb CL
  go_wp2_with fail
  refine (CT.out w1 B1.out).mono ?_
  rintro e w2 ⟨q2, d2, rfl, hA2, ⟨hc2, hc3⟩, hb⟩
  have hA2 : Sc.At w2 q2 tl := hA2
  have hc2 : tl.length ≤ d2 := hc2
  have B2 := Lib.hid (B1.out.trans (hb.mono B1.out.size))
  clear hb CT B1
  by_cases hct : ct = 0
  · subst hct
    have C3 := Lib.hid (CN.out w2 q2 d2 B2.out rfl hA2 hc2 hc3)
    clear CN hA2 hc2 hc3
    change Hid (Calls Tryz.prog 15 #[.slice q2 tl.length d2] w2 (Nd.TopPost (l, 0) w2)) at C3
    generalize tl.length = tn at *
    go_wp2_with fail
    refine C3.out.mono ?_
    rintro e w3 ⟨v3, rfl, hO3, hb⟩
    obtain ⟨q3, d3, hv3, -, hA3⟩ := hO3.at
    obtain rfl : v3 = .slice q3 n d3 := by rw [HN.out]; exact hv3
    have HA3 := Lib.hid (show Nd.Row w3 q3 l from hA3)
    have B3 := Lib.hid (B2.out.trans (hb.mono B2.out.size))
    clear hb hO3 hv3 hA3 C3 B2
    go_wp2_with fail
    refine (CS.out w3 q3 d3 B3.out HA3.out).mono ?_
    rintro e w4 ⟨rfl, hb⟩
    have B4 := Lib.hid (B3.out.trans (hb.mono B3.out.size))
    clear hb HA3 B3 CS
    go_wp2_with fail
    refine (CP.out _ B4.out).mono ?_
    rintro e w5 ⟨v5, rfl, hO5, b5⟩
    have B5 := Lib.hid (B4.out.trans (b5.mono B4.out.size))
    obtain ⟨p5, c5, hv5, -, hA5⟩ := hO5.at
    obtain rfl : v5 = .slice p5 m.length c5 := hv5
    have HA5 := Lib.hid (show Nd.Row w5 p5 m from hA5)
    clear b5 hO5 hA5 CP B4
    by_cases hcm : cm = 0
    · subst hcm
      obtain ⟨um, hsi, K1, K2, K3, K4⟩ := HO.out rfl
      have K1 := Lib.hid K1
      have K2 := Lib.hid K2
      have K3 := Lib.hid K3
      have K4 := Lib.hid K4
      obtain ⟨k, hk⟩ : ∃ k, k = m.length := ⟨_, rfl⟩
      have HK := Lib.hid hk
      rw [← hk] at K1 K2 K4 ⊢
      clear hk HO HX
      go_wp2_with fail
      refine (K1.out _ p5 c5 B5.out HA5.out).mono ?_
      rintro e w6 ⟨rfl, b6⟩
      have B6 := Lib.hid (B5.out.trans (b6.mono B5.out.size))
      have HA6 := Lib.hid (HA5.out.below b6)
      clear b6 K1 B5 HA5
      go_wp2_with fail
      refine (K3.out _ B6.out).mono ?_
      rintro e w7 ⟨v7, rfl, hO7, b7⟩
      have B7 := Lib.hid (B6.out.trans (b7.mono B6.out.size))
      have HA7 := Lib.hid (HA6.out.below b7)
      obtain ⟨p7, c7, hv7, -, hA7⟩ := hO7.at
      obtain rfl : v7 = .slice p7 k c7 := by rw [HK.out]; exact hv7
      have HB7 := Lib.hid (show Nd.Row w7 p7 m from hA7)
      clear b7 hO7 hv7 hA7 K3 HA6 B6
      go_wp2_with fail
      refine (K2.out _ p5 c5 B7.out HA7.out).mono ?_
      rintro e w8 ⟨rfl, b8⟩
      have B8 := Lib.hid (B7.out.trans (b8.mono B7.out.size))
      have HA8 := Lib.hid (HA7.out.below b8)
      have HB8 := Lib.hid (HB7.out.below b8)
      clear b8 K2 HA7 HB7 B7
      go_wp2_with fail
      refine (K4.out _ p7 c7 p5 c5 HB8.out HA8.out).mono ?_
      rintro e w9 ⟨rfl, b9⟩
      have B9 := Lib.hid (B8.out.trans (b9.mono B8.out.size))
      clear b9 K4 HA8 HB8 B8
      go_wp2_with fail
      go_ret
      exact ⟨rfl, B9.out⟩
    · have q1 : (cm != 0) = true := by rw [bne_iff_ne]; exact hcm
      obtain rfl : m = [] := HX.out hcm
      clear HO HX HA5 hcm
      go_wp2_with fail
      go_ret
      exact ⟨rfl, B5.out⟩
  · have q0 : (ct == 0) = false := by rw [beq_eq_false_iff_ne]; exact hct
    have B4 := B2
    generalize tl.length = tn at *
    clear CN CS hA2 hc2 hc3 hct B2
    go_wp2_with fail
    refine (CP.out _ B4.out).mono ?_
    rintro e w5 ⟨v5, rfl, hO5, b5⟩
    have B5 := Lib.hid (B4.out.trans (b5.mono B4.out.size))
    obtain ⟨p5, c5, hv5, -, hA5⟩ := hO5.at
    obtain rfl : v5 = .slice p5 m.length c5 := hv5
    have HA5 := Lib.hid (show Nd.Row w5 p5 m from hA5)
    clear b5 hO5 hA5 CP B4
    by_cases hcm : cm = 0
    · subst hcm
      obtain ⟨um, hsi, K1, K2, K3, K4⟩ := HO.out rfl
      have K1 := Lib.hid K1
      have K2 := Lib.hid K2
      have K3 := Lib.hid K3
      have K4 := Lib.hid K4
      obtain ⟨k, hk⟩ : ∃ k, k = m.length := ⟨_, rfl⟩
      have HK := Lib.hid hk
      rw [← hk] at K1 K2 K4 ⊢
      clear hk HO HX
      go_wp2_with fail
      refine (K1.out _ p5 c5 B5.out HA5.out).mono ?_
      rintro e w6 ⟨rfl, b6⟩
      have B6 := Lib.hid (B5.out.trans (b6.mono B5.out.size))
      have HA6 := Lib.hid (HA5.out.below b6)
      clear b6 K1 B5 HA5
      go_wp2_with fail
      refine (K3.out _ B6.out).mono ?_
      rintro e w7 ⟨v7, rfl, hO7, b7⟩
      have B7 := Lib.hid (B6.out.trans (b7.mono B6.out.size))
      have HA7 := Lib.hid (HA6.out.below b7)
      obtain ⟨p7, c7, hv7, -, hA7⟩ := hO7.at
      obtain rfl : v7 = .slice p7 k c7 := by rw [HK.out]; exact hv7
      have HB7 := Lib.hid (show Nd.Row w7 p7 m from hA7)
      clear b7 hO7 hv7 hA7 K3 HA6 B6
      go_wp2_with fail
      refine (K2.out _ p5 c5 B7.out HA7.out).mono ?_
      rintro e w8 ⟨rfl, b8⟩
      have B8 := Lib.hid (B7.out.trans (b8.mono B7.out.size))
      have HA8 := Lib.hid (HA7.out.below b8)
      have HB8 := Lib.hid (HB7.out.below b8)
      clear b8 K2 HA7 HB7 B7
      go_wp2_with fail
      refine (K4.out _ p7 c7 p5 c5 HB8.out HA8.out).mono ?_
      rintro e w9 ⟨rfl, b9⟩
      have B9 := Lib.hid (B8.out.trans (b9.mono B8.out.size))
      clear b9 K4 HA8 HB8 B8
      go_wp2_with fail
      go_ret
      exact ⟨rfl, B9.out⟩
    · have q1 : (cm != 0) = true := by rw [bne_iff_ne]; exact hcm
      obtain rfl : m = [] := HX.out hcm
      clear HO HX HA5 hcm
      go_wp2_with fail
      go_ret
      exact ⟨rfl, B5.out⟩
end Go.Proofs.YtokbmfolbgcfcaaGreatDoor
