/-
  The law ValueCodes: any value has the bytes that the document says, any text is decoded as it says, and a value with one under a name is the one it says. Conditions: the library's table of powers of ten reads as it is laid; a value's texts and lists, the text and the name are of a size that a machine holds.
-/
import Derived.Test.YtckcbdnlligndaaDoorVlLX
import Derived.Test.YtckcbdnlligndaaDoorRW
import Derived.Test.YtckcbdnlligndaaDoorRG
import Derived.Test.YtckcbdnlligndaaDoorRVlEnc
namespace Go.Proofs.YtckcbdnlligndaaDoor
open Go.RowKit

theorem Vl.rwith_ofE {V X U : Vl.V} {c : Int} {v x : Value} {s : ByteArray} {W : World} (hs : s.size ≤ 140737488351232) (hv : Vl.AtE W v V) (hx : Vl.AtE W x X) (h : Vl.withR V s X = (U, c)) :
    Calls Tryd.prog 15 #[v, .string s, x] W (Vl.RE U [.int .i64 c] W) := by
  obtain ⟨d, hv⟩ := hv
  obtain ⟨e, hx⟩ := hx
  refine (refWith_any (max d e) V X v x s W (hv.le (by omega)) (hx.le (by omega)) hs).mono ?_
  rintro q W' ⟨u, rfl, ⟨d', h1⟩, h2⟩
  rw [h] at h1 ⊢
  exact Vl.re_of (h1.le (Nat.le_succ d')) h2
theorem Vl.dec_ofE {T : Vl.V × List UInt8 × Int} (l : List UInt8) (W : World) (hl : l.length ≤ 140737488351232) (hT : Vl.decR l = T) :
    Calls Tryd.prog 12 #[.string (Wp.B l)] W (fun e W' => Vl.RE T.1 [.string (Wp.B T.2.1), .int .i64 T.2.2] W e W' ∧ ∀ e, Vl.fits e T.1) := by
  subst hT
  refine (vlDecode_any l W (by omega)).mono ?_
  rintro e W' ⟨u, rfl, h1, h2⟩
  exact ⟨Vl.re_of h1 h2, h1.fitsR⟩
theorem Vl.rdec_ofE {T : Vl.V × List UInt8 × Int} (l : List UInt8) (W : World) (hl : l.length ≤ 140737488351232) (hT : Vl.decR l = T) (hf : ∀ e, Vl.fits e T.1) :
    Calls Tryd.prog 13 #[.string (Wp.B l)] W (Vl.RE T.1 [.string (Wp.B T.2.1), .int .i64 T.2.2] W) := by
  subst hT
  refine (refDecode_any l W hl).mono ?_
  rintro e W' ⟨u, rfl, h1, h2, hf2⟩
  rw [Vl.guessR_eq hf hf2] at h1 ⊢
  exact Vl.re_of h1 h2
set_option maxRecDepth 100000 in
set_option maxHeartbeats 8000000 in
theorem valueCodes_law (V X : Vl.V) (v u : Value) (s nm : ByteArray) (w : World) (hA : Vl.AtE w v V) (hX : Vl.AtE w u X) (hs : s.size ≤ 140737488351232) (hnm : nm.size ≤ 140737488351232) (hT : Vl.Tab w) :
    Calls Tryd.prog 3 #[v, .string s, .string nm, u] w fun e w' => e = .returned (.bool true) ∧ Below w.heap.size w w' := by
  obtain ⟨k1, t1, i1, pi1, ni1, ci1, pn1, nn1, cn1, rfl⟩ := hA.shape
  obtain ⟨k2, t2, i2, pi2, ni2, ci2, pn2, nn2, cn2, rfl⟩ := hX.shape
  have HL := Lib.hid (fun W (h : Below w.heap.size w W) => lives09_any W (fun W2 h2 => hT.below (h.trans (h2.mono h.size))))
  have hB0 : Below w.heap.size w ((w.alloc (.cells #[.int .u8 k1, .string t1, .int .i64 i1, .slice pi1 ni1 ci1, .slice pn1 nn1 cn1] 26)).alloc (.cells #[.int .u8 k2, .string t2, .int .i64 i2, .slice pi2 ni2 ci2, .slice pn2 nn2 cn2] 26)) := ((Below.refl w.heap.size w).alloc (Nat.le_refl _) _).alloc (by simp) _
  have HV0 := Lib.hid (show ((w.alloc (.cells #[.int .u8 k1, .string t1, .int .i64 i1, .slice pi1 ni1 ci1, .slice pn1 nn1 cn1] 26)).alloc (.cells #[.int .u8 k2, .string t2, .int .i64 i2, .slice pi2 ni2 ci2, .slice pn2 nn2 cn2] 26)).heap[w.heap.size]? = some (.cells #[.int .u8 k1, .string t1, .int .i64 i1, .slice pi1 ni1 ci1, .slice pn1 nn1 cn1] 26 (0, 0)) by rw [Vl.past _ _ _ (by simp)]; exact Vl.new _ _)
  have HX0 := Lib.hid (show ((w.alloc (.cells #[.int .u8 k1, .string t1, .int .i64 i1, .slice pi1 ni1 ci1, .slice pn1 nn1 cn1] 26)).alloc (.cells #[.int .u8 k2, .string t2, .int .i64 i2, .slice pi2 ni2 ci2, .slice pn2 nn2 cn2] 26)).heap[w.heap.size + 1]? = some (.cells #[.int .u8 k2, .string t2, .int .i64 i2, .slice pi2 ni2 ci2, .slice pn2 nn2 cn2] 26 (0, 0)) from Vl.newAt _ _ _ (by simp))
  have HA := Lib.hid hA
  have HXx := Lib.hid hX
  have HB0 := Lib.hid hB0
  have HE1 : Hid (∀ W, Below w.heap.size w W → Calls Tryd.prog 10 #[.agg #[.int .u8 k1, .string t1, .int .i64 i1, .slice pi1 ni1 ci1, .slice pn1 nn1 cn1]] W fun e w' => e = .returned (.tuple #[.string (Wp.B (Vl.encR V).1), .int .i64 (Vl.encR V).2]) ∧ Below W.heap.size W w') := Lib.hid (fun W h => by
    obtain ⟨d, ha⟩ := hA
    exact vlEncode_any d V _ W (ha.below h))
  have HE2 : Hid (∀ W, Below w.heap.size w W → Calls Tryd.prog 11 #[.agg #[.int .u8 k1, .string t1, .int .i64 i1, .slice pi1 ni1 ci1, .slice pn1 nn1 cn1]] W fun e w' => e = .returned (.tuple #[.string (Wp.B (Vl.encR V).1), .int .i64 (Vl.encR V).2]) ∧ Below W.heap.size W w') := Lib.hid (fun W h => by
    obtain ⟨d, ha⟩ := hA
    exact refEncode_any d V _ W (ha.below h))
  have hsl : s.data.toList.length ≤ 140737488351232 := by rw [← Wp.size_len]; omega
  obtain ⟨⟨D, r, dc⟩, hD⟩ : ∃ T, Vl.decR s.data.toList = T := ⟨_, rfl⟩
  have HD1 : Hid (∀ W, Calls Tryd.prog 12 #[.string s] W (fun e W' => Vl.RE D [.string (Wp.B r), .int .i64 dc] W e W' ∧ ∀ e, Vl.fits e D)) := Lib.hid (fun W => by
    have := Vl.dec_ofE s.data.toList W hsl hD
    rw [Wp.B_of] at this
    exact this)
  have HD2 : Hid ((∀ e, Vl.fits e D) → ∀ W, Calls Tryd.prog 13 #[.string s] W (Vl.RE D [.string (Wp.B r), .int .i64 dc] W)) := Lib.hid (fun hf W => by
    have := Vl.rdec_ofE s.data.toList W hsl hD hf
    rw [Wp.B_of] at this
    exact this)
  obtain ⟨⟨U, wc⟩, hU⟩ : ∃ T, Vl.withR V nm X = T := ⟨_, rfl⟩
  have HW1 : Hid (∀ W, Below w.heap.size w W → Calls Tryd.prog 14 #[.agg #[.int .u8 k1, .string t1, .int .i64 i1, .slice pi1 ni1 ci1, .slice pn1 nn1 cn1], .string nm, .agg #[.int .u8 k2, .string t2, .int .i64 i2, .slice pi2 ni2 ci2, .slice pn2 nn2 cn2]] W (Vl.RE U [.int .i64 wc] W)) := Lib.hid (fun W h => Vl.with_ofE hnm (hA.below h) (hX.below h) hU)
  have HW2 : Hid (∀ W, Below w.heap.size w W → Calls Tryd.prog 15 #[.agg #[.int .u8 k1, .string t1, .int .i64 i1, .slice pi1 ni1 ci1, .slice pn1 nn1 cn1], .string nm, .agg #[.int .u8 k2, .string t2, .int .i64 i2, .slice pi2 ni2 ci2, .slice pn2 nn2 cn2]] W (Vl.RE U [.int .i64 wc] W)) := Lib.hid (fun W h => Vl.rwith_ofE hnm (hA.below h) (hX.below h) hU)
  clear hD hU hA hX hB0 hs hnm hT hsl
  generalize Wp.B (Vl.encR V).1 = eb at *
  generalize (Vl.encR V).2 = ec at *
  generalize Wp.B r = rb at *
  have q1 : (eb.toList == eb.toList) = true := by simp
  have q2 : (ec == ec) = true := by simp
  have q3 : (rb.toList == rb.toList) = true := by simp
  have q4 : (dc == dc) = true := by simp
  have q5 : (wc == wc) = true := by simp
  obtain ⟨m0, m1, m2, m3, m4⟩ := Vl.five_of HV0.out
  go_enter Tryd.func3, Tryd.ntmps3
  go_wp2_with fail
  refine (HE1.out _ HB0.out).mono ?_
  rintro e w1 ⟨rfl, hb⟩
  have HB1 := Lib.hid (HB0.out.trans (hb.mono HB0.out.size))
  have HV1 := Lib.hid (Vl.keepBox HV0.out hb)
  have HX1 := Lib.hid (Vl.keepBox HX0.out hb)
  clear hb HE1 HB0 HV0 HX0 m0 m1 m2 m3 m4
  obtain ⟨m0, m1, m2, m3, m4⟩ := Vl.five_of HV1.out
  go_wp2_with fail
  refine (HE2.out _ HB1.out).mono ?_
  rintro e w2 ⟨rfl, hb⟩
  have HB2 := Lib.hid (HB1.out.trans (hb.mono HB1.out.size))
  have HV2 := Lib.hid (Vl.keepBox HV1.out hb)
  have HX2 := Lib.hid (Vl.keepBox HX1.out hb)
  clear hb HE2 HB1 HV1 HX1 m0 m1 m2 m3 m4
  go_wp2_with fail
  refine (HD1.out _).mono ?_
  rintro e w3 ⟨⟨k3, t3, i3, pi3, ni3, ci3, pn3, nn3, cn3, rfl, hA3, hb⟩, hfit⟩
  have HF := Lib.hid hfit
  have hby := (Below.refl w3.heap.size w3).alloc (Nat.le_refl _) (.cells #[.int .u8 k3, .string t3, .int .i64 i3, .slice pi3 ni3 ci3, .slice pn3 nn3 cn3] 26)
  have h3 := hb.trans (hby.mono hb.size)
  have HB3 := Lib.hid (HB2.out.trans (h3.mono HB2.out.size))
  have HV3 := Lib.hid (Vl.keepBox HV2.out h3)
  have HX3 := Lib.hid (Vl.keepBox HX2.out h3)
  have HC3 := Lib.hid (Vl.new w3 (.cells #[.int .u8 k3, .string t3, .int .i64 i3, .slice pi3 ni3 ci3, .slice pn3 nn3 cn3] 26))
  have HcA3 := Lib.hid (hA3.below hby)
  have HD3 := Lib.hid (HD2.out HF.out (w3.alloc (.cells #[.int .u8 k3, .string t3, .int .i64 i3, .slice pi3 ni3 ci3, .slice pn3 nn3 cn3] 26)))
  clear hA3 hb hby h3 hfit HD1 HD2 HF HB2 HV2 HX2
  go_upto_region 4 with fail
  generalize (w3.alloc (.cells #[.int .u8 k3, .string t3, .int .i64 i3, .slice pi3 ni3 ci3, .slice pn3 nn3 cn3] 26)) = W3 at *
  generalize w3.heap.size = ba at *
  go_wp2_with fail
  refine HD3.out.mono ?_
  rintro e w4 ⟨k4, t4, i4, pi4, ni4, ci4, pn4, nn4, cn4, rfl, hA4, hb⟩
  have hby := (Below.refl w4.heap.size w4).alloc (Nat.le_refl _) (.cells #[.int .u8 k4, .string t4, .int .i64 i4, .slice pi4 ni4 ci4, .slice pn4 nn4 cn4] 26)
  have h4 := hb.trans (hby.mono hb.size)
  have HB4 := Lib.hid (HB3.out.trans (h4.mono HB3.out.size))
  have HV4 := Lib.hid (Vl.keepBox HV3.out h4)
  have HX4 := Lib.hid (Vl.keepBox HX3.out h4)
  have HC4 := Lib.hid (Vl.keepBox HC3.out h4)
  have HcA4 := Lib.hid (HcA3.out.below h4)
  have HG4 := Lib.hid (Vl.new w4 (.cells #[.int .u8 k4, .string t4, .int .i64 i4, .slice pi4 ni4 ci4, .slice pn4 nn4 cn4] 26))
  have HgA4 := Lib.hid (hA4.below hby)
  clear hA4 hb hby h4 HD3 HB3 HV3 HX3 HC3 HcA3
  go_upto_region 5 with fail
  generalize (w4.alloc (.cells #[.int .u8 k4, .string t4, .int .i64 i4, .slice pi4 ni4 ci4, .slice pn4 nn4 cn4] 26)) = W4 at *
  generalize w4.heap.size = bb at *
  obtain ⟨m0, m1, m2, m3, m4⟩ := Vl.five_of HV4.out
  obtain ⟨x0, x1, x2, x3, x4⟩ := Vl.five_of HX4.out
  go_wp2_with fail
  refine (HW1.out _ HB4.out).mono ?_
  rintro e w5 ⟨k5, t5, i5, pi5, ni5, ci5, pn5, nn5, cn5, rfl, hA5, hb⟩
  have hby := (Below.refl w5.heap.size w5).alloc (Nat.le_refl _) (.cells #[.int .u8 k5, .string t5, .int .i64 i5, .slice pi5 ni5 ci5, .slice pn5 nn5 cn5] 26)
  have h5 := hb.trans (hby.mono hb.size)
  have HB5 := Lib.hid (HB4.out.trans (h5.mono HB4.out.size))
  have HV5 := Lib.hid (Vl.keepBox HV4.out h5)
  have HX5 := Lib.hid (Vl.keepBox HX4.out h5)
  have HC5 := Lib.hid (Vl.keepBox HC4.out h5)
  have HG5 := Lib.hid (Vl.keepBox HG4.out h5)
  have HcA5 := Lib.hid (HcA4.out.below h5)
  have HgA5 := Lib.hid (HgA4.out.below h5)
  have HI5 := Lib.hid (Vl.new w5 (.cells #[.int .u8 k5, .string t5, .int .i64 i5, .slice pi5 ni5 ci5, .slice pn5 nn5 cn5] 26))
  have HiA5 := Lib.hid (hA5.below hby)
  clear hA5 hb hby h5 HW1 HB4 HV4 HX4 HC4 HcA4 HG4 HgA4 m0 m1 m2 m3 m4 x0 x1 x2 x3 x4
  go_upto_region 6 with fail
  generalize (w5.alloc (.cells #[.int .u8 k5, .string t5, .int .i64 i5, .slice pi5 ni5 ci5, .slice pn5 nn5 cn5] 26)) = W5 at *
  generalize w5.heap.size = bc at *
  obtain ⟨m0, m1, m2, m3, m4⟩ := Vl.five_of HV5.out
  obtain ⟨x0, x1, x2, x3, x4⟩ := Vl.five_of HX5.out
  go_wp2_with fail
  refine (HW2.out _ HB5.out).mono ?_
  rintro e w6 ⟨k6, t6, i6, pi6, ni6, ci6, pn6, nn6, cn6, rfl, hA6, hb⟩
  have hby := (Below.refl w6.heap.size w6).alloc (Nat.le_refl _) (.cells #[.int .u8 k6, .string t6, .int .i64 i6, .slice pi6 ni6 ci6, .slice pn6 nn6 cn6] 26)
  have h6 := hb.trans (hby.mono hb.size)
  have HB6 := Lib.hid (HB5.out.trans (h6.mono HB5.out.size))
  have HC6 := Lib.hid (Vl.keepBox HC5.out h6)
  have HG6 := Lib.hid (Vl.keepBox HG5.out h6)
  have HI6 := Lib.hid (Vl.keepBox HI5.out h6)
  have HcA6 := Lib.hid (HcA5.out.below h6)
  have HgA6 := Lib.hid (HgA5.out.below h6)
  have HiA6 := Lib.hid (HiA5.out.below h6)
  have HJ6 := Lib.hid (Vl.new w6 (.cells #[.int .u8 k6, .string t6, .int .i64 i6, .slice pi6 ni6 ci6, .slice pn6 nn6 cn6] 26))
  have HjA6 := Lib.hid (hA6.below hby)
  clear hA6 hb hby h6 HW2 HB5 HV5 HX5 HC5 HcA5 HG5 HgA5 HI5 HiA5 m0 m1 m2 m3 m4 x0 x1 x2 x3 x4
  go_upto_region 7 with fail
  generalize (w6.alloc (.cells #[.int .u8 k6, .string t6, .int .i64 i6, .slice pi6 ni6 ci6, .slice pn6 nn6 cn6] 26)) = W6 at *
  generalize w6.heap.size = bd at *
  obtain ⟨c0, c1, c2, c3, c4⟩ := Vl.five_of HC6.out
  go_wp2_with fail
  refine (HL.out _ HB6.out).mono ?_
  rintro e w7 ⟨rfl, hb⟩
  have HB7 := Lib.hid (HB6.out.trans (hb.mono HB6.out.size))
  have HC7 := Lib.hid (Vl.keepBox HC6.out hb)
  have HG7 := Lib.hid (Vl.keepBox HG6.out hb)
  have HI7 := Lib.hid (Vl.keepBox HI6.out hb)
  have HJ7 := Lib.hid (Vl.keepBox HJ6.out hb)
  have HSm := Lib.hid (Vl.same_ofE (HcA6.out.below hb) (HgA6.out.below hb))
  have HiA7 := Lib.hid (HiA6.out.below hb)
  have HjA7 := Lib.hid (HjA6.out.below hb)
  clear hb HL HB6 HC6 HG6 HI6 HJ6 HcA6 HgA6 HiA6 HjA6 c0 c1 c2 c3 c4
  obtain ⟨c0, c1, c2, c3, c4⟩ := Vl.five_of HC7.out
  obtain ⟨g0, g1, g2, g3, g4⟩ := Vl.five_of HG7.out
  go_wp2_with fail
  refine HSm.out.mono ?_
  rintro e w8 ⟨rfl, hb⟩
  have HB8 := Lib.hid (HB7.out.trans (hb.mono HB7.out.size))
  have HI8 := Lib.hid (Vl.keepBox HI7.out hb)
  have HJ8 := Lib.hid (Vl.keepBox HJ7.out hb)
  have HSn := Lib.hid (Vl.same_ofE (HiA7.out.below hb) (HjA7.out.below hb))
  clear hb HSm HB7 HC7 HG7 HI7 HJ7 HiA7 HjA7 c0 c1 c2 c3 c4 g0 g1 g2 g3 g4
  obtain ⟨y0, y1, y2, y3, y4⟩ := Vl.five_of HI8.out
  obtain ⟨j0, j1, j2, j3, j4⟩ := Vl.five_of HJ8.out
  go_wp2_with fail
  refine HSn.out.mono ?_
  rintro e w9 ⟨rfl, hb⟩
  have HB9 := Lib.hid (HB8.out.trans (hb.mono HB8.out.size))
  clear hb HSn HB8 HI8 HJ8 y0 y1 y2 y3 y4 j0 j1 j2 j3 j4
  go_wp2_with fail
  go_ret
  exact ⟨rfl, HB9.out⟩
end Go.Proofs.YtckcbdnlligndaaDoor
