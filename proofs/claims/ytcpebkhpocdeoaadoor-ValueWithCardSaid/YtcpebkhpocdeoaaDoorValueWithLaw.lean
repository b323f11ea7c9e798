/-
  The law ValueWith: what is put with a name is found by it, and what another name finds is as it was; put again nothing changes. Conditions: the library's table of powers of ten reads as it is laid; values' texts and lists, and the names, are of a size that a machine holds.
-/
import Derived.Test.YtcpebkhpocdeoaaDoorVlExist
namespace Go.Proofs.YtcpebkhpocdeoaaDoor
open Go.RowKit

/-- What the law asks of plain values. -/
theorem Vl.law_with (V X : Vl.V) (s o : ByteArray) : (∃ c, Vl.withR V s X = (Vl.zero, c) ∧ c ≠ 0) ∨
    ∃ U, Vl.withR V s X = (U, 0) ∧ Vl.findR U [s] = (X, 0) ∧ Vl.withR U s X = (U, 0) ∧ Vl.holdsR U = (true, 0) ∧ (o ≠ s → Vl.findR U [o] = Vl.findR V [o]) := by
  by_cases hc : Vl.chkW V s X = 0
  · obtain ⟨g1, g2, g3, g4⟩ := Vl.chkW_ok hc
    obtain ⟨m1, m2, m3, m4⟩ := Vl.goodMap g1 g3
    have hr := Vl.withR_ok hc
    obtain ⟨f1, f2, f3, f4, f5⟩ := Vl.with_facts (s := s) (x := X) m1 m2
    cases hg : Vl.good (Vl.withV V s X) with
    | false => rw [hg] at hr; exact Or.inl ⟨11, hr, by decide⟩
    | true =>
      rw [hg] at hr
      refine Or.inr ⟨_, hr, Vl.findR_some hg f1, ?_, ?_, fun ho => ?_⟩
      · unfold Vl.withR
        rw [hg, g2, f4, g3, g4, f3, hg]
        rfl
      · unfold Vl.holdsR
        rw [hg]
        unfold Vl.holdsC
        rw [f4, g3]
        have : decide ((Vl.withV V s X).items.length = 0) = false := decide_eq_false (by omega)
        show (!decide ((Vl.withV V s X).items.length = 0), (0 : Int)) = _
        rw [this]
        rfl
      · cases hf : Vl.find V [o] with
        | none => rw [Vl.findR_none g1 hf, Vl.findR_none hg ((f2 o ho).trans hf)]
        | some y => rw [Vl.findR_some g1 hf, Vl.findR_some hg ((f2 o ho).trans hf)]
  · exact Or.inl ⟨_, Vl.withR_bad hc, hc⟩
set_option maxRecDepth 100000 in
set_option maxHeartbeats 2000000 in
theorem valueWith_law (V X : Vl.V) (v x : Value) (s o : ByteArray) (w : World) (hA : Vl.AtE w v V) (hX : Vl.AtE w x X) (hs : s.size ≤ 140737488351232) (hT : Vl.Tab w) :
    Calls Tryd.prog 6 #[v, .string s, .string o, x] w fun e w' => e = .returned (.bool true) ∧ Below w.heap.size w w' := by
  obtain ⟨k1, t1, i1, pi1, ni1, ci1, pn1, nn1, cn1, rfl⟩ := hA.shape
  obtain ⟨k2, t2, i2, pi2, ni2, ci2, pn2, nn2, cn2, rfl⟩ := hX.shape
  have HL := Lib.hid (fun W (h : Below w.heap.size w W) => lives09_any W (fun W2 h2 => hT.below (h.trans (h2.mono h.size))))
  have hB0 := ((Below.refl w.heap.size w).alloc (Nat.le_refl _) (.cells #[.int .u8 k1, .string t1, .int .i64 i1, .slice pi1 ni1 ci1, .slice pn1 nn1 cn1] 26)).alloc (by simp) (.cells #[.int .u8 k2, .string t2, .int .i64 i2, .slice pi2 ni2 ci2, .slice pn2 nn2 cn2] 26)
  have HB0 := Lib.hid hB0
  have HV0 := Lib.hid (show ((w.alloc (.cells #[.int .u8 k1, .string t1, .int .i64 i1, .slice pi1 ni1 ci1, .slice pn1 nn1 cn1] 26)).alloc (.cells #[.int .u8 k2, .string t2, .int .i64 i2, .slice pi2 ni2 ci2, .slice pn2 nn2 cn2] 26)).heap[w.heap.size]? = some (.cells #[.int .u8 k1, .string t1, .int .i64 i1, .slice pi1 ni1 ci1, .slice pn1 nn1 cn1] 26 (0, 0)) by rw [Vl.past _ _ _ (by simp)]; exact Vl.new _ _)
  have HX0 := Lib.hid (Vl.newAt (w.alloc (.cells #[.int .u8 k1, .string t1, .int .i64 i1, .slice pi1 ni1 ci1, .slice pn1 nn1 cn1] 26)) (.cells #[.int .u8 k2, .string t2, .int .i64 i2, .slice pi2 ni2 ci2, .slice pn2 nn2 cn2] 26) (w.heap.size + 1) (by simp))
  have HA0 := Lib.hid (hA.below hB0)
  have HAx0 := Lib.hid (hX.below hB0)
  have HP := Lib.hid (Vl.law_with V X s o)
  clear hA hX hT hB0
  have Hone := Lib.hid (fun W b (s : ByteArray) h => Vl.one_at W s b h)
  go_enter Tryd.func6, Tryd.ntmps6
  go_wp2_with fail
  refine (HL.out _ HB0.out).mono ?_
  rintro e w1 ⟨rfl, hb⟩
  have HB1 := Lib.hid (HB0.out.trans (hb.mono HB0.out.size))
  have HV1 := Lib.hid (Vl.keepBox HV0.out hb)
  have HX1 := Lib.hid (Vl.keepBox HX0.out hb)
  have HA1 := Lib.hid (HA0.out.below hb)
  have HAx1 := Lib.hid (HAx0.out.below hb)
  clear hb HB0 HV0 HX0 HA0 HAx0 HL
  obtain ⟨m0, m1, m2, m3, m4⟩ := Vl.five_of HV1.out
  obtain ⟨r0, r1, r2, r3, r4⟩ := Vl.five_of HX1.out
  rcases HP.out with ⟨c, hw, hc⟩ | ⟨U, h1, h2, h3, h4, h5⟩
  · have HW := Lib.hid (Vl.with_ofE hs HA1.out HAx1.out hw)
    have hcb : (c != 0) = true := by rw [bne_iff_ne]; exact hc
    clear HP hw hc
    go_wp2_with fail
    refine HW.out.mono ?_
    rintro e w2 ⟨k3, t3, i3, pi3, ni3, ci3, pn3, nn3, cn3, rfl, hA2, hb2⟩
    have hby := (Below.refl w2.heap.size w2).alloc (Nat.le_refl _) (.cells #[.int .u8 k3, .string t3, .int .i64 i3, .slice pi3 ni3 ci3, .slice pn3 nn3 cn3] 26)
    have HB2 := Lib.hid (HB1.out.trans ((hb2.trans (hby.mono hb2.size)).mono HB1.out.size))
    have HSz := Lib.hid (Vl.same_ofE (hA2.below hby) (Vl.AtE.zero _))
    obtain ⟨u0, u1, u2, u3, u4⟩ := Vl.five_of (Vl.new w2 (.cells #[.int .u8 k3, .string t3, .int .i64 i3, .slice pi3 ni3 ci3, .slice pn3 nn3 cn3] 26))
    clear hA2 hb2 hby HW m0 m1 m2 m3 m4 r0 r1 r2 r3 r4
    go_wp2_with fail
    refine HSz.out.mono ?_
    rintro e w3 ⟨rfl, hb3⟩
    have HB3 := Lib.hid (HB2.out.trans (hb3.mono HB2.out.size))
    clear hb3
    go_wp2_with fail
    go_ret
    exact ⟨rfl, HB3.out⟩
  · have HW := Lib.hid (Vl.with_ofE hs HA1.out HAx1.out h1)
    have H2 := Lib.hid h2
    have H3 := Lib.hid h3
    have H4 := Lib.hid h4
    have H5 := Lib.hid h5
    clear HP h1 h2 h3 h4 h5
    go_wp2_with fail
    refine HW.out.mono ?_
    rintro e w2 ⟨k3, t3, i3, pi3, ni3, ci3, pn3, nn3, cn3, rfl, hA2, hb2⟩
    have hby := (Below.refl w2.heap.size w2).alloc (Nat.le_refl _) (.cells #[.int .u8 k3, .string t3, .int .i64 i3, .slice pi3 ni3 ci3, .slice pn3 nn3 cn3] 26)
    have h2y := hb2.trans (hby.mono hb2.size)
    have HB2 := Lib.hid (HB1.out.trans (h2y.mono HB1.out.size))
    have HV2 := Lib.hid (Vl.keepBox HV1.out h2y)
    have HX2 := Lib.hid (Vl.keepBox HX1.out h2y)
    have HA2 := Lib.hid (HA1.out.below h2y)
    have HAx2 := Lib.hid (HAx1.out.below h2y)
    have HU2 := Lib.hid (Vl.new w2 (.cells #[.int .u8 k3, .string t3, .int .i64 i3, .slice pi3 ni3 ci3, .slice pn3 nn3 cn3] 26))
    have HAu2 := Lib.hid (hA2.below hby)
    clear hA2 hb2 hby h2y HW m0 m1 m2 m3 m4 r0 r1 r2 r3 r4 HB1 HV1 HX1 HA1 HAx1
    go_upto_region 4 with fail
    generalize (w2.alloc (.cells #[.int .u8 k3, .string t3, .int .i64 i3, .slice pi3 ni3 ci3, .slice pn3 nn3 cn3] 26)) = W2 at *
    generalize w2.heap.size = bu at *
    -- y
    have hbs := (Below.refl W2.heap.size W2).alloc (Nat.le_refl _) (.cells #[.string s] 9)
    have HC := Lib.hid (Vl.find_ofE (cap := 1) (by simp) (HAu2.out.below hbs) (Hone.out _ _ s (Vl.new W2 (.cells #[.string s] 9))) H2.out)
    have Hbs := Lib.hid hbs
    obtain ⟨u0, u1, u2, u3, u4⟩ := Vl.five_of HU2.out
    clear hbs H2
    go_wp2_with fail
    refine HC.out.mono ?_
    rintro e w3 ⟨k4, t4, i4, pi4, ni4, ci4, pn4, nn4, cn4, rfl, hA3, hb3⟩
    have hby := (Below.refl w3.heap.size w3).alloc (Nat.le_refl _) (.cells #[.int .u8 k4, .string t4, .int .i64 i4, .slice pi4 ni4 ci4, .slice pn4 nn4 cn4] 26)
    have h3y := (Hbs.out.trans (hb3.mono Hbs.out.size)).trans (hby.mono (Hbs.out.trans (hb3.mono Hbs.out.size)).size)
    have HB3 := Lib.hid (HB2.out.trans (h3y.mono HB2.out.size))
    have HV3 := Lib.hid (Vl.keepBox HV2.out h3y)
    have HX3 := Lib.hid (Vl.keepBox HX2.out h3y)
    have HA3 := Lib.hid (HA2.out.below h3y)
    have HAx3 := Lib.hid (HAx2.out.below h3y)
    have HU3 := Lib.hid (Vl.keepBox HU2.out h3y)
    have HAu3 := Lib.hid (HAu2.out.below h3y)
    have HY3 := Lib.hid (Vl.new w3 (.cells #[.int .u8 k4, .string t4, .int .i64 i4, .slice pi4 ni4 ci4, .slice pn4 nn4 cn4] 26))
    have HAy3 := Lib.hid (hA3.below hby)
    clear hA3 hb3 hby h3y Hbs HC u0 u1 u2 u3 u4 HB2 HV2 HX2 HA2 HAx2 HU2 HAu2
    go_upto_region 7 with fail
    generalize (w3.alloc (.cells #[.int .u8 k4, .string t4, .int .i64 i4, .slice pi4 ni4 ci4, .slice pn4 nn4 cn4] 26)) = W3 at *
    generalize w3.heap.size = by3 at *
    -- once more
    have HC := Lib.hid (Vl.with_ofE hs HAu3.out HAy3.out H3.out)
    obtain ⟨u0, u1, u2, u3, u4⟩ := Vl.five_of HU3.out
    obtain ⟨y0, y1, y2, y3, y4⟩ := Vl.five_of HY3.out
    clear H3
    go_wp2_with fail
    refine HC.out.mono ?_
    rintro e w4 ⟨k5, t5, i5, pi5, ni5, ci5, pn5, nn5, cn5, rfl, hA4, hb4⟩
    have hby := (Below.refl w4.heap.size w4).alloc (Nat.le_refl _) (.cells #[.int .u8 k5, .string t5, .int .i64 i5, .slice pi5 ni5 ci5, .slice pn5 nn5 cn5] 26)
    have h4y := hb4.trans (hby.mono hb4.size)
    have HB4 := Lib.hid (HB3.out.trans (h4y.mono HB3.out.size))
    have HV4 := Lib.hid (Vl.keepBox HV3.out h4y)
    have HX4 := Lib.hid (Vl.keepBox HX3.out h4y)
    have HA4 := Lib.hid (HA3.out.below h4y)
    have HAx4 := Lib.hid (HAx3.out.below h4y)
    have HU4 := Lib.hid (Vl.keepBox HU3.out h4y)
    have HAu4 := Lib.hid (HAu3.out.below h4y)
    have HY4 := Lib.hid (Vl.keepBox HY3.out h4y)
    have HAy4 := Lib.hid (HAy3.out.below h4y)
    have HG4 := Lib.hid (Vl.new w4 (.cells #[.int .u8 k5, .string t5, .int .i64 i5, .slice pi5 ni5 ci5, .slice pn5 nn5 cn5] 26))
    have HAg4 := Lib.hid (hA4.below hby)
    clear hA4 hb4 hby h4y HC u0 u1 u2 u3 u4 y0 y1 y2 y3 y4 HB3 HV3 HX3 HA3 HAx3 HU3 HAu3 HY3 HAy3
    go_upto_region 8 with fail
    generalize (w4.alloc (.cells #[.int .u8 k5, .string t5, .int .i64 i5, .slice pi5 ni5 ci5, .slice pn5 nn5 cn5] 26)) = W4 at *
    generalize w4.heap.size = bg at *
    -- another name
    have hbs := (Below.refl W4.heap.size W4).alloc (Nat.le_refl _) (.cells #[.string o] 9)
    obtain ⟨⟨Z1, c1⟩, hz1⟩ : ∃ T, Vl.findR V [o] = T := ⟨_, rfl⟩
    obtain ⟨⟨Z2, c2⟩, hz2⟩ : ∃ T, Vl.findR U [o] = T := ⟨_, rfl⟩
    have HC := Lib.hid (Vl.find_ofE (cap := 1) (by simp) (HA4.out.below hbs) (Hone.out _ _ o (Vl.new W4 (.cells #[.string o] 9))) hz1)
    have HZ2 := Lib.hid hz2
    have hz : Hid (o = s ∨ (o ≠ s ∧ c1 = c2 ∧ Z1 = Z2)) := Lib.hid (by
      by_cases h : o = s
      · exact Or.inl h
      · have e := (hz2.symm.trans (H5.out h)).trans hz1
        exact Or.inr ⟨h, (Prod.mk.inj e).2.symm, (Prod.mk.inj e).1.symm⟩)
    have Hbs := Lib.hid hbs
    obtain ⟨m0, m1, m2, m3, m4⟩ := Vl.five_of HV4.out
    clear hbs hz1 hz2 H5
    go_wp2_with fail
    refine HC.out.mono ?_
    rintro e w5 ⟨k6, t6, i6, pi6, ni6, ci6, pn6, nn6, cn6, rfl, hA5, hb5⟩
    have hby := (Below.refl w5.heap.size w5).alloc (Nat.le_refl _) (.cells #[.int .u8 k6, .string t6, .int .i64 i6, .slice pi6 ni6 ci6, .slice pn6 nn6 cn6] 26)
    have h5y := (Hbs.out.trans (hb5.mono Hbs.out.size)).trans (hby.mono (Hbs.out.trans (hb5.mono Hbs.out.size)).size)
    have HB5 := Lib.hid (HB4.out.trans (h5y.mono HB4.out.size))
    have HX5 := Lib.hid (Vl.keepBox HX4.out h5y)
    have HAx5 := Lib.hid (HAx4.out.below h5y)
    have HU5 := Lib.hid (Vl.keepBox HU4.out h5y)
    have HAu5 := Lib.hid (HAu4.out.below h5y)
    have HY5 := Lib.hid (Vl.keepBox HY4.out h5y)
    have HAy5 := Lib.hid (HAy4.out.below h5y)
    have HG5 := Lib.hid (Vl.keepBox HG4.out h5y)
    have HAg5 := Lib.hid (HAg4.out.below h5y)
    have HP5 := Lib.hid (Vl.new w5 (.cells #[.int .u8 k6, .string t6, .int .i64 i6, .slice pi6 ni6 ci6, .slice pn6 nn6 cn6] 26))
    have HAp5 := Lib.hid (hA5.below hby)
    clear hA5 hb5 hby h5y Hbs HC m0 m1 m2 m3 m4 HB4 HV4 HX4 HA4 HAx4 HU4 HAu4 HY4 HAy4 HG4 HAg4
    go_upto_region 9 with fail
    generalize (w5.alloc (.cells #[.int .u8 k6, .string t6, .int .i64 i6, .slice pi6 ni6 ci6, .slice pn6 nn6 cn6] 26)) = W5 at *
    generalize w5.heap.size = bp at *
    have hbs := (Below.refl W5.heap.size W5).alloc (Nat.le_refl _) (.cells #[.string o] 9)
    have HC := Lib.hid (Vl.find_ofE (cap := 1) (by simp) (HAu5.out.below hbs) (Hone.out _ _ o (Vl.new W5 (.cells #[.string o] 9))) HZ2.out)
    have Hbs := Lib.hid hbs
    obtain ⟨u0, u1, u2, u3, u4⟩ := Vl.five_of HU5.out
    clear hbs HZ2
    go_wp2_with fail
    refine HC.out.mono ?_
    rintro e w6 ⟨k7, t7, i7, pi7, ni7, ci7, pn7, nn7, cn7, rfl, hA6, hb6⟩
    have hby := (Below.refl w6.heap.size w6).alloc (Nat.le_refl _) (.cells #[.int .u8 k7, .string t7, .int .i64 i7, .slice pi7 ni7 ci7, .slice pn7 nn7 cn7] 26)
    have h6y := (Hbs.out.trans (hb6.mono Hbs.out.size)).trans (hby.mono (Hbs.out.trans (hb6.mono Hbs.out.size)).size)
    have HB6 := Lib.hid (HB5.out.trans (h6y.mono HB5.out.size))
    have HX6 := Lib.hid (Vl.keepBox HX5.out h6y)
    have HAx6 := Lib.hid (HAx5.out.below h6y)
    have HU6 := Lib.hid (Vl.keepBox HU5.out h6y)
    have HAu6 := Lib.hid (HAu5.out.below h6y)
    have HY6 := Lib.hid (Vl.keepBox HY5.out h6y)
    have HAy6 := Lib.hid (HAy5.out.below h6y)
    have HG6 := Lib.hid (Vl.keepBox HG5.out h6y)
    have HAg6 := Lib.hid (HAg5.out.below h6y)
    have HP6 := Lib.hid (Vl.keepBox HP5.out h6y)
    have HAp6 := Lib.hid (HAp5.out.below h6y)
    have HQ6 := Lib.hid (Vl.new w6 (.cells #[.int .u8 k7, .string t7, .int .i64 i7, .slice pi7 ni7 ci7, .slice pn7 nn7 cn7] 26))
    have HAq6 := Lib.hid (hA6.below hby)
    clear hA6 hb6 hby h6y Hbs HC u0 u1 u2 u3 u4 HB5 HX5 HAx5 HU5 HAu5 HY5 HAy5 HG5 HAg5 HP5 HAp5
    go_upto_region 10 with fail
    generalize (w6.alloc (.cells #[.int .u8 k7, .string t7, .int .i64 i7, .slice pi7 ni7 ci7, .slice pn7 nn7 cn7] 26)) = W6 at *
    generalize w6.heap.size = bq at *
    -- it holds
    have HC := Lib.hid (Vl.holds_ofE HAu6.out H4.out)
    obtain ⟨u0, u1, u2, u3, u4⟩ := Vl.five_of HU6.out
    clear H4
    go_wp2_with fail
    refine HC.out.mono ?_
    rintro e w7 ⟨rfl, h7y⟩
    have HB7 := Lib.hid (HB6.out.trans (h7y.mono HB6.out.size))
    have hx7 := Vl.keepBox HX6.out h7y
    have HAx7 := Lib.hid (HAx6.out.below h7y)
    have HU7 := Lib.hid (Vl.keepBox HU6.out h7y)
    have HAu7 := Lib.hid (HAu6.out.below h7y)
    have hy7 := Vl.keepBox HY6.out h7y
    have HAy7 := Lib.hid (HAy6.out.below h7y)
    have HG7 := Lib.hid (Vl.keepBox HG6.out h7y)
    have HAg7 := Lib.hid (HAg6.out.below h7y)
    have HP7 := Lib.hid (Vl.keepBox HP6.out h7y)
    have HAp7 := Lib.hid (HAp6.out.below h7y)
    have HQ7 := Lib.hid (Vl.keepBox HQ6.out h7y)
    have HAq7 := Lib.hid (HAq6.out.below h7y)
    clear h7y HC u0 u1 u2 u3 u4 HB6 HX6 HAx6 HU6 HAu6 HY6 HAy6 HG6 HAg6 HP6 HAp6 HQ6 HAq6
    -- all together
    have HC := Lib.hid (Vl.same_ofE HAx7.out HAy7.out)
    obtain ⟨r0, r1, r2, r3, r4⟩ := Vl.five_of hx7
    obtain ⟨y0, y1, y2, y3, y4⟩ := Vl.five_of hy7
    clear hx7 hy7
    go_wp2_with fail
    refine HC.out.mono ?_
    rintro e w8 ⟨rfl, h8⟩
    have HB8 := Lib.hid (HB7.out.trans (h8.mono HB7.out.size))
    have hu8 := Vl.keepBox HU7.out h8
    have hg8 := Vl.keepBox HG7.out h8
    have HP8 := Lib.hid (Vl.keepBox HP7.out h8)
    have HAp8 := Lib.hid (HAp7.out.below h8)
    have HQ8 := Lib.hid (Vl.keepBox HQ7.out h8)
    have HAq8 := Lib.hid (HAq7.out.below h8)
    have HC2 := Lib.hid (Vl.same_ofE (HAg7.out.below h8) (HAu7.out.below h8))
    clear h8 HC r0 r1 r2 r3 r4 y0 y1 y2 y3 y4 HB7 HAx7 HU7 HAu7 HAy7 HG7 HAg7 HP7 HAp7 HQ7 HAq7
    obtain ⟨u0, u1, u2, u3, u4⟩ := Vl.five_of hu8
    obtain ⟨y0, y1, y2, y3, y4⟩ := Vl.five_of hg8
    clear hu8 hg8
    rcases hz.out with rfl | ⟨ho, rfl, rfl⟩
    · have heq : (o.toList == o.toList) = true := by simp
      clear hz HP8 HAp8 HQ8 HAq8
      go_wp2_with fail
      refine HC2.out.mono ?_
      rintro e w9 ⟨rfl, h9⟩
      have HB9 := Lib.hid (HB8.out.trans (h9.mono HB8.out.size))
      clear h9 u0 u1 u2 u3 u4 y0 y1 y2 y3 y4
      go_wp2_with fail
      go_ret
      exact ⟨rfl, HB9.out⟩
    · have heq : (o.toList == s.toList) = false := by rw [Vl.ba_eq, decide_eq_false ho]
      clear hz ho
      go_wp2_with fail
      refine HC2.out.mono ?_
      rintro e w9 ⟨rfl, h9⟩
      have HB9 := Lib.hid (HB8.out.trans (h9.mono HB8.out.size))
      have hp9 := Vl.keepBox HP8.out h9
      have hq9 := Vl.keepBox HQ8.out h9
      have HC3 := Lib.hid (Vl.same_ofE (HAp8.out.below h9) (HAq8.out.below h9))
      clear h9 u0 u1 u2 u3 u4 y0 y1 y2 y3 y4 HP8 HAp8 HQ8 HAq8 HC2
      obtain ⟨u0, u1, u2, u3, u4⟩ := Vl.five_of hp9
      obtain ⟨y0, y1, y2, y3, y4⟩ := Vl.five_of hq9
      clear hp9 hq9
      go_wp2_with fail
      refine HC3.out.mono ?_
      rintro e w10 ⟨rfl, h10⟩
      have HB10 := Lib.hid (HB9.out.trans (h10.mono HB9.out.size))
      clear h10 u0 u1 u2 u3 u4 y0 y1 y2 y3 y4
      go_wp2_with fail
      go_ret
      exact ⟨rfl, HB10.out⟩
end Go.Proofs.YtcpebkhpocdeoaaDoor
