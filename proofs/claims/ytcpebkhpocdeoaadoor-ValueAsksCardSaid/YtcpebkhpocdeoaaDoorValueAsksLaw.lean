/-
  The law ValueAsks: any value is right or not, and is found in, shown, and holds, as the document says; any text is a name or not. Conditions: the library's table of powers of ten reads as it is laid; a value's texts and lists, the path and the text are of a size that a machine holds.
-/
import Derived.Test.YtcpebkhpocdeoaaDoorVlLX
import Derived.Test.YtcpebkhpocdeoaaDoorRX
import Derived.Test.YtcpebkhpocdeoaaDoorRW
namespace Go.Proofs.YtcpebkhpocdeoaaDoor
open Go.RowKit

theorem Vl.rfind_ofE {V U : Vl.V} {c : Int} {v : Value} {l : List ByteArray} {p : Option Addr} {cap : Nat} {W : World} (hl : l.length ≤ 140737488351232) (hc : l.length ≤ cap) (hv : Vl.AtE W v V) (hp : Wp.At Wp.mkT W p l) (h : Vl.findR V l = (U, c)) :
    Calls Tryd.prog 9 #[v, .slice p l.length cap] W (Vl.RE U [.int .i64 c] W) := by
  obtain ⟨d, hv⟩ := hv
  refine (refFindTop_any d V v W l p cap hv hc hl hp).mono ?_
  rintro q W' ⟨u, rfl, ⟨d', h1⟩, h2⟩
  rw [h] at h1 ⊢
  obtain ⟨k, t, i, pi, ni, ci, pn, nn, cn, rfl⟩ := h1.at.shape
  exact ⟨_, _, _, _, _, _, _, _, _, rfl, ⟨d', h1.at⟩, h2⟩
set_option maxRecDepth 100000 in
set_option maxHeartbeats 4000000 in
theorem valueAsks_law (V : Vl.V) (v : Value) (p : Option Addr) (cap : Nat) (l : List ByteArray) (s : ByteArray) (w : World) (hA : Vl.AtE w v V) (hp : Wp.At Wp.mkT w p l) (hl : l.length ≤ 140737488351232) (hc : l.length ≤ cap) (hs : s.size ≤ 140737488351232) (hT : Vl.Tab w) :
    Calls Tryd.prog 3 #[v, .slice p l.length cap, .string s] w fun e w' => e = .returned (.bool true) ∧ Below w.heap.size w w' := by
  obtain ⟨k1, t1, i1, pi1, ni1, ci1, pn1, nn1, cn1, rfl⟩ := hA.shape
  have HTab := Lib.hid (fun W (h : Below w.heap.size w W) => hT.below h)
  have HL := Lib.hid (fun W (h : Below w.heap.size w W) => lives09_any W (fun W2 h2 => hT.below (h.trans (h2.mono h.size))))
  have hB0 := (Below.refl w.heap.size w).alloc (Nat.le_refl _) (.cells #[.int .u8 k1, .string t1, .int .i64 i1, .slice pi1 ni1 ci1, .slice pn1 nn1 cn1] 26)
  have HB0 := Lib.hid hB0
  have HV0 := Lib.hid (Vl.new w (.cells #[.int .u8 k1, .string t1, .int .i64 i1, .slice pi1 ni1 ci1, .slice pn1 nn1 cn1] 26))
  have HA0 := Lib.hid (hA.below hB0)
  have HP0 := Lib.hid (hp.below hB0)
  have HLl := Lib.hid hl
  have HLc := Lib.hid hc
  obtain ⟨⟨U, c⟩, hu⟩ : ∃ T, Vl.findR V l = T := ⟨_, rfl⟩
  have HU := Lib.hid hu
  have HN1 := Lib.hid (fun W => vlName_any s W (by omega))
  have HN2 := Lib.hid (fun W => refName_any s W (by omega))
  have HS1 : Hid (∀ W, Below w.heap.size w W → Calls Tryd.prog 10 #[.agg #[.int .u8 k1, .string t1, .int .i64 i1, .slice pi1 ni1 ci1, .slice pn1 nn1 cn1]] W fun e w' => e = .returned (.tuple #[.string (Vl.showR V).1, .int .i64 (Vl.showR V).2]) ∧ Below W.heap.size W w') := Lib.hid (fun W h => by
    obtain ⟨d, ha⟩ := hA
    exact vlShow_any d V _ W (ha.below h) (fun W2 h2 => hT.below (h.trans (h2.mono h.size))))
  have HS2 : Hid (∀ W, Below w.heap.size w W → Calls Tryd.prog 11 #[.agg #[.int .u8 k1, .string t1, .int .i64 i1, .slice pi1 ni1 ci1, .slice pn1 nn1 cn1]] W fun e w' => e = .returned (.tuple #[.string (Vl.showR V).1, .int .i64 (Vl.showR V).2]) ∧ Below W.heap.size W w') := Lib.hid (fun W h => by
    obtain ⟨d, ha⟩ := hA
    exact refShow_any d V _ W (ha.below h))
  have HH1 : Hid (∀ W, Below w.heap.size w W → Calls Tryd.prog 12 #[.agg #[.int .u8 k1, .string t1, .int .i64 i1, .slice pi1 ni1 ci1, .slice pn1 nn1 cn1]] W fun e w' => e = .returned (.tuple #[.bool (Vl.holdsR V).1, .int .i64 (Vl.holdsR V).2]) ∧ Below W.heap.size W w') := Lib.hid (fun W h => by
    obtain ⟨d, ha⟩ := hA
    exact vlHolds_any d V _ W (ha.below h))
  have HH2 : Hid (∀ W, Below w.heap.size w W → Calls Tryd.prog 13 #[.agg #[.int .u8 k1, .string t1, .int .i64 i1, .slice pi1 ni1 ci1, .slice pn1 nn1 cn1]] W fun e w' => e = .returned (.tuple #[.bool (Vl.holdsR V).1, .int .i64 (Vl.holdsR V).2]) ∧ Below W.heap.size W w') := Lib.hid (fun W h => by
    obtain ⟨d, ha⟩ := hA
    exact refHolds_any d V _ W (ha.below h))
  have HC1 : Hid (∀ W, Below w.heap.size w W → Calls Tryd.prog 16 #[.agg #[.int .u8 k1, .string t1, .int .i64 i1, .slice pi1 ni1 ci1, .slice pn1 nn1 cn1]] W fun e w' => e = .returned (.int .i64 (Vl.chk V)) ∧ Below W.heap.size W w') := Lib.hid (fun W h => by
    obtain ⟨d, ha⟩ := hA
    exact vlCheck_any d V _ W (ha.below h))
  have HC2 : Hid (∀ W, Below w.heap.size w W → Calls Tryd.prog 17 #[.agg #[.int .u8 k1, .string t1, .int .i64 i1, .slice pi1 ni1 ci1, .slice pn1 nn1 cn1]] W fun e w' => e = .returned (.int .i64 (Vl.chk V)) ∧ Below W.heap.size W w') := Lib.hid (fun W h => by
    obtain ⟨d, ha⟩ := hA
    exact refCheck_any d V _ W (ha.below h))
  generalize (Vl.showR V).1 = sh at *
  generalize (Vl.showR V).2 = sc at *
  generalize (Vl.holdsR V).1 = hh at *
  generalize (Vl.holdsR V).2 = hcode at *
  generalize Vl.chk V = ck at *
  generalize Vl.nameC s = nm at *
  have q1 : (c == c) = true := by simp
  have q2 : (sc == sc) = true := by simp
  have q3 : (hcode == hcode) = true := by simp
  have q4 : (hh == hh) = true := by simp
  have q5 : (sh.toList == sh.toList) = true := by simp
  have q6 : (ck == ck) = true := by simp
  have q7 : (nm == nm) = true := by simp
  clear hA hp hT hB0 hu hl hc hs
  go_enter Tryd.func3, Tryd.ntmps3
  have HC := Lib.hid (Vl.find_ofE (cap := cap) HLl.out HA0.out HP0.out HU.out)
  go_wp2_with fail
  refine HC.out.mono ?_
  rintro e w2 ⟨k2, t2, i2, pi2, ni2, ci2, pn2, nn2, cn2, rfl, hA2, hb2⟩
  have hby := (Below.refl w2.heap.size w2).alloc (Nat.le_refl _) (.cells #[.int .u8 k2, .string t2, .int .i64 i2, .slice pi2 ni2 ci2, .slice pn2 nn2 cn2] 26)
  have h2y := hb2.trans (hby.mono hb2.size)
  have HB2 := Lib.hid (HB0.out.trans (h2y.mono HB0.out.size))
  have HV2 := Lib.hid ((h2y.block w.heap.size (Array.getElem?_eq_some_iff.1 HV0.out).1).trans HV0.out)
  have HA2 := Lib.hid (HA0.out.below h2y)
  have HP2 := Lib.hid (HP0.out.below h2y)
  have HX2 := Lib.hid (Vl.new w2 (.cells #[.int .u8 k2, .string t2, .int .i64 i2, .slice pi2 ni2 ci2, .slice pn2 nn2 cn2] 26))
  have HAx2 := Lib.hid (hA2.below hby)
  clear hA2 hb2 hby h2y HC HB0 HV0 HA0 HP0
  go_upto_region 2 with fail
  generalize (w2.alloc (.cells #[.int .u8 k2, .string t2, .int .i64 i2, .slice pi2 ni2 ci2, .slice pn2 nn2 cn2] 26)) = W2 at *
  generalize w2.heap.size = ba at *
  have HC := Lib.hid (Vl.rfind_ofE HLl.out HLc.out HA2.out HP2.out HU.out)
  obtain ⟨m0, m1, m2, m3, m4⟩ := Vl.five_of HV2.out
  go_wp2_with fail
  refine HC.out.mono ?_
  rintro e w3 ⟨k3, t3, i3, pi3, ni3, ci3, pn3, nn3, cn3, rfl, hA3, hb3⟩
  have hby := (Below.refl w3.heap.size w3).alloc (Nat.le_refl _) (.cells #[.int .u8 k3, .string t3, .int .i64 i3, .slice pi3 ni3 ci3, .slice pn3 nn3 cn3] 26)
  have h3y := hb3.trans (hby.mono hb3.size)
  have HB3 := Lib.hid (HB2.out.trans (h3y.mono HB2.out.size))
  have HV3 := Lib.hid (Vl.keepBox HV2.out h3y)
  have HX3 := Lib.hid (Vl.keepBox HX2.out h3y)
  have HAx3 := Lib.hid (HAx2.out.below h3y)
  have HY3 := Lib.hid (Vl.new w3 (.cells #[.int .u8 k3, .string t3, .int .i64 i3, .slice pi3 ni3 ci3, .slice pn3 nn3 cn3] 26))
  have HAy3 := Lib.hid (hA3.below hby)
  clear hA3 hb3 hby h3y HC HB2 HV2 HX2 HAx2 HA2 HP2 HU HLl HLc m0 m1 m2 m3 m4
  go_upto_region 3 with fail
  generalize (w3.alloc (.cells #[.int .u8 k3, .string t3, .int .i64 i3, .slice pi3 ni3 ci3, .slice pn3 nn3 cn3] 26)) = W3 at *
  generalize w3.heap.size = bb at *
  obtain ⟨m0, m1, m2, m3, m4⟩ := Vl.five_of HV3.out
  go_wp2_with fail
  refine (HS1.out _ HB3.out).mono ?_
  rintro e w4 ⟨rfl, hb⟩
  have HB4 := Lib.hid (HB3.out.trans (hb.mono HB3.out.size))
  have HV4 := Lib.hid (Vl.keepBox HV3.out hb)
  have HX4 := Lib.hid (Vl.keepBox HX3.out hb)
  have HAx4 := Lib.hid (HAx3.out.below hb)
  have HY4 := Lib.hid (Vl.keepBox HY3.out hb)
  have HAy4 := Lib.hid (HAy3.out.below hb)
  clear hb HS1 HB3 HV3 HX3 HAx3 HY3 HAy3 m0 m1 m2 m3 m4
  obtain ⟨m0, m1, m2, m3, m4⟩ := Vl.five_of HV4.out
  go_wp2_with fail
  refine (HS2.out _ HB4.out).mono ?_
  rintro e w5 ⟨rfl, hb⟩
  have HB5 := Lib.hid (HB4.out.trans (hb.mono HB4.out.size))
  have HV5 := Lib.hid (Vl.keepBox HV4.out hb)
  have HX5 := Lib.hid (Vl.keepBox HX4.out hb)
  have HAx5 := Lib.hid (HAx4.out.below hb)
  have HY5 := Lib.hid (Vl.keepBox HY4.out hb)
  have HAy5 := Lib.hid (HAy4.out.below hb)
  clear hb HS2 HB4 HV4 HX4 HAx4 HY4 HAy4 m0 m1 m2 m3 m4
  obtain ⟨m0, m1, m2, m3, m4⟩ := Vl.five_of HV5.out
  go_wp2_with fail
  refine (HH1.out _ HB5.out).mono ?_
  rintro e w6 ⟨rfl, hb⟩
  have HB6 := Lib.hid (HB5.out.trans (hb.mono HB5.out.size))
  have HV6 := Lib.hid (Vl.keepBox HV5.out hb)
  have HX6 := Lib.hid (Vl.keepBox HX5.out hb)
  have HAx6 := Lib.hid (HAx5.out.below hb)
  have HY6 := Lib.hid (Vl.keepBox HY5.out hb)
  have HAy6 := Lib.hid (HAy5.out.below hb)
  clear hb HH1 HB5 HV5 HX5 HAx5 HY5 HAy5 m0 m1 m2 m3 m4
  obtain ⟨m0, m1, m2, m3, m4⟩ := Vl.five_of HV6.out
  go_wp2_with fail
  refine (HH2.out _ HB6.out).mono ?_
  rintro e w8 ⟨rfl, hb⟩
  have HB8 := Lib.hid (HB6.out.trans (hb.mono HB6.out.size))
  have HV8 := Lib.hid (Vl.keepBox HV6.out hb)
  have HX8 := Lib.hid (Vl.keepBox HX6.out hb)
  have HAx8 := Lib.hid (HAx6.out.below hb)
  have HY8 := Lib.hid (Vl.keepBox HY6.out hb)
  have HAy8 := Lib.hid (HAy6.out.below hb)
  clear hb HH2 HB6 HV6 HX6 HAx6 HY6 HAy6 m0 m1 m2 m3 m4
  obtain ⟨m0, m1, m2, m3, m4⟩ := Vl.five_of HV8.out
  obtain ⟨r0, r1, r2, r3, r4⟩ := Vl.five_of HX8.out
  obtain ⟨y0, y1, y2, y3, y4⟩ := Vl.five_of HY8.out
  have z1 := (Array.getElem?_eq_some_iff.1 HV8.out).1
  have z2 := (Array.getElem?_eq_some_iff.1 HX8.out).1
  have z3 := (Array.getElem?_eq_some_iff.1 HY8.out).1
  have HKp : Hid (∀ w' : World, Below w8.heap.size w8 w' → (fun w' => w'.cell? ⟨ba, 0, none⟩ = some (.int .u8 k2) ∧ w'.cell? ⟨ba, 1, none⟩ = some (.string t2) ∧ w'.cell? ⟨ba, 2, none⟩ = some (.int .i64 i2) ∧ w'.cell? ⟨ba, 3, none⟩ = some (.slice pi2 ni2 ci2) ∧ w'.cell? ⟨ba, 4, none⟩ = some (.slice pn2 nn2 cn2) ∧ w'.cell? ⟨bb, 0, none⟩ = some (.int .u8 k3) ∧ w'.cell? ⟨bb, 1, none⟩ = some (.string t3) ∧ w'.cell? ⟨bb, 2, none⟩ = some (.int .i64 i3) ∧ w'.cell? ⟨bb, 3, none⟩ = some (.slice pi3 ni3 ci3) ∧ w'.cell? ⟨bb, 4, none⟩ = some (.slice pn3 nn3 cn3) ∧ w'.cell? ⟨w.heap.size, 0, none⟩ = some (.int .u8 k1) ∧ w'.cell? ⟨w.heap.size, 1, none⟩ = some (.string t1) ∧ w'.cell? ⟨w.heap.size, 2, none⟩ = some (.int .i64 i1) ∧ w'.cell? ⟨w.heap.size, 3, none⟩ = some (.slice pi1 ni1 ci1) ∧ w'.cell? ⟨w.heap.size, 4, none⟩ = some (.slice pn1 nn1 cn1)) w') := Lib.hid (fun w' h => ⟨(h.cell (p := ⟨ba, 0, none⟩) z2).trans r0, (h.cell (p := ⟨ba, 1, none⟩) z2).trans r1, (h.cell (p := ⟨ba, 2, none⟩) z2).trans r2, (h.cell (p := ⟨ba, 3, none⟩) z2).trans r3, (h.cell (p := ⟨ba, 4, none⟩) z2).trans r4, (h.cell (p := ⟨bb, 0, none⟩) z3).trans y0, (h.cell (p := ⟨bb, 1, none⟩) z3).trans y1, (h.cell (p := ⟨bb, 2, none⟩) z3).trans y2, (h.cell (p := ⟨bb, 3, none⟩) z3).trans y3, (h.cell (p := ⟨bb, 4, none⟩) z3).trans y4, (h.cell (p := ⟨w.heap.size, 0, none⟩) z1).trans m0, (h.cell (p := ⟨w.heap.size, 1, none⟩) z1).trans m1, (h.cell (p := ⟨w.heap.size, 2, none⟩) z1).trans m2, (h.cell (p := ⟨w.heap.size, 3, none⟩) z1).trans m3, (h.cell (p := ⟨w.heap.size, 4, none⟩) z1).trans m4⟩)
  have HSm := Lib.hid (fun W (h : Below w8.heap.size w8 W) => Vl.same_ofE (HAx8.out.below h) (HAy8.out.below h))
  clear z1 z2 z3
  go_wp2_with fail
  go_region_held3 (fun w' => w'.cell? ⟨ba, 0, none⟩ = some (.int .u8 k2) ∧ w'.cell? ⟨ba, 1, none⟩ = some (.string t2) ∧ w'.cell? ⟨ba, 2, none⟩ = some (.int .i64 i2) ∧ w'.cell? ⟨ba, 3, none⟩ = some (.slice pi2 ni2 ci2) ∧ w'.cell? ⟨ba, 4, none⟩ = some (.slice pn2 nn2 cn2) ∧ w'.cell? ⟨bb, 0, none⟩ = some (.int .u8 k3) ∧ w'.cell? ⟨bb, 1, none⟩ = some (.string t3) ∧ w'.cell? ⟨bb, 2, none⟩ = some (.int .i64 i3) ∧ w'.cell? ⟨bb, 3, none⟩ = some (.slice pi3 ni3 ci3) ∧ w'.cell? ⟨bb, 4, none⟩ = some (.slice pn3 nn3 cn3) ∧ w'.cell? ⟨w.heap.size, 0, none⟩ = some (.int .u8 k1) ∧ w'.cell? ⟨w.heap.size, 1, none⟩ = some (.string t1) ∧ w'.cell? ⟨w.heap.size, 2, none⟩ = some (.int .i64 i1) ∧ w'.cell? ⟨w.heap.size, 3, none⟩ = some (.slice pi1 ni1 ci1) ∧ w'.cell? ⟨w.heap.size, 4, none⟩ = some (.slice pn1 nn1 cn1))
    (first | (with_reducible exact HKp.out _ e6) | (with_reducible exact HKp.out _ e4) | (with_reducible exact HKp.out _ e3) | (with_reducible exact HKp.out _ e2) | (with_reducible exact HKp.out _ e1) | (with_reducible exact HKp.out _ (Below.refl _ w8).drew) | (go_keep; done))
    (first
      | (go_at_call 14; (with_reducible refine (HL.out _ HB8.out.drew).mono ?_); rintro e wA ⟨rfl, eb⟩; have e1 : Below w8.heap.size w8 wA := ((Below.refl _ w8).drew.trans eb))
      | (go_at_call 15; (with_reducible refine (HSm.out _ e1).mono ?_); rintro e wB ⟨rfl, eb⟩; have e2 : Below w8.heap.size w8 wB := e1.trans (eb.mono e1.size))
      | (go_at_call 16; (with_reducible refine (HC1.out _ (HB8.out.trans (e2.mono HB8.out.size))).mono ?_); rintro e wC ⟨rfl, eb⟩; have e3 : Below w8.heap.size w8 wC := e2.trans (eb.mono e2.size))
      | (go_at_call 17; (with_reducible refine (HC2.out _ (HB8.out.trans (e3.mono HB8.out.size))).mono ?_); rintro e wD ⟨rfl, eb⟩; have e4 : Below w8.heap.size w8 wD := e3.trans (eb.mono e3.size))
      | (go_at_call 18; (with_reducible refine (HN1.out _).mono ?_); rintro e wE ⟨rfl, rfl⟩)
      | (go_at_call 19; (with_reducible refine (HN2.out _).mono ?_); rintro e wF ⟨rfl, rfl⟩))
  have HB9 := Lib.hid (HB8.out.trans (e4.mono HB8.out.size))
  go_wp2_with fail
  go_ret
  exact ⟨rfl, HB9.out⟩
end Go.Proofs.YtcpebkhpocdeoaaDoor
