/-
  The law ValueBack: what is encoded is decoded, and what was behind it stays; what is decoded is right, and has its bytes. Conditions: the library's table of powers of ten reads as it is laid; a value's texts and lists, and the text, are of a size that a machine holds.
-/
import Derived.Test.YtcpebkhpocdeoaaDoorVlLaws
namespace Go.Proofs.YtcpebkhpocdeoaaDoor
open Go.RowKit

theorem Vl.At.fits : ∀ {d : Nat} {w : World} {v : Value} {x : Vl.V}, Vl.At d w v x → ∀ e, Vl.fits e x
  | _, _, _, _, _, 0 => trivial
  | 0, _, _, _, h, _ + 1 => h.elim
  | d + 1, w, v, x, ⟨pi, ci, pn, cn, _, hf, _, hi⟩, e + 1 => by
    refine ⟨hf.2.2.1, fun y hy => ?_⟩
    rcases hi with hi | ⟨b, off, _, hc⟩
    · rw [hi] at hy; cases hy
    · obtain ⟨i, hil, rfl⟩ := List.getElem_of_mem hy
      obtain ⟨_, _, _, _, _, _, ha⟩ := hc i hil
      exact Vl.At.fits ha e
theorem Vl.same_of {d e : Nat} {x : Vl.V} {u v : Value} {W : World} (hu : Vl.At d W u x) (hv : Vl.At e W v x) : Calls Tryd.prog 15 #[u, v] W fun e w' => e = .returned (.bool true) ∧ Below W.heap.size W w' :=
  vlSame_any (max d e) x u v W (hu.le (by omega)) (hv.le (by omega))
theorem Vl.dec_of {T : Vl.V × List UInt8 × Int} {r : ByteArray} {l : List UInt8} {W : World} (hl : l.length ≤ 200000000000000) (hT : Vl.decR l = T) (hr : Wp.B T.2.1 = r) (b : ByteArray) (hb : b = Wp.B l) :
    Calls Tryd.prog 22 #[.string b] W (Vl.RV 257 T.1 [.string r, .int .i64 T.2.2] W) := by
  subst hb hr hT
  refine (vlDecode_any l W hl).mono ?_
  rintro e W' ⟨u, rfl, h1, h2⟩
  exact Vl.rv_of h1 h2
/-- What the law asks of a text alone. -/
theorem Vl.back_text (s : ByteArray) : ((Vl.decR s.data.toList).2.2 ≠ 0 ∧ Vl.decR s.data.toList = (Vl.zero, [], 7)) ∨ ∃ u r, Vl.decR s.data.toList = (u, r, 0) ∧ Vl.good u = true ∧ Wp.B u.enc ++ Wp.B r = s := by
  by_cases h : (Vl.decR s.data.toList).2.2 = 0
  · right
    obtain ⟨h1, h2⟩ := Vl.decR_ok h
    refine ⟨(Vl.decR s.data.toList).1, (Vl.decR s.data.toList).2.1, ?_, h1, ?_⟩
    · rw [← h]
    · rw [Wp.B_append, Wp.B_data, ← h2, Wp.B_of]
  · left
    refine ⟨h, ?_⟩
    unfold Vl.decR at h ⊢
    split
    · rfl
    · rename_i hc
      rw [if_neg hc] at h
      exact absurd rfl h
set_option maxRecDepth 100000 in
set_option maxHeartbeats 2000000 in
theorem valueBack_law (D : Nat) (x : Vl.V) (v : Value) (s : ByteArray) (w : World) (hA : Vl.At (D + 1) w v x) (hs : s.size ≤ 140737488351232) (hT : Vl.Tab w) :
    Calls Tryd.prog 5 #[v, .string s] w fun e w' => e = .returned (.bool true) ∧ Below w.heap.size w w' := by
  obtain ⟨k1, t1, i1, pi1, ni1, ci1, pn1, nn1, cn1, rfl⟩ := hA.shape
  have HL := Lib.hid (fun W (h : Below w.heap.size w W) => lives09_any W (fun W2 h2 => hT.below (h.trans (h2.mono h.size))))
  have HA := Lib.hid hA
  have hB0 := (Below.refl w.heap.size w).alloc (Nat.le_refl _) (.cells #[.int .u8 k1, .string t1, .int .i64 i1, .slice pi1 ni1 ci1, .slice pn1 nn1 cn1] 26)
  have HB0 := Lib.hid hB0
  have HV0 := Lib.hid (Vl.new w (.cells #[.int .u8 k1, .string t1, .int .i64 i1, .slice pi1 ni1 ci1, .slice pn1 nn1 cn1] 26))
  -- the second half, at any world
  have HS2 : Hid ((∀ W, Calls Tryd.prog 22 #[.string s] W (Vl.RV 257 Vl.zero [.string ⟨#[]⟩, .int .i64 7] W)) ∨ ∃ (u : Vl.V) (b r : ByteArray), (b.size : Int) + (r.size : Int) ≤ 9223372036854775807 ∧ ((b ++ r).toList == s.toList) = true ∧ (∀ W, Calls Tryd.prog 22 #[.string s] W (Vl.RV 257 u [.string r, .int .i64 0] W)) ∧
      (∀ W a, Vl.At 257 W a u → Calls Tryd.prog 20 #[a] W (fun e w' => e = .returned (.tuple #[.string b, .int .i64 0]) ∧ Below W.heap.size W w')) ∧ (∀ W a, Vl.At 257 W a u → Calls Tryd.prog 16 #[a] W (fun e w' => e = .returned (.int .i64 0) ∧ Below W.heap.size W w'))) := Lib.hid (by
    have hsl : s.data.toList.length ≤ 200000000000000 := by rw [← Wp.size_len]; omega
    rcases Vl.back_text s with ⟨_, h⟩ | ⟨u, r, h, hg, he⟩
    · exact Or.inl (fun W => Vl.dec_of hsl h rfl s (Wp.B_of s).symm)
    · have hz : (Wp.B u.enc ++ Wp.B r).size = s.size := by rw [he]
      rw [ByteArray.size_append] at hz
      refine Or.inr ⟨u, Wp.B u.enc, Wp.B r, by omega, by rw [he]; simp, fun W => Vl.dec_of hsl h rfl s (Wp.B_of s).symm, fun W a ha => ?_, fun W a ha => ?_⟩
      · have := vlEncode_any 257 u a W ha
        have e : Vl.encR u = (u.enc, 0) := by unfold Vl.encR; rw [hg]; rfl
        rw [e] at this
        exact this
      · have := vlCheck_any 257 u a W ha
        have e : Vl.chk u = 0 := by unfold Vl.chk; rw [hg]; rfl
        rw [e] at this
        exact this)
  have HS1 : Hid ((Vl.good x = false ∧ ∀ W a, Vl.At (D + 1) W a x → Calls Tryd.prog 20 #[a] W (fun e w' => e = .returned (.tuple #[.string ⟨#[]⟩, .int .i64 2]) ∧ Below W.heap.size W w')) ∨ ∃ b : ByteArray, (∀ W a, Vl.At (D + 1) W a x → Calls Tryd.prog 20 #[a] W (fun e w' => e = .returned (.tuple #[.string b, .int .i64 0]) ∧ Below W.heap.size W w')) ∧
      ((b.size : Int) + (s.size : Int) ≤ 9223372036854775807) ∧ (∀ W, Calls Tryd.prog 22 #[.string (b ++ s)] W (Vl.RV 257 x [.string s, .int .i64 0] W))) := Lib.hid (by
    cases hg : Vl.good x with
    | false =>
      refine Or.inl ⟨rfl, fun W a ha => ?_⟩
      have := vlEncode_any (D + 1) x a W ha
      have e : Vl.encR x = ([], 2) := by unfold Vl.encR; rw [hg]; rfl
      rw [e] at this
      exact this
    | true =>
      have hen := (Vl.Okay.of hg).enc
      have hsl := Wp.size_len s
      refine Or.inr ⟨Wp.B x.enc, fun W a ha => ?_, by rw [Wp.B_size]; omega, fun W => ?_⟩
      · have := vlEncode_any (D + 1) x a W ha
        have e : Vl.encR x = (x.enc, 0) := by unfold Vl.encR; rw [hg]; rfl
        rw [e] at this
        exact this
      · exact Vl.dec_of (T := (x, s.data.toList, 0)) (l := x.enc ++ s.data.toList) (by rw [List.length_append]; omega) (Vl.decR_put hg (hA.fits 8) _) (Wp.B_of s) _ (Wp.B_append _ _))
  have hne : (s.toList != s.toList) = false := by simp
  clear hA hB0 hT hs
  go_enter Tryd.func5, Tryd.ntmps5
  go_wp2_with fail
  refine (HL.out _ HB0.out).mono ?_
  rintro e w1 ⟨rfl, hb1⟩
  have HB1 := Lib.hid (HB0.out.trans (hb1.mono HB0.out.size))
  have hv1 := Vl.keepBox HV0.out hb1
  have HV1 := Lib.hid hv1
  have HA1 := Lib.hid (HA.out.below HB1.out)
  obtain ⟨m0, m1, m2, m3, m4⟩ := Vl.five_of hv1
  clear hb1 hv1 HB0 HV0 HL HA
  -- Encode
  rcases HS1.out with ⟨_, hE⟩ | ⟨b, hE, hsum, hD⟩
  · have HE := Lib.hid (hE _ _ HA1.out)
    clear hE HS1
    go_wp2_with fail
    refine HE.out.mono ?_
    rintro e w2 ⟨rfl, hb2⟩
    have HB2 := Lib.hid (HB1.out.trans (hb2.mono HB1.out.size))
    clear hb2 HE HV1 HA1 HB1 m0 m1 m2 m3 m4
    rcases HS2.out with hD2 | ⟨u, b2, r2, hbz, hbr, hD2, hE2, hC2⟩
    · have HD2 := Lib.hid (hD2 w2)
      clear hD2 HS2
      go_wp2_with fail
      refine HD2.out.mono ?_
      rintro e w5 ⟨k5, t5, i5, pi5, ni5, ci5, pn5, nn5, cn5, rfl, -, hA5, hb5⟩
      have hby := (Below.refl w5.heap.size w5).alloc (Nat.le_refl _) (.cells #[.int .u8 k5, .string t5, .int .i64 i5, .slice pi5 ni5 ci5, .slice pn5 nn5 cn5] 26)
      have HB5 := Lib.hid (HB2.out.trans ((hb5.trans (hby.mono hb5.size)).mono HB2.out.size))
      have HSz := Lib.hid (Vl.same_of (hA5.below hby) (Vl.At.zero 0 _))
      obtain ⟨u0, u1, u2, u3, u4⟩ := Vl.five_of (Vl.new w5 (.cells #[.int .u8 k5, .string t5, .int .i64 i5, .slice pi5 ni5 ci5, .slice pn5 nn5 cn5] 26))
      clear hA5 hb5 hby HD2 HB2
      go_wp2_with fail
      refine HSz.out.mono ?_
      rintro e w6 ⟨rfl, hb6⟩
      have HB6 := Lib.hid (HB5.out.trans (hb6.mono HB5.out.size))
      clear hb6
      go_wp2_with fail
      go_ret
      exact ⟨rfl, HB6.out⟩
    · have HD2 := Lib.hid (hD2 w2)
      have HE2 := Lib.hid hE2
      have HC2 := Lib.hid hC2
      clear hD2 hE2 hC2 HS2
      go_wp2_with fail
      refine HD2.out.mono ?_
      rintro e w5 ⟨k5, t5, i5, pi5, ni5, ci5, pn5, nn5, cn5, rfl, -, hA5, hb5⟩
      have hby := (Below.refl w5.heap.size w5).alloc (Nat.le_refl _) (.cells #[.int .u8 k5, .string t5, .int .i64 i5, .slice pi5 ni5 ci5, .slice pn5 nn5 cn5] 26)
      have HB5 := Lib.hid (HB2.out.trans ((hb5.trans (hby.mono hb5.size)).mono HB2.out.size))
      have HA5 := Lib.hid (hA5.below hby)
      have HU5 := Lib.hid (Vl.new w5 (.cells #[.int .u8 k5, .string t5, .int .i64 i5, .slice pi5 ni5 ci5, .slice pn5 nn5 cn5] 26))
      obtain ⟨u0, u1, u2, u3, u4⟩ := Vl.five_of HU5.out
      have HE3 := Lib.hid (HE2.out _ _ HA5.out)
      clear hA5 hb5 hby HD2 HB2 HE2
      go_wp2_with fail
      refine HE3.out.mono ?_
      rintro e w6 ⟨rfl, hb6⟩
      have HB6 := Lib.hid (HB5.out.trans (hb6.mono HB5.out.size))
      have HC3 := Lib.hid (HC2.out _ _ (HA5.out.below hb6))
      have hu6 := Vl.keepBox HU5.out hb6
      clear u0 u1 u2 u3 u4 hb6 HE3 HC2 HA5 HU5 HB5
      obtain ⟨u0, u1, u2, u3, u4⟩ := Vl.five_of hu6
      clear hu6
      go_wp2_with fail
      refine HC3.out.mono ?_
      rintro e w7 ⟨rfl, hb7⟩
      have HB7 := Lib.hid (HB6.out.trans (hb7.mono HB6.out.size))
      clear hb7 u0 u1 u2 u3 u4
      go_wp2_with fail
      go_ret
      exact ⟨rfl, HB7.out⟩
  · have HE := Lib.hid (hE _ _ HA1.out)
    have HD := Lib.hid hD
    clear hE HS1 hD
    go_wp2_with fail
    refine HE.out.mono ?_
    rintro e w2 ⟨rfl, hb2⟩
    have HB2' := Lib.hid (HB1.out.trans (hb2.mono HB1.out.size))
    have HV2 := Lib.hid (Vl.keepBox HV1.out hb2)
    have HA2 := Lib.hid (HA1.out.below hb2)
    clear hb2 HE HV1 HA1 HB1 m0 m1 m2 m3 m4
    go_wp2_with fail
    refine (HD.out _).mono ?_
    rintro e w3 ⟨k2, t2, i2, pi2, ni2, ci2, pn2, nn2, cn2, rfl, -, hA3, hb3⟩
    have hbx := (Below.refl w3.heap.size w3).alloc (Nat.le_refl _) (.cells #[.int .u8 k2, .string t2, .int .i64 i2, .slice pi2 ni2 ci2, .slice pn2 nn2 cn2] 26)
    have h2x := hb3.trans (hbx.mono hb3.size)
    have HB3 := Lib.hid (HB2'.out.trans (h2x.mono HB2'.out.size))
    have hv3 := Vl.keepBox HV2.out h2x
    have HSm := Lib.hid (Vl.same_of (hA3.below hbx) (HA2.out.below h2x))
    have HU3 := Lib.hid (Vl.five_of (Vl.new w3 (.cells #[.int .u8 k2, .string t2, .int .i64 i2, .slice pi2 ni2 ci2, .slice pn2 nn2 cn2] 26)))
    obtain ⟨m0, m1, m2, m3, m4⟩ := Vl.five_of hv3
    obtain ⟨u0, u1, u2, u3, u4⟩ := HU3.out
    clear hA3 hb3 hbx h2x hv3 HB2' HV2 HA2 HD
    go_wp2_with fail
    refine HSm.out.mono ?_
    rintro e w2 ⟨rfl, hb2⟩
    have HB2 := Lib.hid (HB3.out.trans (hb2.mono HB3.out.size))
    clear hb2 HSm HB3 HU3 m0 m1 m2 m3 m4 u0 u1 u2 u3 u4
    rcases HS2.out with hD2 | ⟨u, b2, r2, hbz, hbr, hD2, hE2, hC2⟩
    · have HD2 := Lib.hid (hD2 w2)
      clear hD2 HS2
      go_wp2_with fail
      refine HD2.out.mono ?_
      rintro e w5 ⟨k5, t5, i5, pi5, ni5, ci5, pn5, nn5, cn5, rfl, -, hA5, hb5⟩
      have hby := (Below.refl w5.heap.size w5).alloc (Nat.le_refl _) (.cells #[.int .u8 k5, .string t5, .int .i64 i5, .slice pi5 ni5 ci5, .slice pn5 nn5 cn5] 26)
      have HB5 := Lib.hid (HB2.out.trans ((hb5.trans (hby.mono hb5.size)).mono HB2.out.size))
      have HSz := Lib.hid (Vl.same_of (hA5.below hby) (Vl.At.zero 0 _))
      obtain ⟨u0, u1, u2, u3, u4⟩ := Vl.five_of (Vl.new w5 (.cells #[.int .u8 k5, .string t5, .int .i64 i5, .slice pi5 ni5 ci5, .slice pn5 nn5 cn5] 26))
      clear hA5 hb5 hby HD2 HB2
      go_wp2_with fail
      refine HSz.out.mono ?_
      rintro e w6 ⟨rfl, hb6⟩
      have HB6 := Lib.hid (HB5.out.trans (hb6.mono HB5.out.size))
      clear hb6
      go_wp2_with fail
      go_ret
      exact ⟨rfl, HB6.out⟩
    · have HD2 := Lib.hid (hD2 w2)
      have HE2 := Lib.hid hE2
      have HC2 := Lib.hid hC2
      clear hD2 hE2 hC2 HS2
      go_wp2_with fail
      refine HD2.out.mono ?_
      rintro e w5 ⟨k5, t5, i5, pi5, ni5, ci5, pn5, nn5, cn5, rfl, -, hA5, hb5⟩
      have hby := (Below.refl w5.heap.size w5).alloc (Nat.le_refl _) (.cells #[.int .u8 k5, .string t5, .int .i64 i5, .slice pi5 ni5 ci5, .slice pn5 nn5 cn5] 26)
      have HB5 := Lib.hid (HB2.out.trans ((hb5.trans (hby.mono hb5.size)).mono HB2.out.size))
      have HA5 := Lib.hid (hA5.below hby)
      have HU5 := Lib.hid (Vl.new w5 (.cells #[.int .u8 k5, .string t5, .int .i64 i5, .slice pi5 ni5 ci5, .slice pn5 nn5 cn5] 26))
      obtain ⟨u0, u1, u2, u3, u4⟩ := Vl.five_of HU5.out
      have HE3 := Lib.hid (HE2.out _ _ HA5.out)
      clear hA5 hb5 hby HD2 HB2 HE2
      go_wp2_with fail
      refine HE3.out.mono ?_
      rintro e w6 ⟨rfl, hb6⟩
      have HB6 := Lib.hid (HB5.out.trans (hb6.mono HB5.out.size))
      have HC3 := Lib.hid (HC2.out _ _ (HA5.out.below hb6))
      have hu6 := Vl.keepBox HU5.out hb6
      clear u0 u1 u2 u3 u4 hb6 HE3 HC2 HA5 HU5 HB5
      obtain ⟨u0, u1, u2, u3, u4⟩ := Vl.five_of hu6
      clear hu6
      go_wp2_with fail
      refine HC3.out.mono ?_
      rintro e w7 ⟨rfl, hb7⟩
      have HB7 := Lib.hid (HB6.out.trans (hb7.mono HB6.out.size))
      clear hb7 u0 u1 u2 u3 u4
      go_wp2_with fail
      go_ret
      exact ⟨rfl, HB7.out⟩
end Go.Proofs.YtcpebkhpocdeoaaDoor
