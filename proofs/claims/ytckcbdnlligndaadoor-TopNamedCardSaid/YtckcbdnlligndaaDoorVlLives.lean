
/-
  The walk of layer 9's lives: true. Condition: the library's table of powers of ten reads as it is laid.
-/
import Derived.Test.YtckcbdnlligndaaDoorVlWi
import Derived.Test.YtckcbdnlligndaaDoorVlShow
import Derived.Test.YtckcbdnlligndaaDoorVlEncode
import Derived.Test.YtckcbdnlligndaaDoorVlSame
namespace Go.Proofs.YtckcbdnlligndaaDoor
open Go.RowKit

namespace Vl
def cA : ByteArray := ⟨#[97]⟩
def cB : ByteArray := ⟨#[98]⟩
def cN : V := .mk 2 ⟨#[]⟩ (-3) [] []
def cM0 : V := .mk 5 ⟨#[]⟩ 0 [] []
def cM : V := .mk 5 ⟨#[]⟩ 0 [cN] [cA]
theorem cM_names : namesOk [cA] = true := by
  unfold namesOk rise upB
  rw [Lib.toList_data, Lib.toList_data]
  decide
theorem cN_good : good cN = true := by decide
theorem cM0_good : good cM0 = true := by
  unfold good okV leaf leafC
  simp [cM0, V.kind, V.text, V.num, V.items, V.names, namesOk, rise, V.cnt, cntL]
  rfl
theorem cM_good : good cM = true := by
  have h := cM_names
  unfold good
  simp [okV, leaf, leafC, cM, cN, V.kind, V.text, V.num, V.items, V.names, V.cnt, cntL, h]
  rfl
theorem cWith : withR cM0 cA cN = (cM, 0) := by
  have e : withV cM0 cA cN = cM := rfl
  unfold withR
  rw [cM0_good, cN_good, e, cM_good]
  rfl
theorem cFind : findR cM [cA] = (cN, 0) := findR_some cM_good (by
  rw [find_some (j := 0) (z := cN) (by unfold idx; exact if_pos rfl) rfl]
  rfl)
theorem cFindB : findR cM [cB] = (zero, 3) := findR_none cM_good (find_none (by
  show idx [cA] cB = none
  unfold idx
  rw [if_neg (by decide)]
  rfl))
theorem cFindZ : findR zero [] = (zero, 2) := findR_bad (by decide)
theorem cShow : showR cN = (⟨#[45, 51]⟩, 0) := by
  unfold showR
  rw [cN_good]
  have h : Lib.itoa (-3) = [45, 51] := by
    unfold Lib.itoa
    rw [if_pos (by decide), Lib.decDigits_one (by decide)]
    rfl
  show (Wp.B (Lib.itoa (-3)), (0 : Int)) = _
  rw [h]
  rfl
theorem cHolds : holdsR cM = (true, 0) := by
  unfold holdsR
  rw [cM_good]
  decide
theorem cEnc : encR cM = ([5, 1, 1, 1, 1, 97, 2, 129, 3], 0) := by
  unfold encR
  rw [cM_good]
  have : cM.enc = [5, 1, 1, 1, 1, 97, 2, 129, 3] := by
    simp only [cM, cN, V.enc, encL]
    decide
  rw [this]
  rfl
theorem cDec : decR [5, 1, 1, 1, 1, 97, 2, 129, 3, 122] = (cM, [122], 0) := by
  have h := decR_put cM_good (⟨by constructor <;> decide, by intro y hy; rw [List.mem_singleton.1 hy]; exact ⟨by constructor <;> decide, fun z hz => by cases hz⟩⟩ : fits 8 cM) [122]
  have e : cM.enc = [5, 1, 1, 1, 1, 97, 2, 129, 3] := by
    have := cEnc
    unfold encR at this
    rw [cM_good] at this
    exact (Prod.mk.inj this).1
  rw [e] at h
  exact h
theorem cName1 : nameC ⟨#[97, 95, 49]⟩ = 0 := by decide
theorem cName2 : nameC ⟨#[49, 97]⟩ = 13 := by decide
theorem cChk : chk cM = 0 := by unfold chk; rw [cM_good]; rfl
end Vl
theorem Vl.atM0 (W : World) : Vl.At 2 W (.agg #[.int .u8 5, .string ⟨#[]⟩, .int .i64 0, .slice none 0 0, .slice none 0 0]) Vl.cM0 :=
  ⟨none, 0, none, 0, rfl, ⟨by decide, by decide, by constructor <;> decide, by decide, by decide, by intro s hs; cases hs⟩, Or.inl rfl, Or.inl rfl⟩
theorem Vl.atN (W : World) : Vl.At 1 W (.agg #[.int .u8 2, .string ⟨#[]⟩, .int .i64 (-3), .slice none 0 0, .slice none 0 0]) Vl.cN :=
  ⟨none, 0, none, 0, rfl, ⟨by decide, by decide, by constructor <;> decide, by decide, by decide, by intro s hs; cases hs⟩, Or.inl rfl, Or.inl rfl⟩
theorem Vl.At.le {d e : Nat} {w : World} {v : Value} {x : Vl.V} (h : Vl.At d w v x) (he : d ≤ e) : Vl.At e w v x := by
  obtain ⟨k, rfl⟩ := Nat.le.dest he
  clear he
  induction k with
  | zero => exact h
  | succ k ih => exact ih.succ
theorem Vl.one_at (W : World) (s : ByteArray) (b : Nat) (h : W.heap[b]? = some (.cells #[.string s] 9 (0, 0))) : Wp.At Wp.mkT W (some ⟨b, 0, none⟩) [s] :=
  Or.inr ⟨b, 0, rfl, fun i hi => by
    have : i = 0 := by simpa using hi
    subst this
    rw [Lib.cell_of_heap h]
    rfl⟩
theorem Vl.keepBox {W W' : World} {b : Nat} {o : Obj} (h : W.heap[b]? = some o) (hb : Below W.heap.size W W') : W'.heap[b]? = some o := (hb.block b (Array.getElem?_eq_some_iff.1 h).1).trans h
/-- A value that a call hands back. -/
def Vl.RV (d : Nat) (x : Vl.V) (rest : List Value) (w : World) (e : Ending) (w' : World) : Prop := ∃ (k : Nat) (t : ByteArray) (i : Int) (pi : Option Addr) (ni ci : Nat) (pn : Option Addr) (nn cn : Nat), e = .returned (.tuple (List.toArray (.agg #[.int .u8 k, .string t, .int .i64 i, .slice pi ni ci, .slice pn nn cn] :: rest))) ∧ i = x.num ∧ Vl.At d w' (.agg #[.int .u8 k, .string t, .int .i64 i, .slice pi ni ci, .slice pn nn cn]) x ∧ Below w.heap.size w w'
theorem Vl.rv_of {d : Nat} {x : Vl.V} {u : Value} {rest : List Value} {w w' : World} (h : Vl.At (d + 1) w' u x) (hb : Below w.heap.size w w') : Vl.RV (d + 1) x rest w (.returned (.tuple (List.toArray (u :: rest)))) w' := by
  obtain ⟨pi, ci, pn, cn, rfl, h2⟩ := h
  exact ⟨_, _, _, _, _, _, _, _, _, rfl, rfl, ⟨pi, ci, pn, cn, rfl, h2⟩, hb⟩
set_option maxRecDepth 100000 in
set_option maxHeartbeats 2000000 in
theorem lives09_any (w : World) (hT : ∀ W, Below w.heap.size w W → Vl.Tab W) :
    Calls Tryd.prog 16 #[] w fun e w' => e = .returned (.bool true) ∧ Below w.heap.size w w' := by
  have HWith := Lib.hid (fun W => show Calls Tryd.prog 14 #[.agg #[.int .u8 5, .string ⟨#[]⟩, .int .i64 0, .slice none 0 0, .slice none 0 0], .string ⟨#[97]⟩, .agg #[.int .u8 2, .string ⟨#[]⟩, .int .i64 (-3), .slice none 0 0, .slice none 0 0]] W (Vl.RV 2 Vl.cM [.int .i64 0] W) from
    (vlWith_any 1 Vl.cM0 Vl.cN _ _ Vl.cA W (by decide) (Vl.atM0 W) (Vl.atN W)).mono (by
      rintro e W' ⟨u, rfl, h1, h2⟩
      rw [Vl.cWith] at h1 ⊢
      exact Vl.rv_of h1 h2))
  have HFind := Lib.hid (fun (W : World) (u : Value) (b : Nat) (hu : Vl.At 2 W u Vl.cM) (hb : W.heap[b]? = some (.cells #[.string ⟨#[97]⟩] 9 (0, 0))) => show Calls Tryd.prog 30 #[u, .slice (some ⟨b, 0, none⟩) 1 1] W (Vl.RV 2 Vl.cN [.int .i64 0] W) from
    (vlFind_any 1 Vl.cM u W hu (some ⟨b, 0, none⟩) 1 [Vl.cA] (by decide) (Vl.one_at W Vl.cA b hb)).mono (by
      rintro e W' ⟨u, rfl, h1, h2⟩
      rw [Vl.cFind] at h1 ⊢
      exact Vl.rv_of h1 h2))
  have HFindB := Lib.hid (fun (W : World) (u : Value) (b : Nat) (hu : Vl.At 2 W u Vl.cM) (hb : W.heap[b]? = some (.cells #[.string ⟨#[98]⟩] 9 (0, 0))) => show Calls Tryd.prog 30 #[u, .slice (some ⟨b, 0, none⟩) 1 1] W (Vl.RV 2 Vl.zero [.int .i64 3] W) from
    (vlFind_any 1 Vl.cM u W hu (some ⟨b, 0, none⟩) 1 [Vl.cB] (by decide) (Vl.one_at W Vl.cB b hb)).mono (by
      rintro e W' ⟨u, rfl, h1, h2⟩
      rw [Vl.cFindB] at h1 ⊢
      exact Vl.rv_of h1 h2))
  have HFindZ := Lib.hid (fun (W : World) => show Calls Tryd.prog 30 #[.agg #[.int .u8 0, .string ⟨#[]⟩, .int .i64 0, .slice none 0 0, .slice none 0 0], .slice none 0 0] W (Vl.RV 1 Vl.zero [.int .i64 2] W) from
    (vlFind_any 0 Vl.zero _ W (Vl.At.zero 0 W) none 0 [] (by decide) (Or.inl rfl)).mono (by
      rintro e W' ⟨u, rfl, h1, h2⟩
      rw [Vl.cFindZ] at h1 ⊢
      exact Vl.rv_of h1 h2))
  have HShow := Lib.hid (fun (W : World) (u : Value) (h : Below w.heap.size w W) (hu : Vl.At 2 W u Vl.cN) => show Calls Tryd.prog 44 #[u] W (fun e w' => e = .returned (.tuple #[.string ⟨#[45, 51]⟩, .int .i64 0]) ∧ Below W.heap.size W w') from by
    have := vlShow_any 2 Vl.cN u W hu (fun W2 h2 => hT W2 (h.trans (h2.mono h.size)))
    rw [Vl.cShow] at this
    exact this)
  have HHolds := Lib.hid (fun (W : World) (u : Value) (hu : Vl.At 2 W u Vl.cM) => show Calls Tryd.prog 45 #[u] W (fun e w' => e = .returned (.tuple #[.bool true, .int .i64 0]) ∧ Below W.heap.size W w') from by
    have := vlHolds_any 2 Vl.cM u W hu
    rw [Vl.cHolds] at this
    exact this)
  have HEnc := Lib.hid (fun (W : World) (u : Value) (hu : Vl.At 2 W u Vl.cM) => show Calls Tryd.prog 10 #[u] W (fun e w' => e = .returned (.tuple #[.string ⟨#[5, 1, 1, 1, 1, 97, 2, 129, 3]⟩, .int .i64 0]) ∧ Below W.heap.size W w') from by
    have := vlEncode_any 2 Vl.cM u W hu
    rw [Vl.cEnc] at this
    exact this)
  have HDec := Lib.hid (fun (W : World) => show Calls Tryd.prog 12 #[.string (⟨#[5, 1, 1, 1, 1, 97, 2, 129, 3]⟩ ++ ⟨#[122]⟩)] W (Vl.RV 257 Vl.cM [.string ⟨#[122]⟩, .int .i64 0] W) from by
    have h := vlDecode_any [5, 1, 1, 1, 1, 97, 2, 129, 3, 122] W (by decide)
    rw [Vl.cDec] at h
    have e : (⟨#[5, 1, 1, 1, 1, 97, 2, 129, 3]⟩ : ByteArray) ++ ⟨#[122]⟩ = Wp.B [5, 1, 1, 1, 1, 97, 2, 129, 3, 122] := by decide
    rw [e]
    refine h.mono ?_
    rintro e W' ⟨u, rfl, h1, h2⟩
    exact Vl.rv_of h1 h2)
  have HSame := Lib.hid (fun (W : World) (u v : Value) (hu : Vl.At 257 W u Vl.cM) (hv : Vl.At 2 W v Vl.cM) => vlSame_any 257 Vl.cM u v W hu (hv.le (by omega)))
  have HName1 := Lib.hid (fun (W : World) => show Calls Tryd.prog 46 #[.string ⟨#[97, 95, 49]⟩] W (fun e w' => e = .returned (.int .i64 0) ∧ w' = W) from by
    have := vlName_any ⟨#[97, 95, 49]⟩ W (by decide)
    rw [Vl.cName1] at this
    exact this)
  have HName2 := Lib.hid (fun (W : World) => show Calls Tryd.prog 46 #[.string ⟨#[49, 97]⟩] W (fun e w' => e = .returned (.int .i64 13) ∧ w' = W) from by
    have := vlName_any ⟨#[49, 97]⟩ W (by decide)
    rw [Vl.cName2] at this
    exact this)
  have HCheck := Lib.hid (fun (W : World) (u : Value) (hu : Vl.At 2 W u Vl.cM) => show Calls Tryd.prog 31 #[u] W (fun e w' => e = .returned (.int .i64 0) ∧ Below W.heap.size W w') from by
    have := vlCheck_any 2 Vl.cM u W hu
    rw [Vl.cChk] at this
    exact this)
  have HB0 := Lib.hid ((Below.refl w.heap.size w).alloc (Nat.le_refl _) (.cells #[.int .u8 2, .string ⟨#[]⟩, .int .i64 (-3), .slice none 0 0, .slice none 0 0] 26))
  clear hT
  go_enter Tryd.func16, Tryd.ntmps16
  go_wp2_with fail
  refine (HWith.out _).mono ?_
  rintro e w1 ⟨k1, t1, i1, pi1, ni1, ci1, pn1, nn1, cn1, rfl, -, hA1, hb1⟩
  -- v's box
  have hB1 := (HB0.out.trans (hb1.mono HB0.out.size))
  have hbv := (Below.refl w1.heap.size w1).alloc (Nat.le_refl _) (.cells #[.int .u8 k1, .string t1, .int .i64 i1, .slice pi1 ni1 ci1, .slice pn1 nn1 cn1] 26)
  have HA1 := Lib.hid (hA1.below hbv)
  have HV1 := Lib.hid (Vl.new w1 (.cells #[.int .u8 k1, .string t1, .int .i64 i1, .slice pi1 ni1 ci1, .slice pn1 nn1 cn1] 26))
  have HBv := Lib.hid (hB1.trans (hbv.mono hB1.size))
  have hszv : w1.heap.size < (w1.alloc (.cells #[.int .u8 k1, .string t1, .int .i64 i1, .slice pi1 ni1 ci1, .slice pn1 nn1 cn1] 26)).heap.size := by simp
  clear hb1 hB1 hbv hA1
  go_upto_region 3 with fail
  generalize (w1.alloc (.cells #[.int .u8 k1, .string t1, .int .i64 i1, .slice pi1 ni1 ci1, .slice pn1 nn1 cn1] 26)) = W1 at *
  generalize w1.heap.size = bv at *
  obtain ⟨m0, m1, m2, m3, m4⟩ := Vl.five_of HV1.out
  -- x
  have hbs := (Below.refl W1.heap.size W1).alloc (Nat.le_refl _) (.cells #[.string ⟨#[97]⟩] 9)
  have HC2 := Lib.hid (HFind.out _ _ _ (HA1.out.below hbs) (Vl.new W1 (.cells #[.string ⟨#[97]⟩] 9)))
  have Hbs := Lib.hid hbs
  clear hbs
  go_wp2_with fail
  refine HC2.out.mono ?_
  rintro e w2 ⟨k2, t2, i2, pi2, ni2, ci2, pn2, nn2, cn2, rfl, hi2, hA2, hb2⟩
  obtain rfl : i2 = -3 := hi2
  have hb12 : Below W1.heap.size W1 w2 := Hbs.out.trans (hb2.mono Hbs.out.size)
  have hbx := (Below.refl w2.heap.size w2).alloc (Nat.le_refl _) (.cells #[.int .u8 k2, .string t2, .int .i64 (-3), .slice pi2 ni2 ci2, .slice pn2 nn2 cn2] 26)
  have h1x : Below W1.heap.size W1 (w2.alloc (.cells #[.int .u8 k2, .string t2, .int .i64 (-3), .slice pi2 ni2 ci2, .slice pn2 nn2 cn2] 26)) := hb12.trans (hbx.mono hb12.size)
  have HA2 := Lib.hid (HA1.out.below h1x)
  have HV2 := Lib.hid (Vl.keepBox HV1.out h1x)
  have HX2 := Lib.hid (Vl.new w2 (.cells #[.int .u8 k2, .string t2, .int .i64 (-3), .slice pi2 ni2 ci2, .slice pn2 nn2 cn2] 26))
  have HAx2 := Lib.hid (hA2.below hbx)
  have HB2 := Lib.hid (HBv.out.trans (h1x.mono HBv.out.size))
  clear hA2 hb2 hb12 hbx h1x Hbs HC2 HFind HWith HA1 HV1 HBv HB0 hszv m0 m1 m2 m3 m4
  go_upto_region 4 with fail
  generalize (w2.alloc (.cells #[.int .u8 k2, .string t2, .int .i64 (-3), .slice pi2 ni2 ci2, .slice pn2 nn2 cn2] 26)) = W2 at *
  generalize w2.heap.size = bx at *
  obtain ⟨r0, r1, r2, r3, r4⟩ := Vl.five_of HX2.out
  -- Show
  have HC3 := Lib.hid (HShow.out _ _ HB2.out HAx2.out)
  clear HShow
  go_wp2_with fail
  refine HC3.out.mono ?_
  rintro e w3 ⟨rfl, hb3⟩
  have HA3 := Lib.hid (HA2.out.below hb3)
  have HV3 := Lib.hid (Vl.keepBox HV2.out hb3)
  have HX3 := Lib.hid (Vl.keepBox HX2.out hb3)
  have HB3 := Lib.hid (HB2.out.trans (hb3.mono HB2.out.size))
  clear hb3 HC3 HA2 HV2 HX2 HAx2 HB2 r0 r1 r2 r3 r4
  obtain ⟨m0, m1, m2, m3, m4⟩ := Vl.five_of HV3.out
  -- Holds
  have HC4 := Lib.hid (HHolds.out _ _ HA3.out)
  clear HHolds
  go_wp2_with fail
  refine HC4.out.mono ?_
  rintro e w4 ⟨rfl, hb4⟩
  have HA4 := Lib.hid (HA3.out.below hb4)
  have HV4 := Lib.hid (Vl.keepBox HV3.out hb4)
  have HX4 := Lib.hid (Vl.keepBox HX3.out hb4)
  have HB4 := Lib.hid (HB3.out.trans (hb4.mono HB3.out.size))
  clear hb4 HC4 HA3 HV3 HX3 HB3 m0 m1 m2 m3 m4
  obtain ⟨m0, m1, m2, m3, m4⟩ := Vl.five_of HV4.out
  -- Encode
  have HC5 := Lib.hid (HEnc.out _ _ HA4.out)
  clear HEnc
  go_wp2_with fail
  refine HC5.out.mono ?_
  rintro e w5 ⟨rfl, hb5⟩
  have HA5 := Lib.hid (HA4.out.below hb5)
  have HV5 := Lib.hid (Vl.keepBox HV4.out hb5)
  have HX5 := Lib.hid (Vl.keepBox HX4.out hb5)
  have HB5 := Lib.hid (HB4.out.trans (hb5.mono HB4.out.size))
  clear hb5 HC5 HA4 HV4 HX4 HB4 m0 m1 m2 m3 m4
  -- Decode
  have HC6 := Lib.hid (HDec.out w5)
  clear HDec
  go_wp2_with fail
  refine HC6.out.mono ?_
  rintro e w6 ⟨k3, t3, i3, pi3, ni3, ci3, pn3, nn3, cn3, rfl, -, hA6, hb6⟩
  have hbu := (Below.refl w6.heap.size w6).alloc (Nat.le_refl _) (.cells #[.int .u8 k3, .string t3, .int .i64 i3, .slice pi3 ni3 ci3, .slice pn3 nn3 cn3] 26)
  have h5u : Below w5.heap.size w5 (w6.alloc (.cells #[.int .u8 k3, .string t3, .int .i64 i3, .slice pi3 ni3 ci3, .slice pn3 nn3 cn3] 26)) := hb6.trans (hbu.mono hb6.size)
  have HA6 := Lib.hid (HA5.out.below h5u)
  have HV6 := Lib.hid (Vl.keepBox HV5.out h5u)
  have HX6 := Lib.hid (Vl.keepBox HX5.out h5u)
  have HU6 := Lib.hid (Vl.new w6 (.cells #[.int .u8 k3, .string t3, .int .i64 i3, .slice pi3 ni3 ci3, .slice pn3 nn3 cn3] 26))
  have HAu6 := Lib.hid (hA6.below hbu)
  have HB6 := Lib.hid (HB5.out.trans (h5u.mono HB5.out.size))
  clear hA6 hb6 hbu h5u HC6 HA5 HV5 HX5 HB5
  go_upto_region 8 with fail
  generalize (w6.alloc (.cells #[.int .u8 k3, .string t3, .int .i64 i3, .slice pi3 ni3 ci3, .slice pn3 nn3 cn3] 26)) = W6 at *
  generalize w6.heap.size = bu at *
  obtain ⟨m0, m1, m2, m3, m4⟩ := Vl.five_of HV6.out
  -- another name
  have hbs := (Below.refl W6.heap.size W6).alloc (Nat.le_refl _) (.cells #[.string ⟨#[98]⟩] 9)
  have HC7 := Lib.hid (HFindB.out _ _ _ (HA6.out.below hbs) (Vl.new W6 (.cells #[.string ⟨#[98]⟩] 9)))
  have Hbs := Lib.hid hbs
  clear hbs HFindB
  go_wp2_with fail
  refine HC7.out.mono ?_
  rintro e w7 ⟨k4, t4, i4, pi4, ni4, ci4, pn4, nn4, cn4, rfl, -, -, hb7⟩
  have hb67 : Below W6.heap.size W6 w7 := Hbs.out.trans (hb7.mono Hbs.out.size)
  have hbx := (Below.refl w7.heap.size w7).alloc (Nat.le_refl _) (.cells #[.int .u8 k4, .string t4, .int .i64 i4, .slice pi4 ni4 ci4, .slice pn4 nn4 cn4] 26)
  have h67 : Below W6.heap.size W6 (w7.alloc (.cells #[.int .u8 k4, .string t4, .int .i64 i4, .slice pi4 ni4 ci4, .slice pn4 nn4 cn4] 26)) := hb67.trans (hbx.mono hb67.size)
  have HA8 := Lib.hid (HA6.out.below h67)
  have HV8 := Lib.hid (Vl.keepBox HV6.out h67)
  have HX8 := Lib.hid (Vl.keepBox HX6.out h67)
  have HU8 := Lib.hid (Vl.keepBox HU6.out h67)
  have HAu8 := Lib.hid (HAu6.out.below h67)
  have HB8 := Lib.hid (HB6.out.trans (h67.mono HB6.out.size))
  clear hb7 hb67 hbx h67 Hbs HC7 HA6 HV6 HX6 HU6 HAu6 HB6 m0 m1 m2 m3 m4
  go_upto_region 9 with fail
  generalize (w7.alloc (.cells #[.int .u8 k4, .string t4, .int .i64 i4, .slice pi4 ni4 ci4, .slice pn4 nn4 cn4] 26)) = W8 at *
  generalize w7.heap.size = bw at *
  -- nothing; and all together
  have HC9 := Lib.hid (HFindZ.out W8)
  clear HFindZ
  go_wp2_with fail
  refine HC9.out.mono ?_
  rintro e w9 ⟨k5, t5, i5, pi5, ni5, ci5, pn5, nn5, cn5, rfl, -, -, hb9⟩
  have hbz := (Below.refl w9.heap.size w9).alloc (Nat.le_refl _) (.cells #[.int .u8 k5, .string t5, .int .i64 i5, .slice pi5 ni5 ci5, .slice pn5 nn5 cn5] 26)
  have h89 : Below W8.heap.size W8 (w9.alloc (.cells #[.int .u8 k5, .string t5, .int .i64 i5, .slice pi5 ni5 ci5, .slice pn5 nn5 cn5] 26)) := hb9.trans (hbz.mono hb9.size)
  have HA9 := Lib.hid (HA8.out.below h89)
  have HV9 := Lib.hid (Vl.keepBox HV8.out h89)
  have HX9 := Lib.hid (Vl.keepBox HX8.out h89)
  have HU9 := Lib.hid (Vl.keepBox HU8.out h89)
  have HAu9 := Lib.hid (HAu8.out.below h89)
  have HB9 := Lib.hid (HB8.out.trans (h89.mono HB8.out.size))
  clear hb9 hbz h89 HC9 HA8 HV8 HX8 HU8 HAu8 HB8
  obtain ⟨m0, m1, m2, m3, m4⟩ := Vl.five_of HV9.out
  obtain ⟨r0, r1, r2, r3, r4⟩ := Vl.five_of HX9.out
  obtain ⟨u0, u1, u2, u3, u4⟩ := Vl.five_of HU9.out
  have HC10 := Lib.hid (HSame.out _ _ _ HAu9.out HA9.out)
  go_wp2_with fail
  refine HC10.out.mono ?_
  rintro e w10 ⟨rfl, hb10⟩
  have HA10 := Lib.hid (HA9.out.below hb10)
  have hv10 := Vl.keepBox HV9.out hb10
  have HB10 := Lib.hid (HB9.out.trans (hb10.mono HB9.out.size))
  clear hb10 HC10 HA9 HV9 HX9 HU9 HAu9 HB9 m0 m1 m2 m3 m4 r0 r1 r2 r3 r4 u0 u1 u2 u3 u4
  obtain ⟨m0, m1, m2, m3, m4⟩ := Vl.five_of hv10
  clear hv10
  go_wp2_with fail
  refine (HName1.out _).mono ?_
  rintro e w11 ⟨rfl, rfl⟩
  go_wp2_with fail
  refine (HName2.out _).mono ?_
  rintro e w12 ⟨rfl, rfl⟩
  have HC11 := Lib.hid (HCheck.out _ _ HA10.out)
  go_wp2_with fail
  refine HC11.out.mono ?_
  rintro e w13 ⟨rfl, hb13⟩
  have HB13 := Lib.hid (HB10.out.trans (hb13.mono HB10.out.size))
  clear hb13
  go_wp2_with fail
  go_ret
  exact ⟨rfl, HB13.out⟩
end Go.Proofs.YtckcbdnlligndaaDoor
