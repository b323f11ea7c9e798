/-
  The law TopNamed: what is put into a map by a name is found by the path of a tag of that name, alone or within other maps. Conditions: the words' table reads as it is laid, the search's limit is set; a value's texts and lists, and the names, are of a size that a machine holds.
-/
import Derived.Test.YtckcbdnlligndaaDoorVlLX
import Derived.Test.YtckcbdnlligndaaDoorVlFindOff
import Derived.Deep.RegionHeld3
import Derived.Test.YtckcbdnlligndaaDoorScZ
import Derived.Test.YtckcbdnlligndaaDoorBgX
namespace Go.Proofs.YtckcbdnlligndaaDoor
open Go.RowKit

theorem Sc.toks_name (a b : ByteArray) (ha : Vl.named a = true) (hb : Vl.named b = true) : Sc.toksR ((⟨#[123, 123, 32]⟩ : ByteArray) ++ a ++ (⟨#[46]⟩ : ByteArray) ++ b ++ (⟨#[32, 125, 125]⟩ : ByteArray)).data.toList = ([⟨2, ⟨#[]⟩, [a, b]⟩], 0) := by
  have hok : Sc.pathOk ([a, b].map (·.data.toList)) = true := by
    unfold Sc.pathOk
    have h1 : Vl.nameL a.data.toList = true := ha
    have h2 : Vl.nameL b.data.toList = true := hb
    simp [h1, h2]
  have hla : a.data.toList.length ≤ 32 := by
    have h : Vl.nameL a.data.toList = true := ha
    unfold Vl.nameL at h
    simp only [Bool.and_eq_true, decide_eq_true_eq] at h
    exact h.1.1
  have hlb : b.data.toList.length ≤ 32 := by
    have h : Vl.nameL b.data.toList = true := hb
    unfold Vl.nameL at h
    simp only [Bool.and_eq_true, decide_eq_true_eq] at h
    exact h.1.1
  have hj : Sc.joinP [a, b] = a.data.toList ++ 46 :: b.data.toList := rfl
  obtain ⟨p1, _, p3, _⟩ := Sc.pathOk_facts hok
  have hne := (Sc.join_ne p1 p3).2
  have hin : ∀ x ∈ List.replicate 1 (32 : UInt8) ++ (Sc.joinP [a, b] ++ List.replicate 1 32), x ≠ 125 := by
    intro x hx
    rcases List.mem_append.1 hx with h | h
    · rw [List.eq_of_mem_replicate h]; decide
    · rcases List.mem_append.1 h with h | h
      · exact (hne x h).2
      · rw [List.eq_of_mem_replicate h]; decide
  have hl : ((⟨#[123, 123, 32]⟩ : ByteArray) ++ a ++ (⟨#[46]⟩ : ByteArray) ++ b ++ (⟨#[32, 125, 125]⟩ : ByteArray)).data.toList = Sc.oo ++ ((List.replicate 1 (32 : UInt8) ++ (Sc.joinP [a, b] ++ List.replicate 1 32)) ++ (Sc.cc ++ [])) := by
    rw [hj]
    simp [ByteArray.data_append, Sc.oo, Sc.cc]
  have htag := Sc.tag_var 1 1 hok
  have hc1 : Lib.cut (Sc.oo ++ ((List.replicate 1 (32 : UInt8) ++ (Sc.joinP [a, b] ++ List.replicate 1 32)) ++ (Sc.cc ++ []))) Sc.oo = ([], (List.replicate 1 (32 : UInt8) ++ (Sc.joinP [a, b] ++ List.replicate 1 32)) ++ (Sc.cc ++ []), true) := Sc.cut_at (a := []) (s := Sc.oo) (b := (List.replicate 1 (32 : UInt8) ++ (Sc.joinP [a, b] ++ List.replicate 1 32)) ++ (Sc.cc ++ [])) (fun j hj => absurd hj (Nat.not_lt_zero _))
  have hc2 : Lib.cut ((List.replicate 1 (32 : UInt8) ++ (Sc.joinP [a, b] ++ List.replicate 1 32)) ++ (Sc.cc ++ [])) Sc.cc = (List.replicate 1 (32 : UInt8) ++ (Sc.joinP [a, b] ++ List.replicate 1 32), [], true) := Sc.cut_at (Sc.occ_no (t := [125]) hin)
  have hlen : (Sc.oo ++ ((List.replicate 1 (32 : UInt8) ++ (Sc.joinP [a, b] ++ List.replicate 1 32)) ++ (Sc.cc ++ []))).length ≤ 71 := by
    rw [hj]
    simp only [List.length_append, List.length_replicate, List.length_cons, List.length_nil, Sc.oo, Sc.cc]
    omega
  rw [hl]
  unfold Sc.toksR
  rw [if_neg (by omega)]
  generalize hL : Sc.oo ++ ((List.replicate 1 (32 : UInt8) ++ (Sc.joinP [a, b] ++ List.replicate 1 32)) ++ (Sc.cc ++ [])) = L at *
  have hpos : 1 ≤ L.length := by rw [← hL]; simp [Sc.oo]
  obtain ⟨f, hf⟩ : ∃ f, L.length = f + 1 := ⟨L.length - 1, by omega⟩
  have e0 : Lib.cut [] Sc.oo = ([], [], false) := by decide
  have e : Sc.toksP (L.length + 1) L = some [⟨2, ⟨#[]⟩, [a, b]⟩] := by
    rw [hf]
    unfold Sc.toksP
    rw [hc1]
    simp only [hc2, htag]
    unfold Sc.toksP
    rw [e0]
    rfl
  rw [e]
theorem Vl.top_facts {V X U1 U2 : Vl.V} {a b : ByteArray} (h1 : Vl.withR V b X = (U1, 0)) (h2 : Vl.withR Vl.cM0 a U1 = (U2, 0)) : Vl.named a = true ∧ Vl.named b = true ∧ Vl.findR U2 [a, b] = (X, 0) ∧ Vl.encR X = (X.enc, 0) := by
  have hc1 : Vl.chkW V b X = 0 := Classical.byContradiction fun hc => by rw [Vl.withR_bad hc] at h1; exact hc (congrArg Prod.snd h1)
  have hc2 : Vl.chkW Vl.cM0 a U1 = 0 := Classical.byContradiction fun hc => by rw [Vl.withR_bad hc] at h2; exact hc (congrArg Prod.snd h2)
  obtain ⟨g1, g2, g3, g4⟩ := Vl.chkW_ok hc1
  obtain ⟨m1, m2, m3, m4⟩ := Vl.chkW_ok hc2
  have hr1 := Vl.withR_ok hc1
  have hr2 := Vl.withR_ok hc2
  rw [h1] at hr1
  rw [h2] at hr2
  have hf1 : Vl.findR U1 [b] = (X, 0) := by
    cases hg : Vl.good (Vl.withV V b X) with
    | false => rw [hg] at hr1; exact absurd (congrArg Prod.snd hr1) (by show ¬ (0 : Int) = 11; decide)
    | true =>
      rw [hg] at hr1
      have e : U1 = Vl.withV V b X := congrArg Prod.fst hr1
      obtain ⟨q1, q2, _, _⟩ := Vl.goodMap g1 g3
      rw [e]
      exact Vl.findR_some hg (Vl.with_facts q1 q2).1
  have hf2 : Vl.findR U2 [a] = (U1, 0) := by
    cases hg : Vl.good (Vl.withV Vl.cM0 a U1) with
    | false => rw [hg] at hr2; exact absurd (congrArg Prod.snd hr2) (by show ¬ (0 : Int) = 11; decide)
    | true =>
      rw [hg] at hr2
      have e : U2 = Vl.withV Vl.cM0 a U1 := congrArg Prod.fst hr2
      obtain ⟨q1, q2, _, _⟩ := Vl.goodMap m1 m3
      rw [e]
      exact Vl.findR_some hg (Vl.with_facts q1 q2).1
  refine ⟨m4, g4, ?_, by unfold Vl.encR; rw [g2]; rfl⟩
  have := Vl.findR_append U2 [a] [b]
  rw [hf2, if_pos rfl] at this
  exact this.trans hf1
def Vl.RO (x : Vl.V) (c : Int) (w : World) (e : Ending) (w' : World) : Prop := ∃ (d k : Nat) (t : ByteArray) (i : Int) (pi : Option Addr) (ni ci : Nat) (pn : Option Addr) (nn cn : Nat), e = .returned (.tuple #[.agg #[.int .u8 k, .string t, .int .i64 i, .slice pi ni ci, .slice pn nn cn], .int .i64 c]) ∧ Vl.Off d w.heap.size w' none (.agg #[.int .u8 k, .string t, .int .i64 i, .slice pi ni ci, .slice pn nn cn]) x ∧ Below w.heap.size w w'
theorem Vl.find_offE {V U : Vl.V} {c : Int} {v : Value} {l : List ByteArray} {p : Option Addr} {cap : Nat} {W : World} (hl : l.length ≤ 140737488351232) (hv : Vl.AtE W v V) (hp : Wp.At Wp.mkT W p l) (h : Vl.findR V l = (U, c)) :
    Calls Tryd.prog 30 #[v, .slice p l.length cap] W (Vl.RO U c W) := by
  obtain ⟨d, hv⟩ := hv
  refine (vlFind_off d V v W hv.succ p cap l hl hp).mono ?_
  rintro q W' ⟨u, rfl, h1, h2⟩
  rw [h] at h1 ⊢
  obtain ⟨k, t, i, pi, ni, ci, pn, nn, cn, rfl⟩ := h1.at.shape
  exact ⟨_, _, _, _, _, _, _, _, _, _, rfl, h1, h2⟩
set_option maxRecDepth 100000 in
set_option maxHeartbeats 8000000 in
theorem topNamed_law (V X : Vl.V) (v u : Value) (a b : ByteArray) (w : World) (hA : Vl.AtE w v V) (hX : Vl.AtE w u X) (ha : a.size ≤ 140737488351232) (hb : b.size ≤ 140737488351232) (hT : Sc.Laid w) (hM : Sc.MaxLen w) :
    Calls Tryd.prog 9 #[v, u, .string a, .string b] w fun e w' => e = .returned (.bool true) ∧ Below w.heap.size w w' := by
  obtain ⟨k1, t1, i1, pi1, ni1, ci1, pn1, nn1, cn1, rfl⟩ := hA.shape
  obtain ⟨k2, t2, i2, pi2, ni2, ci2, pn2, nn2, cn2, rfl⟩ := hX.shape
  have hB0 : Below w.heap.size w ((w.alloc (.cells #[.int .u8 k1, .string t1, .int .i64 i1, .slice pi1 ni1 ci1, .slice pn1 nn1 cn1] 26)).alloc (.cells #[.int .u8 k2, .string t2, .int .i64 i2, .slice pi2 ni2 ci2, .slice pn2 nn2 cn2] 26)) := ((Below.refl w.heap.size w).alloc (Nat.le_refl _) _).alloc (by simp) _
  have HV0 := Lib.hid (show ((w.alloc (.cells #[.int .u8 k1, .string t1, .int .i64 i1, .slice pi1 ni1 ci1, .slice pn1 nn1 cn1] 26)).alloc (.cells #[.int .u8 k2, .string t2, .int .i64 i2, .slice pi2 ni2 ci2, .slice pn2 nn2 cn2] 26)).heap[w.heap.size]? = some (.cells #[.int .u8 k1, .string t1, .int .i64 i1, .slice pi1 ni1 ci1, .slice pn1 nn1 cn1] 26 (0, 0)) by rw [Vl.past _ _ _ (by simp)]; exact Vl.new _ _)
  have HX0 := Lib.hid (show ((w.alloc (.cells #[.int .u8 k1, .string t1, .int .i64 i1, .slice pi1 ni1 ci1, .slice pn1 nn1 cn1] 26)).alloc (.cells #[.int .u8 k2, .string t2, .int .i64 i2, .slice pi2 ni2 ci2, .slice pn2 nn2 cn2] 26)).heap[w.heap.size + 1]? = some (.cells #[.int .u8 k2, .string t2, .int .i64 i2, .slice pi2 ni2 ci2, .slice pn2 nn2 cn2] 26 (0, 0)) from Vl.newAt _ _ _ (by simp))
  have HB0 := Lib.hid hB0
  have HA := Lib.hid hA
  have HXx := Lib.hid hX
  have HT := Lib.hid hT
  have HM := Lib.hid hM
  obtain ⟨⟨U1, c1⟩, hu1⟩ : ∃ Q, Vl.withR V b X = Q := ⟨_, rfl⟩
  obtain ⟨⟨U2, c2⟩, hu2⟩ : ∃ Q, Vl.withR Vl.cM0 a U1 = Q := ⟨_, rfl⟩
  have HW1 : Hid (∀ W, Below w.heap.size w W → Calls Tryd.prog 14 #[.agg #[.int .u8 k1, .string t1, .int .i64 i1, .slice pi1 ni1 ci1, .slice pn1 nn1 cn1], .string b, .agg #[.int .u8 k2, .string t2, .int .i64 i2, .slice pi2 ni2 ci2, .slice pn2 nn2 cn2]] W (Vl.RE U1 [.int .i64 c1] W)) := Lib.hid (fun W h => Vl.with_ofE hb (hA.below h) (hX.below h) hu1)
  have HW2 : Hid (∀ W y, Vl.AtE W y U1 → Calls Tryd.prog 14 #[.agg #[.int .u8 5, .string ⟨#[]⟩, .int .i64 0, .slice none 0 0, .slice none 0 0], .string a, y] W (Vl.RE U2 [.int .i64 c2] W)) := Lib.hid (fun W y h => Vl.with_ofE ha ⟨2, Vl.atM0 W⟩ h hu2)
  have HEx : Hid (∀ W y, Vl.AtE W y X → Calls Tryd.prog 10 #[y] W fun e w' => e = .returned (.tuple #[.string (Wp.B (Vl.encR X).1), .int .i64 (Vl.encR X).2]) ∧ Below W.heap.size W w') := Lib.hid (fun W y h => by
    obtain ⟨d, h⟩ := h
    exact vlEncode_any d X y W h)
  have hsz : ((⟨#[123, 123, 32]⟩ : ByteArray) ++ a ++ (⟨#[46]⟩ : ByteArray) ++ b ++ (⟨#[32, 125, 125]⟩ : ByteArray)).size = 7 + a.size + b.size := by
    simp only [ByteArray.size_append]
    show 3 + a.size + 1 + b.size + 3 = _
    omega
  obtain ⟨R, hR⟩ : ∃ R, R = Sc.toksR ((⟨#[123, 123, 32]⟩ : ByteArray) ++ a ++ (⟨#[46]⟩ : ByteArray) ++ b ++ (⟨#[32, 125, 125]⟩ : ByteArray)).data.toList := ⟨_, rfl⟩
  have HTk : Hid (∀ W, Below w.heap.size w W → Calls Tryd.prog 18 #[.string ((⟨#[123, 123, 32]⟩ : ByteArray) ++ a ++ (⟨#[46]⟩ : ByteArray) ++ b ++ (⟨#[32, 125, 125]⟩ : ByteArray))] W (Sc.ToksPost R W)) := Lib.hid (fun W h => by
    rw [hR]
    exact scTokens_any _ W (by omega) (hT.below h) (hM.below h))
  have HG : Hid (c1 = 0 → c2 = 0 → (R = ([⟨2, ⟨#[]⟩, [a, b]⟩], 0) ∧ Vl.findR U2 [a, b] = (X, 0) ∧ Vl.encR X = (X.enc, 0))) := Lib.hid (fun e1 e2 => by
    subst e1 e2
    obtain ⟨f1, f2, f3, f4⟩ := Vl.top_facts hu1 hu2
    exact ⟨by rw [hR]; exact Sc.toks_name a b f1 f2, f3, f4⟩)
  have s1 : ((⟨#[123, 123, 32]⟩ : ByteArray).size : Int) + (a.size : Int) ≤ 9223372036854775807 := by show (3 : Int) + _ ≤ _; omega
  clear hu1 hu2 hR hA hX hB0 hT hM hsz
  have HBg := Lib.hid (fun W => begins_any W)
  go_enter Tryd.func9, Tryd.ntmps9
  go_wp2_with fail
  refine (HBg.out _).mono ?_
  rintro e w1 ⟨rfl, hb1⟩
  have HB1 := Lib.hid (HB0.out.trans (hb1.mono HB0.out.size))
  have HV1 := Lib.hid (Sc.keepBox HV0.out hb1)
  have HX1 := Lib.hid (Sc.keepBox HX0.out hb1)
  clear hb1 HB0 HV0 HX0
  obtain ⟨m0, m1, m2, m3, m4⟩ := Vl.five_of HV1.out
  obtain ⟨x0, x1, x2, x3, x4⟩ := Vl.five_of HX1.out
  go_wp2_with fail
  refine (HW1.out _ HB1.out).mono ?_
  rintro e w3 ⟨k3, t3, i3, pi3, ni3, ci3, pn3, nn3, cn3, rfl, hA3, hb3⟩
  have hby := (Below.refl w3.heap.size w3).alloc (Nat.le_refl _) (.cells #[.int .u8 k3, .string t3, .int .i64 i3, .slice pi3 ni3 ci3, .slice pn3 nn3 cn3] 26)
  have h3 := hb3.trans (hby.mono hb3.size)
  have HB3 := Lib.hid (HB1.out.trans (h3.mono HB1.out.size))
  have HX3 := Lib.hid (Sc.keepBox HX1.out h3)
  have HC3 := Lib.hid (Vl.new w3 (.cells #[.int .u8 k3, .string t3, .int .i64 i3, .slice pi3 ni3 ci3, .slice pn3 nn3 cn3] 26))
  have HcA3 := Lib.hid (hA3.below hby)
  clear hA3 hb3 hby h3 HW1 HB1 HV1 HX1 m0 m1 m2 m3 m4 x0 x1 x2 x3 x4
  go_upto_region 4 with fail
  generalize (w3.alloc (.cells #[.int .u8 k3, .string t3, .int .i64 i3, .slice pi3 ni3 ci3, .slice pn3 nn3 cn3] 26)) = W3 at *
  generalize w3.heap.size = ba at *
  have HCw := Lib.hid (HW2.out _ _ HcA3.out)
  obtain ⟨m0, m1, m2, m3, m4⟩ := Vl.five_of HC3.out
  go_wp2_with fail
  refine HCw.out.mono ?_
  rintro e w4 ⟨k4, t4, i4, pi4, ni4, ci4, pn4, nn4, cn4, rfl, hA4, hb4⟩
  have hby := (Below.refl w4.heap.size w4).alloc (Nat.le_refl _) (.cells #[.int .u8 k4, .string t4, .int .i64 i4, .slice pi4 ni4 ci4, .slice pn4 nn4 cn4] 26)
  have h4 := hb4.trans (hby.mono hb4.size)
  have HB4 := Lib.hid (HB3.out.trans (h4.mono HB3.out.size))
  have HX4 := Lib.hid (Sc.keepBox HX3.out h4)
  have HD4 := Lib.hid (Vl.new w4 (.cells #[.int .u8 k4, .string t4, .int .i64 i4, .slice pi4 ni4 ci4, .slice pn4 nn4 cn4] 26))
  have HdA4 := Lib.hid (hA4.below hby)
  clear hA4 hb4 hby h4 HCw HW2 HB3 HX3 HC3 HcA3 m0 m1 m2 m3 m4
  go_upto_region 5 with fail
  generalize (w4.alloc (.cells #[.int .u8 k4, .string t4, .int .i64 i4, .slice pi4 ni4 ci4, .slice pn4 nn4 cn4] 26)) = W4 at *
  generalize w4.heap.size = bb at *
  have HCt := Lib.hid (HTk.out _ HB4.out)
  go_wp2_with fail
  refine HCt.out.mono ?_
  rintro e w5 ⟨tv, rfl, hO5, hb5⟩
  have HB5 := Lib.hid (HB4.out.trans (hb5.mono HB4.out.size))
  have HX5 := Lib.hid (Sc.keepBox HX4.out hb5)
  have HD5 := Lib.hid (Sc.keepBox HD4.out hb5)
  have HdA5 := Lib.hid (HdA4.out.below hb5)
  have HO5 := Lib.hid hO5
  clear hb5 hO5 HB4 HX4 HD4 HdA4 HCt HTk s1
  by_cases hc1 : c1 = 0
  · by_cases hc2 : c2 = 0
    · obtain ⟨hR, hF, hE⟩ := HG.out hc1 hc2
      subst hc1 hc2 hR
      have HF := Lib.hid hF
      have HE := Lib.hid hE
      clear hF hE HG
      obtain ⟨p9, cp9, rfl, -, hAt⟩ := Sc.OwnRow.at HO5.out
      obtain ⟨b9, o9, d0, d1, d2, rfl, ⟨e0, e1, e2⟩, y, hy, hTok⟩ := hAt 0 (by show 0 < 1; omega)
      have hy2 : y = ⟨2, ⟨#[]⟩, [a, b]⟩ := (Option.some.inj hy).symm
      subst hy2
      obtain ⟨pn9, cn9, he9, -, hp9⟩ := hTok
      simp only [Value.agg.injEq, Array.mk.injEq, List.cons.injEq, and_true] at he9
      obtain ⟨rfl, rfl, rfl⟩ := he9
      have e2' : w5.cell? ⟨b9, o9 + 2, none⟩ = some (.slice pn9 2 cn9) := by simpa using e2
      have HP9 := Lib.hid hp9
      have Hb9 := Lib.hid (show b9 < w5.heap.size from by
        refine Classical.byContradiction fun h => ?_
        rw [World.cell?, Array.getElem?_eq_none (by show w5.heap.size ≤ b9; omega)] at e2'
        cases e2')
      clear e0 e1 e2 hAt hy hp9 HO5
      obtain ⟨m0, m1, m2, m3, m4⟩ := Vl.five_of HD5.out
      have zd := (Array.getElem?_eq_some_iff.1 HD5.out).1
      have zb := Hb9.out
      have HKp : Hid (∀ w' : World, Below w5.heap.size w5 w' → (fun w' => w'.cell? ⟨bb, 0, none⟩ = some (.int .u8 k4) ∧ w'.cell? ⟨bb, 1, none⟩ = some (.string t4) ∧ w'.cell? ⟨bb, 2, none⟩ = some (.int .i64 i4) ∧ w'.cell? ⟨bb, 3, none⟩ = some (.slice pi4 ni4 ci4) ∧ w'.cell? ⟨bb, 4, none⟩ = some (.slice pn4 nn4 cn4) ∧ w'.cell? ⟨b9, o9 + 2, none⟩ = some (.slice pn9 2 cn9)) w') := Lib.hid (fun w' h => ⟨(h.cell (p := ⟨bb, 0, none⟩) zd).trans m0, (h.cell (p := ⟨bb, 1, none⟩) zd).trans m1, (h.cell (p := ⟨bb, 2, none⟩) zd).trans m2, (h.cell (p := ⟨bb, 3, none⟩) zd).trans m3, (h.cell (p := ⟨bb, 4, none⟩) zd).trans m4, (h.cell (p := ⟨b9, o9 + 2, none⟩) zb).trans e2'⟩)
      have HCf := Lib.hid (fun W (h : Below w5.heap.size w5 W) => (show Calls Tryd.prog 30 #[.agg #[.int .u8 k4, .string t4, .int .i64 i4, .slice pi4 ni4 ci4, .slice pn4 nn4 cn4], .slice pn9 2 cn9] W (Vl.RO X 0 W) from Vl.find_offE (l := [a, b]) (cap := cn9) (by simp) (HdA5.out.below h) (HP9.out.below h) HF.out))
      clear zd zb
      go_wp2_with fail
      go_region_held3 (fun w' => w'.cell? ⟨bb, 0, none⟩ = some (.int .u8 k4) ∧ w'.cell? ⟨bb, 1, none⟩ = some (.string t4) ∧ w'.cell? ⟨bb, 2, none⟩ = some (.int .i64 i4) ∧ w'.cell? ⟨bb, 3, none⟩ = some (.slice pi4 ni4 ci4) ∧ w'.cell? ⟨bb, 4, none⟩ = some (.slice pn4 nn4 cn4) ∧ w'.cell? ⟨b9, o9 + 2, none⟩ = some (.slice pn9 2 cn9))
        (first | (with_reducible exact HKp.out _ e1) | (with_reducible exact HKp.out _ (e1.alloc e1.size _)) | (exact HKp.out _ (below_grownBy e1 (Vl.set5_grown _ _ _ _ _ _ _) (by simp) e1.size)) | (with_reducible exact HKp.out _ (Below.refl _ w5).drew) | (go_keep; done))
        (first
          | (go_at_call 30; (with_reducible refine (HCf.out _ (Below.refl _ w5).drew).mono ?_); rintro e w6 ⟨d6, k6, t6, i6, pi6, ni6, ci6, pn6, nn6, cn6, rfl, hoff, hb6⟩; have e1 : Below w5.heap.size w5 w6 := (Below.refl _ w5).drew.trans hb6)
          | (go_at_call 30; (with_reducible refine (HCf.out _ (((Below.refl w5.heap.size w5).alloc (Nat.le_refl _) (.cells #[.int .u8 0, .string ⟨#[]⟩, .int .i64 0, .slice none 0 0, .slice none 0 0] 26)).drew)).mono ?_); rintro e w6 ⟨d6, k6, t6, i6, pi6, ni6, ci6, pn6, nn6, cn6, rfl, hoff, hb6⟩; have hx6 := Sc.keepBox (show ((w5.alloc (.cells #[.int .u8 0, .string ⟨#[]⟩, .int .i64 0, .slice none 0 0, .slice none 0 0] 26)).drew).heap[w5.heap.size]? = some (.cells #[.int .u8 0, .string ⟨#[]⟩, .int .i64 0, .slice none 0 0, .slice none 0 0] 26 (0, 0)) from Vl.new w5 (.cells #[.int .u8 0, .string ⟨#[]⟩, .int .i64 0, .slice none 0 0, .slice none 0 0] 26)) hb6; have e1 : Below w5.heap.size w5 w6 := ((Below.refl w5.heap.size w5).alloc (Nat.le_refl _) (.cells #[.int .u8 0, .string ⟨#[]⟩, .int .i64 0, .slice none 0 0, .slice none 0 0] 26)).drew.trans (hb6.mono (by simp)); obtain ⟨y0, y1, y2, y3, y4⟩ := Vl.five_of hx6; obtain ⟨z0, z1, z2, z3, z4⟩ := Vl.fiveF_of hx6))
      · have hW : Below w5.heap.size w5 (w6.alloc (.cells #[.int .u8 k6, .string t6, .int .i64 i6, .slice pi6 ni6 ci6, .slice pn6 nn6 cn6] 26)) := e1.alloc e1.size _
        have HBx := Lib.hid (HB5.out.trans (hW.mono HB5.out.size))
        have HXz := Lib.hid (Sc.keepBox HX5.out hW)
        have HY := Lib.hid (Vl.new w6 (.cells #[.int .u8 k6, .string t6, .int .i64 i6, .slice pi6 ni6 ci6, .slice pn6 nn6 cn6] 26))
        have HYA := Lib.hid (⟨d6, hoff _ (fun j _ h2 _ => Vl.past w6 (.cells #[.int .u8 k6, .string t6, .int .i64 i6, .slice pi6 ni6 ci6, .slice pn6 nn6 cn6] 26) j h2)⟩ : Vl.AtE (w6.alloc (.cells #[.int .u8 k6, .string t6, .int .i64 i6, .slice pi6 ni6 ci6, .slice pn6 nn6 cn6] 26)) (.agg #[.int .u8 k6, .string t6, .int .i64 i6, .slice pi6 ni6 ci6, .slice pn6 nn6 cn6]) X)
        generalize (w6.alloc (.cells #[.int .u8 k6, .string t6, .int .i64 i6, .slice pi6 ni6 ci6, .slice pn6 nn6 cn6] 26)) = WZ at *
        generalize w6.heap.size = gz at *
        clear hW hoff e1 hb6 HD5 HdA5 HP9 HF HCf HKp Hb9 m0 m1 m2 m3 m4
        have HXA := Lib.hid (HXx.out.below HBx.out)
        have HEn := Lib.hid (fun W y h => (by have := HEx.out W y h; rwa [HE.out] at this : Calls Tryd.prog 10 #[y] W fun e w' => e = .returned (.tuple #[.string (Wp.B X.enc), .int .i64 0]) ∧ Below W.heap.size W w'))
        clear HEx HE
        generalize Wp.B X.enc = eb at *
        have q1 : (eb.toList == eb.toList) = true := by simp
        have HCe := Lib.hid (HEn.out _ _ HXA.out)
        obtain ⟨x0, x1, x2, x3, x4⟩ := Vl.five_of HXz.out
        go_wp2_with fail
        refine HCe.out.mono ?_
        rintro e w7 ⟨rfl, hb7⟩
        have HB7 := Lib.hid (HBx.out.trans (hb7.mono HBx.out.size))
        have HCe2 := Lib.hid (HEn.out _ _ (Vl.AtE.below HYA.out hb7))
        have HY7 := Lib.hid (Sc.keepBox HY.out hb7)
        clear hb7 HCe HEn HXA HYA HY HXz HBx x0 x1 x2 x3 x4
        obtain ⟨y0, y1, y2, y3, y4⟩ := Vl.five_of HY7.out
        go_wp2_with fail
        refine HCe2.out.mono ?_
        rintro e w8 ⟨rfl, hb8⟩
        have HB8 := Lib.hid (HB7.out.trans (hb8.mono HB7.out.size))
        clear hb8
        go_wp2_with fail
        go_ret
        exact ⟨rfl, HB8.out⟩
      · have hW : Below w5.heap.size w5 (((((w6.setCell ⟨w5.heap.size, 0, none⟩ (.int .u8 k6)).setCell ⟨w5.heap.size, 1, none⟩ (.string t6)).setCell ⟨w5.heap.size, 2, none⟩ (.int .i64 i6)).setCell ⟨w5.heap.size, 3, none⟩ (.slice pi6 ni6 ci6)).setCell ⟨w5.heap.size, 4, none⟩ (.slice pn6 nn6 cn6)) := below_grownBy e1 (Vl.set5_grown _ _ _ _ _ _ _) (Nat.le_refl _) e1.size
        have HBx := Lib.hid (HB5.out.trans (hW.mono HB5.out.size))
        have HXz := Lib.hid (Sc.keepBox HX5.out hW)
        have HY := Lib.hid (Vl.set5 hx6 (.int .u8 k6) (.string t6) (.int .i64 i6) (.slice pi6 ni6 ci6) (.slice pn6 nn6 cn6))
        have HYA := Lib.hid (⟨d6, hoff _ (fun j h1 _ _ => Vl.set5_rest _ _ _ _ _ _ _ j (by have h9 : w5.heap.size + 1 ≤ j := by simpa using h1
                                                                                           omega))⟩ : Vl.AtE (((((w6.setCell ⟨w5.heap.size, 0, none⟩ (.int .u8 k6)).setCell ⟨w5.heap.size, 1, none⟩ (.string t6)).setCell ⟨w5.heap.size, 2, none⟩ (.int .i64 i6)).setCell ⟨w5.heap.size, 3, none⟩ (.slice pi6 ni6 ci6)).setCell ⟨w5.heap.size, 4, none⟩ (.slice pn6 nn6 cn6)) (.agg #[.int .u8 k6, .string t6, .int .i64 i6, .slice pi6 ni6 ci6, .slice pn6 nn6 cn6]) X)
        clear y0 y1 y2 y3 y4 z0 z1 z2 z3 z4 hx6
        generalize (((((w6.setCell ⟨w5.heap.size, 0, none⟩ (.int .u8 k6)).setCell ⟨w5.heap.size, 1, none⟩ (.string t6)).setCell ⟨w5.heap.size, 2, none⟩ (.int .i64 i6)).setCell ⟨w5.heap.size, 3, none⟩ (.slice pi6 ni6 ci6)).setCell ⟨w5.heap.size, 4, none⟩ (.slice pn6 nn6 cn6)) = WZ at *
        clear hW hoff e1 hb6 HD5 HdA5 HP9 HF HCf HKp Hb9 m0 m1 m2 m3 m4
        have HXA := Lib.hid (HXx.out.below HBx.out)
        have HEn := Lib.hid (fun W y h => (by have := HEx.out W y h; rwa [HE.out] at this : Calls Tryd.prog 10 #[y] W fun e w' => e = .returned (.tuple #[.string (Wp.B X.enc), .int .i64 0]) ∧ Below W.heap.size W w'))
        clear HEx HE
        generalize Wp.B X.enc = eb at *
        have q1 : (eb.toList == eb.toList) = true := by simp
        have HCe := Lib.hid (HEn.out _ _ HXA.out)
        obtain ⟨x0, x1, x2, x3, x4⟩ := Vl.five_of HXz.out
        go_wp2_with fail
        refine HCe.out.mono ?_
        rintro e w7 ⟨rfl, hb7⟩
        have HB7 := Lib.hid (HBx.out.trans (hb7.mono HBx.out.size))
        have HCe2 := Lib.hid (HEn.out _ _ (Vl.AtE.below HYA.out hb7))
        have HY7 := Lib.hid (Sc.keepBox HY.out hb7)
        clear hb7 HCe HEn HXA HYA HY HXz HBx x0 x1 x2 x3 x4
        obtain ⟨y0, y1, y2, y3, y4⟩ := Vl.five_of HY7.out
        go_wp2_with fail
        refine HCe2.out.mono ?_
        rintro e w8 ⟨rfl, hb8⟩
        have HB8 := Lib.hid (HB7.out.trans (hb8.mono HB7.out.size))
        clear hb8
        go_wp2_with fail
        go_ret
        exact ⟨rfl, HB8.out⟩
    · have q2 : (c2 != 0) = true := bne_iff_ne.2 hc2
      have q3 : (c2 == 0) = false := beq_eq_false_iff_ne.2 hc2
      subst hc1
      clear hc2 HG
      go_wp2_with fail
      go_ret
      exact ⟨rfl, HB5.out⟩
  · have q2 : (c1 != 0) = true := bne_iff_ne.2 hc1
    have q3 : (c1 == 0) = false := beq_eq_false_iff_ne.2 hc1
    clear hc1 HG
    go_wp2_with fail
    go_ret
    exact ⟨rfl, HB5.out⟩
end Go.Proofs.YtckcbdnlligndaaDoor
