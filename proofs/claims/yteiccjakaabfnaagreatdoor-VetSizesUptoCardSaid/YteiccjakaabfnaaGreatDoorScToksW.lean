
/-
  The walk of scan's Tokens. Conditions: the words' table reads as it is laid, the search's limit is set; the text is of a size that a machine holds.
-/
import Derived.Test.YteiccjakaabfnaaGreatDoorScTagW
namespace Go.Proofs.YteiccjakaabfnaaGreatDoor
open Go.RowKit Go.Shelf

/-- What a text's tokens hand back. -/
def Sc.ToksPost (R : List Sc.T × Int) (w : World) (e : Ending) (w' : World) : Prop := ∃ v, e = .returned (.tuple #[v, .int .i64 R.2]) ∧ Sc.OwnRow w.heap.size w' v R.1.length R.1 ∧ Below w.heap.size w w'
def Sc.Ans (R : List Sc.T × Int) (acc : List Sc.T) (o : Option (List Sc.T)) : Prop := R = match o with
  | some r => (acc ++ r, 0)
  | none => ([], 7)
theorem Sc.ans_end {R : List Sc.T × Int} {acc : List Sc.T} {f : Nat} {l a b : List UInt8} (h : Sc.Ans R acc (Sc.toksP (f + 1) l)) (hc : Lib.cut l Sc.oo = (a, b, false)) : R = (acc ++ Sc.pre a, 0) := by
  unfold Sc.Ans Sc.toksP at h
  rw [hc] at h
  exact h
theorem Sc.ans_bad {R : List Sc.T × Int} {acc : List Sc.T} {f : Nat} {l a b a2 b2 : List UInt8} {f2 : Bool} (h : Sc.Ans R acc (Sc.toksP (f + 1) l)) (hc : Lib.cut l Sc.oo = (a, b, true)) (h2 : Lib.cut b Sc.cc = (a2, b2, f2)) (hb : f2 = false ∨ Sc.tagP a2 = none) : R = ([], 7) := by
  unfold Sc.Ans Sc.toksP at h
  rw [hc] at h
  simp only [h2] at h
  rcases hb with rfl | hb
  · exact h
  · rw [hb] at h
    cases f2 <;> exact h
theorem Sc.ans_go {R : List Sc.T × Int} {acc : List Sc.T} {f : Nat} {l a b a2 b2 : List UInt8} {t : Sc.T} (h : Sc.Ans R acc (Sc.toksP (f + 1) l)) (hc : Lib.cut l Sc.oo = (a, b, true)) (h2 : Lib.cut b Sc.cc = (a2, b2, true)) (ht : Sc.tagP a2 = some t) : Sc.Ans R (acc ++ Sc.pre a ++ [t]) (Sc.toksP f b2) := by
  unfold Sc.Ans Sc.toksP at h
  rw [hc] at h
  simp only [h2, ht] at h
  unfold Sc.Ans
  rw [h]
  cases Sc.toksP f b2 with
  | none => rfl
  | some r => simp
theorem Sc.cut_lens {l s a b : List UInt8} {f : Bool} (h : Lib.cut l s = (a, b, f)) : a.length ≤ l.length ∧ b.length ≤ l.length ∧ (f = true → a.length + s.length + b.length = l.length) := by
  rcases Sc.cut_spec l s with ⟨h1, h2, _⟩ | ⟨h1, h2, _⟩
  · rw [h] at h1 h2
    simp only at h1
    subst h1
    cases h2
    exact ⟨Nat.le_refl _, Nat.zero_le _, fun e => by cases e⟩
  · rw [h] at h2
    simp only at h2
    have := congrArg List.length h2
    simp at this
    exact ⟨by omega, by omega, fun _ => by omega⟩
theorem scCut_any (l : List UInt8) (sep : ByteArray) (a b : List UInt8) (f : Bool) (hT : Lib.cut l sep.data.toList = (a, b, f)) (w : World) (hl : l.length ≤ 3000000) (hM : Sc.MaxLen w) :
    Calls Tryz.prog 116 #[.string (Wp.B l), .string sep] w fun e w' => e = .returned (.tuple #[.string (Wp.B a), .string (Wp.B b), .bool f]) ∧ Below w.heap.size w w' := by
  obtain ⟨m, hm⟩ := hM
  refine (Tryz.strings_Cut (Wp.B l) sep m w (by rw [Wp.B_size]; omega) hm).mono ?_
  rintro e w' ⟨rfl, n, rfl⟩
  rw [show (Wp.B l).data.toList = l by simp [Wp.B], hT]
  exact ⟨rfl, ⟨rfl, rfl, rfl, Nat.le_refl _, fun _ _ => rfl⟩⟩
theorem Sc.OwnRow.below {B : Nat} {W W' : World} {v : Value} {n : Nat} {l : List Sc.T} (h : Sc.OwnRow B W v n l) (hb : Below W.heap.size W W') : Sc.OwnRow B W' v n l := by
  obtain ⟨cs, h1, h2, h3⟩ := h
  exact ⟨cs, ownsRow_below h1 hb, h2, fun i y hy => by
    obtain ⟨c0, c1, c2, e0, e1, e2, ho⟩ := h3 i y hy
    exact ⟨c0, c1, c2, e0, e1, e2, fun W2 hW => ho W2 (fun j a b c => (hW j a (Nat.lt_of_lt_of_le b hb.size) c).trans (hb.block j b))⟩⟩
theorem Sc.Off.text (B : Nat) (W : World) (blk : Option Nat) (t : ByteArray) (ht : t.size ≤ 140737488351232) : Sc.Off B W blk (.agg #[.int .u8 1, .string t, .slice none 0 0]) ⟨1, t, []⟩ :=
  fun W' _ => ⟨none, 0, rfl, ⟨⟨(by show 1 ≤ 255; omega), Nat.le_refl 0⟩, ht, (by show (0 : Nat) ≤ _; omega), (fun x hx => by cases hx)⟩, Or.inl rfl⟩
set_option maxRecDepth 100000 in
set_option maxHeartbeats 8000000 in
theorem scTokens_any (s : ByteArray) (w : World) (hs : s.size ≤ 900000000000000) (hT : Sc.Laid w) (hM : Sc.MaxLen w) :
    Calls Tryz.prog 77 #[.string s] w (Sc.ToksPost (Sc.toksR s.data.toList) w) := by
  obtain ⟨R, hR⟩ : ∃ R, R = Sc.toksR s.data.toList := ⟨_, rfl⟩
  rw [← hR]
  have hsl := Wp.size_len s
  unfold Sc.toksR at hR
  by_cases hlong : 1024 < s.data.toList.length
  · rw [if_pos hlong] at hR
    have hk : (1024 : Int) < (s.size : Int) := by omega
    have HR := Lib.hid hR
    clear hR hsl hlong
    go_enter Tryz.func77, Tryz.ntmps77
    go_wp2_with fail
    have hR := HR.out
    subst hR
    go_ret2
    exact ⟨_, rfl, Sc.OwnRow.nil _ _, Below.refl _ _⟩
  · rw [if_neg hlong] at hR
    have hk : ¬ (1024 : Int) < (s.size : Int) := by omega
    have hln : s.data.toList.length ≤ 1024 := by omega
    have HLn := Lib.hid hln
    clear hln
    have HE0 := Lib.hid (show Sc.Ans R [] (Sc.toksP (s.data.toList.length + 1) s.data.toList) from by rw [hR]; cases Sc.toksP (s.data.toList.length + 1) s.data.toList <;> rfl)
    have HT0 := Lib.hid hT
    have HM0 := Lib.hid hM
    have HS0 := Lib.hid (show Value.string s = Value.string (Wp.B s.data.toList) by rw [Wp.B_of])
    clear hR hT hM hsl
    have hlg := Lib.hid hlong
    clear hlong
    go_enter Tryz.func77, Tryz.ntmps77
    go_wp2_with fail
    go_loopw [0, 4] (fun sv v wr => ∃ (rest : List UInt8) (acc : List Sc.T) (f : Nat), rest.length < f + 1 ∧ rest.length ≤ 1024 ∧ acc.length + rest.length ≤ 1024 ∧ sv = .string (Wp.B rest) ∧ Hid (Sc.OwnRow w.heap.size wr v acc.length acc) ∧ Hid (Below w.heap.size w wr) ∧ Hid (Sc.Ans R acc (Sc.toksP (f + 1) rest))) (fun sv _ _ => match sv with | .string t => t.size | _ => 0)
    case atStart => exact ⟨s.data.toList, [], s.data.toList.length, Nat.lt_succ_self _, HLn.out, by rw [List.length_nil, Nat.zero_add]; exact HLn.out, HS0.out, Lib.hid (Sc.OwnRow.nil _ _), Lib.hid (Below.refl _ _), HE0⟩
    case round =>
      clear HLn HE0 HS0 hlg hk hs
      obtain ⟨rest, acc, f, hf, hr1, hr2, rfl, HS, HB, HE⟩ := hrel
      obtain ⟨⟨a, b, ff⟩, hc1⟩ : ∃ Q, Lib.cut rest Sc.oo = Q := ⟨_, rfl⟩
      have HC1 := Lib.hid (scCut_any rest ⟨#[123, 123]⟩ a b ff hc1 wr (by omega) (HM0.out.below HB.out))
      have hal := (Sc.cut_lens hc1).1
      have Hc1 := Lib.hid hc1
      clear hc1
      go_wp2_with fail
      refine HC1.out.mono ?_
      rintro e w1 ⟨rfl, hb⟩
      have HB1 := Lib.hid (HB.out.trans (hb.mono HB.out.size))
      have HS1 := Lib.hid (HS.out.below hb)
      clear hb HC1 HS HB
      by_cases ha : a = []
      · have q1 : ((Wp.B a).toList != ([] : List UInt8)) = false := by rw [ha, Lib.toList_data]; rfl
        have q2 : ((Wp.B a).toList == ([] : List UInt8)) = true := by rw [ha, Lib.toList_data]; rfl
        have HA := Lib.hid (show Sc.pre a = [] by rw [ha]; rfl)
        clear ha
        cases ff with
        | false =>
          have HRz := Lib.hid (show R = (acc, 0) by have := Sc.ans_end HE.out Hc1.out; rwa [HA.out, List.append_nil] at this)
          go_wp2_with fail
          have hR := HRz.out
          subst hR
          go_ret2
          exact ⟨_, rfl, HS1.out, HB1.out⟩
        | true =>
          have hl3 := (Sc.cut_lens Hc1.out).2.2 rfl
          have hbl : b.length ≤ 1024 := by have := (Sc.cut_lens Hc1.out).2.1; omega
          obtain ⟨⟨a2, b2, f2⟩, hc2⟩ : ∃ Q, Lib.cut b Sc.cc = Q := ⟨_, rfl⟩
          have hl4 := Sc.cut_lens hc2
          have HC2 := Lib.hid (scCut_any b ⟨#[125, 125]⟩ a2 b2 f2 hc2 w1 (by omega) (HM0.out.below HB1.out))
          have Hc2 := Lib.hid hc2
          clear hc2
          go_wp2_with fail
          refine HC2.out.mono ?_
          rintro e w3 ⟨rfl, hb⟩
          have HB3 := Lib.hid (HB1.out.trans (hb.mono HB1.out.size))
          have HS3 := Lib.hid (HS1.out.below hb)
          clear hb HC2
          have htg := scTag_any (Wp.B a2) w3 (by rw [Wp.B_size]; omega) (HT0.out.below HB3.out) (HM0.out.below HB3.out)
          rw [show (Wp.B a2).data.toList = a2 by simp [Wp.B]] at htg
          obtain ⟨o, ho⟩ : ∃ o, Sc.tagP a2 = o := ⟨_, rfl⟩
          rw [ho] at htg
          have HC3 := Lib.hid htg
          have Ho := Lib.hid ho
          clear htg ho
          go_wp2_with fail
          refine HC3.out.mono ?_
          rintro e w4 ⟨k4, t4, pn4, nn4, cn4, rfl, hoff, hb⟩
          have hal := (Below.refl w4.heap.size w4).alloc (Nat.le_refl _) (.cells #[.int .u8 k4, .string t4, .slice pn4 nn4 cn4] 110)
          have h34 := hb.trans (hal.mono hb.size)
          have HB4 := Lib.hid (HB3.out.trans (h34.mono HB3.out.size))
          have H34 := Lib.hid h34
          have HV4 := Lib.hid (Vl.new w4 (.cells #[.int .u8 k4, .string t4, .slice pn4 nn4 cn4] 110))
          have Hoff := Lib.hid (fun y h => (fun W' hW' => hoff y h W' (fun j q1 q2 q3 => (hW' j q1 (Nat.lt_of_lt_of_le q2 hal.size) q3).trans (hal.block j q2)) : Sc.Off w3.heap.size (w4.alloc (.cells #[.int .u8 k4, .string t4, .slice pn4 nn4 cn4] 110)) none (.agg #[.int .u8 k4, .string t4, .slice pn4 nn4 cn4]) y))
          clear hal h34 hoff hb HC3
          go_upto_region 11 with fail
          generalize (w4.alloc (.cells #[.int .u8 k4, .string t4, .slice pn4 nn4 cn4] 110)) = W4 at *
          cases f2 with
          | false =>
            have HRz := Lib.hid (Sc.ans_bad HE.out Hc1.out Hc2.out (Or.inl rfl))
            go_wp2_with fail
            have hR := HRz.out
            subst hR
            go_ret2
            exact ⟨_, rfl, Sc.OwnRow.nil _ _, HB4.out⟩
          | true =>
            cases o with
            | none =>
              have HRz := Lib.hid (Sc.ans_bad HE.out Hc1.out Hc2.out (Or.inr Ho.out))
              go_wp2_with fail
              have hR := HRz.out
              subst hR
              go_ret2
              exact ⟨_, rfl, Sc.OwnRow.nil _ _, HB4.out⟩
            | some y =>
              have hl5 := (Sc.cut_lens Hc2.out).2.2 rfl
              have hos : Sc.oo.length = 2 := rfl
              have hcs : Sc.cc.length = 2 := rfl
              have HEn := Lib.hid (Sc.ans_go HE.out Hc1.out Hc2.out Ho.out)
              have Hoy := Lib.hid (Hoff.out y rfl)
              obtain ⟨v0, v1, v2⟩ := Sc.three_of HV4.out
              clear Hoff HE
              obtain ⟨cs9, g91, g92, g93⟩ := HS3.out
              have HO9 := Lib.hid g91
              have HG9 := Lib.hid g93
              have HO9' := Lib.hid ((ownsRow_below HO9.out H34.out).alloc (.cells #[.int .u8 k4, .string t4, .slice pn4 nn4 cn4] 110))
              have HB9 := Lib.hid ((HB3.out.trans (H34.out.mono HB3.out.size)).alloc (by have := HB3.out.size; have := H34.out.size; omega) (.cells #[.int .u8 k4, .string t4, .slice pn4 nn4 cn4] 110))
              have Hnew := Lib.hid (Sc.three_of (Vl.new W4 (.cells #[.int .u8 k4, .string t4, .slice pn4 nn4 cn4] 110)))
              have Hn9 := Lib.hid (show ∀ j q, ([.int .u8 k4, .string t4, .slice pn4 nn4 cn4] : List Value)[j]? = some q → (W4.alloc (.cells #[.int .u8 k4, .string t4, .slice pn4 nn4 cn4] 110)).cell? ((⟨W4.heap.size, 0, none⟩ : Addr).add j) = some q from fun j q hq => by
                obtain ⟨n0, n1, n2⟩ := Hnew.out
                match j, hq with
                | 0, hq => cases hq; exact n0
                | 1, hq => cases hq; exact n1
                | 2, hq => cases hq; exact n2
                | j + 3, hq => simp at hq)
              clear g91 g92 g93 Hnew
              obtain ⟨i0, hi, hz0, hz1, hz2⟩ := Sc.infoTok
              
              go_wp2_with (at_builtin; refine Vl.listApp _ rfl _ _ 104 rfl w.heap.size 110 i0 _ 3 48 Tryz.underlying104 hi hz0 hz1 hz2 rfl (by decide) _ acc.length _ rfl HO9'.out ⟨W4.heap.size, 0, none⟩ 1 1 [.int .u8 k4, .string t4, .slice pn4 nn4 cn4] rfl rfl ?ce1 ?ce2 ?ce3 ?ce4 ?ce5 ?_)
              try case ce1 => exact Hn9.out
              case ce2 => first | (intro q hq; simp at hq; rcases hq with rfl | rfl | rfl <;> rfl) | (simp [Value.oneCell'])
              case ce3 => unfold maxLen; omega
              case ce4 => omega
              case ce5 => first | exact HB9.out.size | (have := HB9.out.size; rw [World.size_alloc] at this; exact this)
              intro v9 W9 hown9 hgrow9 hat9
              have HB5 := Lib.hid (below_grown5 HB9.out HO9'.out (Nat.le_refl _) hgrow9)
              have HS5 := Lib.hid (show Sc.OwnRow w.heap.size W9 v9 (acc ++ [y]).length (acc ++ [y]) by
                have := Sc.OwnRow.grow (y := y) rfl HO9.out HG9.out HB3.out.size H34.out rfl Hoy.out _ hown9 hgrow9 hat9
                rwa [List.length_append])
              clear hown9 hgrow9 hat9 HO9 HG9 HO9' HB9 Hn9 hi hz0 hz1 hz2
              go_wp2_with fail
              exact ⟨⟨b2, acc ++ [y], f - 1, by omega, by omega, by simp; omega, rfl, HS5, HB5, Lib.hid (by have := HEn.out; rw [show f - 1 + 1 = f by omega]; rwa [HA.out, List.append_nil] at this)⟩, by simp [Wp.B_size]; omega⟩
      · have hne : (Wp.B a).toList ≠ [] := by rw [Lib.toList_data]; simpa [Wp.B] using ha
        have q1 : ((Wp.B a).toList != ([] : List UInt8)) = true := bne_iff_ne.2 hne
        have q2 : ((Wp.B a).toList == ([] : List UInt8)) = false := beq_eq_false_iff_ne.2 hne
        have HA := Lib.hid (show Sc.pre a = [⟨1, Wp.B a, []⟩] by unfold Sc.pre; rw [if_neg ha])
        have hzs : (Wp.B a).size ≤ 140737488351232 := by rw [Wp.B_size]; omega
        have HCl := Lib.hid (vlClone_any (Wp.B a) w1 (by omega))
        have Hzs := Lib.hid hzs
        clear ha hne hzs
        go_wp2_with fail
        refine HCl.out.mono ?_
        rintro e w2 ⟨rfl, hb⟩
        have Hb12 := Lib.hid hb
        clear hb HCl
        obtain ⟨cs9, g91, g92, g93⟩ := HS1.out
        have HO9 := Lib.hid g91
        have HG9 := Lib.hid g93
        have HO9' := Lib.hid ((ownsRow_below HO9.out Hb12.out).alloc (.cells #[.int .u8 1, .string (Wp.B a), .slice none 0 0] 110))
        have HB9 := Lib.hid ((HB1.out.trans (Hb12.out.mono HB1.out.size)).alloc (by have := HB1.out.size; have := Hb12.out.size; omega) (.cells #[.int .u8 1, .string (Wp.B a), .slice none 0 0] 110))
        have Hnew := Lib.hid (Sc.three_of (Vl.new w2 (.cells #[.int .u8 1, .string (Wp.B a), .slice none 0 0] 110)))
        have Hn9 := Lib.hid (show ∀ j q, ([.int .u8 1, .string (Wp.B a), .slice none 0 0] : List Value)[j]? = some q → (w2.alloc (.cells #[.int .u8 1, .string (Wp.B a), .slice none 0 0] 110)).cell? ((⟨w2.heap.size, 0, none⟩ : Addr).add j) = some q from fun j q hq => by
          obtain ⟨n0, n1, n2⟩ := Hnew.out
          match j, hq with
          | 0, hq => cases hq; exact n0
          | 1, hq => cases hq; exact n1
          | 2, hq => cases hq; exact n2
          | j + 3, hq => simp at hq)
        clear g91 g92 g93 Hnew
        obtain ⟨i0, hi, hz0, hz1, hz2⟩ := Sc.infoTok
        
        go_wp2_with (at_builtin; refine Vl.listApp _ rfl _ _ 104 rfl w.heap.size 110 i0 _ 3 48 Tryz.underlying104 hi hz0 hz1 hz2 rfl (by decide) _ acc.length _ rfl HO9'.out ⟨w2.heap.size, 0, none⟩ 1 1 [.int .u8 1, .string (Wp.B a), .slice none 0 0] rfl rfl ?cp1 ?cp2 ?cp3 ?cp4 ?cp5 ?_)
        try case cp1 => exact Hn9.out
        case cp2 => first | (intro q hq; simp at hq; rcases hq with rfl | rfl | rfl <;> rfl) | (simp [Value.oneCell'])
        case cp3 => unfold maxLen; omega
        case cp4 => omega
        case cp5 => first | exact HB9.out.size | (have := HB9.out.size; rw [World.size_alloc] at this; exact this)
        intro v9 W9 hown9 hgrow9 hat9
        have HB2 := Lib.hid (below_grown5 HB9.out HO9'.out (Nat.le_refl _) hgrow9)
        have HS2 := Lib.hid (show Sc.OwnRow w.heap.size W9 v9 (acc ++ [(⟨1, Wp.B a, []⟩ : Sc.T)]).length (acc ++ [(⟨1, Wp.B a, []⟩ : Sc.T)]) by
          have := Sc.OwnRow.grow (y := (⟨1, Wp.B a, []⟩ : Sc.T)) rfl HO9.out HG9.out HB1.out.size Hb12.out rfl (Sc.Off.text _ _ _ _ Hzs.out) _ hown9 hgrow9 hat9
          rwa [List.length_append])
        clear hown9 hgrow9 hat9 HO9 HG9 HO9' HB9 Hn9 hi hz0 hz1 hz2
        have hlen2 : (acc ++ [(⟨1, Wp.B a, []⟩ : Sc.T)]).length ≤ acc.length + 1 := by simp
        obtain ⟨L2, hL2⟩ : ∃ L2, L2 = acc ++ [(⟨1, Wp.B a, []⟩ : Sc.T)] := ⟨_, rfl⟩
        rw [← hL2] at HS2 hlen2
        have HL := Lib.hid hL2
        clear hL2
        cases ff with
        | false =>
          have HRz := Lib.hid (show R = (L2, 0) by have := Sc.ans_end HE.out Hc1.out; rwa [HA.out, ← HL.out] at this)
          go_wp2_with fail
          have hR := HRz.out
          subst hR
          go_ret2
          exact ⟨_, rfl, HS2.out, HB2.out⟩
        | true =>
          have hl3 := (Sc.cut_lens Hc1.out).2.2 rfl
          have hbl : b.length ≤ 1024 := by have := (Sc.cut_lens Hc1.out).2.1; omega
          obtain ⟨⟨a2, b2, f2⟩, hc2⟩ : ∃ Q, Lib.cut b Sc.cc = Q := ⟨_, rfl⟩
          have hl4 := Sc.cut_lens hc2
          have HC2 := Lib.hid (scCut_any b ⟨#[125, 125]⟩ a2 b2 f2 hc2 W9 (by omega) (HM0.out.below HB2.out))
          have Hc2 := Lib.hid hc2
          clear hc2
          go_wp2_with fail
          refine HC2.out.mono ?_
          rintro e w3 ⟨rfl, hb⟩
          have HB3 := Lib.hid (HB2.out.trans (hb.mono HB2.out.size))
          have HS3 := Lib.hid (HS2.out.below hb)
          clear hb HC2
          have htg := scTag_any (Wp.B a2) w3 (by rw [Wp.B_size]; omega) (HT0.out.below HB3.out) (HM0.out.below HB3.out)
          rw [show (Wp.B a2).data.toList = a2 by simp [Wp.B]] at htg
          obtain ⟨o, ho⟩ : ∃ o, Sc.tagP a2 = o := ⟨_, rfl⟩
          rw [ho] at htg
          have HC3 := Lib.hid htg
          have Ho := Lib.hid ho
          clear htg ho
          go_wp2_with fail
          refine HC3.out.mono ?_
          rintro e w4 ⟨k4, t4, pn4, nn4, cn4, rfl, hoff, hb⟩
          have hal := (Below.refl w4.heap.size w4).alloc (Nat.le_refl _) (.cells #[.int .u8 k4, .string t4, .slice pn4 nn4 cn4] 110)
          have h34 := hb.trans (hal.mono hb.size)
          have HB4 := Lib.hid (HB3.out.trans (h34.mono HB3.out.size))
          have H34 := Lib.hid h34
          have HV4 := Lib.hid (Vl.new w4 (.cells #[.int .u8 k4, .string t4, .slice pn4 nn4 cn4] 110))
          have Hoff := Lib.hid (fun y h => (fun W' hW' => hoff y h W' (fun j q1 q2 q3 => (hW' j q1 (Nat.lt_of_lt_of_le q2 hal.size) q3).trans (hal.block j q2)) : Sc.Off w3.heap.size (w4.alloc (.cells #[.int .u8 k4, .string t4, .slice pn4 nn4 cn4] 110)) none (.agg #[.int .u8 k4, .string t4, .slice pn4 nn4 cn4]) y))
          clear hal h34 hoff hb HC3
          go_upto_region 11 with fail
          generalize (w4.alloc (.cells #[.int .u8 k4, .string t4, .slice pn4 nn4 cn4] 110)) = W4 at *
          cases f2 with
          | false =>
            have HRz := Lib.hid (Sc.ans_bad HE.out Hc1.out Hc2.out (Or.inl rfl))
            go_wp2_with fail
            have hR := HRz.out
            subst hR
            go_ret2
            exact ⟨_, rfl, Sc.OwnRow.nil _ _, HB4.out⟩
          | true =>
            cases o with
            | none =>
              have HRz := Lib.hid (Sc.ans_bad HE.out Hc1.out Hc2.out (Or.inr Ho.out))
              go_wp2_with fail
              have hR := HRz.out
              subst hR
              go_ret2
              exact ⟨_, rfl, Sc.OwnRow.nil _ _, HB4.out⟩
            | some y =>
              have hl5 := (Sc.cut_lens Hc2.out).2.2 rfl
              have hos : Sc.oo.length = 2 := rfl
              have hcs : Sc.cc.length = 2 := rfl
              have HEn := Lib.hid (Sc.ans_go HE.out Hc1.out Hc2.out Ho.out)
              have Hoy := Lib.hid (Hoff.out y rfl)
              obtain ⟨v0, v1, v2⟩ := Sc.three_of HV4.out
              clear Hoff HE
              obtain ⟨cs9, g91, g92, g93⟩ := HS3.out
              have HO9 := Lib.hid g91
              have HG9 := Lib.hid g93
              have HO9' := Lib.hid ((ownsRow_below HO9.out H34.out).alloc (.cells #[.int .u8 k4, .string t4, .slice pn4 nn4 cn4] 110))
              have HB9 := Lib.hid ((HB3.out.trans (H34.out.mono HB3.out.size)).alloc (by have := HB3.out.size; have := H34.out.size; omega) (.cells #[.int .u8 k4, .string t4, .slice pn4 nn4 cn4] 110))
              have Hnew := Lib.hid (Sc.three_of (Vl.new W4 (.cells #[.int .u8 k4, .string t4, .slice pn4 nn4 cn4] 110)))
              have Hn9 := Lib.hid (show ∀ j q, ([.int .u8 k4, .string t4, .slice pn4 nn4 cn4] : List Value)[j]? = some q → (W4.alloc (.cells #[.int .u8 k4, .string t4, .slice pn4 nn4 cn4] 110)).cell? ((⟨W4.heap.size, 0, none⟩ : Addr).add j) = some q from fun j q hq => by
                obtain ⟨n0, n1, n2⟩ := Hnew.out
                match j, hq with
                | 0, hq => cases hq; exact n0
                | 1, hq => cases hq; exact n1
                | 2, hq => cases hq; exact n2
                | j + 3, hq => simp at hq)
              clear g91 g92 g93 Hnew
              obtain ⟨i0, hi, hz0, hz1, hz2⟩ := Sc.infoTok
              
              go_wp2_with (at_builtin; refine Vl.listApp _ rfl _ _ 104 rfl w.heap.size 110 i0 _ 3 48 Tryz.underlying104 hi hz0 hz1 hz2 rfl (by decide) _ L2.length _ rfl HO9'.out ⟨W4.heap.size, 0, none⟩ 1 1 [.int .u8 k4, .string t4, .slice pn4 nn4 cn4] rfl rfl ?cn1 ?cn2 ?cn3 ?cn4 ?cn5 ?_)
              try case cn1 => exact Hn9.out
              case cn2 => first | (intro q hq; simp at hq; rcases hq with rfl | rfl | rfl <;> rfl) | (simp [Value.oneCell'])
              case cn3 => unfold maxLen; omega
              case cn4 => omega
              case cn5 => first | exact HB9.out.size | (have := HB9.out.size; rw [World.size_alloc] at this; exact this)
              intro v9 W9 hown9 hgrow9 hat9
              have HB5 := Lib.hid (below_grown5 HB9.out HO9'.out (Nat.le_refl _) hgrow9)
              have HS5 := Lib.hid (show Sc.OwnRow w.heap.size W9 v9 (L2 ++ [y]).length (L2 ++ [y]) by
                have := Sc.OwnRow.grow (y := y) rfl HO9.out HG9.out HB3.out.size H34.out rfl Hoy.out _ hown9 hgrow9 hat9
                rwa [List.length_append])
              clear hown9 hgrow9 hat9 HO9 HG9 HO9' HB9 Hn9 hi hz0 hz1 hz2
              go_wp2_with fail
              exact ⟨⟨b2, L2 ++ [y], f - 1, by omega, by omega, by simp; omega, rfl, HS5, HB5, Lib.hid (by have := HEn.out; rw [show f - 1 + 1 = f by omega]; rwa [HA.out, ← HL.out] at this)⟩, by simp [Wp.B_size]; omega⟩
end Go.Proofs.YteiccjakaabfnaaGreatDoor
