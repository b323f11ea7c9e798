
/-
  The walk of the document's own Tokens (bellmanref10). Condition: a text takes no more than a machine holds.
-/
import Derived.Test.YteiccjakaabfnaaGreatDoorScToksW
import Derived.Test.YteiccjakaabfnaaGreatDoorScMath
import Derived.Test.YteiccjakaabfnaaGreatDoorRScTag
namespace Go.Proofs.YteiccjakaabfnaaGreatDoor
open Go.RowKit Go.Shelf

namespace Sc
/-- Where find looks, and where a cut falls. -/
theorem cut_find {l a b : List UInt8} {k : Nat} {c : UInt8} {f : Bool} (hk : k ≤ l.length) (h : Lib.cut (l.drop k) [c, c] = (a, b, f)) :
    (f = false → findP l k c = -1 ∧ a = l.drop k) ∧ (f = true → findP l k c = ((k + a.length : Nat) : Int) ∧ k + a.length + 2 ≤ l.length ∧ a = (l.drop k).take a.length ∧ b = l.drop (k + a.length + 2)) := by
  rcases cut_spec (l.drop k) [c, c] with ⟨h1, h2, h3⟩ | ⟨h1, h2, h3⟩
  · rw [h] at h1 h2
    simp only at h1
    subst h1
    refine ⟨fun _ => ⟨find_miss fun m hm hl => ?_, (Prod.mk.inj h2).1⟩, fun e => by cases e⟩
    have := h3 (m - k) (by rw [List.length_drop]; omega)
    rw [occ_drop, show k + (m - k) = m by omega] at this
    exact this
  · rw [h] at h1 h2 h3
    simp only at h1 h2 h3
    subst h1
    refine ⟨(fun e => by cases e), fun _ => ?_⟩
    have hlen := congrArg List.length h2
    simp only [List.length_drop, List.length_append, List.length_cons, List.length_nil] at hlen
    have hocc : Lib.occAt l [c, c] (k + a.length) = true := by
      rw [← occ_drop, h2]
      unfold Lib.occAt
      rw [List.drop_left]
      simp [List.isPrefixOf]
    refine ⟨find_hit (by omega) (by omega) hocc (fun m hm1 hm2 => ?_), by omega, ?_, ?_⟩
    · have := h3 (m - k) (by omega)
      rw [occ_drop, show k + (m - k) = m by omega] at this
      exact this
    · rw [h2, List.take_left]
    · have : l.drop (k + a.length + 2) = (l.drop k).drop (a.length + 2) := by rw [List.drop_drop]; congr 1
      rw [this, h2, ← List.drop_drop, List.drop_left]
      rfl
theorem one_src {t : T} (h : okT t = true) : 1 ≤ (srcT t).length := by
  by_cases h1 : t.kind = 1
  · obtain ⟨-, h2, -⟩ := okT_text h h1
    unfold srcT
    rw [if_pos h1]
    cases e : t.text.data.toList with
    | nil => exact absurd e h2
    | cons a b => simp
  · unfold srcT
    rw [if_neg h1]
    simp [oo]
theorem count_src : ∀ {l : List T}, l.all okT = true → l.length ≤ (srcs l).length
  | [], _ => Nat.le_refl _
  | a :: r, h => by
    rw [List.all_cons, Bool.and_eq_true] at h
    have i1 := count_src h.2
    have j1 := one_src h.1
    have e : (srcs (a :: r)).length = (srcT a).length + (srcs r).length := by simp [srcs]
    rw [e, List.length_cons]
    omega
theorem toks_len (s : List UInt8) : (toksR s).1.length ≤ 1024 := by
  unfold toksR
  by_cases hl : 1024 < s.length
  · rw [if_pos hl]; exact Nat.zero_le _
  · rw [if_neg hl]
    cases hp : toksP (s.length + 1) s with
    | none => exact Nat.zero_le _
    | some r =>
      obtain ⟨h1, h2⟩ := toks_ok _ _ _ hp
      have h3 : r.all okT = true := by unfold okTs at h1; rw [Bool.and_eq_true] at h1; exact h1.1
      have := count_src h3
      show r.length ≤ 1024
      omega
theorem ext_B (s : ByteArray) (i j : Nat) (a : List UInt8) (h : a = (s.data.toList.drop i).take (j - i)) : s.extract i j = Wp.B a := by
  rw [h, ← Wp.data_extract, Wp.B_of]
end Sc
set_option maxRecDepth 100000 in
set_option maxHeartbeats 8000000 in
theorem refToks_any (s : ByteArray) (w : World) (hs : s.size ≤ 140737488351232) :
    Calls Tryz.prog 108 #[.string s] w (Sc.ToksPost (Sc.toksR s.data.toList) w) := by
  obtain ⟨R, hR⟩ : ∃ R, R = Sc.toksR s.data.toList := ⟨_, rfl⟩
  rw [← hR]
  have hsl := Wp.size_len s
  unfold Sc.toksR at hR
  by_cases hlong : 1024 < s.data.toList.length
  · rw [if_pos hlong] at hR
    have hk : (1024 : Int) < (s.size : Int) := by omega
    have HR := Lib.hid hR
    clear hR hsl hlong
    go_enter Tryz.func108, Tryz.ntmps108
    go_wp2_with fail
    have hR := HR.out
    subst hR
    go_ret2
    exact ⟨_, rfl, Sc.OwnRow.nil _ _, Below.refl _ _⟩
  · rw [if_neg hlong] at hR
    have hk : ¬ (1024 : Int) < (s.size : Int) := by omega
    have hsz : s.size ≤ 1024 := by omega
    have HSl := Lib.hid hsl
    have HE0 := Lib.hid (show Sc.Ans R [] (Sc.toksP (s.size + 1) (s.data.toList.drop 0)) from by rw [hR, List.drop_zero, hsl]; cases Sc.toksP (s.data.toList.length + 1) s.data.toList <;> rfl)
    clear hR hlong hsl
    go_enter Tryz.func108, Tryz.ntmps108
    go_wp2_with fail
    go_loopw [4, 5] (fun v t wr => ∃ (pos f : Nat) (acc : List Sc.T), pos ≤ s.size ∧ t = .int .i64 pos ∧ s.size - pos < f + 1 ∧ acc.length ≤ pos ∧ Hid (Sc.OwnRow w.heap.size wr v acc.length acc) ∧ Hid (Below w.heap.size w wr) ∧ Hid (Sc.Ans R acc (Sc.toksP (f + 1) (s.data.toList.drop pos)))) (fun _ t _ => s.size - (intOf t).toNat)
    case atStart => exact ⟨0, s.size, [], Nat.zero_le _, rfl, by omega, Nat.zero_le _, Lib.hid (Sc.OwnRow.nil _ _), Lib.hid (Below.refl _ _), HE0⟩
    case round =>
      clear HE0 hk
      obtain ⟨pos, f, acc, hpos, rfl, hf, hacc, HS, HB, HE⟩ := hrel
      obtain ⟨⟨a, b, ff⟩, hc1⟩ : ∃ Q, Lib.cut (s.data.toList.drop pos) Sc.oo = Q := ⟨_, rfl⟩
      have hcf := Sc.cut_find (k := pos) (c := 123) (by rw [← HSl.out]; exact hpos) hc1
      rw [← HSl.out] at hcf
      have hal := (Sc.cut_lens hc1).1
      rw [List.length_drop, ← HSl.out] at hal
      have Hc1 := Lib.hid hc1
      clear hc1
      by_cases hlt : pos < s.size
      · have hp0 : (pos : Int) < (s.size : Int) := by omega
        have HF1 := Lib.hid (refFind10_any s pos 123 wr hs hpos)
        cases ff with
        | false =>
          obtain ⟨hfi, ha⟩ := hcf.1 rfl
          rw [hfi] at HF1
          have hal2 : a.length = s.size - pos := by rw [ha, List.length_drop, ← HSl.out]
          have hane : a ≠ [] := by intro e; rw [e] at hal2; simp at hal2; omega
          have HA := Lib.hid (show Sc.pre a = [⟨1, Wp.B a, []⟩] by unfold Sc.pre; rw [if_neg hane])
          have hex := Sc.ext_B s pos s.size a (by rw [ha, List.take_of_length_le (by rw [List.length_drop, ← HSl.out]; exact Nat.le_refl _)])
          have hslc : ∀ W, (Instr.sliceAt 9 (.string s) (some (.int .i64 (pos : Int))) (some (.int .i64 (s.size : Int))) none).run Tryz.prog W = .ok (.string (Wp.B a)) W := fun W => by
            rw [run_sliceAt_string (h := Tryz.underlying9), run_slice_string (h := Tryz.underlying9) (h0 := by omega) (h1 := by omega) (h2 := by omega), ← hex]
            rfl
          have Hzs := Lib.hid (show (Wp.B a).size ≤ 140737488351232 by rw [Wp.B_size]; omega)
          have hi0 : (pos : Int) < (s.size : Int) := by omega
          have HRz := Lib.hid (show R = (acc ++ [⟨1, Wp.B a, []⟩], 0) by have := Sc.ans_end HE.out Hc1.out; rwa [HA.out] at this)
          clear hfi ha hal2 hane hex hcf hal HA
          go_wp2_with fail
          refine HF1.out.mono ?_
          rintro e W1 ⟨rfl, rfl⟩
          clear HF1
          obtain ⟨cs9, g91, g92, g93⟩ := HS.out
          have HO9 := Lib.hid g91
          have HG9 := Lib.hid g93
          have HO9' := Lib.hid (HO9.out.alloc (.cells #[.int .u8 1, .string (Wp.B a), .slice none 0 0] 110))
          have HB9 := Lib.hid (HB.out.alloc HB.out.size (.cells #[.int .u8 1, .string (Wp.B a), .slice none 0 0] 110))
          have Hnew := Lib.hid (Sc.three_of (Vl.new W1 (.cells #[.int .u8 1, .string (Wp.B a), .slice none 0 0] 110)))
          have Hn9 := Lib.hid (show ∀ j q, ([.int .u8 1, .string (Wp.B a), .slice none 0 0] : List Value)[j]? = some q → (W1.alloc (.cells #[.int .u8 1, .string (Wp.B a), .slice none 0 0] 110)).cell? ((⟨W1.heap.size, 0, none⟩ : Addr).add j) = some q from fun j q hq => by
            obtain ⟨n0, n1, n2⟩ := Hnew.out
            match j, hq with
            | 0, hq => cases hq; exact n0
            | 1, hq => cases hq; exact n1
            | 2, hq => cases hq; exact n2
            | j + 3, hq => simp at hq)
          clear g91 g92 g93 Hnew
          obtain ⟨i0, hi, hz0, hz1, hz2⟩ := Sc.infoTok
          go_wp2_with (at_builtin; refine Vl.listApp _ rfl _ _ 104 rfl w.heap.size 110 i0 _ 3 48 Tryz.underlying104 hi hz0 hz1 hz2 rfl (by decide) _ acc.length _ rfl HO9'.out ⟨W1.heap.size, 0, none⟩ 1 1 [.int .u8 1, .string (Wp.B a), .slice none 0 0] rfl rfl ?cpb1 ?cpb2 ?cpb3 ?cpb4 ?cpb5 ?_)
          try case cpb1 => exact Hn9.out
          case cpb2 => first | (intro q hq; simp at hq; rcases hq with rfl | rfl | rfl <;> rfl) | (simp [Value.oneCell'])
          case cpb3 => unfold maxLen; omega
          case cpb4 => omega
          case cpb5 => first | exact HB9.out.size | (have := HB9.out.size; rw [World.size_alloc] at this; exact this)
          intro v9 W9 hown9 hgrow9 hat9
          have HB2 := Lib.hid (below_grown5 HB9.out HO9'.out (Nat.le_refl _) hgrow9)
          have HS2 := Lib.hid (show Sc.OwnRow w.heap.size W9 v9 (acc ++ [(⟨1, Wp.B a, []⟩ : Sc.T)]).length (acc ++ [(⟨1, Wp.B a, []⟩ : Sc.T)]) by
            have := Sc.OwnRow.grow (y := (⟨1, Wp.B a, []⟩ : Sc.T)) rfl HO9.out HG9.out HB.out.size (Below.refl _ _) rfl (Sc.Off.text _ _ _ _ Hzs.out) _ hown9 hgrow9 hat9
            rwa [List.length_append])
          clear hown9 hgrow9 hat9 HO9 HG9 HO9' HB9 Hn9 hi hz0 hz1 hz2 hslc
          go_wp2_with fail
          have hR := HRz.out
          subst hR
          go_ret2
          exact ⟨_, rfl, HS2.out, HB2.out⟩
        | true =>
          obtain ⟨hfi, hal3, ha, hb⟩ := hcf.2 rfl
          obtain ⟨i, hi⟩ : ∃ i, i = pos + a.length := ⟨_, rfl⟩
          rw [← hi] at hfi hal3 hb
          rw [hfi] at HF1
          obtain ⟨⟨a2, b2, f2⟩, hc2⟩ : ∃ Q, Lib.cut b Sc.cc = Q := ⟨_, rfl⟩
          have Hc2 := Lib.hid hc2
          rw [hb] at hc2
          have hcf2 := Sc.cut_find (k := i + 2) (c := 125) (by rw [← HSl.out]; exact hal3) hc2
          rw [← HSl.out] at hcf2
          have HF2 := Lib.hid (fun W => (show Calls Tryz.prog 155 #[.string s, .int .i64 ((i : Int) + 2), .int .u8 125] W fun e w' => e = .returned (.int .i64 (Sc.findP s.data.toList (i + 2) 125)) ∧ w' = W from by
            have := refFind10_any s (i + 2) 125 W hs hal3
            rw [show (((i + 2 : Nat)) : Int) = (i : Int) + 2 by omega] at this
            exact this))
          have Hcf2 := Lib.hid hcf2
          have Hi := Lib.hid hi
          have Hb := Lib.hid hb
          have hie : ((i : Int) == (s.size : Int)) = false := beq_eq_false_iff_ne.2 (by omega)
          have hipos : pos ≤ i := by omega
          have hi20 : (0 : Int) ≤ (i : Int) + 2 := by omega
          clear hcf hcf2 hc2 hfi hb hal
          by_cases hane : a = []
          · have hieq : i = pos := by rw [hi, hane]; rfl
            have hni : ¬ (pos : Int) < (i : Int) := by omega
            have HA := Lib.hid (show Sc.pre a = [] by rw [hane]; rfl)
            clear hane ha hi hieq
            go_wp2_with fail
            refine HF1.out.mono ?_
            rintro e W1 ⟨rfl, rfl⟩
            clear HF1
            have HS2 := HS
            have HB2 := HB
            obtain ⟨L2, hL2⟩ : ∃ L2, L2 = acc ++ Sc.pre a := ⟨_, rfl⟩
            have HL := Lib.hid hL2
            have hLe : L2 = acc := by rw [hL2, HA.out, List.append_nil]
            subst hLe
            have hl2 : L2.length ≤ i := by omega
            clear hL2 HS HB
            go_wp2_with fail
            refine (HF2.out _).mono ?_
            rintro e W2 ⟨rfl, rfl⟩
            clear HF2
            cases f2 with
            | false =>
              have hfi2 := (Hcf2.out.1 rfl).1
              rw [hfi2]
              have HRz := Lib.hid (Sc.ans_bad HE.out Hc1.out Hc2.out (Or.inl rfl))
              clear hfi2
              go_wp2_with fail
              have hR := HRz.out
              subst hR
              go_ret2
              exact ⟨_, rfl, Sc.OwnRow.nil _ _, HB2.out⟩
            | true =>
              obtain ⟨hfi2, hal4, ha2, hb2⟩ := Hcf2.out.2 rfl
              rw [hfi2]
              obtain ⟨kk, hkk⟩ : ∃ kk, kk = i + 2 + a2.length := ⟨_, rfl⟩
              rw [← hkk] at hal4 hb2 ⊢
              have hex2 := Sc.ext_B s (i + 2) kk a2 (by rw [show kk - (i + 2) = a2.length by omega]; exact ha2)
              have hslc2 : ∀ W, (Instr.sliceAt 9 (.string s) (some (.int .i64 ((i : Int) + 2))) (some (.int .i64 (kk : Int))) none).run Tryz.prog W = .ok (.string (Wp.B a2)) W := fun W => by
                rw [run_sliceAt_string (h := Tryz.underlying9), run_slice_string (h := Tryz.underlying9) (h0 := by omega) (h1 := by omega) (h2 := by omega), ← hex2]
                rfl
              have hkk0 : ¬ (kk : Int) < 0 := by omega
              have htg := fun W => refTag_any (Wp.B a2) W (by rw [Wp.B_size]; omega)
              rw [Wp.B_data] at htg
              obtain ⟨o, ho⟩ : ∃ o, Sc.tagP a2 = o := ⟨_, rfl⟩
              rw [ho] at htg
              have HC3 := Lib.hid htg
              have Ho := Lib.hid ho
              have Hb2 := Lib.hid hb2
              have hik : i + 2 ≤ kk := by omega
              clear htg ho hfi2 ha2 hb2 hex2 hkk
              go_wp2_with fail
              refine (HC3.out _).mono ?_
              rintro e w4 ⟨k4, t4, pn4, nn4, cn4, rfl, hoff, hb⟩
              have hal := (Below.refl w4.heap.size w4).alloc (Nat.le_refl _) (.cells #[.int .u8 k4, .string t4, .slice pn4 nn4 cn4] 110)
              have h34 := hb.trans (hal.mono hb.size)
              have HB4 := Lib.hid (HB2.out.trans (h34.mono HB2.out.size))
              have H34 := Lib.hid h34
              have HV4 := Lib.hid (Vl.new w4 (.cells #[.int .u8 k4, .string t4, .slice pn4 nn4 cn4] 110))
              have Hoff := Lib.hid (fun y h => (fun W' hW' => hoff y h W' (fun j q1 q2 q3 => (hW' j q1 (Nat.lt_of_lt_of_le q2 hal.size) q3).trans (hal.block j q2)) : Sc.Off _ (w4.alloc (.cells #[.int .u8 k4, .string t4, .slice pn4 nn4 cn4] 110)) none (.agg #[.int .u8 k4, .string t4, .slice pn4 nn4 cn4]) y))
              clear hal h34 hoff hb HC3 hslc2
              go_upto_region 16 with fail
              generalize (w4.alloc (.cells #[.int .u8 k4, .string t4, .slice pn4 nn4 cn4] 110)) = W4 at *
              cases o with
              | none =>
                have HRz := Lib.hid (Sc.ans_bad HE.out Hc1.out Hc2.out (Or.inr Ho.out))
                go_wp2_with fail
                have hR := HRz.out
                subst hR
                go_ret2
                exact ⟨_, rfl, Sc.OwnRow.nil _ _, HB4.out⟩
              | some y =>
                have HEn := Lib.hid (show Sc.Ans R (L2 ++ [y]) (Sc.toksP f b2) by
                  have := Sc.ans_go HE.out Hc1.out Hc2.out Ho.out
                  rw [← HL.out] at this
                  exact this)
                have Hoy := Lib.hid (Hoff.out y rfl)
                obtain ⟨v0, v1, v2⟩ := Sc.three_of HV4.out
                clear Hoff HE
                obtain ⟨cs9, g91, g92, g93⟩ := HS2.out
                have HO9 := Lib.hid g91
                have HG9 := Lib.hid g93
                have HO9' := Lib.hid ((ownsRow_below HO9.out H34.out).alloc (.cells #[.int .u8 k4, .string t4, .slice pn4 nn4 cn4] 110))
                have HB9 := Lib.hid ((HB2.out.trans (H34.out.mono HB2.out.size)).alloc (by have := HB2.out.size; have := H34.out.size; omega) (.cells #[.int .u8 k4, .string t4, .slice pn4 nn4 cn4] 110))
                have Hnew := Lib.hid (Sc.three_of (Vl.new W4 (.cells #[.int .u8 k4, .string t4, .slice pn4 nn4 cn4] 110)))
                have Hn9 := Lib.hid (show ∀ j q, ([.int .u8 k4, .string t4, .slice pn4 nn4 cn4] : List Value)[j]? = some q → (W4.alloc (.cells #[.int .u8 k4, .string t4, .slice pn4 nn4 cn4] 110)).cell? ((⟨W4.heap.size, 0, none⟩ : Addr).add j) = some q from fun j q hq => by
                  obtain ⟨n0, n1, n2⟩ := Hnew.out
                  match j, hq with
                  | 0, hq => cases hq; exact n0
                  | 1, hq => cases hq; exact n1
                  | 2, hq => cases hq; exact n2
                  | j + 3, hq => simp at hq)
                clear g91 g92 g93 Hnew
                obtain ⟨i0, hi, hz0, hz1, hz2⟩ := Sc.infoTok
                go_wp2_with (at_builtin; refine Vl.listApp _ rfl _ _ 104 rfl w.heap.size 110 i0 _ 3 48 Tryz.underlying104 hi hz0 hz1 hz2 rfl (by decide) _ L2.length _ rfl HO9'.out ⟨W4.heap.size, 0, none⟩ 1 1 [.int .u8 k4, .string t4, .slice pn4 nn4 cn4] rfl rfl ?cec1 ?cec2 ?cec3 ?cec4 ?cec5 ?_)
                try case cec1 => exact Hn9.out
                case cec2 => first | (intro q hq; simp at hq; rcases hq with rfl | rfl | rfl <;> rfl) | (simp [Value.oneCell'])
                case cec3 => unfold maxLen; omega
                case cec4 => omega
                case cec5 => first | exact HB9.out.size | (have := HB9.out.size; rw [World.size_alloc] at this; exact this)
                intro v9 W9 hown9 hgrow9 hat9
                have HB5 := Lib.hid (below_grown5 HB9.out HO9'.out (Nat.le_refl _) hgrow9)
                have HS5 := Lib.hid (show Sc.OwnRow w.heap.size W9 v9 (L2 ++ [y]).length (L2 ++ [y]) by
                  have := Sc.OwnRow.grow (y := y) rfl HO9.out HG9.out HB2.out.size H34.out rfl Hoy.out _ hown9 hgrow9 hat9
                  rwa [List.length_append])
                clear hown9 hgrow9 hat9 HO9 HG9 HO9' HB9 Hn9 hi hz0 hz1 hz2
                go_wp2_with fail
                exact ⟨⟨kk + 2, f - 1, L2 ++ [y], by omega, by go_num, by omega, by rw [List.length_append]; simp; omega, HS5, HB5, Lib.hid (by have := HEn.out; rw [show f - 1 + 1 = f by omega, ← Hb2.out]; exact this)⟩, by simp [intOf]; omega⟩
          · have hlen1 : 1 ≤ a.length := by cases a with | nil => exact absurd rfl hane | cons x y => simp
            have hni : (pos : Int) < (i : Int) := by omega
            have HA := Lib.hid (show Sc.pre a = [⟨1, Wp.B a, []⟩] by unfold Sc.pre; rw [if_neg hane])
            have hex := Sc.ext_B s pos i a (by rw [show i - pos = a.length by omega]; exact ha)
            have hslc : ∀ W, (Instr.sliceAt 9 (.string s) (some (.int .i64 (pos : Int))) (some (.int .i64 (i : Int))) none).run Tryz.prog W = .ok (.string (Wp.B a)) W := fun W => by
              rw [run_sliceAt_string (h := Tryz.underlying9), run_slice_string (h := Tryz.underlying9) (h0 := by omega) (h1 := by omega) (h2 := by omega), ← hex]
              rfl
            have Hzs := Lib.hid (show (Wp.B a).size ≤ 140737488351232 by rw [Wp.B_size]; omega)
            clear hane ha hi hex
            go_wp2_with fail
            refine HF1.out.mono ?_
            rintro e W1 ⟨rfl, rfl⟩
            clear HF1
            obtain ⟨cs9, g91, g92, g93⟩ := HS.out
            have HO9 := Lib.hid g91
            have HG9 := Lib.hid g93
            have HO9' := Lib.hid (HO9.out.alloc (.cells #[.int .u8 1, .string (Wp.B a), .slice none 0 0] 110))
            have HB9 := Lib.hid (HB.out.alloc HB.out.size (.cells #[.int .u8 1, .string (Wp.B a), .slice none 0 0] 110))
            have Hnew := Lib.hid (Sc.three_of (Vl.new W1 (.cells #[.int .u8 1, .string (Wp.B a), .slice none 0 0] 110)))
            have Hn9 := Lib.hid (show ∀ j q, ([.int .u8 1, .string (Wp.B a), .slice none 0 0] : List Value)[j]? = some q → (W1.alloc (.cells #[.int .u8 1, .string (Wp.B a), .slice none 0 0] 110)).cell? ((⟨W1.heap.size, 0, none⟩ : Addr).add j) = some q from fun j q hq => by
              obtain ⟨n0, n1, n2⟩ := Hnew.out
              match j, hq with
              | 0, hq => cases hq; exact n0
              | 1, hq => cases hq; exact n1
              | 2, hq => cases hq; exact n2
              | j + 3, hq => simp at hq)
            clear g91 g92 g93 Hnew
            obtain ⟨i0, hi, hz0, hz1, hz2⟩ := Sc.infoTok
            go_wp2_with (at_builtin; refine Vl.listApp _ rfl _ _ 104 rfl w.heap.size 110 i0 _ 3 48 Tryz.underlying104 hi hz0 hz1 hz2 rfl (by decide) _ acc.length _ rfl HO9'.out ⟨W1.heap.size, 0, none⟩ 1 1 [.int .u8 1, .string (Wp.B a), .slice none 0 0] rfl rfl ?cpd1 ?cpd2 ?cpd3 ?cpd4 ?cpd5 ?_)
            try case cpd1 => exact Hn9.out
            case cpd2 => first | (intro q hq; simp at hq; rcases hq with rfl | rfl | rfl <;> rfl) | (simp [Value.oneCell'])
            case cpd3 => unfold maxLen; omega
            case cpd4 => omega
            case cpd5 => first | exact HB9.out.size | (have := HB9.out.size; rw [World.size_alloc] at this; exact this)
            intro v9 W9 hown9 hgrow9 hat9
            have HB2 := Lib.hid (below_grown5 HB9.out HO9'.out (Nat.le_refl _) hgrow9)
            have HS2 := Lib.hid (show Sc.OwnRow w.heap.size W9 v9 (acc ++ [(⟨1, Wp.B a, []⟩ : Sc.T)]).length (acc ++ [(⟨1, Wp.B a, []⟩ : Sc.T)]) by
              have := Sc.OwnRow.grow (y := (⟨1, Wp.B a, []⟩ : Sc.T)) rfl HO9.out HG9.out HB.out.size (Below.refl _ _) rfl (Sc.Off.text _ _ _ _ Hzs.out) _ hown9 hgrow9 hat9
              rwa [List.length_append])
            clear hown9 hgrow9 hat9 HO9 HG9 HO9' HB9 Hn9 hi hz0 hz1 hz2 hslc
            obtain ⟨L2, hL2⟩ : ∃ L2, L2 = acc ++ Sc.pre a := ⟨_, rfl⟩
            have HL := Lib.hid hL2
            rw [← HA.out, ← hL2] at HS2
            have hl2 : L2.length ≤ i := by rw [hL2, HA.out, List.length_append]; simp; omega
            clear hL2
            go_wp2_with fail
            refine (HF2.out _).mono ?_
            rintro e W2 ⟨rfl, rfl⟩
            clear HF2
            cases f2 with
            | false =>
              have hfi2 := (Hcf2.out.1 rfl).1
              rw [hfi2]
              have HRz := Lib.hid (Sc.ans_bad HE.out Hc1.out Hc2.out (Or.inl rfl))
              clear hfi2
              go_wp2_with fail
              have hR := HRz.out
              subst hR
              go_ret2
              exact ⟨_, rfl, Sc.OwnRow.nil _ _, HB2.out⟩
            | true =>
              obtain ⟨hfi2, hal4, ha2, hb2⟩ := Hcf2.out.2 rfl
              rw [hfi2]
              obtain ⟨kk, hkk⟩ : ∃ kk, kk = i + 2 + a2.length := ⟨_, rfl⟩
              rw [← hkk] at hal4 hb2 ⊢
              have hex2 := Sc.ext_B s (i + 2) kk a2 (by rw [show kk - (i + 2) = a2.length by omega]; exact ha2)
              have hslc2 : ∀ W, (Instr.sliceAt 9 (.string s) (some (.int .i64 ((i : Int) + 2))) (some (.int .i64 (kk : Int))) none).run Tryz.prog W = .ok (.string (Wp.B a2)) W := fun W => by
                rw [run_sliceAt_string (h := Tryz.underlying9), run_slice_string (h := Tryz.underlying9) (h0 := by omega) (h1 := by omega) (h2 := by omega), ← hex2]
                rfl
              have hkk0 : ¬ (kk : Int) < 0 := by omega
              have htg := fun W => refTag_any (Wp.B a2) W (by rw [Wp.B_size]; omega)
              rw [Wp.B_data] at htg
              obtain ⟨o, ho⟩ : ∃ o, Sc.tagP a2 = o := ⟨_, rfl⟩
              rw [ho] at htg
              have HC3 := Lib.hid htg
              have Ho := Lib.hid ho
              have Hb2 := Lib.hid hb2
              have hik : i + 2 ≤ kk := by omega
              clear htg ho hfi2 ha2 hb2 hex2 hkk
              go_wp2_with fail
              refine (HC3.out _).mono ?_
              rintro e w4 ⟨k4, t4, pn4, nn4, cn4, rfl, hoff, hb⟩
              have hal := (Below.refl w4.heap.size w4).alloc (Nat.le_refl _) (.cells #[.int .u8 k4, .string t4, .slice pn4 nn4 cn4] 110)
              have h34 := hb.trans (hal.mono hb.size)
              have HB4 := Lib.hid (HB2.out.trans (h34.mono HB2.out.size))
              have H34 := Lib.hid h34
              have HV4 := Lib.hid (Vl.new w4 (.cells #[.int .u8 k4, .string t4, .slice pn4 nn4 cn4] 110))
              have Hoff := Lib.hid (fun y h => (fun W' hW' => hoff y h W' (fun j q1 q2 q3 => (hW' j q1 (Nat.lt_of_lt_of_le q2 hal.size) q3).trans (hal.block j q2)) : Sc.Off _ (w4.alloc (.cells #[.int .u8 k4, .string t4, .slice pn4 nn4 cn4] 110)) none (.agg #[.int .u8 k4, .string t4, .slice pn4 nn4 cn4]) y))
              clear hal h34 hoff hb HC3 hslc2
              go_upto_region 16 with fail
              generalize (w4.alloc (.cells #[.int .u8 k4, .string t4, .slice pn4 nn4 cn4] 110)) = W4 at *
              cases o with
              | none =>
                have HRz := Lib.hid (Sc.ans_bad HE.out Hc1.out Hc2.out (Or.inr Ho.out))
                go_wp2_with fail
                have hR := HRz.out
                subst hR
                go_ret2
                exact ⟨_, rfl, Sc.OwnRow.nil _ _, HB4.out⟩
              | some y =>
                have HEn := Lib.hid (show Sc.Ans R (L2 ++ [y]) (Sc.toksP f b2) by
                  have := Sc.ans_go HE.out Hc1.out Hc2.out Ho.out
                  rw [← HL.out] at this
                  exact this)
                have Hoy := Lib.hid (Hoff.out y rfl)
                obtain ⟨v0, v1, v2⟩ := Sc.three_of HV4.out
                clear Hoff HE
                obtain ⟨cs9, g91, g92, g93⟩ := HS2.out
                have HO9 := Lib.hid g91
                have HG9 := Lib.hid g93
                have HO9' := Lib.hid ((ownsRow_below HO9.out H34.out).alloc (.cells #[.int .u8 k4, .string t4, .slice pn4 nn4 cn4] 110))
                have HB9 := Lib.hid ((HB2.out.trans (H34.out.mono HB2.out.size)).alloc (by have := HB2.out.size; have := H34.out.size; omega) (.cells #[.int .u8 k4, .string t4, .slice pn4 nn4 cn4] 110))
                have Hnew := Lib.hid (Sc.three_of (Vl.new W4 (.cells #[.int .u8 k4, .string t4, .slice pn4 nn4 cn4] 110)))
                have Hn9 := Lib.hid (show ∀ j q, ([.int .u8 k4, .string t4, .slice pn4 nn4 cn4] : List Value)[j]? = some q → (W4.alloc (.cells #[.int .u8 k4, .string t4, .slice pn4 nn4 cn4] 110)).cell? ((⟨W4.heap.size, 0, none⟩ : Addr).add j) = some q from fun j q hq => by
                  obtain ⟨n0, n1, n2⟩ := Hnew.out
                  match j, hq with
                  | 0, hq => cases hq; exact n0
                  | 1, hq => cases hq; exact n1
                  | 2, hq => cases hq; exact n2
                  | j + 3, hq => simp at hq)
                clear g91 g92 g93 Hnew
                obtain ⟨i0, hi, hz0, hz1, hz2⟩ := Sc.infoTok
                go_wp2_with (at_builtin; refine Vl.listApp _ rfl _ _ 104 rfl w.heap.size 110 i0 _ 3 48 Tryz.underlying104 hi hz0 hz1 hz2 rfl (by decide) _ L2.length _ rfl HO9'.out ⟨W4.heap.size, 0, none⟩ 1 1 [.int .u8 k4, .string t4, .slice pn4 nn4 cn4] rfl rfl ?cee1 ?cee2 ?cee3 ?cee4 ?cee5 ?_)
                try case cee1 => exact Hn9.out
                case cee2 => first | (intro q hq; simp at hq; rcases hq with rfl | rfl | rfl <;> rfl) | (simp [Value.oneCell'])
                case cee3 => unfold maxLen; omega
                case cee4 => omega
                case cee5 => first | exact HB9.out.size | (have := HB9.out.size; rw [World.size_alloc] at this; exact this)
                intro v9 W9 hown9 hgrow9 hat9
                have HB5 := Lib.hid (below_grown5 HB9.out HO9'.out (Nat.le_refl _) hgrow9)
                have HS5 := Lib.hid (show Sc.OwnRow w.heap.size W9 v9 (L2 ++ [y]).length (L2 ++ [y]) by
                  have := Sc.OwnRow.grow (y := y) rfl HO9.out HG9.out HB2.out.size H34.out rfl Hoy.out _ hown9 hgrow9 hat9
                  rwa [List.length_append])
                clear hown9 hgrow9 hat9 HO9 HG9 HO9' HB9 Hn9 hi hz0 hz1 hz2
                go_wp2_with fail
                exact ⟨⟨kk + 2, f - 1, L2 ++ [y], by omega, by go_num, by omega, by rw [List.length_append]; simp; omega, HS5, HB5, Lib.hid (by have := HEn.out; rw [show f - 1 + 1 = f by omega, ← Hb2.out]; exact this)⟩, by simp [intOf]; omega⟩
      · obtain rfl : pos = s.size := by omega
        have hp0 : ¬ (s.size : Int) < (s.size : Int) := by omega
        have hnil : s.data.toList.drop s.size = [] := by rw [HSl.out, List.drop_length]
        have HRz := Lib.hid (show R = (acc, 0) by
          have h2 := Sc.ans_end (a := []) (b := []) HE.out (by rw [hnil]; rfl)
          rw [h2]
          simp [Sc.pre])
        clear hcf hal hnil
        go_wp2_with fail
        have hR := HRz.out
        subst hR
        go_ret2
        exact ⟨_, rfl, HS.out, HB.out⟩
end Go.Proofs.YteiccjakaabfnaaGreatDoor
