/-
  The walk of the document's own search of quiet hours (bellmanref08: first, Free, Busy). Condition: the week's list is of a size that a machine holds.
-/
import Derived.Test.YtpaleljnkejdgaaGreatDoorRQtSmall
namespace Go.Proofs.YtpaleljnkejdgaaGreatDoor
open Go.RowKit Go.Lib Go.Shelf

theorem Qt.rem_ok (s : Int) (h1 : -62135596800 ≤ s) (h2 : s ≤ 253402300800) : Int.tmod (Int.tmod s 60 + 60) 60 = s % 60 := by
  have h3 : Int.tmod s 60 = if 0 ≤ s then s % 60 else -((-s) % 60) := by
    by_cases h : 0 ≤ s
    · rw [if_pos h, Int.tmod_eq_emod_of_nonneg h]
    · rw [if_neg h, ← Int.tmod_eq_emod_of_nonneg (show 0 ≤ -s by omega), Int.neg_tmod, Int.neg_neg]
  have h4 : 0 ≤ Int.tmod s 60 + 60 := by rw [h3]; split <;> omega
  rw [Int.tmod_eq_emod_of_nonneg h4, h3]
  split <;> omega
theorem Qt.rem_ok2 (s : Int) (h1 : -62135596800 ≤ s) (h2 : s ≤ 253402300800) : RowKit.wrap64 (s + RowKit.wrap64 (60 - (RowKit.wrap64 (Int.tmod s 60 + 60)).tmod 60)) = s + (60 - s % 60) := by
  have h := Qt.rem_ok s h1 h2
  have h3 : Int.tmod s 60 = if 0 ≤ s then s % 60 else -((-s) % 60) := by
    by_cases h : 0 ≤ s
    · rw [if_pos h, Int.tmod_eq_emod_of_nonneg h]
    · rw [if_neg h, ← Int.tmod_eq_emod_of_nonneg (show 0 ≤ -s by omega), Int.neg_tmod, Int.neg_neg]
  have b1 : -60 < Int.tmod s 60 ∧ Int.tmod s 60 < 60 := by rw [h3]; split <;> omega
  rw [show RowKit.wrap64 (Int.tmod s 60 + 60) = Int.tmod s 60 + 60 by unfold RowKit.wrap64; omega, h, show RowKit.wrap64 (60 - s % 60) = 60 - s % 60 by unfold RowKit.wrap64; omega]
  unfold RowKit.wrap64
  omega
set_option maxHeartbeats 4000000 in
set_option maxRecDepth 100000 in
theorem rqt_first (z : Wp.Zn) (l : List (Int × Int)) (p : Option Addr) (c : Nat) (t : Int) (b : Bool) (w : World) (hA : Wk.At w p l) (hn : l.length ≤ 140737488351232) :
    Calls Tryz.prog 27 #[.agg (Qt.hC z p l.length c), .int .i64 t, .bool b] w (Qt.SrQPost z l t b w) := by
  have A1 := Lib.hid (fun w1 (h : Below w.heap.size w w1) => rqt_Check z l p c w1 (hA.below h) hn)
  have A2 := Lib.hid (fun s w => rciv_Is s w)
  have HK := Lib.hid (show Qt.chk2 z l t = if Qt.chk z l = 0 then (if Wp.isT t = true then 0 else 1) else 2 from rfl)
  have HQ := Lib.hid (show ∀ r c, Qt.SrQ z l t b r c → ∀ w', Below w.heap.size w w' → Qt.SrQPost z l t b w (.returned (.tuple #[.int .i64 r, .int .i64 c])) w' from fun r c h w' hb => ⟨r, c, rfl, h, hb⟩)
  rcases Qt.chk_vals z l with ⟨h1, hz, ho⟩ | h1
  · rw [h1] at A1
    cases ht : Wp.isT t with
    | true =>
    have hk2 := HK.out.trans ((if_pos h1).trans (if_pos ht))
    have A3 := Lib.hid (fun w1 (h : Below w.heap.size w w1) => ref_Sum l p c w1 (hA.below h) hn)
    rw [show Wk.sumR l = Wk.sum l from if_pos ho] at A3
    have HNone := Lib.hid (Qt.none_iff ho b)
    have HNo := Lib.hid (fun hv => HQ.out 0 3 (Or.inr (Or.inl ⟨hk2, hv, rfl, rfl⟩)))
    have A4 := Lib.hid (show ∀ w1, Below w.heap.size w w1 → Calls Tryz.prog 25 #[.slice p l.length c] w1 (fun e w' => ∃ v, e = .returned v ∧ Wk.Bits w' w1.heap.size v (Wk.has l) ∧ Below w1.heap.size w1 w') from fun w1 h => ref_Minutes l p c w1 (hA.below h) ho)
    have A5 := Lib.hid (fun s w (hs : Wp.isT s = true) => by
      have h := rzon_Offset z s w
      rw [show Wp.offR z s = (Wp.ofs z s, 0) from if_pos (Wp.chk2R_mk hz hs)] at h
      exact h)
    have A6 := Lib.hid (show ∀ s w, Wp.isT s = true → Calls Tryz.prog 50 #[.agg (Wp.zoneC z), .int .i64 s] w (fun e w' => ∃ n r, e = .returned (.tuple #[.int .i64 n, .int .i64 r]) ∧ ((r = 0 ∧ s < n ∧ n ≤ 253402300800 ∧ ∀ u, s ≤ u → u < n → Wp.ofs z u = Wp.ofs z s) ∨ (r = 3 ∧ ∀ u, s ≤ u → u < 253402300800 → Wp.ofs z u = Wp.ofs z s)) ∧ Below w.heap.size w w') from fun s w hs => (rzon_Next z s w).mono fun e w' ⟨n, r, h1, h2, h3⟩ => ⟨n, r, h1, Qt.next_cases hz hs h2, h3⟩)
    have A7 := Lib.hid (fun s w => rciv_Week s w)
    have HOb := Lib.hid (fun s => Qt.ofs_bd hz s)
    have HE := Lib.hid (fun s => Qt.at_eq z l s)
    have HStart := Lib.hid (Qt.RQ.start (z := z) (l := l) (b := b) ht)
    have HOn := Lib.hid (fun i s n un (h : Qt.RQ z l b t i s n un) hs ha => h.on hz hs ha)
    have HFew := Lib.hid (fun i s n un hv (h : Qt.RQ z l b t i s n un) => h.few hz ho hv ht)
    have HHit := Lib.hid (fun i s n un hv (h : Qt.RQ z l b t i s n un) hs ha => h.hit hk2 hv hs ha)
    have HOut := Lib.hid (fun i s n un hv (h : Qt.RQ z l b t i s n un) hs => h.out hk2 hv ht hs)
    have HCut := Lib.hid (show ∀ i s n un n2 un2, Qt.RQ z l b t i s n un → (∀ u, s ≤ u → u < un2 → Wp.ofs z u = n2) → Qt.RQ z l b t i s n2 un2 from fun i s n un n2 un2 h h2 => ⟨h.a1, h.a2, h.a3, h.a4, h.no, h2⟩)
    have HLim := Lib.hid (fun i s n un (h : Qt.RQ z l b t i s n un) => show t ≤ s ∧ s ≤ 253402300800 from ⟨h.a1, h.a2⟩)
    have HOf := Lib.hid (fun i s n un (h : Qt.RQ z l b t i s n un) (h2 : s < un) => h.of s (Int.le_refl _) h2)
    have A2t := Lib.hid (fun w => by have h := rciv_Is t w; rw [ht] at h; exact h)
    obtain ⟨s1, s2⟩ := Wk.sum_bd ho.2 (by omega) (by omega)
    obtain ⟨t1, t2⟩ := Qt.isT_iff.1 ht
    clear h1 hz ho ht hA hn HK hk2
    generalize Wk.sum l = sm at *
    generalize Wk.chk l = ck at *
    generalize Qt.RQ z l b t = RQ at *
    generalize Qt.SrQ z l t b = SQ at *
    generalize Qt.at_ z l = at0 at *
    generalize Wp.ofs z = ofs at *
    generalize Wk.has l = hs at *
    generalize Wk.nextV l b = NV at *
    generalize l.length = n at *
    unfold Qt.hC at A1 ⊢
    obtain ⟨base, save, ⟨fm, fn, fw, fi⟩, ⟨tm, tn, tw, ti⟩⟩ := z
    unfold Wp.zoneC at A1 A5 A6 ⊢
    simp only [List.push_toArray, List.cons_append, List.nil_append] at A1 A5 A6 ⊢
    have X0 := Lib.hid (wk_new w (.cells #[.int .i64 base, .int .i64 save, .int .i64 fm, .int .i64 fn, .int .i64 fw, .int .i64 fi, .int .i64 tm, .int .i64 tn, .int .i64 tw, .int .i64 ti, .slice p n c] 28))
    have B0 := Lib.hid (wk_box w (.cells #[.int .i64 base, .int .i64 save, .int .i64 fm, .int .i64 fn, .int .i64 fw, .int .i64 fi, .int .i64 tm, .int .i64 tn, .int .i64 tw, .int .i64 ti, .slice p n c] 28))
    go_enter Tryz.func27, Tryz.ntmps27
    go_wp2_with fail
    refine (A1.out _ B0.out).mono ?_
    rintro e w1 ⟨rfl, hb⟩
    have B1 := Lib.hid (wk_then B0.out hb B0.out.size)
    have X1 := Lib.hid ((hb.block w.heap.size (Qt.lt_of X0.out)).trans X0.out)
    clear hb
    go_wp2_with fail
    refine (A2t.out _).mono ?_
    rintro e w2 ⟨rfl, rfl⟩
    obtain ⟨c0, c1, c2, c3, c4, c5, c6, c7, c8, c9, c10⟩ := Qt.eleven_of X1.out
    go_wp2_with fail
    refine (A3.out _ B1.out).mono ?_
    rintro e w3 ⟨rfl, hb⟩
    have B3 := Lib.hid (wk_then B1.out hb B1.out.size)
    have X3 := Lib.hid ((hb.block w.heap.size (Qt.lt_of X1.out)).trans X1.out)
    clear hb X0 X1 B0 B1 c0 c1 c2 c3 c4 c5 c6 c7 c8 c9 c10 A1 A2t A3
    by_cases hv : NV = []
    · have HR := Lib.hid (HNo.out hv)
      rcases HNone.out.1 hv with ⟨rfl, rfl⟩ | ⟨rfl, rfl⟩
      all_goals
        clear HNone HNo hv HFew HHit HOut HCut HOn HStart HE HOf HLim
        go_wp2_with fail
        go_ret2
        exact HR.out _ B3.out
    · have HF := Lib.hid (fun i s n un h => HFew.out i s n un hv h)
      have HH := Lib.hid (fun i s n un h h2 h3 => HQ.out _ _ (HHit.out i s n un hv h h2 h3))
      have HO := Lib.hid (fun i s n un h h2 => HQ.out _ _ (HOut.out i s n un hv h h2))
      have hcase : (b = true ∧ (sm == 0) = false) ∨ (b = false ∧ (sm == 10080) = false) := by
        cases b with
        | true => exact Or.inl ⟨rfl, by
            by_cases e : sm = 0
            · exact absurd (HNone.out.2 (Or.inl ⟨rfl, e⟩)) hv
            · simpa using e⟩
        | false => exact Or.inr ⟨rfl, by
            by_cases e : sm = 10080
            · exact absurd (HNone.out.2 (Or.inr ⟨rfl, e⟩)) hv
            · simpa using e⟩
      clear HNone HNo hv HFew HHit HOut HQ
      rcases hcase with ⟨rfl, hsm⟩ | ⟨rfl, hsm⟩
      · obtain ⟨c0, c1, c2, c3, c4, c5, c6, c7, c8, c9, c10⟩ := Qt.eleven_of X3.out
        go_wp2_with fail
        refine (A4.out _ B3.out).mono ?_
        rintro e w4 ⟨v, rfl, hbits, hb⟩
        have B4 := Lib.hid (wk_then B3.out hb B3.out.size)
        have X4 := Lib.hid ((hb.block w.heap.size (Qt.lt_of X3.out)).trans X3.out)
        obtain ⟨g, cap, rfl, _, hgl⟩ := hbits.form
        have HV := Lib.hid hbits
        have HG := Lib.hid hgl
        clear hb hbits hgl A4 X3 B3 c0 c1 c2 c3 c4 c5 c6 c7 c8 c9 c10 hsm
        go_wp2_with fail
        go_loopw [1, 11, 12, 13] (fun sv nv uv iv wr => ∃ (i : Nat) (s n1 un : Int), sv = .int .i64 s ∧ nv = .int .i64 n1 ∧ uv = .int .i64 un ∧ iv = .int .i64 i ∧ Hid (RQ i s n1 un) ∧ -1100 ≤ n1 ∧ n1 ≤ 1100 ∧ i ≤ 40320 ∧ Below w4.heap.size w4 wr) (fun _ _ _ iv _ => (40320 - intOf iv).toNat)
        case atStart => exact ⟨0, t, 0, t, rfl, rfl, rfl, rfl, HStart, by omega, by omega, by omega, Below.refl _ _⟩
        case round =>
          obtain ⟨i, s, n1, un, rfl, rfl, rfl, rfl, HR, hn1, hn2, hi, hB⟩ := hrel
          have hi2 := HF.out i s n1 un HR.out
          obtain ⟨l1, l2⟩ := HLim.out i s n1 un HR.out
          have hi3 : (i : Int) < 40320 := by omega
          have hi0 : (0 : Int) ≤ (i : Int) := by omega
          have BR := Lib.hid hB
          have XR := Lib.hid ((hB.block w.heap.size (Qt.lt_of X4.out)).trans X4.out)
          have SR := hB.size
          clear hB
          have A2s := Lib.hid (fun w => A2.out s w)
          cases hT : Wp.isT s with
          | false =>
            rw [hT] at A2s
            have HFin := Lib.hid (HO.out i s n1 un HR.out hT)
            clear hT
            go_wp2_with fail
            refine (A2s.out _).mono ?_
            rintro e w5 ⟨rfl, rfl⟩
            go_wp2_with fail
            go_ret2
            exact HFin.out _ (wk_then B4.out BR.out B4.out.size)
          | true =>
            rw [hT] at A2s
            have HT := Lib.hid hT
            have hs1 := Qt.isT_iff.1 hT
            obtain ⟨hs1, hs2⟩ := hs1
            have HRem := Lib.hid (Qt.rem_ok2 s hs1 l2)
            clear hT
            by_cases hu : un ≤ s
            · have A5s := Lib.hid (fun w => A5.out s w HT.out)
              have A6s := Lib.hid (fun w => A6.out s w HT.out)
              obtain ⟨o1, o2⟩ := HOb.out s
              obtain ⟨no, hno⟩ : ∃ no, no = ofs s := ⟨_, rfl⟩
              rw [← hno] at A5s A6s o1 o2
              have HNO := Lib.hid hno
              clear hno
              obtain ⟨c0, c1, c2, c3, c4, c5, c6, c7, c8, c9, c10⟩ := Qt.eleven_of XR.out
              go_wp2_with fail
              refine (A2s.out _).mono ?_
              rintro e w5 ⟨rfl, rfl⟩
              go_wp2_with fail
              refine (A5s.out _).mono ?_
              rintro e w6 ⟨rfl, hb⟩
              have B6 := Lib.hid (wk_then BR.out hb SR)
              have X6 := Lib.hid ((hb.block w.heap.size (Qt.lt_of XR.out)).trans XR.out)
              clear hb c0 c1 c2 c3 c4 c5 c6 c7 c8 c9 c10
              obtain ⟨c0, c1, c2, c3, c4, c5, c6, c7, c8, c9, c10⟩ := Qt.eleven_of X6.out
              go_wp2_with fail
              refine (A6s.out _).mono ?_
              rintro e w7 ⟨x, r, rfl, hx, hb⟩
              have B7 := Lib.hid (wk_then B6.out hb B6.out.size)
              clear hb c0 c1 c2 c3 c4 c5 c6 c7 c8 c9 c10
              rcases hx with ⟨rfl, x1, x2, x3⟩ | ⟨rfl, x3⟩
              · have HR2 := Lib.hid (HCut.out i s n1 un no x HR.out (fun u h1 h2 => (x3 u h1 h2)))
                clear x3
                go_wp2_with fail
                have B8 := Lib.hid (B7.out)
                have A7s := Lib.hid (fun w => A7.out (s + 60 * no) w)
                rw [Qt.week_of] at A7s
                have HEs := HE.out s
                rw [← HNO.out] at HEs
                have hw := Qt.weekD_bd (s + 60 * no)
                generalize Wp.weekD (s + 60 * no) = k at *
                obtain ⟨kk, rfl⟩ : ∃ kk : Nat, k = (kk : Int) := ⟨k.toNat, by omega⟩
                have hk0 : (0 : Int) ≤ (kk : Int) := by omega
                have hk1 : (kk : Int) < 10080 := by omega
                cases hL : Wp.isT (s + 60 * no) with
                | true =>
                  rw [if_pos hL] at A7s
                  rw [hL, Bool.true_and] at HEs
                  have HC := Lib.hid (HV.out.cell kk (by omega)).1
                  rw [← HEs] at HC
                  clear hL HEs
                  refine (A7s.out _).mono ?_
                  rintro e w9 ⟨rfl, hb⟩
                  have B9 := Lib.hid (wk_then B8.out hb B8.out.size)
                  have hc9 := (B9.out.cell (p := ⟨g, kk, none⟩) HG.out).trans HC.out
                  clear hb
                  cases ha : at0 s with
                  | true =>
                    rw [ha] at hc9
                    have HFin := Lib.hid (HH.out i s no x HR2.out HT.out ha)
                    clear ha HC
                    go_wp2_with fail
                    go_ret2
                    exact HFin.out _ (wk_then B4.out B9.out B4.out.size)
                  | false =>
                    rw [ha] at hc9
                    have HR3 := Lib.hid (HOn.out i s no x HR2.out HT.out (by rw [ha]; rfl))
                    clear ha HC
                    go_wp2_with fail
                    exact ⟨⟨i + 1, s + (60 - s % 60), no, x, by rw [HRem.out], rfl, rfl, by go_num, HR3, by omega, by omega, by omega, B9.out⟩, by simp [intOf]; omega⟩
                | false =>
                  rw [if_neg (by rw [hL]; simp)] at A7s
                  rw [hL, Bool.false_and] at HEs
                  have ha := Lib.hid HEs
                  clear hL HEs
                  refine (A7s.out _).mono ?_
                  rintro e w9 ⟨rfl, hb⟩
                  have B9 := Lib.hid (wk_then B8.out hb B8.out.size)
                  clear hb
                  have HR3 := Lib.hid (HOn.out i s no x HR2.out HT.out (by rw [ha.out]; rfl))
                  go_wp2_with fail
                  exact ⟨⟨i + 1, s + (60 - s % 60), no, x, by rw [HRem.out], rfl, rfl, by go_num, HR3, by omega, by omega, by omega, B9.out⟩, by simp [intOf]; omega⟩
              · have HR2 := Lib.hid (HCut.out i s n1 un no 253402300800 HR.out (fun u h1 h2 => (x3 u h1 h2)))
                clear x3
                go_wp2_with fail
                have B8 := Lib.hid (B7.out)
                have A7s := Lib.hid (fun w => A7.out (s + 60 * no) w)
                rw [Qt.week_of] at A7s
                have HEs := HE.out s
                rw [← HNO.out] at HEs
                have hw := Qt.weekD_bd (s + 60 * no)
                generalize Wp.weekD (s + 60 * no) = k at *
                obtain ⟨kk, rfl⟩ : ∃ kk : Nat, k = (kk : Int) := ⟨k.toNat, by omega⟩
                have hk0 : (0 : Int) ≤ (kk : Int) := by omega
                have hk1 : (kk : Int) < 10080 := by omega
                cases hL : Wp.isT (s + 60 * no) with
                | true =>
                  rw [if_pos hL] at A7s
                  rw [hL, Bool.true_and] at HEs
                  have HC := Lib.hid (HV.out.cell kk (by omega)).1
                  rw [← HEs] at HC
                  clear hL HEs
                  refine (A7s.out _).mono ?_
                  rintro e w9 ⟨rfl, hb⟩
                  have B9 := Lib.hid (wk_then B8.out hb B8.out.size)
                  have hc9 := (B9.out.cell (p := ⟨g, kk, none⟩) HG.out).trans HC.out
                  clear hb
                  cases ha : at0 s with
                  | true =>
                    rw [ha] at hc9
                    have HFin := Lib.hid (HH.out i s no 253402300800 HR2.out HT.out ha)
                    clear ha HC
                    go_wp2_with fail
                    go_ret2
                    exact HFin.out _ (wk_then B4.out B9.out B4.out.size)
                  | false =>
                    rw [ha] at hc9
                    have HR3 := Lib.hid (HOn.out i s no 253402300800 HR2.out HT.out (by rw [ha]; rfl))
                    clear ha HC
                    go_wp2_with fail
                    exact ⟨⟨i + 1, s + (60 - s % 60), no, 253402300800, by rw [HRem.out], rfl, rfl, by go_num, HR3, by omega, by omega, by omega, B9.out⟩, by simp [intOf]; omega⟩
                | false =>
                  rw [if_neg (by rw [hL]; simp)] at A7s
                  rw [hL, Bool.false_and] at HEs
                  have ha := Lib.hid HEs
                  clear hL HEs
                  refine (A7s.out _).mono ?_
                  rintro e w9 ⟨rfl, hb⟩
                  have B9 := Lib.hid (wk_then B8.out hb B8.out.size)
                  clear hb
                  have HR3 := Lib.hid (HOn.out i s no 253402300800 HR2.out HT.out (by rw [ha.out]; rfl))
                  go_wp2_with fail
                  exact ⟨⟨i + 1, s + (60 - s % 60), no, 253402300800, by rw [HRem.out], rfl, rfl, by go_num, HR3, by omega, by omega, by omega, B9.out⟩, by simp [intOf]; omega⟩
            · have HNO := Lib.hid (show n1 = ofs s from (HOf.out i s n1 un HR.out (by omega)).symm)
              have hu2 : s < un := by omega
              have hu3 : decide (un ≤ s) = false := decide_eq_false hu
              have HOx := HOf
              clear HOf HOx
              have HR2 := HR
              clear hu
              go_wp2_with fail
              refine (A2s.out _).mono ?_
              rintro e w5 ⟨rfl, rfl⟩
              go_wp2_with fail
              have B8 := Lib.hid (BR.out)
              have A7s := Lib.hid (fun w => A7.out (s + 60 * n1) w)
              rw [Qt.week_of] at A7s
              have HEs := HE.out s
              rw [← HNO.out] at HEs
              have hw := Qt.weekD_bd (s + 60 * n1)
              generalize Wp.weekD (s + 60 * n1) = k at *
              obtain ⟨kk, rfl⟩ : ∃ kk : Nat, k = (kk : Int) := ⟨k.toNat, by omega⟩
              have hk0 : (0 : Int) ≤ (kk : Int) := by omega
              have hk1 : (kk : Int) < 10080 := by omega
              cases hL : Wp.isT (s + 60 * n1) with
              | true =>
                rw [if_pos hL] at A7s
                rw [hL, Bool.true_and] at HEs
                have HC := Lib.hid (HV.out.cell kk (by omega)).1
                rw [← HEs] at HC
                clear hL HEs
                refine (A7s.out _).mono ?_
                rintro e w9 ⟨rfl, hb⟩
                have B9 := Lib.hid (wk_then B8.out hb B8.out.size)
                have hc9 := (B9.out.cell (p := ⟨g, kk, none⟩) HG.out).trans HC.out
                clear hb
                cases ha : at0 s with
                | true =>
                  rw [ha] at hc9
                  have HFin := Lib.hid (HH.out i s n1 un HR2.out HT.out ha)
                  clear ha HC
                  go_wp2_with fail
                  go_ret2
                  exact HFin.out _ (wk_then B4.out B9.out B4.out.size)
                | false =>
                  rw [ha] at hc9
                  have HR3 := Lib.hid (HOn.out i s n1 un HR2.out HT.out (by rw [ha]; rfl))
                  clear ha HC
                  go_wp2_with fail
                  exact ⟨⟨i + 1, s + (60 - s % 60), n1, un, by rw [HRem.out], rfl, rfl, by go_num, HR3, by omega, by omega, by omega, B9.out⟩, by simp [intOf]; omega⟩
              | false =>
                rw [if_neg (by rw [hL]; simp)] at A7s
                rw [hL, Bool.false_and] at HEs
                have ha := Lib.hid HEs
                clear hL HEs
                refine (A7s.out _).mono ?_
                rintro e w9 ⟨rfl, hb⟩
                have B9 := Lib.hid (wk_then B8.out hb B8.out.size)
                clear hb
                have HR3 := Lib.hid (HOn.out i s n1 un HR2.out HT.out (by rw [ha.out]; rfl))
                go_wp2_with fail
                exact ⟨⟨i + 1, s + (60 - s % 60), n1, un, by rw [HRem.out], rfl, rfl, by go_num, HR3, by omega, by omega, by omega, B9.out⟩, by simp [intOf]; omega⟩
      · obtain ⟨c0, c1, c2, c3, c4, c5, c6, c7, c8, c9, c10⟩ := Qt.eleven_of X3.out
        go_wp2_with fail
        refine (A4.out _ B3.out).mono ?_
        rintro e w4 ⟨v, rfl, hbits, hb⟩
        have B4 := Lib.hid (wk_then B3.out hb B3.out.size)
        have X4 := Lib.hid ((hb.block w.heap.size (Qt.lt_of X3.out)).trans X3.out)
        obtain ⟨g, cap, rfl, _, hgl⟩ := hbits.form
        have HV := Lib.hid hbits
        have HG := Lib.hid hgl
        clear hb hbits hgl A4 X3 B3 c0 c1 c2 c3 c4 c5 c6 c7 c8 c9 c10 hsm
        go_wp2_with fail
        go_loopw [1, 11, 12, 13] (fun sv nv uv iv wr => ∃ (i : Nat) (s n1 un : Int), sv = .int .i64 s ∧ nv = .int .i64 n1 ∧ uv = .int .i64 un ∧ iv = .int .i64 i ∧ Hid (RQ i s n1 un) ∧ -1100 ≤ n1 ∧ n1 ≤ 1100 ∧ i ≤ 40320 ∧ Below w4.heap.size w4 wr) (fun _ _ _ iv _ => (40320 - intOf iv).toNat)
        case atStart => exact ⟨0, t, 0, t, rfl, rfl, rfl, rfl, HStart, by omega, by omega, by omega, Below.refl _ _⟩
        case round =>
          obtain ⟨i, s, n1, un, rfl, rfl, rfl, rfl, HR, hn1, hn2, hi, hB⟩ := hrel
          have hi2 := HF.out i s n1 un HR.out
          obtain ⟨l1, l2⟩ := HLim.out i s n1 un HR.out
          have hi3 : (i : Int) < 40320 := by omega
          have hi0 : (0 : Int) ≤ (i : Int) := by omega
          have BR := Lib.hid hB
          have XR := Lib.hid ((hB.block w.heap.size (Qt.lt_of X4.out)).trans X4.out)
          have SR := hB.size
          clear hB
          have A2s := Lib.hid (fun w => A2.out s w)
          cases hT : Wp.isT s with
          | false =>
            rw [hT] at A2s
            have HFin := Lib.hid (HO.out i s n1 un HR.out hT)
            clear hT
            go_wp2_with fail
            refine (A2s.out _).mono ?_
            rintro e w5 ⟨rfl, rfl⟩
            go_wp2_with fail
            go_ret2
            exact HFin.out _ (wk_then B4.out BR.out B4.out.size)
          | true =>
            rw [hT] at A2s
            have HT := Lib.hid hT
            have hs1 := Qt.isT_iff.1 hT
            obtain ⟨hs1, hs2⟩ := hs1
            have HRem := Lib.hid (Qt.rem_ok2 s hs1 l2)
            clear hT
            by_cases hu : un ≤ s
            · have A5s := Lib.hid (fun w => A5.out s w HT.out)
              have A6s := Lib.hid (fun w => A6.out s w HT.out)
              obtain ⟨o1, o2⟩ := HOb.out s
              obtain ⟨no, hno⟩ : ∃ no, no = ofs s := ⟨_, rfl⟩
              rw [← hno] at A5s A6s o1 o2
              have HNO := Lib.hid hno
              clear hno
              obtain ⟨c0, c1, c2, c3, c4, c5, c6, c7, c8, c9, c10⟩ := Qt.eleven_of XR.out
              go_wp2_with fail
              refine (A2s.out _).mono ?_
              rintro e w5 ⟨rfl, rfl⟩
              go_wp2_with fail
              refine (A5s.out _).mono ?_
              rintro e w6 ⟨rfl, hb⟩
              have B6 := Lib.hid (wk_then BR.out hb SR)
              have X6 := Lib.hid ((hb.block w.heap.size (Qt.lt_of XR.out)).trans XR.out)
              clear hb c0 c1 c2 c3 c4 c5 c6 c7 c8 c9 c10
              obtain ⟨c0, c1, c2, c3, c4, c5, c6, c7, c8, c9, c10⟩ := Qt.eleven_of X6.out
              go_wp2_with fail
              refine (A6s.out _).mono ?_
              rintro e w7 ⟨x, r, rfl, hx, hb⟩
              have B7 := Lib.hid (wk_then B6.out hb B6.out.size)
              clear hb c0 c1 c2 c3 c4 c5 c6 c7 c8 c9 c10
              rcases hx with ⟨rfl, x1, x2, x3⟩ | ⟨rfl, x3⟩
              · have HR2 := Lib.hid (HCut.out i s n1 un no x HR.out (fun u h1 h2 => (x3 u h1 h2)))
                clear x3
                go_wp2_with fail
                have B8 := Lib.hid (B7.out)
                have A7s := Lib.hid (fun w => A7.out (s + 60 * no) w)
                rw [Qt.week_of] at A7s
                have HEs := HE.out s
                rw [← HNO.out] at HEs
                have hw := Qt.weekD_bd (s + 60 * no)
                generalize Wp.weekD (s + 60 * no) = k at *
                obtain ⟨kk, rfl⟩ : ∃ kk : Nat, k = (kk : Int) := ⟨k.toNat, by omega⟩
                have hk0 : (0 : Int) ≤ (kk : Int) := by omega
                have hk1 : (kk : Int) < 10080 := by omega
                cases hL : Wp.isT (s + 60 * no) with
                | true =>
                  rw [if_pos hL] at A7s
                  rw [hL, Bool.true_and] at HEs
                  have HC := Lib.hid (HV.out.cell kk (by omega)).1
                  rw [← HEs] at HC
                  clear hL HEs
                  refine (A7s.out _).mono ?_
                  rintro e w9 ⟨rfl, hb⟩
                  have B9 := Lib.hid (wk_then B8.out hb B8.out.size)
                  have hc9 := (B9.out.cell (p := ⟨g, kk, none⟩) HG.out).trans HC.out
                  clear hb
                  cases ha : at0 s with
                  | false =>
                    rw [ha] at hc9
                    have HFin := Lib.hid (HH.out i s no x HR2.out HT.out ha)
                    clear ha HC
                    go_wp2_with fail
                    go_ret2
                    exact HFin.out _ (wk_then B4.out B9.out B4.out.size)
                  | true =>
                    rw [ha] at hc9
                    have HR3 := Lib.hid (HOn.out i s no x HR2.out HT.out (by rw [ha]; rfl))
                    clear ha HC
                    go_wp2_with fail
                    exact ⟨⟨i + 1, s + (60 - s % 60), no, x, by rw [HRem.out], rfl, rfl, by go_num, HR3, by omega, by omega, by omega, B9.out⟩, by simp [intOf]; omega⟩
                | false =>
                  rw [if_neg (by rw [hL]; simp)] at A7s
                  rw [hL, Bool.false_and] at HEs
                  have ha := Lib.hid HEs
                  clear hL HEs
                  refine (A7s.out _).mono ?_
                  rintro e w9 ⟨rfl, hb⟩
                  have B9 := Lib.hid (wk_then B8.out hb B8.out.size)
                  clear hb
                  have HFin := Lib.hid (HH.out i s no x HR2.out HT.out ha.out)
                  go_wp2_with fail
                  go_ret2
                  exact HFin.out _ (wk_then B4.out B9.out B4.out.size)
              · have HR2 := Lib.hid (HCut.out i s n1 un no 253402300800 HR.out (fun u h1 h2 => (x3 u h1 h2)))
                clear x3
                go_wp2_with fail
                have B8 := Lib.hid (B7.out)
                have A7s := Lib.hid (fun w => A7.out (s + 60 * no) w)
                rw [Qt.week_of] at A7s
                have HEs := HE.out s
                rw [← HNO.out] at HEs
                have hw := Qt.weekD_bd (s + 60 * no)
                generalize Wp.weekD (s + 60 * no) = k at *
                obtain ⟨kk, rfl⟩ : ∃ kk : Nat, k = (kk : Int) := ⟨k.toNat, by omega⟩
                have hk0 : (0 : Int) ≤ (kk : Int) := by omega
                have hk1 : (kk : Int) < 10080 := by omega
                cases hL : Wp.isT (s + 60 * no) with
                | true =>
                  rw [if_pos hL] at A7s
                  rw [hL, Bool.true_and] at HEs
                  have HC := Lib.hid (HV.out.cell kk (by omega)).1
                  rw [← HEs] at HC
                  clear hL HEs
                  refine (A7s.out _).mono ?_
                  rintro e w9 ⟨rfl, hb⟩
                  have B9 := Lib.hid (wk_then B8.out hb B8.out.size)
                  have hc9 := (B9.out.cell (p := ⟨g, kk, none⟩) HG.out).trans HC.out
                  clear hb
                  cases ha : at0 s with
                  | false =>
                    rw [ha] at hc9
                    have HFin := Lib.hid (HH.out i s no 253402300800 HR2.out HT.out ha)
                    clear ha HC
                    go_wp2_with fail
                    go_ret2
                    exact HFin.out _ (wk_then B4.out B9.out B4.out.size)
                  | true =>
                    rw [ha] at hc9
                    have HR3 := Lib.hid (HOn.out i s no 253402300800 HR2.out HT.out (by rw [ha]; rfl))
                    clear ha HC
                    go_wp2_with fail
                    exact ⟨⟨i + 1, s + (60 - s % 60), no, 253402300800, by rw [HRem.out], rfl, rfl, by go_num, HR3, by omega, by omega, by omega, B9.out⟩, by simp [intOf]; omega⟩
                | false =>
                  rw [if_neg (by rw [hL]; simp)] at A7s
                  rw [hL, Bool.false_and] at HEs
                  have ha := Lib.hid HEs
                  clear hL HEs
                  refine (A7s.out _).mono ?_
                  rintro e w9 ⟨rfl, hb⟩
                  have B9 := Lib.hid (wk_then B8.out hb B8.out.size)
                  clear hb
                  have HFin := Lib.hid (HH.out i s no 253402300800 HR2.out HT.out ha.out)
                  go_wp2_with fail
                  go_ret2
                  exact HFin.out _ (wk_then B4.out B9.out B4.out.size)
            · have HNO := Lib.hid (show n1 = ofs s from (HOf.out i s n1 un HR.out (by omega)).symm)
              have hu2 : s < un := by omega
              have hu3 : decide (un ≤ s) = false := decide_eq_false hu
              have HOx := HOf
              clear HOf HOx
              have HR2 := HR
              clear hu
              go_wp2_with fail
              refine (A2s.out _).mono ?_
              rintro e w5 ⟨rfl, rfl⟩
              go_wp2_with fail
              have B8 := Lib.hid (BR.out)
              have A7s := Lib.hid (fun w => A7.out (s + 60 * n1) w)
              rw [Qt.week_of] at A7s
              have HEs := HE.out s
              rw [← HNO.out] at HEs
              have hw := Qt.weekD_bd (s + 60 * n1)
              generalize Wp.weekD (s + 60 * n1) = k at *
              obtain ⟨kk, rfl⟩ : ∃ kk : Nat, k = (kk : Int) := ⟨k.toNat, by omega⟩
              have hk0 : (0 : Int) ≤ (kk : Int) := by omega
              have hk1 : (kk : Int) < 10080 := by omega
              cases hL : Wp.isT (s + 60 * n1) with
              | true =>
                rw [if_pos hL] at A7s
                rw [hL, Bool.true_and] at HEs
                have HC := Lib.hid (HV.out.cell kk (by omega)).1
                rw [← HEs] at HC
                clear hL HEs
                refine (A7s.out _).mono ?_
                rintro e w9 ⟨rfl, hb⟩
                have B9 := Lib.hid (wk_then B8.out hb B8.out.size)
                have hc9 := (B9.out.cell (p := ⟨g, kk, none⟩) HG.out).trans HC.out
                clear hb
                cases ha : at0 s with
                | false =>
                  rw [ha] at hc9
                  have HFin := Lib.hid (HH.out i s n1 un HR2.out HT.out ha)
                  clear ha HC
                  go_wp2_with fail
                  go_ret2
                  exact HFin.out _ (wk_then B4.out B9.out B4.out.size)
                | true =>
                  rw [ha] at hc9
                  have HR3 := Lib.hid (HOn.out i s n1 un HR2.out HT.out (by rw [ha]; rfl))
                  clear ha HC
                  go_wp2_with fail
                  exact ⟨⟨i + 1, s + (60 - s % 60), n1, un, by rw [HRem.out], rfl, rfl, by go_num, HR3, by omega, by omega, by omega, B9.out⟩, by simp [intOf]; omega⟩
              | false =>
                rw [if_neg (by rw [hL]; simp)] at A7s
                rw [hL, Bool.false_and] at HEs
                have ha := Lib.hid HEs
                clear hL HEs
                refine (A7s.out _).mono ?_
                rintro e w9 ⟨rfl, hb⟩
                have B9 := Lib.hid (wk_then B8.out hb B8.out.size)
                clear hb
                have HFin := Lib.hid (HH.out i s n1 un HR2.out HT.out ha.out)
                go_wp2_with fail
                go_ret2
                exact HFin.out _ (wk_then B4.out B9.out B4.out.size)
    | false =>
    have hk2 := HK.out.trans ((if_pos h1).trans (if_neg (by rw [ht]; simp)))
    have HR := Lib.hid (HQ.out 0 1 (Or.inl ⟨by rw [hk2]; decide, rfl, hk2.symm⟩))
    have A2t := Lib.hid (fun w => by have h := rciv_Is t w; rw [ht] at h; exact h)
    clear h1 hz ho ht hA hn HK hk2 A2 HQ
    generalize l.length = n at *
    unfold Qt.hC at A1 ⊢
    obtain ⟨base, save, ⟨fm, fn, fw, fi⟩, ⟨tm, tn, tw, ti⟩⟩ := z
    unfold Wp.zoneC at A1 ⊢
    simp only [List.push_toArray, List.cons_append, List.nil_append] at A1 ⊢
    have X0 := Lib.hid (wk_new w (.cells #[.int .i64 base, .int .i64 save, .int .i64 fm, .int .i64 fn, .int .i64 fw, .int .i64 fi, .int .i64 tm, .int .i64 tn, .int .i64 tw, .int .i64 ti, .slice p n c] 28))
    have B0 := Lib.hid (wk_box w (.cells #[.int .i64 base, .int .i64 save, .int .i64 fm, .int .i64 fn, .int .i64 fw, .int .i64 fi, .int .i64 tm, .int .i64 tn, .int .i64 tw, .int .i64 ti, .slice p n c] 28))
    go_enter Tryz.func27, Tryz.ntmps27
    go_wp2_with fail
    refine (A1.out _ B0.out).mono ?_
    rintro e w1 ⟨rfl, hb⟩
    have B1 := Lib.hid (wk_then B0.out hb B0.out.size)
    clear hb
    go_wp2_with fail
    refine (A2t.out _).mono ?_
    rintro e w2 ⟨rfl, rfl⟩
    go_wp2_with fail
    go_ret2
    exact HR.out _ B1.out
  · have hk2 := HK.out.trans (if_neg (by rw [h1]; decide))
    have HR := Lib.hid (HQ.out 0 2 (Or.inl ⟨by rw [hk2]; decide, rfl, hk2.symm⟩))
    rw [h1] at A1
    clear h1 hA hn HK hk2 A2 HQ
    generalize l.length = n at *
    unfold Qt.hC at A1 ⊢
    obtain ⟨base, save, ⟨fm, fn, fw, fi⟩, ⟨tm, tn, tw, ti⟩⟩ := z
    unfold Wp.zoneC at A1 ⊢
    simp only [List.push_toArray, List.cons_append, List.nil_append] at A1 ⊢
    have X0 := Lib.hid (wk_new w (.cells #[.int .i64 base, .int .i64 save, .int .i64 fm, .int .i64 fn, .int .i64 fw, .int .i64 fi, .int .i64 tm, .int .i64 tn, .int .i64 tw, .int .i64 ti, .slice p n c] 28))
    have B0 := Lib.hid (wk_box w (.cells #[.int .i64 base, .int .i64 save, .int .i64 fm, .int .i64 fn, .int .i64 fw, .int .i64 fi, .int .i64 tm, .int .i64 tn, .int .i64 tw, .int .i64 ti, .slice p n c] 28))
    go_enter Tryz.func27, Tryz.ntmps27
    go_wp2_with fail
    refine (A1.out _ B0.out).mono ?_
    rintro e w1 ⟨rfl, hb⟩
    have B1 := Lib.hid (wk_then B0.out hb B0.out.size)
    clear hb
    go_wp2_with fail
    go_ret2
    exact HR.out _ B1.out
set_option maxHeartbeats 4000000 in
set_option maxRecDepth 100000 in
theorem rqt_Free (z : Wp.Zn) (l : List (Int × Int)) (p : Option Addr) (c : Nat) (t : Int) (w : World) (hA : Wk.At w p l) (hn : l.length ≤ 140737488351232) :
    Calls Tryz.prog 9 #[.agg (Qt.hC z p l.length c), .int .i64 t] w (Qt.SrQPost z l t false w) := by
  have A4 := Lib.hid (show ∀ w1, Below w.heap.size w w1 → Calls Tryz.prog 27 #[.agg (Qt.hC z p l.length c), .int .i64 t, .bool false] w1 (fun e w' => ∃ r c, e = .returned (.tuple #[.int .i64 r, .int .i64 c]) ∧ Qt.SrQ z l t false r c ∧ Below w1.heap.size w1 w') from fun w1 h => rqt_first z l p c t false w1 (hA.below h) hn)
  have HQ := Lib.hid (show ∀ r c, Qt.SrQ z l t false r c → ∀ w', Below w.heap.size w w' → Qt.SrQPost z l t false w (.returned (.tuple #[.int .i64 r, .int .i64 c])) w' from fun r c h w' hb => ⟨r, c, rfl, h, hb⟩)
  generalize Qt.SrQ z l t false = S at *
  clear hA hn
  generalize l.length = n at *
  unfold Qt.hC at A4 ⊢
  obtain ⟨base, save, ⟨fm, fn, fw, fi⟩, ⟨tm, tn, tw, ti⟩⟩ := z
  unfold Wp.zoneC at A4 ⊢
  simp only [List.push_toArray, List.cons_append, List.nil_append] at A4 ⊢
  have X0 := Lib.hid (wk_new w (.cells #[.int .i64 base, .int .i64 save, .int .i64 fm, .int .i64 fn, .int .i64 fw, .int .i64 fi, .int .i64 tm, .int .i64 tn, .int .i64 tw, .int .i64 ti, .slice p n c] 28))
  have B0 := Lib.hid (wk_box w (.cells #[.int .i64 base, .int .i64 save, .int .i64 fm, .int .i64 fn, .int .i64 fw, .int .i64 fi, .int .i64 tm, .int .i64 tn, .int .i64 tw, .int .i64 ti, .slice p n c] 28))
  go_enter Tryz.func9, Tryz.ntmps9
  go_wp2_with fail
  refine (A4.out _ B0.out).mono ?_
  rintro e w3 ⟨r3, c3, rfl, hs, hb⟩
  have HS := Lib.hid hs
  have B3 := Lib.hid (wk_then B0.out hb B0.out.size)
  clear hb hs
  go_wp2_with fail
  go_ret2
  exact HQ.out _ _ HS.out _ B3.out
set_option maxHeartbeats 2000000 in
set_option maxRecDepth 100000 in
theorem rqt_Busy (z : Wp.Zn) (l : List (Int × Int)) (p : Option Addr) (c : Nat) (t : Int) (w : World) (hA : Wk.At w p l) (hn : l.length ≤ 140737488351232) :
    Calls Tryz.prog 11 #[.agg (Qt.hC z p l.length c), .int .i64 t] w (Qt.SrQPost z l t true w) := by
  have A4 := Lib.hid (show ∀ w1, Below w.heap.size w w1 → Calls Tryz.prog 27 #[.agg (Qt.hC z p l.length c), .int .i64 t, .bool true] w1 (fun e w' => ∃ r c, e = .returned (.tuple #[.int .i64 r, .int .i64 c]) ∧ Qt.SrQ z l t true r c ∧ Below w1.heap.size w1 w') from fun w1 h => rqt_first z l p c t true w1 (hA.below h) hn)
  have HQ := Lib.hid (show ∀ r c, Qt.SrQ z l t true r c → ∀ w', Below w.heap.size w w' → Qt.SrQPost z l t true w (.returned (.tuple #[.int .i64 r, .int .i64 c])) w' from fun r c h w' hb => ⟨r, c, rfl, h, hb⟩)
  generalize Qt.SrQ z l t true = S at *
  clear hA hn
  generalize l.length = n at *
  unfold Qt.hC at A4 ⊢
  obtain ⟨base, save, ⟨fm, fn, fw, fi⟩, ⟨tm, tn, tw, ti⟩⟩ := z
  unfold Wp.zoneC at A4 ⊢
  simp only [List.push_toArray, List.cons_append, List.nil_append] at A4 ⊢
  have X0 := Lib.hid (wk_new w (.cells #[.int .i64 base, .int .i64 save, .int .i64 fm, .int .i64 fn, .int .i64 fw, .int .i64 fi, .int .i64 tm, .int .i64 tn, .int .i64 tw, .int .i64 ti, .slice p n c] 28))
  have B0 := Lib.hid (wk_box w (.cells #[.int .i64 base, .int .i64 save, .int .i64 fm, .int .i64 fn, .int .i64 fw, .int .i64 fi, .int .i64 tm, .int .i64 tn, .int .i64 tw, .int .i64 ti, .slice p n c] 28))
  go_enter Tryz.func11, Tryz.ntmps11
  go_wp2_with fail
  refine (A4.out _ B0.out).mono ?_
  rintro e w3 ⟨r3, c3, rfl, hs, hb⟩
  have HS := Lib.hid hs
  have B3 := Lib.hid (wk_then B0.out hb B0.out.size)
  clear hb hs
  go_wp2_with fail
  go_ret2
  exact HQ.out _ _ HS.out _ B3.out
end Go.Proofs.YtpaleljnkejdgaaGreatDoor
