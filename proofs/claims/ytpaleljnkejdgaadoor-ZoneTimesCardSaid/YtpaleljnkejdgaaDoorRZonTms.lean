/-
  The walk of the document's own times of a local moment (bellmanref06.Times). No condition.
-/
import Derived.Test.YtpaleljnkejdgaaDoorRZonOfs
import Derived.Test.YtpaleljnkejdgaaDoorZonTimesAll
namespace Go.Proofs.YtpaleljnkejdgaaDoor
open Go.RowKit

noncomputable def Wp.stepT (z : Wp.Zn) (x : Int) (L : List Int) (n : Int) : List Int := if (Wp.isT (x - 60 * n) = true ∧ Wp.ofs z (x - 60 * n) = n) ∧ (L = [] ∨ L.headD 0 ≠ x - 60 * n) then L ++ [x - 60 * n] else L
theorem Wp.timesL_steps (z : Wp.Zn) (x : Int) : Wp.timesL z x = Wp.stepT z x (Wp.stepT z x [] (z.base + z.save)) z.base := by
  have e1 : ∀ n, Wp.timeOne z x n = if Wp.isT (x - 60 * n) = true ∧ Wp.ofs z (x - 60 * n) = n then [x - 60 * n] else [] := fun n => by unfold Wp.timeOne; rw [Int.mul_comm]
  have s1 : Wp.stepT z x [] (z.base + z.save) = Wp.timeOne z x (z.base + z.save) := by
    unfold Wp.stepT
    rw [e1]
    by_cases h : Wp.isT (x - 60 * (z.base + z.save)) = true ∧ Wp.ofs z (x - 60 * (z.base + z.save)) = z.base + z.save
    · rw [if_pos ⟨h, Or.inl rfl⟩, if_pos h]; rfl
    · rw [if_neg (fun q => h q.1), if_neg h]
  rw [s1]
  unfold Wp.timesL Cv.two
  by_cases hs : z.save = 0
  · rw [hs, Int.add_zero, if_pos rfl]
    unfold Wp.stepT
    rw [List.flatMap_cons, List.flatMap_nil, List.append_nil, e1]
    by_cases h : Wp.isT (x - 60 * z.base) = true ∧ Wp.ofs z (x - 60 * z.base) = z.base
    · rw [if_pos h, if_neg (by simp)]
    · rw [if_neg h, if_neg (fun q => h q.1)]
  · rw [if_neg (by omega)]
    rw [List.flatMap_cons, List.flatMap_cons, List.flatMap_nil, List.append_nil]
    unfold Wp.stepT
    rw [e1, e1]
    by_cases h : Wp.isT (x - 60 * (z.base + z.save)) = true ∧ Wp.ofs z (x - 60 * (z.base + z.save)) = z.base + z.save
    · rw [if_pos h]
      by_cases h2 : Wp.isT (x - 60 * z.base) = true ∧ Wp.ofs z (x - 60 * z.base) = z.base
      · rw [if_pos h2, if_pos ⟨h2, Or.inr (by simp; omega)⟩]
      · rw [if_neg h2, if_neg (fun q => h2 q.1), List.append_nil]
    · rw [if_neg h]
      by_cases h2 : Wp.isT (x - 60 * z.base) = true ∧ Wp.ofs z (x - 60 * z.base) = z.base
      · rw [if_pos h2, if_pos ⟨h2, Or.inl rfl⟩]
      · rw [if_neg h2, if_neg (fun q => h2 q.1)]; rfl
theorem Wp.stepT_len (z : Wp.Zn) (x : Int) (L : List Int) (n : Int) : (Wp.stepT z x L n).length ≤ L.length + 1 := by
  unfold Wp.stepT
  split
  · simp
  · omega
set_option maxRecDepth 100000 in
set_option maxHeartbeats 4000000 in
theorem rzon_Times (z : Wp.Zn) (m : Wp.Mom) (w : World) :
    Calls Tryd.prog 31 #[.agg (Wp.zoneC z), .agg (Wp.momC m)] w (Wp.TimesPost (Wp.timesR z m).1 (Wp.timesR z m).2 w) := by
  have A1 := Lib.hid (fun w => rzon_Check z w)
  have A2 := Lib.hid (fun w => rciv_Time m w)
  by_cases hc : Wp.chkR z = 0
  · have hz : Wp.ZnOk z := by
      by_cases h : Wp.ZnOk z
      · exact h
      · rw [Wp.chkR_no h] at hc; cases hc
    rw [hc] at A1
    cases hm : Wp.momOk m with
    | true =>
      rw [show Wp.timesR z m = (Wp.timesL z (Wp.timeD m), 0) from (if_pos hc).trans (if_pos hm)]
      rw [show Wp.timeR m = (Wp.timeD m, 0) from if_pos hm] at A2
      have hx := Wp.isT_yes (Wp.isT_timeD hm)
      have A3 := Lib.hid (fun t w => rzon_Offset z t w)
      have HOF := Lib.hid (show ∀ t, Wp.offR z t = if Wp.isT t = true then (Wp.ofs z t, 0) else (0, 1) from fun t => by
        have h2 : Wp.chk2R z t = if Wp.chkR z = 0 then (if Wp.isT t = true then 0 else 1) else 2 := rfl
        rw [if_pos hc] at h2
        by_cases h : Wp.isT t = true
        · rw [if_pos h] at h2 ⊢; exact if_pos h2
        · rw [if_neg h] at h2 ⊢; exact (if_neg (by rw [h2]; decide)).trans (by rw [h2]))
      have HP := Lib.hid (show ∀ (v : Value) (w' : World), w'.ownsRow w.heap.size 2 1 v (Wp.timesL z (Wp.timeD m)).length ((Wp.timesL z (Wp.timeD m)).map (Value.int .i64)) → Below w.heap.size w w' → Wp.TimesPost (Wp.timesL z (Wp.timeD m)) 0 w (.returned (.tuple #[v, .int .i64 0])) w' from fun v w' h1 h2 => ⟨v, rfl, h1, h2⟩)
      have HS := Lib.hid (Wp.timesL_steps z (Wp.timeD m))
      have HT := Lib.hid (show ∀ L n, Wp.stepT z (Wp.timeD m) L n = if (Wp.isT (Wp.timeD m - 60 * n) = true ∧ Wp.ofs z (Wp.timeD m - 60 * n) = n) ∧ (L = [] ∨ L.headD 0 ≠ Wp.timeD m - 60 * n) then L ++ [Wp.timeD m - 60 * n] else L from fun _ _ => rfl)
      have HN := Lib.hid (fun L n => Wp.stepT_len z (Wp.timeD m) L n)
      simp only []
      generalize Wp.timesL z (Wp.timeD m) = R at *
      generalize Wp.stepT z (Wp.timeD m) = ST at *
      generalize Wp.timeD m = u at *
      generalize Wp.offR z = OF at *
      generalize Wp.ofs z = o at *
      obtain ⟨b1, b2, b3, b4⟩ := hz.1
      obtain ⟨u1, u2⟩ := hx
      clear hc hz hm
      obtain ⟨base, save, ⟨fm, fn, fw, fi⟩, ⟨tm, tn, tw, ti⟩⟩ := z
      obtain ⟨Y, MO, D, HO, MI, SS, K⟩ := m
      unfold Wp.zoneC at A1 A3 ⊢
      unfold Wp.momC at A2 ⊢
      simp only [] at A1 A2 A3 HP HS b1 b2 b3 b4 ⊢
      have X0 := Lib.hid ((cv_past (w.alloc (.cells #[.int .i64 base, .int .i64 save, .int .i64 fm, .int .i64 fn, .int .i64 fw, .int .i64 fi, .int .i64 tm, .int .i64 tn, .int .i64 tw, .int .i64 ti] 48)) (.cells #[.int .i64 Y, .int .i64 MO, .int .i64 D, .int .i64 HO, .int .i64 MI, .int .i64 SS, .int .i64 K] 52) w.heap.size (by simp)).trans (cv_new w (.cells #[.int .i64 base, .int .i64 save, .int .i64 fm, .int .i64 fn, .int .i64 fw, .int .i64 fi, .int .i64 tm, .int .i64 tn, .int .i64 tw, .int .i64 ti] 48)))
      have B0 := Lib.hid ((Wp.below_box w (.cells #[.int .i64 base, .int .i64 save, .int .i64 fm, .int .i64 fn, .int .i64 fw, .int .i64 fi, .int .i64 tm, .int .i64 tn, .int .i64 tw, .int .i64 ti] 48)).alloc (by simp) (.cells #[.int .i64 Y, .int .i64 MO, .int .i64 D, .int .i64 HO, .int .i64 MI, .int .i64 SS, .int .i64 K] 52))
      have Y0 := Lib.hid (cv_new (w.alloc (.cells #[.int .i64 base, .int .i64 save, .int .i64 fm, .int .i64 fn, .int .i64 fw, .int .i64 fi, .int .i64 tm, .int .i64 tn, .int .i64 tw, .int .i64 ti] 48)) (.cells #[.int .i64 Y, .int .i64 MO, .int .i64 D, .int .i64 HO, .int .i64 MI, .int .i64 SS, .int .i64 K] 52))
      obtain ⟨w0, hw0⟩ : ∃ w0, (w.alloc (.cells #[.int .i64 base, .int .i64 save, .int .i64 fm, .int .i64 fn, .int .i64 fw, .int .i64 fi, .int .i64 tm, .int .i64 tn, .int .i64 tw, .int .i64 ti] 48)).alloc (.cells #[.int .i64 Y, .int .i64 MO, .int .i64 D, .int .i64 HO, .int .i64 MI, .int .i64 SS, .int .i64 K] 52) = w0 := ⟨_, rfl⟩
      have S0 : w0.heap.size = w.heap.size + 2 := by rw [← hw0]; simp
      rw [hw0] at X0 B0 Y0
      rw [World.size_alloc] at Y0
      have Hw0 := Lib.hid hw0
      clear hw0
      go_enter Tryd.func31, Tryd.ntmps31
      go_wp2_with fail
      rw [Hw0.out]
      refine (A1.out _).mono ?_
      rintro e w1 ⟨rfl, hb⟩
      have S1 : w.heap.size + 2 ≤ w1.heap.size := by have := hb.size; omega
      have B1 := Lib.hid (cv_then B0.out hb B0.out.size)
      have X1 := Lib.hid ((hb.block w.heap.size (by omega)).trans X0.out)
      obtain ⟨d0, d1, d2, d3, d4, d5, d6⟩ := Wp.seven_of ((hb.block (w.heap.size + 1) (by omega)).trans Y0.out)
      clear hb X0 B0 Y0 Hw0 A1
      go_wp2_with fail
      refine (A2.out _).mono ?_
      rintro e w2 ⟨rfl, hb⟩
      have S2 : w.heap.size + 2 ≤ w2.heap.size := by have := hb.size; omega
      have B2 := Lib.hid (cv_then B1.out hb B1.out.size)
      have X2 := Lib.hid ((hb.block w.heap.size (by omega)).trans X1.out)
      clear hb X1 B1 A2 d0 d1 d2 d3 d4 d5 d6
      obtain ⟨c0, c1, c2, c3, c4, c5, c6, c7, c8, c9⟩ := Wp.ten_of X2.out
      go_wp2_with fail
      have hbx := Wp.below_box w2 (.cells #[.int .i64 (base + save), .int .i64 base] 3)
      have G3 := Lib.hid (cv_new w2 (.cells #[.int .i64 (base + save), .int .i64 base] 3))
      have S3 : (w2.alloc (.cells #[.int .i64 (base + save), .int .i64 base] 3)).heap.size = w2.heap.size + 1 := World.size_alloc _ _
      have B3 := Lib.hid (cv_then B2.out hbx B2.out.size)
      have X3 := Lib.hid ((hbx.block w.heap.size (by omega)).trans X2.out)
      generalize (w2.alloc (.cells #[.int .i64 (base + save), .int .i64 base] 3)) = w3 at *
      clear hbx X2 B2 c0 c1 c2 c3 c4 c5 c6 c7 c8 c9
      obtain ⟨i0, hi, hz0, hz1, hz2⟩ := infoI64
      have HI := Lib.hid (And.intro hi (And.intro hz0 (And.intro hz1 hz2)))
      clear hi hz0 hz1 hz2
      obtain ⟨RK, hRK⟩ : ∃ RK : Nat → List Int, RK = fun k => if k = 0 then [] else if k = 1 then ST [] (base + save) else R := ⟨_, rfl⟩
      have HR0 := Lib.hid (show RK 0 = [] by rw [hRK]; rfl)
      have HR1 := Lib.hid (show RK 1 = ST (RK 0) (base + save) by rw [hRK]; rfl)
      have HR2 := Lib.hid (show RK 2 = ST (RK 1) base by rw [hRK]; exact HS.out)
      have HRR := Lib.hid (show RK 2 = R by rw [hRK]; rfl)
      clear hRK HS
      go_loopw [8, 34] (fun v iv wr => ∃ k : Nat, k ≤ 2 ∧ iv = .int .i64 k ∧ wr.ownsRow (w2.heap.size + 1) 2 1 v (RK k).length ((RK k).map (Value.int .i64)) ∧ (RK k).length ≤ k ∧ Below (w2.heap.size + 1) w3 wr) (fun _ iv _ => 2 - (intOf iv).toNat)
      case atStart => exact ⟨0, by omega, rfl, by rw [HR0.out]; exact World.ownsRow_nil _ _ _ _, by rw [HR0.out]; simp, Below.refl _ _⟩
      case round =>
        obtain ⟨k, hk, rfl, ho, hl, hB⟩ := hrel
        have SR : w2.heap.size + 1 ≤ wr.heap.size := by have := hB.size; omega
        by_cases hk2 : k = 2
        · subst hk2
          have BF := Lib.hid (B3.out.trans (hB.mono (by omega)))
          have OF2 := Lib.hid (show wr.ownsRow w.heap.size 2 1 u8 R.length (R.map (Value.int .i64)) from by rw [← HRR.out]; exact cv_owns_base ho (by omega))
          clear ho hB
          go_wp2_with fail
          go_ret2
          exact HP.out _ _ OF2.out BF.out
        · have hcell : ∃ nI, wr.cell? ⟨w2.heap.size, k, none⟩ = some (.int .i64 nI) ∧ -900 ≤ nI ∧ nI ≤ 1020 ∧ RK (k + 1) = ST (RK k) nI := by
            have hg := (hB.block w2.heap.size (by omega)).trans G3.out
            have hkc : k = 0 ∨ k = 1 := by omega
            rcases hkc with rfl | rfl
            · exact ⟨base + save, by rw [Lib.cell_of_heap hg]; rfl, by omega, by omega, HR1.out⟩
            · exact ⟨base, by rw [Lib.cell_of_heap hg]; rfl, by omega, by omega, HR2.out⟩
          obtain ⟨nI, hc, n1, n2, hst⟩ := hcell
          have hstep := hst.trans (HT.out (RK k) nI)
          have hofs := HOF.out (u - 60 * nI)
          have A4 := Lib.hid (fun w => A3.out (u - 60 * nI) w)
          have hk0 : (0 : Int) ≤ (k : Int) := by omega
          have hk1 : (k : Int) < 2 := by omega
          have OR := Lib.hid ho
          have BR := Lib.hid hB
          obtain ⟨t, ht⟩ : ∃ t, t = u - 60 * nI := ⟨_, rfl⟩
          have HTT := Lib.hid ht
          rw [← ht] at hstep hofs A4
          obtain ⟨p8, c8', rfl, hA8⟩ := owns_at ho
          have H8 := Lib.hid hA8
          clear ho hB hst ht hA8
          obtain ⟨c0, c1, c2, c3, c4, c5, c6, c7, c8, c9⟩ := Wp.ten_of ((BR.out.block w.heap.size (by omega)).trans X3.out)
          by_cases hT : Wp.isT t = true
          · rw [if_pos hT] at hofs
            rw [hofs] at A4
            by_cases hn : o t = nI
            · rw [hn] at A4
              clear hofs
              obtain ⟨LK, hLK⟩ : ∃ LK, LK = RK k := ⟨_, rfl⟩
              rw [← hLK] at hstep OR H8 hl
              rw [← hLK]
              clear hLK
              cases LK with
              | nil =>
                have HF := Lib.hid (hstep.trans (if_pos ⟨⟨hT, hn⟩, Or.inl rfl⟩))
                clear hstep hn hT H8
                go_wp2_with fail
                rw [← HTT.out]
                refine (A4.out _).mono ?_
                rintro e w7 ⟨rfl, b7⟩
                have B7 := Lib.hid (cv_then BR.out b7 SR)
                have O7 := Lib.hid (cv_owns_below OR.out b7)
                have S7 : w2.heap.size + 1 ≤ w7.heap.size := by have := b7.size; omega
                clear b7 c0 c1 c2 c3 c4 c5 c6 c7 c8 c9 hc
                obtain ⟨hi, hz0, hz1, hz2⟩ := HI.out
                go_wp2_with (at_builtin; refine wpList_append_own _ rfl _ _ 61 rfl (w2.heap.size + 1) 2 i0 _ 1 8 Tryd.underlying61 hi hz0 hz1 hz2 rfl (by decide) _ _ _ rfl (O7.out.alloc _) ⟨w7.heap.size, 0, none⟩ 1 1 [.int .i64 t] rfl rfl ?c1 ?c2 ?c3 ?c4 ?c5 ?_)
                case c1 => exact cell_one_new _ _ _
                case c2 => simp [Value.oneCell']
                case c3 => unfold maxLen; omega
                case c4 => omega
                case c5 => rw [World.size_alloc]; omega
                intro v8 w8 hown8 hgrow8 _
                have B8 := Lib.hid ((B7.out.alloc (by omega) (.cells #[.int .i64 t] 2)).grown hgrow8 (by rw [World.size_alloc]; omega) (fun k hk => (O7.out.lt k hk).1))
                have O8 := Lib.hid hown8
                clear hown8 hgrow8 hi hz0 hz1 hz2
                go_wp2_with fail
                exact ⟨⟨k + 1, by omega, by go_num, by rw [HF.out, List.length_append, List.map_append]; exact O8.out, by rw [HF.out, List.length_append]; simp <;> omega, B8.out⟩, by simp [intOf]; omega⟩
              | cons h tl =>
                obtain rfl : tl = [] := by cases tl with
                  | nil => rfl
                  | cons _ _ => simp at hl; omega
                obtain ⟨b8, o8, rfl, hc8⟩ := H8.out.get 0 (by simp)
                have H8c := Lib.hid hc8
                simp only [Nat.add_zero, List.getElem_cons_zero] at hc8
                by_cases hh : h = t
                · subst hh
                  have HF := Lib.hid (hstep.trans (if_neg (by
                    rintro ⟨_, q | q⟩
                    · cases q
                    · exact q rfl)))
                  clear hstep hn hT H8 hc8
                  go_wp2_with fail
                  rw [← HTT.out]
                  refine (A4.out _).mono ?_
                  rintro e w7 ⟨rfl, b7⟩
                  have B7 := Lib.hid (cv_then BR.out b7 SR)
                  have O7 := Lib.hid (cv_owns_below OR.out b7)
                  have S7 : w2.heap.size + 1 ≤ w7.heap.size := by have := b7.size; omega
                  have hc8 := (b7.cell (World.block_lt_of_cell? wr _ H8c.out)).trans H8c.out
                  simp only [Nat.add_zero, List.getElem_cons_zero] at hc8
                  clear b7 c0 c1 c2 c3 c4 c5 c6 c7 c8 c9 hc
                  go_wp2_with fail
                  exact ⟨⟨k + 1, by omega, by go_num, by rw [HF.out]; exact O7.out, by rw [HF.out]; omega, B7.out⟩, by simp [intOf]; omega⟩
                · have HF := Lib.hid (hstep.trans (if_pos ⟨⟨hT, hn⟩, Or.inr hh⟩))
                  have hh2 : (h != t) = true := by simpa using hh
                  clear hstep hn hT H8 hc8
                  go_wp2_with fail
                  rw [← HTT.out]
                  refine (A4.out _).mono ?_
                  rintro e w7 ⟨rfl, b7⟩
                  have B7 := Lib.hid (cv_then BR.out b7 SR)
                  have O7 := Lib.hid (cv_owns_below OR.out b7)
                  have S7 : w2.heap.size + 1 ≤ w7.heap.size := by have := b7.size; omega
                  have hc8 := (b7.cell (World.block_lt_of_cell? wr _ H8c.out)).trans H8c.out
                  simp only [Nat.add_zero, List.getElem_cons_zero] at hc8
                  clear b7 c0 c1 c2 c3 c4 c5 c6 c7 c8 c9 hc
                  obtain ⟨hi, hz0, hz1, hz2⟩ := HI.out
                  go_wp2_with (at_builtin; refine wpList_append_own _ rfl _ _ 61 rfl (w2.heap.size + 1) 2 i0 _ 1 8 Tryd.underlying61 hi hz0 hz1 hz2 rfl (by decide) _ _ _ rfl (O7.out.alloc _) ⟨w7.heap.size, 0, none⟩ 1 1 [.int .i64 t] rfl rfl ?c1 ?c2 ?c3 ?c4 ?c5 ?_)
                  case c1 => exact cell_one_new _ _ _
                  case c2 => simp [Value.oneCell']
                  case c3 => unfold maxLen; omega
                  case c4 => omega
                  case c5 => rw [World.size_alloc]; omega
                  intro v8 w8 hown8 hgrow8 _
                  have B8 := Lib.hid ((B7.out.alloc (by omega) (.cells #[.int .i64 t] 2)).grown hgrow8 (by rw [World.size_alloc]; omega) (fun k hk => (O7.out.lt k hk).1))
                  have O8 := Lib.hid hown8
                  clear hown8 hgrow8 hi hz0 hz1 hz2
                  go_wp2_with fail
                  exact ⟨⟨k + 1, by omega, by go_num, by rw [HF.out, List.length_append, List.map_append]; exact O8.out, by rw [HF.out, List.length_append]; simp <;> omega, B8.out⟩, by simp [intOf]; omega⟩
            · have HF := Lib.hid (hstep.trans (if_neg (fun q => hn q.1.2)))
              generalize o t = ot at *
              have hq : (ot == nI) = false := by simpa using hn
              clear hstep hofs hn hT
              go_wp2_with fail
              rw [← HTT.out]
              refine (A4.out _).mono ?_
              rintro e w7 ⟨rfl, b7⟩
              have B7 := Lib.hid (cv_then BR.out b7 SR)
              have O7 := Lib.hid (cv_owns_below OR.out b7)
              clear b7 c0 c1 c2 c3 c4 c5 c6 c7 c8 c9 hc
              go_wp2_with fail
              exact ⟨⟨k + 1, by omega, by go_num, by rw [HF.out]; exact O7.out, by rw [HF.out]; omega, B7.out⟩, by simp [intOf]; omega⟩
          · rw [if_neg hT] at hofs
            rw [hofs] at A4
            have HF := Lib.hid (hstep.trans (if_neg (fun q => hT q.1.1)))
            clear hstep hofs hT
            go_wp2_with fail
            rw [← HTT.out]
            refine (A4.out _).mono ?_
            rintro e w7 ⟨rfl, b7⟩
            have B7 := Lib.hid (cv_then BR.out b7 SR)
            have O7 := Lib.hid (cv_owns_below OR.out b7)
            clear b7 c0 c1 c2 c3 c4 c5 c6 c7 c8 c9 hc
            go_wp2_with fail
            exact ⟨⟨k + 1, by omega, by go_num, by rw [HF.out]; exact O7.out, by rw [HF.out]; omega, B7.out⟩, by simp [intOf]; omega⟩
    | false =>
      rw [show Wp.timesR z m = ([], 2) from (if_pos hc).trans (if_neg (by rw [hm]; simp))]
      rw [show Wp.timeR m = (0, 2) from if_neg (by rw [hm]; simp)] at A2
      simp only []
      clear hc hz hm
      obtain ⟨base, save, ⟨fm, fn, fw, fi⟩, ⟨tm, tn, tw, ti⟩⟩ := z
      obtain ⟨Y, MO, D, HO, MI, SS, K⟩ := m
      unfold Wp.zoneC at A1 ⊢
      unfold Wp.momC at A2 ⊢
      simp only [] at A1 A2 ⊢
      have B0 := Lib.hid ((Wp.below_box w (.cells #[.int .i64 base, .int .i64 save, .int .i64 fm, .int .i64 fn, .int .i64 fw, .int .i64 fi, .int .i64 tm, .int .i64 tn, .int .i64 tw, .int .i64 ti] 48)).alloc (by simp) (.cells #[.int .i64 Y, .int .i64 MO, .int .i64 D, .int .i64 HO, .int .i64 MI, .int .i64 SS, .int .i64 K] 52))
      have Y0 := Lib.hid (cv_new (w.alloc (.cells #[.int .i64 base, .int .i64 save, .int .i64 fm, .int .i64 fn, .int .i64 fw, .int .i64 fi, .int .i64 tm, .int .i64 tn, .int .i64 tw, .int .i64 ti] 48)) (.cells #[.int .i64 Y, .int .i64 MO, .int .i64 D, .int .i64 HO, .int .i64 MI, .int .i64 SS, .int .i64 K] 52))
      obtain ⟨w0, hw0⟩ : ∃ w0, (w.alloc (.cells #[.int .i64 base, .int .i64 save, .int .i64 fm, .int .i64 fn, .int .i64 fw, .int .i64 fi, .int .i64 tm, .int .i64 tn, .int .i64 tw, .int .i64 ti] 48)).alloc (.cells #[.int .i64 Y, .int .i64 MO, .int .i64 D, .int .i64 HO, .int .i64 MI, .int .i64 SS, .int .i64 K] 52) = w0 := ⟨_, rfl⟩
      have S0 : w0.heap.size = w.heap.size + 2 := by rw [← hw0]; simp
      rw [hw0] at B0 Y0
      rw [World.size_alloc] at Y0
      have Hw0 := Lib.hid hw0
      clear hw0
      go_enter Tryd.func31, Tryd.ntmps31
      go_wp2_with fail
      rw [Hw0.out]
      refine (A1.out _).mono ?_
      rintro e w1 ⟨rfl, hb⟩
      have B1 := Lib.hid (cv_then B0.out hb B0.out.size)
      obtain ⟨d0, d1, d2, d3, d4, d5, d6⟩ := Wp.seven_of ((hb.block (w.heap.size + 1) (by omega)).trans Y0.out)
      clear hb B0 Y0 Hw0 A1
      go_wp2_with fail
      refine (A2.out _).mono ?_
      rintro e w2 ⟨rfl, hb⟩
      have B2 := Lib.hid (cv_then B1.out hb B1.out.size)
      clear hb
      go_wp2_with fail
      go_ret2
      exact Wp.TimesPost.none_ B2.out 2
  · have hc2 : Wp.chkR z = 2 := by
      by_cases h : Wp.ZnOk z
      · exact absurd (Wp.chkR_ok h) hc
      · exact Wp.chkR_no h
    rw [show Wp.timesR z m = ([], 2) from if_neg hc]
    rw [hc2] at A1
    simp only []
    clear hc hc2 A2
    obtain ⟨base, save, ⟨fm, fn, fw, fi⟩, ⟨tm, tn, tw, ti⟩⟩ := z
    obtain ⟨Y, MO, D, HO, MI, SS, K⟩ := m
    unfold Wp.zoneC at A1 ⊢
    unfold Wp.momC
    simp only [] at A1 ⊢
    have B0 := Lib.hid ((Wp.below_box w (.cells #[.int .i64 base, .int .i64 save, .int .i64 fm, .int .i64 fn, .int .i64 fw, .int .i64 fi, .int .i64 tm, .int .i64 tn, .int .i64 tw, .int .i64 ti] 48)).alloc (by simp) (.cells #[.int .i64 Y, .int .i64 MO, .int .i64 D, .int .i64 HO, .int .i64 MI, .int .i64 SS, .int .i64 K] 52))
    go_enter Tryd.func31, Tryd.ntmps31
    go_wp2_with fail
    refine (A1.out _).mono ?_
    rintro e w1 ⟨rfl, hb⟩
    have B1 := Lib.hid (cv_then B0.out hb B0.out.size)
    clear hb
    go_wp2_with fail
    go_ret2
    exact Wp.TimesPost.none_ B1.out 2
end Go.Proofs.YtpaleljnkejdgaaDoor
