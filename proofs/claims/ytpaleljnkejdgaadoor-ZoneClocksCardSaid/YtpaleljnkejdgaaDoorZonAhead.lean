/-
  The walks of zone's ahead, Offset and Local: how many minutes the clocks are ahead at a time, and the moment that they tell. Condition: the calendar's table reads as it is laid.
-/
import Derived.Test.YtpaleljnkejdgaaDoorZonTurns
namespace Go.Proofs.YtpaleljnkejdgaaDoor
open Go.RowKit

theorem zon_turns_none (z : Wp.Zn) (t : Int) (w : World) (hs : z.save = 0) :
    Calls Tryd.prog 57 #[.agg (Wp.zoneC z), .int .i64 t] w fun e w' => e = .returned (.slice none 0 0) ∧ Below w.heap.size w w' := by
  obtain ⟨base, save, ⟨fm, fn, fw, fi⟩, ⟨tm, tn, tw, ti⟩⟩ := z
  simp only [] at hs
  subst hs
  unfold Wp.zoneC
  simp only []
  go_enter Tryd.func57, Tryd.ntmps57
  go_wp2_with fail
  go_ret
  exact ⟨rfl, Wp.below_box _ _⟩
set_option maxHeartbeats 1000000 in
theorem zon_ahead (z : Wp.Zn) (t : Int) (w : World) (hL : Cv.Laid w) (hz : Wp.ZnOk z) (ht : Wp.isT t = true) :
    Calls Tryd.prog 51 #[.agg (Wp.zoneC z), .int .i64 t] w fun e w' => e = .returned (.int .i64 (Wp.ofs z t)) ∧ Below w.heap.size w w' := by
  by_cases hs : z.save = 0
  · rw [Wp.ofs_plain hs]
    have A1 := Lib.hid (fun w => zon_turns_none z t w hs)
    obtain ⟨base, save, ⟨fm, fn, fw, fi⟩, ⟨tm, tn, tw, ti⟩⟩ := z
    unfold Wp.zoneC at A1 ⊢
    simp only [] at A1 ⊢
    clear hs hz
    have B0 := Lib.hid (Wp.below_box w (.cells #[.int .i64 base, .int .i64 save, .int .i64 fm, .int .i64 fn, .int .i64 fw, .int .i64 fi, .int .i64 tm, .int .i64 tn, .int .i64 tw, .int .i64 ti] 91))
    go_enter Tryd.func51, Tryd.ntmps51
    go_wp2_with fail
    refine (A1.out _).mono ?_
    rintro e w1 ⟨rfl, b1⟩
    rw [World.size_alloc] at b1
    have B1 := Lib.hid (B0.out.trans (b1.mono (by omega)))
    go_wp2_with fail
    go_loopw [5, 15] (fun v i wr => i = .int .i64 0 ∧ v = .int .i64 base ∧ Below w.heap.size w wr) (fun _ _ _ => 0)
    case atStart => exact ⟨rfl, rfl, B1.out⟩
    case round =>
      obtain ⟨rfl, rfl, hB⟩ := hrel
      go_wp2_with fail
      go_ret
      exact ⟨rfl, hB⟩
  · obtain ⟨m, hm⟩ := Wp.isOf_ex ht
    have hY := hm.year
    have A1 := Lib.hid (fun w hL => zon_turns z t m w hL hz hs hm)
    have HO := Lib.hid (fun l (hl : Wp.Turns z m.y l) => Wp.ofs_eq hz hs (hl.off hz hs hY))
    generalize Wp.ofs z t = r at *
    generalize m.y = Y at *
    obtain ⟨t1, t2⟩ := Wp.isT_yes ht
    clear hY hm hz hs ht
    obtain ⟨Z, hZ⟩ : ∃ Z : Wp.Zn, Z = z := ⟨_, rfl⟩
    obtain ⟨base, save, ⟨fm, fn, fw, fi⟩, ⟨tm, tn, tw, ti⟩⟩ := z
    have HO2 := Lib.hid (show ∀ l, Wp.Turns Z Y l → Wp.lastUp l t base = r by rw [hZ]; exact HO.out)
    clear HO
    unfold Wp.zoneC at A1 ⊢
    simp only [] at A1 ⊢
    simp only [← hZ] at A1
    clear hZ
    have HL := Lib.hid hL
    clear hL
    have B0 := Lib.hid (Wp.below_box w (.cells #[.int .i64 base, .int .i64 save, .int .i64 fm, .int .i64 fn, .int .i64 fw, .int .i64 fi, .int .i64 tm, .int .i64 tn, .int .i64 tw, .int .i64 ti] 91))
    go_enter Tryd.func51, Tryd.ntmps51
    go_wp2_with fail
    refine (A1.out _ (HL.out.below B0.out)).mono ?_
    rintro e w1 ⟨l, p, c, rfl, hT, hl6, hat, b1⟩
    rw [World.size_alloc] at b1
    have B1 := Lib.hid (B0.out.trans (b1.mono (by omega)))
    have HA := Lib.hid hat
    have HR := Lib.hid (HO2.out l hT)
    clear hat hT b1
    obtain ⟨n, hn⟩ : ∃ n, n = l.length := ⟨_, rfl⟩
    have Hn := Lib.hid hn
    rw [← hn] at hl6
    simp only [← hn]
    clear hn
    go_wp2_with fail
    go_loopw [5, 15] (fun v i wr => ∃ k : Nat, k ≤ n ∧ i = .int .i64 k ∧ v = .int .i64 (Wp.lastUp (l.take k) t base) ∧ Below w1.heap.size w1 wr) (fun _ i _ => n - (intOf i).toNat)
    case atStart => exact ⟨0, Nat.zero_le _, rfl, rfl, Below.refl _ _⟩
    case round =>
      obtain ⟨k, hk, rfl, rfl, hB⟩ := hrel
      by_cases hlt : k < n
      · have hkl : k < l.length := by rw [← Hn.out]; exact hlt
        obtain ⟨b, off, rfl, e1, e2⟩ := (HA.out.below hB).get k hkl
        have hst := Lib.hid (Wp.lastUp_take l t base k hkl)
        obtain ⟨x, hx⟩ : ∃ x, x = l[k] := ⟨_, rfl⟩
        rw [← hx] at e1 e2 hst
        clear hx hkl
        obtain ⟨xt, xa⟩ := x
        simp only [] at e1 e2 hst
        have B5 := Lib.hid (hB.alloc hB.size (.cells #[.int .i64 xt, .int .i64 xa] 102))
        by_cases hle : xt ≤ t
        · have H2 := Lib.hid (hst.out.trans (if_pos hle))
          go_wp2_with fail
          exact ⟨⟨k + 1, by omega, by go_num, by rw [H2.out], B5.out⟩, by simp [intOf]; omega⟩
        · have H2 := Lib.hid (hst.out.trans (if_neg hle))
          have hd : decide (xt ≤ t) = false := decide_eq_false hle
          have hle2 : t < xt := by omega
          clear hle
          go_wp2_with fail
          exact ⟨⟨k + 1, by omega, by go_num, by rw [H2.out], B5.out⟩, by simp [intOf]; omega⟩
      · obtain rfl : k = n := by omega
        have e : l.take k = l := by rw [Hn.out, List.take_length]
        have E := Lib.hid e
        clear e
        go_wp2_with fail
        go_ret
        rw [E.out, HR.out]
        exact ⟨rfl, cv_then B1.out hB B1.out.size⟩
/-- What Offset tells. -/
noncomputable def Wp.offR (z : Wp.Zn) (t : Int) : Int × Int := if Wp.chk2R z t = 0 then (Wp.ofs z t, 0) else (0, Wp.chk2R z t)
theorem Wp.chk2R_ok {z : Wp.Zn} {t : Int} (h : Wp.chk2R z t = 0) : Wp.ZnOk z ∧ Wp.isT t = true := by
  unfold Wp.chk2R at h
  by_cases hz : Wp.ZnOk z
  · rw [if_pos (Wp.chkR_ok hz)] at h
    cases ht : Wp.isT t with
    | true => exact ⟨hz, rfl⟩
    | false => rw [ht] at h; simp at h
  · rw [if_neg (by rw [Wp.chkR_no hz]; decide)] at h; simp at h
theorem Wp.chk2R_mk {z : Wp.Zn} {t : Int} (h : Wp.ZnOk z) (h2 : Wp.isT t = true) : Wp.chk2R z t = 0 := by
  unfold Wp.chk2R
  rw [if_pos (Wp.chkR_ok h), if_pos h2]
theorem Wp.chk2R_vals (z : Wp.Zn) (t : Int) : Wp.chk2R z t = 0 ∨ Wp.chk2R z t = 1 ∨ Wp.chk2R z t = 2 := by
  unfold Wp.chk2R
  repeat' split
  all_goals simp
set_option maxHeartbeats 1000000 in
theorem zon_Offset (z : Wp.Zn) (t : Int) (w : World) (hL : Cv.Laid w) :
    Calls Tryd.prog 19 #[.agg (Wp.zoneC z), .int .i64 t] w fun e w' => e = .returned (.tuple #[.int .i64 (Wp.offR z t).1, .int .i64 (Wp.offR z t).2]) ∧ Below w.heap.size w w' := by
  have A1 := Lib.hid (fun w => zon_check z t w)
  by_cases hc : Wp.chk2R z t = 0
  · rw [show Wp.offR z t = (Wp.ofs z t, 0) from if_pos hc]
    obtain ⟨hz, ht⟩ := Wp.chk2R_ok hc
    have A2 := Lib.hid (fun w hL => zon_ahead z t w hL hz ht)
    rw [hc] at A1
    generalize Wp.ofs z t = r at *
    clear hc hz ht
    obtain ⟨base, save, ⟨fm, fn, fw, fi⟩, ⟨tm, tn, tw, ti⟩⟩ := z
    unfold Wp.zoneC at A1 A2 ⊢
    simp only [] at A1 A2 ⊢
    have X0 := Lib.hid (cv_new w (.cells #[.int .i64 base, .int .i64 save, .int .i64 fm, .int .i64 fn, .int .i64 fw, .int .i64 fi, .int .i64 tm, .int .i64 tn, .int .i64 tw, .int .i64 ti] 48))
    have B0 := Lib.hid (Wp.below_box w (.cells #[.int .i64 base, .int .i64 save, .int .i64 fm, .int .i64 fn, .int .i64 fw, .int .i64 fi, .int .i64 tm, .int .i64 tn, .int .i64 tw, .int .i64 ti] 48))
    have HL := Lib.hid hL
    clear hL
    go_enter Tryd.func19, Tryd.ntmps19
    go_wp2_with fail
    refine (A1.out _).mono ?_
    rintro e w1 ⟨rfl, b1⟩
    rw [World.size_alloc] at b1
    have B1 := Lib.hid (B0.out.trans (b1.mono (by omega)))
    obtain ⟨c0, c1, c2, c3, c4, c5, c6, c7, c8, c9⟩ := Wp.ten_of ((b1.block w.heap.size (by omega)).trans X0.out)
    go_wp2_with fail
    refine (A2.out _ (HL.out.below B1.out)).mono ?_
    rintro e w2 ⟨rfl, b2⟩
    go_wp2_with fail
    go_ret2
    exact ⟨rfl, cv_then B1.out b2 B1.out.size⟩
  · rw [show Wp.offR z t = (0, Wp.chk2R z t) from if_neg hc]
    generalize Wp.chk2R z t = q at *
    have hq : (q != 0) = true := by simpa using hc
    clear hc
    obtain ⟨base, save, ⟨fm, fn, fw, fi⟩, ⟨tm, tn, tw, ti⟩⟩ := z
    unfold Wp.zoneC at A1 ⊢
    simp only [] at A1 ⊢
    have B0 := Lib.hid (Wp.below_box w (.cells #[.int .i64 base, .int .i64 save, .int .i64 fm, .int .i64 fn, .int .i64 fw, .int .i64 fi, .int .i64 tm, .int .i64 tn, .int .i64 tw, .int .i64 ti] 48))
    go_enter Tryd.func19, Tryd.ntmps19
    go_wp2_with fail
    refine (A1.out _).mono ?_
    rintro e w1 ⟨rfl, b1⟩
    rw [World.size_alloc] at b1
    go_wp2_with fail
    go_ret2
    exact ⟨rfl, B0.out.trans (b1.mono (by omega))⟩
end Go.Proofs.YtpaleljnkejdgaaDoor
