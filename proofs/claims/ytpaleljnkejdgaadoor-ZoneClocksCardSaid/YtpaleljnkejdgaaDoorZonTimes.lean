/-
  The walks of zone's times and Times: the times at which the clocks tell a moment, in new memory. Condition: the calendar's table reads as it is laid.
-/
import Derived.Test.YtpaleljnkejdgaaDoorZonCompact
namespace Go.Proofs.YtpaleljnkejdgaaDoor
open Go.RowKit

noncomputable def Wp.timeOne (z : Wp.Zn) (u m : Int) : List Int := if Wp.isT (u - m * 60) = true ∧ Wp.ofs z (u - m * 60) = m then [u - m * 60] else []
noncomputable def Wp.timesL (z : Wp.Zn) (u : Int) : List Int := (Cv.two (z.base + z.save) z.base).flatMap (Wp.timeOne z u)
theorem infoI64 : ∃ i, Tryd.prog.info? 2 = some i ∧ i.zero = some (.int .i64 0) ∧ i.size = 1 ∧ i.bytes = 8 := info_parts (by kernel_rfl)
theorem Cv.flat_take {f : Int → List Int} (l : List Int) (k : Nat) (hk : k < l.length) : (l.take (k + 1)).flatMap f = (l.take k).flatMap f ++ f l[k] := by
  rw [List.take_succ_eq_append_getElem hk, List.flatMap_append]
  simp
theorem Cv.two_mem (a b : Int) : ∀ x ∈ Cv.two a b, x = a ∨ x = b := by
  intro x hx
  unfold Cv.two at hx
  split at hx
  · exact Or.inl (by simpa using hx)
  · simpa using hx
theorem cv_owns_base {w : World} {base base' : Nat} {e : TypeId} {size : Nat} {v : Value} {n : Nat} {xs : List Value} (h : w.ownsRow base e size v n xs) (hb : base' ≤ base) : w.ownsRow base' e size v n xs := by
  refine ⟨h.1, ?_⟩
  rcases h.2 with h0 | ⟨g, cap, cur, hv, hg, rest⟩
  · exact Or.inl h0
  · exact Or.inr ⟨g, cap, cur, hv, Nat.le_trans hb hg, rest⟩
theorem Wp.timeOne_len (z : Wp.Zn) (u m : Int) : (Wp.timeOne z u m).length ≤ 1 := by unfold Wp.timeOne; split <;> simp
set_option maxRecDepth 10000 in
set_option maxHeartbeats 4000000 in
theorem zon_times (z : Wp.Zn) (u : Int) (w : World) (hL : Cv.Laid w) (hz : Wp.ZnOk z) (hu : Wp.isT u = true) :
    Calls Tryd.prog 63 #[.agg (Wp.zoneC z), .int .i64 u] w fun e w' => ∃ v, e = .returned v ∧ w'.ownsRow w.heap.size 2 1 v (Wp.timesL z u).length ((Wp.timesL z u).map (Value.int .i64)) ∧ Below w.heap.size w w' := by
  have AS := Lib.hid (fun w => zon_summer z w hz.1)
  have AA := Lib.hid (fun t w hL ht => zon_ahead z t w hL hz ht)
  obtain ⟨u1, u2⟩ := Wp.isT_yes hu
  have hb := hz.1
  obtain ⟨b1, b2, b3, b4⟩ := hb
  have hone := Lib.hid (show ∀ m, Wp.timeOne z u m = if Wp.isT (u - m * 60) = true ∧ Wp.ofs z (u - m * 60) = m then [u - m * 60] else [] from fun m => rfl)
  have hlen1 := Lib.hid (fun m => Wp.timeOne_len z u m)
  have hall := Lib.hid (show Wp.timesL z u = (Cv.two (z.base + z.save) z.base).flatMap (Wp.timeOne z u) from rfl)
  have htwo := Lib.hid (Cv.two_mem (z.base + z.save) z.base)
  have hl2 : (Cv.two (z.base + z.save) z.base).length ≤ 2 := by unfold Cv.two; split <;> simp
  have AC := Lib.hid (fun g T w h => zon_compact (z.base + z.save) z.base g T w h)
  generalize Wp.timesL z u = R at *
  generalize Wp.timeOne z u = f at *
  generalize Wp.ofs z = o at *
  clear hz hu
  obtain ⟨base, save, ⟨fm, fn, fw, fi⟩, ⟨tm, tn, tw, ti⟩⟩ := z
  unfold Wp.zoneC at AS AA ⊢
  simp only [] at AS AA AC b1 b2 b3 b4 hall htwo hl2 ⊢
  generalize Cv.two (base + save) base = zs at *
  have XB := Lib.hid (cv_new w (.cells #[.int .i64 base, .int .i64 save, .int .i64 fm, .int .i64 fn, .int .i64 fw, .int .i64 fi, .int .i64 tm, .int .i64 tn, .int .i64 tw, .int .i64 ti] 91))
  have B0 := Lib.hid (Wp.below_box w (.cells #[.int .i64 base, .int .i64 save, .int .i64 fm, .int .i64 fn, .int .i64 fw, .int .i64 fi, .int .i64 tm, .int .i64 tn, .int .i64 tw, .int .i64 ti] 91))
  obtain ⟨wB, hwB⟩ : ∃ wB, w.alloc (.cells #[.int .i64 base, .int .i64 save, .int .i64 fm, .int .i64 fn, .int .i64 fw, .int .i64 fi, .int .i64 tm, .int .i64 tn, .int .i64 tw, .int .i64 ti] 91) = wB := ⟨_, rfl⟩
  have SB : wB.heap.size = w.heap.size + 1 := by rw [← hwB, World.size_alloc]
  rw [hwB] at B0 XB
  have HwB := Lib.hid hwB
  have HL := Lib.hid hL
  clear hwB hL
  obtain ⟨c0, c1, c2, c3, c4, c5, c6, c7, c8, c9⟩ := Wp.ten_of XB.out
  go_enter Tryd.func63, Tryd.ntmps63
  go_wp2_with fail
  rw [HwB.out]
  go_region_held3 (fun w' => w'.cell? ⟨w.heap.size, 0, none⟩ = some (.int .i64 base) ∧ w'.cell? ⟨w.heap.size, 1, none⟩ = some (.int .i64 save) ∧ w'.cell? ⟨w.heap.size, 2, none⟩ = some (.int .i64 fm) ∧ w'.cell? ⟨w.heap.size, 3, none⟩ = some (.int .i64 fn) ∧ w'.cell? ⟨w.heap.size, 4, none⟩ = some (.int .i64 fw) ∧ w'.cell? ⟨w.heap.size, 5, none⟩ = some (.int .i64 fi) ∧ w'.cell? ⟨w.heap.size, 6, none⟩ = some (.int .i64 tm) ∧ w'.cell? ⟨w.heap.size, 7, none⟩ = some (.int .i64 tn) ∧ w'.cell? ⟨w.heap.size, 8, none⟩ = some (.int .i64 tw) ∧ w'.cell? ⟨w.heap.size, 9, none⟩ = some (.int .i64 ti))
    (first
      | (go_keep; done)
      | (exact ⟨(e7.cell (p := ⟨w.heap.size, 0, none⟩) k0).trans c0, (e7.cell (p := ⟨w.heap.size, 1, none⟩) k0).trans c1, (e7.cell (p := ⟨w.heap.size, 2, none⟩) k0).trans c2, (e7.cell (p := ⟨w.heap.size, 3, none⟩) k0).trans c3, (e7.cell (p := ⟨w.heap.size, 4, none⟩) k0).trans c4, (e7.cell (p := ⟨w.heap.size, 5, none⟩) k0).trans c5, (e7.cell (p := ⟨w.heap.size, 6, none⟩) k0).trans c6, (e7.cell (p := ⟨w.heap.size, 7, none⟩) k0).trans c7, (e7.cell (p := ⟨w.heap.size, 8, none⟩) k0).trans c8, (e7.cell (p := ⟨w.heap.size, 9, none⟩) k0).trans c9⟩))
    (first
      | (go_at_call 89; (with_reducible refine (AS.out _).mono ?_); rintro e w5 ⟨rfl, hb5⟩; have e7 : Below wB.heap.size wB w5 := ((Below.refl _ wB).drew.trans hb5); have k0 : w.heap.size < wB.heap.size := by omega)
      | (go_at_call 97; (with_reducible refine (AC.out _ _ _ (cv_new _ _)).mono ?_); rintro e w6 ⟨rfl, hcells, hb6⟩; have e8 := (e7.alloc e7.size (.cells #[.int .i64 (base + save), .int .i64 base] 3)).trans (hb6.mono e7.size); have k7 : w5.heap.size < w6.heap.size := (by have := hb6.size; rw [World.size_alloc] at this; omega); clear e7; have e7 := e8; clear e8))
  clear c0 c1 c2 c3 c4 c5 c6 c7 c8 c9
  have HC := Lib.hid hcells
  have B6 := Lib.hid (B0.out.trans (e7.mono (by omega)))
  have X6 := Lib.hid ((e7.block w.heap.size (by omega)).trans XB.out)
  have S6 : w.heap.size < w6.heap.size := by have := e7.size; omega
  clear hcells e7
  obtain ⟨n, hn⟩ : ∃ n, n = zs.length := ⟨_, rfl⟩
  have Hn := Lib.hid hn
  rw [← hn] at hl2
  simp only [← hn]
  clear hn
  obtain ⟨i0, hi, hz0, hz1, hz2⟩ := infoI64
  have HI := Lib.hid (And.intro hi (And.intro hz0 (And.intro hz1 hz2)))
  clear hi hz0 hz1 hz2
  go_wp2_with fail
  go_loopw [5, 17] (fun v i wr => ∃ k : Nat, k ≤ n ∧ i = .int .i64 k ∧ wr.ownsRow w6.heap.size 2 1 v ((zs.take k).flatMap f).length (((zs.take k).flatMap f).map (Value.int .i64)) ∧ ((zs.take k).flatMap f).length ≤ k ∧ Below w6.heap.size w6 wr) (fun _ i _ => n - (intOf i).toNat)
  case atStart => exact ⟨0, Nat.zero_le _, rfl, World.ownsRow_nil _ _ _ _, Nat.zero_le _, Below.refl _ _⟩
  case round =>
    obtain ⟨k, hk, rfl, ho, hll, hB⟩ := hrel
    have OR := Lib.hid ho
    have BR := Lib.hid hB
    have SR : w6.heap.size ≤ wr.heap.size := hB.size
    have hv : ∃ p c, u5 = .slice p ((zs.take k).flatMap f).length c := by
      rcases ho.2 with ⟨hv, h0⟩ | ⟨g, cap, cur, hv, _⟩
      · exact ⟨none, 0, by rw [hv, h0]⟩
      · exact ⟨_, _, hv⟩
    obtain ⟨p5, c5', rfl⟩ := hv
    clear ho hB
    by_cases hlt : k < n
    · have hkl : k < zs.length := by rw [← Hn.out]; exact hlt
      have hc := (BR.out.cell (p := ⟨w5.heap.size, k, none⟩) k7).trans (HC.out k hkl)
      have hft := Cv.flat_take (f := f) zs k hkl
      have hmm := htwo.out zs[k] (List.getElem_mem hkl)
      obtain ⟨mi, hmi⟩ : ∃ mi, mi = zs[k] := ⟨_, rfl⟩
      rw [← hmi] at hc hft hmm
      rw [hone.out mi] at hft
      clear hmi hkl
      have hm1 : -900 ≤ mi ∧ mi ≤ 1020 := by omega
      obtain ⟨hm1, hm2⟩ := hm1
      clear hmm
      generalize (zs.take k).flatMap f = l at *
      have hki : (k : Int) < (n : Int) := by omega
      cases hT : Wp.isT (u - mi * 60) with
      | false =>
        rw [if_neg (by rw [hT]; simp), List.append_nil] at hft
        have HF := Lib.hid hft
        have HT := Lib.hid hT
        clear hft hT
        go_wp2_with fail
        refine (zon_seconds mi _ (by omega) (by omega)).mono ?_
        rintro e w7 ⟨rfl, rfl⟩
        go_wp2_with fail
        refine (zon_isTime _ _).mono ?_
        rintro e w7 ⟨rfl, rfl⟩
        rw [HT.out]
        go_wp2_with fail
        exact ⟨⟨k + 1, by omega, by go_num, by rw [HF.out]; exact OR.out, by rw [HF.out]; omega, BR.out⟩, by simp [intOf]; omega⟩
      | true =>
        have A7 := Lib.hid (fun w hL => AA.out (u - mi * 60) w hL hT)
        have HT := Lib.hid hT
        obtain ⟨c0, c1, c2, c3, c4, c5, c6, c7, c8, c9⟩ := Wp.ten_of ((BR.out.block w.heap.size S6).trans X6.out)
        by_cases heq : o (u - mi * 60) = mi
        · rw [if_pos ⟨hT, heq⟩] at hft
          rw [heq] at A7
          have HF := Lib.hid hft
          clear hft hT heq
          go_wp2_with fail
          refine (zon_seconds mi _ (by omega) (by omega)).mono ?_
          rintro e w7 ⟨rfl, rfl⟩
          go_wp2_with fail
          refine (zon_isTime _ _).mono ?_
          rintro e w7 ⟨rfl, rfl⟩
          rw [HT.out]
          go_wp2_with fail
          refine (A7.out _ (HL.out.below (B6.out.trans (BR.out.mono (by omega))))).mono ?_
          rintro e w7 ⟨rfl, b7⟩
          clear c0 c1 c2 c3 c4 c5 c6 c7 c8 c9
          have B7 := Lib.hid (cv_then BR.out b7 SR)
          have O7 := Lib.hid (cv_owns_below OR.out b7)
          have S7 : w6.heap.size ≤ w7.heap.size := by have := b7.size; omega
          clear b7
          obtain ⟨hi, hz0, hz1, hz2⟩ := HI.out
          go_wp2_with (at_builtin; refine wpList_append_own _ rfl _ _ 61 rfl w6.heap.size 2 i0 _ 1 8 Tryd.underlying61 hi hz0 hz1 hz2 rfl (by decide) _ _ _ rfl (O7.out.alloc _) ⟨w7.heap.size, 0, none⟩ 1 1 [.int .i64 (u - mi * 60)] rfl rfl ?c1 ?c2 ?c3 ?c4 ?c5 ?_)
          case c1 => exact cell_one_new _ _ _
          case c2 => simp [Value.oneCell']
          case c3 => unfold maxLen; omega
          case c4 => omega
          case c5 => rw [World.size_alloc]; omega
          intro v8 w8 hown8 hgrow8 _
          have B8 := Lib.hid ((B7.out.alloc (by omega) (.cells #[.int .i64 (u - mi * 60)] 2)).grown hgrow8 (by rw [World.size_alloc]; omega) (fun k hk => (O7.out.lt k hk).1))
          have O8 := Lib.hid hown8
          clear hown8 hgrow8 hi hz0 hz1 hz2
          go_wp2_with fail
          exact ⟨⟨k + 1, by omega, by go_num, by rw [HF.out, List.length_append, List.map_append]; exact O8.out, by rw [HF.out, List.length_append]; simp; omega, B8.out⟩, by simp [intOf]; omega⟩
        · rw [if_neg (fun h => heq h.2), List.append_nil] at hft
          have HF := Lib.hid hft
          generalize o (u - mi * 60) = ov at *
          have hq : (ov == mi) = false := by simpa using heq
          clear hft hT heq
          go_wp2_with fail
          refine (zon_seconds mi _ (by omega) (by omega)).mono ?_
          rintro e w7 ⟨rfl, rfl⟩
          go_wp2_with fail
          refine (zon_isTime _ _).mono ?_
          rintro e w7 ⟨rfl, rfl⟩
          rw [HT.out]
          go_wp2_with fail
          refine (A7.out _ (HL.out.below (B6.out.trans (BR.out.mono (by omega))))).mono ?_
          rintro e w7 ⟨rfl, b7⟩
          clear c0 c1 c2 c3 c4 c5 c6 c7 c8 c9
          have B7 := Lib.hid (cv_then BR.out b7 SR)
          have O7 := Lib.hid (cv_owns_below OR.out b7)
          clear b7
          go_wp2_with fail
          exact ⟨⟨k + 1, by omega, by go_num, by rw [HF.out]; exact O7.out, by rw [HF.out]; omega, B7.out⟩, by simp [intOf]; omega⟩
    · obtain rfl : k = n := by omega
      have e : (zs.take k).flatMap f = R := by rw [Hn.out, List.take_length, hall.out]
      have E := Lib.hid e
      clear e
      go_wp2_with fail
      go_ret
      rw [← E.out]
      exact ⟨_, rfl, cv_owns_base OR.out (by omega), B6.out.trans (BR.out.mono (by omega))⟩
end Go.Proofs.YtpaleljnkejdgaaDoor
