/-
  The walk of zone's turns: the switches of the time's year and of those beside it, rising. Conditions: the zone is right and has a summer; the calendar's table reads as it is laid.
-/
import Derived.Test.YtpaleljnkejdgaaDoorZonSort
import Derived.Test.YtpaleljnkejdgaaDoorCivRefOf
import Derived.Deep.RegionHeld3
import Derived.WalkSmall
namespace Go.Proofs.YtpaleljnkejdgaaDoor
open Go.RowKit

theorem cv_owns_below {w w' : World} {base : Nat} {e : TypeId} {size : Nat} {v : Value} {n : Nat} {xs : List Value} (h : w.ownsRow base e size v n xs) (hb : Below w.heap.size w w') : w'.ownsRow base e size v n xs :=
  h.kept (row := none) ⟨hb.os, hb.tape, hb.output, hb.size, fun k hk _ => hb.block k hk⟩ (Classical.em _)
theorem infoTurn : ∃ i, Tryd.prog.info? 102 = some i ∧ i.zero = some (.agg #[.int .i64 0, .int .i64 0]) ∧ i.size = 2 ∧ i.bytes = 16 := info_parts (by kernel_rfl)
/-- The cases of a year's switches. -/
theorem Wp.Zn.raw_next (z : Wp.Zn) (Y : Int) (j : Nat) : z.rawTo Y (j + 1) = z.rawTo Y j ++ ((if z.V false (Y - 1 + j) = true then [(z.T false (Y - 1 + j), z.then_ false)] else []) ++ (if z.V true (Y - 1 + j) = true then [(z.T true (Y - 1 + j), z.then_ true)] else [])) := rfl
theorem Wp.turnR_v {s : Wp.Sw} {y a : Int} (h : Wp.swV s y a = true) : Wp.turnR s y a = Wp.swT s y a := if_pos (Wp.swV_iff.1 h).1
def Wp.TurnsPost (z : Wp.Zn) (Y : Int) (w : World) (e : Ending) (w' : World) : Prop := ∃ l p c, e = .returned (.slice p l.length c) ∧ Wp.Turns z Y l ∧ l.length ≤ 6 ∧ Wp.AtP w' p l ∧ Below w.heap.size w w'
set_option maxRecDepth 10000 in
set_option maxHeartbeats 4000000 in
theorem zon_turns (z : Wp.Zn) (t : Int) (m : Wp.Mom) (w : World) (hL : Cv.Laid w) (hz : Wp.ZnOk z) (hs : z.save ≠ 0) (hm : Wp.IsOf t m) :
    Calls Tryd.prog 57 #[.agg (Wp.zoneC z), .int .i64 t] w (Wp.TurnsPost z m.y w) := by
  obtain ⟨hY1, hY2, _, _⟩ := hm.year
  have q0 : (z.save == 0) = false := by simpa using hs
  have A1 := Lib.hid (fun w hL => civ_Of_yes t m w hL hm)
  have AS0 := Lib.hid (fun w => zon_summer z w hz.1)
  have AF0 := Lib.hid (fun y w hL => zon_turnAt z.fr y z.base w hL (hz.sws hs).1 (hz.ah_bd false).1 (hz.ah_bd false).2)
  have AT0 := Lib.hid (fun y w hL => zon_turnAt z.to y (z.base + z.save) w hL (hz.sws hs).2.1 (hz.ah_bd true).1 (hz.ah_bd true).2)
  have hpos := Wp.Zn.rawTo_pos hz hs hY1 hY2
  have hlen := fun j => Wp.Zn.rawTo_len z m.y j
  have Hlen := Lib.hid hlen
  have hraw := Lib.hid (fun j => Wp.Zn.raw_next z m.y j)
  have hv0 := Lib.hid (show ∀ y, z.V false y = Wp.swV z.fr y z.base from fun _ => rfl)
  have hv1 := Lib.hid (show ∀ y, z.V true y = Wp.swV z.to y (z.base + z.save) from fun _ => rfl)
  have ht0 := Lib.hid (show ∀ y, z.T false y = Wp.swT z.fr y z.base from fun _ => rfl)
  have ht1 := Lib.hid (show ∀ y, z.T true y = Wp.swT z.to y (z.base + z.save) from fun _ => rfl)
  have hn0 := Lib.hid (show z.then_ false = z.base + z.save from rfl)
  have hn1 := Lib.hid (show z.then_ true = z.base from rfl)
  have hb := hz.1
  obtain ⟨b1, b2, b3, b4⟩ := hb
  clear hlen hs hm
  obtain ⟨Y, MO, D, HO, MI, SS, K⟩ := m
  obtain ⟨base, save, ⟨fm, fn, fw, fi⟩, ⟨tm, tn, tw, ti⟩⟩ := z
  have HZ := Lib.hid hz
  clear hz
  simp only [] at hY1 hY2 q0 b1 b2 b3 b4 hv0 hv1 ht0 ht1 hn0 hn1
  unfold Wp.momC at A1
  unfold Wp.swC at AF0 AT0
  unfold Wp.zoneC at AS0 ⊢
  simp only [] at A1 AS0 AF0 AT0 ⊢
  obtain ⟨Z, hZ⟩ : ∃ Z : Wp.Zn, Z = ⟨base, save, ⟨fm, fn, fw, fi⟩, ⟨tm, tn, tw, ti⟩⟩ := ⟨_, rfl⟩
  rw [← hZ] at hpos Hlen hraw hv0 hv1 ht0 ht1 hn0 hn1 HZ
  simp only [← hZ]
  clear hZ
  obtain ⟨i0, hi, hz0, hz1, hz2⟩ := infoTurn
  have HI := Lib.hid (And.intro hi (And.intro hz0 (And.intro hz1 hz2)))
  clear hi hz0 hz1 hz2
  have B00 := Lib.hid (Wp.below_box w (.cells #[.int .i64 base, .int .i64 save, .int .i64 fm, .int .i64 fn, .int .i64 fw, .int .i64 fi, .int .i64 tm, .int .i64 tn, .int .i64 tw, .int .i64 ti] 91))
  have X00 := Lib.hid (cv_new w (.cells #[.int .i64 base, .int .i64 save, .int .i64 fm, .int .i64 fn, .int .i64 fw, .int .i64 fi, .int .i64 tm, .int .i64 tn, .int .i64 tw, .int .i64 ti] 91))
  have HL := Lib.hid hL
  clear hL
  go_enter Tryd.func57, Tryd.ntmps57
  go_wp2_with fail
  refine (A1.out _ (HL.out.below B00.out)).mono ?_
  rintro e w1 ⟨rfl, b1'⟩
  rw [World.size_alloc] at b1'
  have S1 : w.heap.size + 1 ≤ w1.heap.size := by have := b1'.size; rw [World.size_alloc] at this; omega
  have B0 := Lib.hid ((B00.out.trans (b1'.mono (by omega))).alloc (by omega) (.cells #[.int .i64 Y, .int .i64 MO, .int .i64 D, .int .i64 HO, .int .i64 MI, .int .i64 SS, .int .i64 K] 52))
  have XB := Lib.hid ((cv_past w1 (.cells #[.int .i64 Y, .int .i64 MO, .int .i64 D, .int .i64 HO, .int .i64 MI, .int .i64 SS, .int .i64 K] 52) w.heap.size (by omega)).trans ((b1'.block w.heap.size (by omega)).trans X00.out))
  have YB := Lib.hid (cv_new w1 (.cells #[.int .i64 Y, .int .i64 MO, .int .i64 D, .int .i64 HO, .int .i64 MI, .int .i64 SS, .int .i64 K] 52))
  obtain ⟨wB, hwB⟩ : ∃ wB, w1.alloc (.cells #[.int .i64 Y, .int .i64 MO, .int .i64 D, .int .i64 HO, .int .i64 MI, .int .i64 SS, .int .i64 K] 52) = wB := ⟨_, rfl⟩
  have SB : wB.heap.size = w1.heap.size + 1 := by rw [← hwB, World.size_alloc]
  rw [hwB] at B0 XB YB
  have HwB := Lib.hid hwB
  clear hwB
  go_wp2_with fail
  rw [HwB.out]
  go_loopw [5, 8] (fun v yv wr => ∃ j : Nat, j ≤ 3 ∧ yv = .int .i64 (Y - 1 + j) ∧ wr.ownsRow (w1.heap.size + 1) 102 2 v (Z.rawTo Y j).length (Wp.turnCs (Z.rawTo Y j)) ∧ Below (w1.heap.size + 1) wB wr) (fun _ yv _ => (Y + 2 - intOf yv).toNat)
  case atStart => exact ⟨0, by omega, by simp, World.ownsRow_nil _ _ _ _, Below.refl _ _⟩
  case round =>
    obtain ⟨j, hj, rfl, ho, hB⟩ := hrel
    have OR := Lib.hid ho
    have BR := Lib.hid hB
    have SR : w1.heap.size + 1 ≤ wr.heap.size := by have := hB.size; omega
    have hv : ∃ p c, u5 = .slice p (Z.rawTo Y j).length c := by
      rcases ho.2 with ⟨hv, h0⟩ | ⟨g, cap, cur, hv, _⟩
      · exact ⟨none, 0, by rw [hv, h0]⟩
      · exact ⟨_, _, hv⟩
    clear ho hB
    obtain ⟨p5, c5', rfl⟩ := hv
    have hn6 := Hlen.out j
    by_cases hlt : j < 3
    · have hle : Y - 1 + (j : Int) ≤ Y + 1 := by omega
      have HY := Lib.hid (show Y - 1 + (j : Int) + 1 = Y - 1 + ((j + 1 : Nat) : Int) by omega)
      have AS := AS0
      have AF := Lib.hid (AF0.out (Y - 1 + (j : Int)))
      have AT := Lib.hid (AT0.out (Y - 1 + (j : Int)))
      have huf0 := fun h => Wp.turnR_v (s := ⟨fm, fn, fw, fi⟩) (y := Y - 1 + (j : Int)) (a := base) h
      have hut0 := fun h => Wp.turnR_v (s := ⟨tm, tn, tw, ti⟩) (y := Y - 1 + (j : Int)) (a := base + save) h
      obtain ⟨uf, huf1⟩ : ∃ u, u = Wp.turnR ⟨fm, fn, fw, fi⟩ (Y - 1 + (j : Int)) base := ⟨_, rfl⟩
      obtain ⟨ut, hut1⟩ : ∃ u, u = Wp.turnR ⟨tm, tn, tw, ti⟩ (Y - 1 + (j : Int)) (base + save) := ⟨_, rfl⟩
      rw [← huf1] at AF huf0
      rw [← hut1] at AT hut0
      clear huf1 hut1
      cases hvf : Wp.swV ⟨fm, fn, fw, fi⟩ (Y - 1 + (j : Int)) base with
      | false =>
        have huf := huf0
        skip
        rw [hvf] at AF
        cases hvt : Wp.swV ⟨tm, tn, tw, ti⟩ (Y - 1 + (j : Int)) (base + save) with
        | false =>
          have hut := hut0
          skip
          rw [hvt] at AT
          clear huf0 hut0
          have HR := Lib.hid (show Z.rawTo Y (j + 1) = Z.rawTo Y j by rw [hraw.out j, hv0.out, hv1.out, hvf, hvt]; rw [if_neg (by simp), if_neg (by simp)]; simp)
          clear hvf hvt huf hut
          obtain ⟨c0, c1, c2, c3, c4, c5, c6, c7, c8, c9⟩ := Wp.ten_of ((BR.out.block w.heap.size (by omega)).trans XB.out)
          obtain ⟨d0, d1, d2, d3, d4, d5, d6⟩ := Wp.seven_of ((BR.out.block w1.heap.size (by omega)).trans YB.out)
          go_wp2_with fail
          refine (AF.out _ (HL.out.below (B0.out.trans (BR.out.mono (by omega))))).mono ?_
          rintro e w2 ⟨rfl, b2'⟩
          have B2 := Lib.hid (BR.out.trans (b2'.mono SR))
          have O2 := Lib.hid (cv_owns_below OR.out b2')
          have S2 : w1.heap.size + 1 ≤ w2.heap.size := by have := b2'.size; omega
          clear b2'
          clear c0 c1 c2 c3 c4 c5 c6 c7 c8 c9 d0 d1 d2 d3 d4 d5 d6
          obtain ⟨c0, c1, c2, c3, c4, c5, c6, c7, c8, c9⟩ := Wp.ten_of ((B2.out.block w.heap.size (by omega)).trans XB.out)
          obtain ⟨d0, d1, d2, d3, d4, d5, d6⟩ := Wp.seven_of ((B2.out.block w1.heap.size (by omega)).trans YB.out)
          have LW := Lib.hid (HL.out.below (B0.out.trans (B2.out.mono (by omega))))
          go_wp2_with fail
          go_region_held3 (fun w' => w'.cell? ⟨w.heap.size, 0, none⟩ = some (.int .i64 base) ∧ w'.cell? ⟨w.heap.size, 1, none⟩ = some (.int .i64 save) ∧ w'.cell? ⟨w.heap.size, 2, none⟩ = some (.int .i64 fm) ∧ w'.cell? ⟨w.heap.size, 3, none⟩ = some (.int .i64 fn) ∧ w'.cell? ⟨w.heap.size, 4, none⟩ = some (.int .i64 fw) ∧ w'.cell? ⟨w.heap.size, 5, none⟩ = some (.int .i64 fi) ∧ w'.cell? ⟨w.heap.size, 6, none⟩ = some (.int .i64 tm) ∧ w'.cell? ⟨w.heap.size, 7, none⟩ = some (.int .i64 tn) ∧ w'.cell? ⟨w.heap.size, 8, none⟩ = some (.int .i64 tw) ∧ w'.cell? ⟨w.heap.size, 9, none⟩ = some (.int .i64 ti))
            (first
              | (go_keep; done)
              | (exact ⟨(e7.cell (p := ⟨w.heap.size, 0, none⟩) k0).trans c0, (e7.cell (p := ⟨w.heap.size, 1, none⟩) k0).trans c1, (e7.cell (p := ⟨w.heap.size, 2, none⟩) k0).trans c2, (e7.cell (p := ⟨w.heap.size, 3, none⟩) k0).trans c3, (e7.cell (p := ⟨w.heap.size, 4, none⟩) k0).trans c4, (e7.cell (p := ⟨w.heap.size, 5, none⟩) k0).trans c5, (e7.cell (p := ⟨w.heap.size, 6, none⟩) k0).trans c6, (e7.cell (p := ⟨w.heap.size, 7, none⟩) k0).trans c7, (e7.cell (p := ⟨w.heap.size, 8, none⟩) k0).trans c8, (e7.cell (p := ⟨w.heap.size, 9, none⟩) k0).trans c9⟩))
            (first
              | (go_at_call 89; (with_reducible refine (AS.out _).mono ?_); rintro e w5 ⟨rfl, hb5⟩; have e7 : Below w2.heap.size w2 w5 := ((Below.refl _ w2).drew.trans hb5); have k0 : w.heap.size < w2.heap.size := by omega)
              | (go_at_call 88; (with_reducible refine (AT.out _ (LW.out.below e7)).mono ?_); rintro e w6 ⟨rfl, hb6⟩; have e8 := e7.trans (hb6.mono e7.size); clear e7; have e7 := e8; clear e8))
          clear c0 c1 c2 c3 c4 c5 c6 c7 c8 c9 d0 d1 d2 d3 d4 d5 d6
          have BT := Lib.hid ((B2.out).trans (e7.mono (by omega)))
          have OT := Lib.hid (cv_owns_below O2.out e7)
          have ST : w1.heap.size + 1 ≤ w6.heap.size := by have := e7.size; omega
          clear e7 k0
          go_wp2_with fail
          exact ⟨⟨j + 1, by omega, by rw [HY.out], by rw [HR.out]; exact OT.out, BT.out⟩, by simp [intOf]; omega⟩
        | true =>
          have hut := hut0
          replace hut := hut0 hvt
          rw [hvt] at AT
          clear huf0 hut0
          have HR := Lib.hid (show Z.rawTo Y (j + 1) = (Z.rawTo Y j ++ [(ut, base)]) by rw [hraw.out j, hv0.out, hv1.out, hvf, hvt]; rw [if_neg (by simp), if_pos rfl]; rw [ht1.out, hn1.out, ← hut]; simp)
          clear hvf hvt huf hut
          obtain ⟨c0, c1, c2, c3, c4, c5, c6, c7, c8, c9⟩ := Wp.ten_of ((BR.out.block w.heap.size (by omega)).trans XB.out)
          obtain ⟨d0, d1, d2, d3, d4, d5, d6⟩ := Wp.seven_of ((BR.out.block w1.heap.size (by omega)).trans YB.out)
          go_wp2_with fail
          refine (AF.out _ (HL.out.below (B0.out.trans (BR.out.mono (by omega))))).mono ?_
          rintro e w2 ⟨rfl, b2'⟩
          have B2 := Lib.hid (BR.out.trans (b2'.mono SR))
          have O2 := Lib.hid (cv_owns_below OR.out b2')
          have S2 : w1.heap.size + 1 ≤ w2.heap.size := by have := b2'.size; omega
          clear b2'
          clear c0 c1 c2 c3 c4 c5 c6 c7 c8 c9 d0 d1 d2 d3 d4 d5 d6
          obtain ⟨c0, c1, c2, c3, c4, c5, c6, c7, c8, c9⟩ := Wp.ten_of ((B2.out.block w.heap.size (by omega)).trans XB.out)
          obtain ⟨d0, d1, d2, d3, d4, d5, d6⟩ := Wp.seven_of ((B2.out.block w1.heap.size (by omega)).trans YB.out)
          have LW := Lib.hid (HL.out.below (B0.out.trans (B2.out.mono (by omega))))
          go_wp2_with fail
          go_region_held3 (fun w' => w'.cell? ⟨w.heap.size, 0, none⟩ = some (.int .i64 base) ∧ w'.cell? ⟨w.heap.size, 1, none⟩ = some (.int .i64 save) ∧ w'.cell? ⟨w.heap.size, 2, none⟩ = some (.int .i64 fm) ∧ w'.cell? ⟨w.heap.size, 3, none⟩ = some (.int .i64 fn) ∧ w'.cell? ⟨w.heap.size, 4, none⟩ = some (.int .i64 fw) ∧ w'.cell? ⟨w.heap.size, 5, none⟩ = some (.int .i64 fi) ∧ w'.cell? ⟨w.heap.size, 6, none⟩ = some (.int .i64 tm) ∧ w'.cell? ⟨w.heap.size, 7, none⟩ = some (.int .i64 tn) ∧ w'.cell? ⟨w.heap.size, 8, none⟩ = some (.int .i64 tw) ∧ w'.cell? ⟨w.heap.size, 9, none⟩ = some (.int .i64 ti))
            (first
              | (go_keep; done)
              | (exact ⟨(e7.cell (p := ⟨w.heap.size, 0, none⟩) k0).trans c0, (e7.cell (p := ⟨w.heap.size, 1, none⟩) k0).trans c1, (e7.cell (p := ⟨w.heap.size, 2, none⟩) k0).trans c2, (e7.cell (p := ⟨w.heap.size, 3, none⟩) k0).trans c3, (e7.cell (p := ⟨w.heap.size, 4, none⟩) k0).trans c4, (e7.cell (p := ⟨w.heap.size, 5, none⟩) k0).trans c5, (e7.cell (p := ⟨w.heap.size, 6, none⟩) k0).trans c6, (e7.cell (p := ⟨w.heap.size, 7, none⟩) k0).trans c7, (e7.cell (p := ⟨w.heap.size, 8, none⟩) k0).trans c8, (e7.cell (p := ⟨w.heap.size, 9, none⟩) k0).trans c9⟩))
            (first
              | (go_at_call 89; (with_reducible refine (AS.out _).mono ?_); rintro e w5 ⟨rfl, hb5⟩; have e7 : Below w2.heap.size w2 w5 := ((Below.refl _ w2).drew.trans hb5); have k0 : w.heap.size < w2.heap.size := by omega)
              | (go_at_call 88; (with_reducible refine (AT.out _ (LW.out.below e7)).mono ?_); rintro e w6 ⟨rfl, hb6⟩; have e8 := e7.trans (hb6.mono e7.size); clear e7; have e7 := e8; clear e8))
          clear c0 c1 c2 c3 c4 c5 c6 c7 c8 c9 d0 d1 d2 d3 d4 d5 d6
          have BT := Lib.hid ((B2.out).trans (e7.mono (by omega)))
          have OT := Lib.hid (cv_owns_below O2.out e7)
          have ST : w1.heap.size + 1 ≤ w6.heap.size := by have := e7.size; omega
          clear e7 k0
          obtain ⟨c0, c1, c2, c3, c4, c5, c6, c7, c8, c9⟩ := Wp.ten_of ((BT.out.block w.heap.size (by omega)).trans XB.out)
          obtain ⟨d0, d1, d2, d3, d4, d5, d6⟩ := Wp.seven_of ((BT.out.block w1.heap.size (by omega)).trans YB.out)
          obtain ⟨hi, hz0, hz1, hz2⟩ := HI.out
          go_wp2_with (at_builtin; refine wpList_append_own _ rfl _ _ 99 rfl (w1.heap.size + 1) 102 i0 _ 2 16 Tryd.underlying99 hi hz0 hz1 hz2 rfl (by decide) _ _ _ rfl (OT.out.alloc _) ⟨w6.heap.size, 0, none⟩ 1 1 [.int .i64 ut, .int .i64 base] rfl rfl ?c1 ?c2 ?c3 ?c4 ?c5 ?_)
          case c1 => exact cell_two_new _ _ _ _
          case c2 => simp [Value.oneCell']
          case c3 => unfold maxLen; omega
          case c4 => omega
          case c5 => rw [World.size_alloc]; omega
          intro v9 w9 hown9 hgrow9 _
          have B9 := Lib.hid ((BT.out.alloc (by omega) (.cells #[.int .i64 ut, .int .i64 base] 102)).grown hgrow9 (by rw [World.size_alloc]; omega) (fun k hk => (OT.out.lt k hk).1))
          have O9 := Lib.hid hown9
          clear hown9 hgrow9
          have S9 : w1.heap.size + 1 ≤ w9.heap.size := by have := B9.out.size; omega
          clear hi hz0 hz1 hz2
          clear c0 c1 c2 c3 c4 c5 c6 c7 c8 c9 d0 d1 d2 d3 d4 d5 d6
          go_wp2_with fail
          exact ⟨⟨j + 1, by omega, by rw [HY.out], by rw [HR.out, Wp.turnCs_append, List.length_append]; exact O9.out, B9.out⟩, by simp [intOf]; omega⟩
      | true =>
        have huf := huf0
        replace huf := huf0 hvf
        rw [hvf] at AF
        cases hvt : Wp.swV ⟨tm, tn, tw, ti⟩ (Y - 1 + (j : Int)) (base + save) with
        | false =>
          have hut := hut0
          skip
          rw [hvt] at AT
          clear huf0 hut0
          have HR := Lib.hid (show Z.rawTo Y (j + 1) = (Z.rawTo Y j ++ [(uf, base + save)]) by rw [hraw.out j, hv0.out, hv1.out, hvf, hvt]; rw [if_pos rfl, if_neg (by simp)]; rw [ht0.out, hn0.out, ← huf]; simp)
          clear hvf hvt huf hut
          obtain ⟨c0, c1, c2, c3, c4, c5, c6, c7, c8, c9⟩ := Wp.ten_of ((BR.out.block w.heap.size (by omega)).trans XB.out)
          obtain ⟨d0, d1, d2, d3, d4, d5, d6⟩ := Wp.seven_of ((BR.out.block w1.heap.size (by omega)).trans YB.out)
          go_wp2_with fail
          refine (AF.out _ (HL.out.below (B0.out.trans (BR.out.mono (by omega))))).mono ?_
          rintro e w2 ⟨rfl, b2'⟩
          have B2 := Lib.hid (BR.out.trans (b2'.mono SR))
          have O2 := Lib.hid (cv_owns_below OR.out b2')
          have S2 : w1.heap.size + 1 ≤ w2.heap.size := by have := b2'.size; omega
          clear b2'
          clear c0 c1 c2 c3 c4 c5 c6 c7 c8 c9 d0 d1 d2 d3 d4 d5 d6
          obtain ⟨c0, c1, c2, c3, c4, c5, c6, c7, c8, c9⟩ := Wp.ten_of ((B2.out.block w.heap.size (by omega)).trans XB.out)
          obtain ⟨d0, d1, d2, d3, d4, d5, d6⟩ := Wp.seven_of ((B2.out.block w1.heap.size (by omega)).trans YB.out)
          go_wp2_with fail
          refine (AS.out _).mono ?_
          rintro e w3 ⟨rfl, b3'⟩
          have B3 := Lib.hid (B2.out.trans (b3'.mono S2))
          have O3 := Lib.hid (cv_owns_below O2.out b3')
          have S3 : w1.heap.size + 1 ≤ w3.heap.size := by have := b3'.size; omega
          clear b3'
          clear c0 c1 c2 c3 c4 c5 c6 c7 c8 c9 d0 d1 d2 d3 d4 d5 d6
          obtain ⟨hi, hz0, hz1, hz2⟩ := HI.out
          go_wp2_with (at_builtin; refine wpList_append_own _ rfl _ _ 99 rfl (w1.heap.size + 1) 102 i0 _ 2 16 Tryd.underlying99 hi hz0 hz1 hz2 rfl (by decide) _ _ _ rfl (O3.out.alloc _) ⟨w3.heap.size, 0, none⟩ 1 1 [.int .i64 uf, .int .i64 (base + save)] rfl rfl ?c1 ?c2 ?c3 ?c4 ?c5 ?_)
          case c1 => exact cell_two_new _ _ _ _
          case c2 => simp [Value.oneCell']
          case c3 => unfold maxLen; omega
          case c4 => omega
          case c5 => rw [World.size_alloc]; omega
          intro v4 w4 hown4 hgrow4 _
          have B4 := Lib.hid ((B3.out.alloc (by omega) (.cells #[.int .i64 uf, .int .i64 (base + save)] 102)).grown hgrow4 (by rw [World.size_alloc]; omega) (fun k hk => (O3.out.lt k hk).1))
          have O4 := Lib.hid hown4
          clear hown4 hgrow4
          have S4 : w1.heap.size + 1 ≤ w4.heap.size := by have := B4.out.size; omega
          clear hi hz0 hz1 hz2
          have hv4 : ∃ p c, v4 = .slice p ((Z.rawTo Y j).length + 1) c := by
            rcases O4.out.2 with ⟨hv, h0⟩ | ⟨g, cap, cur, hv, _⟩
            · omega
            · exact ⟨_, _, hv⟩
          obtain ⟨p4, c4', rfl⟩ := hv4
          obtain ⟨c0, c1, c2, c3, c4, c5, c6, c7, c8, c9⟩ := Wp.ten_of ((B4.out.block w.heap.size (by omega)).trans XB.out)
          obtain ⟨d0, d1, d2, d3, d4, d5, d6⟩ := Wp.seven_of ((B4.out.block w1.heap.size (by omega)).trans YB.out)
          have LW := Lib.hid (HL.out.below (B0.out.trans (B4.out.mono (by omega))))
          go_wp2_with fail
          go_region_held3 (fun w' => w'.cell? ⟨w.heap.size, 0, none⟩ = some (.int .i64 base) ∧ w'.cell? ⟨w.heap.size, 1, none⟩ = some (.int .i64 save) ∧ w'.cell? ⟨w.heap.size, 2, none⟩ = some (.int .i64 fm) ∧ w'.cell? ⟨w.heap.size, 3, none⟩ = some (.int .i64 fn) ∧ w'.cell? ⟨w.heap.size, 4, none⟩ = some (.int .i64 fw) ∧ w'.cell? ⟨w.heap.size, 5, none⟩ = some (.int .i64 fi) ∧ w'.cell? ⟨w.heap.size, 6, none⟩ = some (.int .i64 tm) ∧ w'.cell? ⟨w.heap.size, 7, none⟩ = some (.int .i64 tn) ∧ w'.cell? ⟨w.heap.size, 8, none⟩ = some (.int .i64 tw) ∧ w'.cell? ⟨w.heap.size, 9, none⟩ = some (.int .i64 ti))
            (first
              | (go_keep; done)
              | (exact ⟨(e7.cell (p := ⟨w.heap.size, 0, none⟩) k0).trans c0, (e7.cell (p := ⟨w.heap.size, 1, none⟩) k0).trans c1, (e7.cell (p := ⟨w.heap.size, 2, none⟩) k0).trans c2, (e7.cell (p := ⟨w.heap.size, 3, none⟩) k0).trans c3, (e7.cell (p := ⟨w.heap.size, 4, none⟩) k0).trans c4, (e7.cell (p := ⟨w.heap.size, 5, none⟩) k0).trans c5, (e7.cell (p := ⟨w.heap.size, 6, none⟩) k0).trans c6, (e7.cell (p := ⟨w.heap.size, 7, none⟩) k0).trans c7, (e7.cell (p := ⟨w.heap.size, 8, none⟩) k0).trans c8, (e7.cell (p := ⟨w.heap.size, 9, none⟩) k0).trans c9⟩))
            (first
              | (go_at_call 89; (with_reducible refine (AS.out _).mono ?_); rintro e w5 ⟨rfl, hb5⟩; have e7 : Below w4.heap.size w4 w5 := ((Below.refl _ w4).drew.trans hb5); have k0 : w.heap.size < w4.heap.size := by omega)
              | (go_at_call 88; (with_reducible refine (AT.out _ (LW.out.below e7)).mono ?_); rintro e w6 ⟨rfl, hb6⟩; have e8 := e7.trans (hb6.mono e7.size); clear e7; have e7 := e8; clear e8))
          clear c0 c1 c2 c3 c4 c5 c6 c7 c8 c9 d0 d1 d2 d3 d4 d5 d6
          have BT := Lib.hid ((B4.out).trans (e7.mono (by omega)))
          have OT := Lib.hid (cv_owns_below O4.out e7)
          have ST : w1.heap.size + 1 ≤ w6.heap.size := by have := e7.size; omega
          clear e7 k0
          go_wp2_with fail
          exact ⟨⟨j + 1, by omega, by rw [HY.out], by rw [HR.out, Wp.turnCs_append, List.length_append]; exact OT.out, BT.out⟩, by simp [intOf]; omega⟩
        | true =>
          have hut := hut0
          replace hut := hut0 hvt
          rw [hvt] at AT
          clear huf0 hut0
          have HR := Lib.hid (show Z.rawTo Y (j + 1) = ((Z.rawTo Y j ++ [(uf, base + save)]) ++ [(ut, base)]) by rw [hraw.out j, hv0.out, hv1.out, hvf, hvt]; rw [if_pos rfl, if_pos rfl]; rw [ht0.out, hn0.out, ← huf]; rw [ht1.out, hn1.out, ← hut]; simp)
          clear hvf hvt huf hut
          obtain ⟨c0, c1, c2, c3, c4, c5, c6, c7, c8, c9⟩ := Wp.ten_of ((BR.out.block w.heap.size (by omega)).trans XB.out)
          obtain ⟨d0, d1, d2, d3, d4, d5, d6⟩ := Wp.seven_of ((BR.out.block w1.heap.size (by omega)).trans YB.out)
          go_wp2_with fail
          refine (AF.out _ (HL.out.below (B0.out.trans (BR.out.mono (by omega))))).mono ?_
          rintro e w2 ⟨rfl, b2'⟩
          have B2 := Lib.hid (BR.out.trans (b2'.mono SR))
          have O2 := Lib.hid (cv_owns_below OR.out b2')
          have S2 : w1.heap.size + 1 ≤ w2.heap.size := by have := b2'.size; omega
          clear b2'
          clear c0 c1 c2 c3 c4 c5 c6 c7 c8 c9 d0 d1 d2 d3 d4 d5 d6
          obtain ⟨c0, c1, c2, c3, c4, c5, c6, c7, c8, c9⟩ := Wp.ten_of ((B2.out.block w.heap.size (by omega)).trans XB.out)
          obtain ⟨d0, d1, d2, d3, d4, d5, d6⟩ := Wp.seven_of ((B2.out.block w1.heap.size (by omega)).trans YB.out)
          go_wp2_with fail
          refine (AS.out _).mono ?_
          rintro e w3 ⟨rfl, b3'⟩
          have B3 := Lib.hid (B2.out.trans (b3'.mono S2))
          have O3 := Lib.hid (cv_owns_below O2.out b3')
          have S3 : w1.heap.size + 1 ≤ w3.heap.size := by have := b3'.size; omega
          clear b3'
          clear c0 c1 c2 c3 c4 c5 c6 c7 c8 c9 d0 d1 d2 d3 d4 d5 d6
          obtain ⟨hi, hz0, hz1, hz2⟩ := HI.out
          go_wp2_with (at_builtin; refine wpList_append_own _ rfl _ _ 99 rfl (w1.heap.size + 1) 102 i0 _ 2 16 Tryd.underlying99 hi hz0 hz1 hz2 rfl (by decide) _ _ _ rfl (O3.out.alloc _) ⟨w3.heap.size, 0, none⟩ 1 1 [.int .i64 uf, .int .i64 (base + save)] rfl rfl ?c1 ?c2 ?c3 ?c4 ?c5 ?_)
          case c1 => exact cell_two_new _ _ _ _
          case c2 => simp [Value.oneCell']
          case c3 => unfold maxLen; omega
          case c4 => omega
          case c5 => rw [World.size_alloc]; omega
          intro v4 w4 hown4 hgrow4 _
          have B4 := Lib.hid ((B3.out.alloc (by omega) (.cells #[.int .i64 uf, .int .i64 (base + save)] 102)).grown hgrow4 (by rw [World.size_alloc]; omega) (fun k hk => (O3.out.lt k hk).1))
          have O4 := Lib.hid hown4
          clear hown4 hgrow4
          have S4 : w1.heap.size + 1 ≤ w4.heap.size := by have := B4.out.size; omega
          clear hi hz0 hz1 hz2
          have hv4 : ∃ p c, v4 = .slice p ((Z.rawTo Y j).length + 1) c := by
            rcases O4.out.2 with ⟨hv, h0⟩ | ⟨g, cap, cur, hv, _⟩
            · omega
            · exact ⟨_, _, hv⟩
          obtain ⟨p4, c4', rfl⟩ := hv4
          obtain ⟨c0, c1, c2, c3, c4, c5, c6, c7, c8, c9⟩ := Wp.ten_of ((B4.out.block w.heap.size (by omega)).trans XB.out)
          obtain ⟨d0, d1, d2, d3, d4, d5, d6⟩ := Wp.seven_of ((B4.out.block w1.heap.size (by omega)).trans YB.out)
          have LW := Lib.hid (HL.out.below (B0.out.trans (B4.out.mono (by omega))))
          go_wp2_with fail
          go_region_held3 (fun w' => w'.cell? ⟨w.heap.size, 0, none⟩ = some (.int .i64 base) ∧ w'.cell? ⟨w.heap.size, 1, none⟩ = some (.int .i64 save) ∧ w'.cell? ⟨w.heap.size, 2, none⟩ = some (.int .i64 fm) ∧ w'.cell? ⟨w.heap.size, 3, none⟩ = some (.int .i64 fn) ∧ w'.cell? ⟨w.heap.size, 4, none⟩ = some (.int .i64 fw) ∧ w'.cell? ⟨w.heap.size, 5, none⟩ = some (.int .i64 fi) ∧ w'.cell? ⟨w.heap.size, 6, none⟩ = some (.int .i64 tm) ∧ w'.cell? ⟨w.heap.size, 7, none⟩ = some (.int .i64 tn) ∧ w'.cell? ⟨w.heap.size, 8, none⟩ = some (.int .i64 tw) ∧ w'.cell? ⟨w.heap.size, 9, none⟩ = some (.int .i64 ti))
            (first
              | (go_keep; done)
              | (exact ⟨(e7.cell (p := ⟨w.heap.size, 0, none⟩) k0).trans c0, (e7.cell (p := ⟨w.heap.size, 1, none⟩) k0).trans c1, (e7.cell (p := ⟨w.heap.size, 2, none⟩) k0).trans c2, (e7.cell (p := ⟨w.heap.size, 3, none⟩) k0).trans c3, (e7.cell (p := ⟨w.heap.size, 4, none⟩) k0).trans c4, (e7.cell (p := ⟨w.heap.size, 5, none⟩) k0).trans c5, (e7.cell (p := ⟨w.heap.size, 6, none⟩) k0).trans c6, (e7.cell (p := ⟨w.heap.size, 7, none⟩) k0).trans c7, (e7.cell (p := ⟨w.heap.size, 8, none⟩) k0).trans c8, (e7.cell (p := ⟨w.heap.size, 9, none⟩) k0).trans c9⟩))
            (first
              | (go_at_call 89; (with_reducible refine (AS.out _).mono ?_); rintro e w5 ⟨rfl, hb5⟩; have e7 : Below w4.heap.size w4 w5 := ((Below.refl _ w4).drew.trans hb5); have k0 : w.heap.size < w4.heap.size := by omega)
              | (go_at_call 88; (with_reducible refine (AT.out _ (LW.out.below e7)).mono ?_); rintro e w6 ⟨rfl, hb6⟩; have e8 := e7.trans (hb6.mono e7.size); clear e7; have e7 := e8; clear e8))
          clear c0 c1 c2 c3 c4 c5 c6 c7 c8 c9 d0 d1 d2 d3 d4 d5 d6
          have BT := Lib.hid ((B4.out).trans (e7.mono (by omega)))
          have OT := Lib.hid (cv_owns_below O4.out e7)
          have ST : w1.heap.size + 1 ≤ w6.heap.size := by have := e7.size; omega
          clear e7 k0
          obtain ⟨c0, c1, c2, c3, c4, c5, c6, c7, c8, c9⟩ := Wp.ten_of ((BT.out.block w.heap.size (by omega)).trans XB.out)
          obtain ⟨d0, d1, d2, d3, d4, d5, d6⟩ := Wp.seven_of ((BT.out.block w1.heap.size (by omega)).trans YB.out)
          obtain ⟨hi, hz0, hz1, hz2⟩ := HI.out
          go_wp2_with (at_builtin; refine wpList_append_own _ rfl _ _ 99 rfl (w1.heap.size + 1) 102 i0 _ 2 16 Tryd.underlying99 hi hz0 hz1 hz2 rfl (by decide) _ _ _ rfl (OT.out.alloc _) ⟨w6.heap.size, 0, none⟩ 1 1 [.int .i64 ut, .int .i64 base] rfl rfl ?c1 ?c2 ?c3 ?c4 ?c5 ?_)
          case c1 => exact cell_two_new _ _ _ _
          case c2 => simp [Value.oneCell']
          case c3 => unfold maxLen; omega
          case c4 => omega
          case c5 => rw [World.size_alloc]; omega
          intro v9 w9 hown9 hgrow9 _
          have B9 := Lib.hid ((BT.out.alloc (by omega) (.cells #[.int .i64 ut, .int .i64 base] 102)).grown hgrow9 (by rw [World.size_alloc]; omega) (fun k hk => (OT.out.lt k hk).1))
          have O9 := Lib.hid hown9
          clear hown9 hgrow9
          have S9 : w1.heap.size + 1 ≤ w9.heap.size := by have := B9.out.size; omega
          clear hi hz0 hz1 hz2
          clear c0 c1 c2 c3 c4 c5 c6 c7 c8 c9 d0 d1 d2 d3 d4 d5 d6
          go_wp2_with fail
          exact ⟨⟨j + 1, by omega, by rw [HY.out], by rw [HR.out, Wp.turnCs_append, Wp.turnCs_append, List.length_append, List.length_append, List.append_assoc]; exact O9.out, B9.out⟩, by simp [intOf]; omega⟩
    · obtain rfl : j = 3 := by omega
      have hle : decide (Y - 1 + ((3 : Nat) : Int) ≤ Y + 1) = false := decide_eq_false (by omega)
      obtain ⟨c0, c1, c2, c3, c4, c5, c6, c7, c8, c9⟩ := Wp.ten_of ((BR.out.block w.heap.size (by omega)).trans XB.out)
      obtain ⟨d0, d1, d2, d3, d4, d5, d6⟩ := Wp.seven_of ((BR.out.block w1.heap.size (by omega)).trans YB.out)
      have hsort := Lib.hid (fun w hown => zon_sort (Z.rawTo Y 3) w (w1.heap.size + 1) (.slice p5 (Z.rawTo Y 3).length c5') hown hpos (by omega))
      go_wp2_with fail
      refine (hsort.out _ OR.out).mono ?_
      rintro e w9 ⟨rfl, l', p', c', hperm, hrise, hveq, hat, hb9⟩
      have HV := Lib.hid hveq
      have HP := Lib.hid (show Wp.TurnsPost Z Y w (.returned (.slice p5 (Z.rawTo Y 3).length c5')) w9 from
        ⟨l', p', c', by rw [hveq], ⟨hperm, hrise⟩, by rw [hperm.length_eq]; omega, hat, B0.out.trans ((BR.out.trans hb9).mono (by omega))⟩)
      clear hveq hat hb9 hperm hrise
      go_wp2_with fail
      go_ret
      exact HP.out
end Go.Proofs.YtpaleljnkejdgaaDoor
