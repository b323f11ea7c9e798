/-
  The law BlockCrash: Crash and Same answer as the document's own. Conditions: a device's lists and numbers, and keep, are of a size that a machine holds.
-/
import Derived.Test.YtpaleljnkejdgaaRSame
import Derived.Test.YtpaleljnkejdgaaSameBad
import Derived.Test.YtpaleljnkejdgaaBLives
namespace Go.Proofs.Ytpaleljnkejdgaa
open Go.RowKit

set_option maxHeartbeats 2000000 in
theorem blockCrash_at (pb : Option Addr) (cb : Nat) (pw : Option Addr) (cw : Nat) (pb2 : Option Addr) (cb2 : Nat) (pw2 : Option Addr) (cw2 : Nat) (d x D : Wp.Dev) (r r2 : Int) (s : Bool) (pk : Option Addr) (ck : Nat) (keep : List Int) (w : World)
    (KC : Hid (∀ w', Below w.heap.size w w' → Calls Try.prog 4 #[.agg #[.slice pb d.bl.length cb, .slice pw d.ws.length cw, .int .i64 d.fu, .bool d.dn], .slice pk keep.length ck] w' fun e w'' => ∃ v', e = .returned (.tuple #[v', .int .i64 r]) ∧ Wp.DevAt w'' v' D ∧ Below w'.heap.size w' w''))
    (KR : Hid (∀ w', Below w.heap.size w w' → Calls Try.prog 5 #[.agg #[.slice pb d.bl.length cb, .slice pw d.ws.length cw, .int .i64 d.fu, .bool d.dn], .slice pk keep.length ck] w' fun e w'' => ∃ v', e = .returned (.tuple #[v', .int .i64 r]) ∧ Wp.DevAt w'' v' D ∧ Below w'.heap.size w' w''))
    (KS : Hid (∀ w', Below w.heap.size w w' → Calls Try.prog 6 #[.agg #[.slice pb d.bl.length cb, .slice pw d.ws.length cw, .int .i64 d.fu, .bool d.dn], .agg #[.slice pb2 x.bl.length cb2, .slice pw2 x.ws.length cw2, .int .i64 x.fu, .bool x.dn]] w' fun e w'' => e = .returned (.tuple #[.bool s, .int .i64 r2]) ∧ Below w'.heap.size w' w''))
    (KT : Hid (∀ w', Below w.heap.size w w' → Calls Try.prog 7 #[.agg #[.slice pb d.bl.length cb, .slice pw d.ws.length cw, .int .i64 d.fu, .bool d.dn], .agg #[.slice pb2 x.bl.length cb2, .slice pw2 x.ws.length cw2, .int .i64 x.fu, .bool x.dn]] w' fun e w'' => e = .returned (.tuple #[.bool s, .int .i64 r2]) ∧ Below w'.heap.size w' w''))
    (h1 : D.bl.length ≤ 4096) (h2 : D.ws.length ≤ 4096) :
    Calls Try.prog 3 #[.agg #[.slice pb d.bl.length cb, .slice pw d.ws.length cw, .int .i64 d.fu, .bool d.dn], .agg #[.slice pb2 x.bl.length cb2, .slice pw2 x.ws.length cw2, .int .i64 x.fu, .bool x.dn], .slice pk keep.length ck] w fun e w' => e = .returned (.bool true) ∧ Below w.heap.size w w' := by
  obtain ⟨s0, b0, x0, y0⟩ := two_boxes w #[.slice pb d.bl.length cb, .slice pw d.ws.length cw, .int .i64 d.fu, .bool d.dn] #[.slice pb2 x.bl.length cb2, .slice pw2 x.ws.length cw2, .int .i64 x.fu, .bool x.dn] 25 25
  obtain ⟨w0, hw0⟩ : ∃ w0, (w.alloc (.cells #[.slice pb d.bl.length cb, .slice pw d.ws.length cw, .int .i64 d.fu, .bool d.dn] 25)).alloc (.cells #[.slice pb2 x.bl.length cb2, .slice pw2 x.ws.length cw2, .int .i64 x.fu, .bool x.dn] 25) = w0 := ⟨_, rfl⟩
  rw [hw0] at s0 b0 x0 y0
  have X0 := Lib.hid x0
  have Y0 := Lib.hid y0
  have B0 := Lib.hid b0
  have hw0' := Lib.hid hw0
  clear x0 y0 b0 hw0
  go_enter Try.func3, Try.ntmps3
  go_wp2_with fail
  rw [hw0'.out]
  obtain ⟨c0, c1, c2, c3, _, _, _, _⟩ := Wp.four_of X0.out
  obtain ⟨d0, d1, d2, d3, _, _, _, _⟩ := Wp.four_of Y0.out
  go_wp2_with fail
  refine (KC.out _ B0.out).mono ?_
  rintro e w1 ⟨v1, rfl, hd1, b1⟩
  obtain ⟨pe, ce, pf, cf, rfl, hd1⟩ := devAt_open hd1
  clear c0 c1 c2 c3 d0 d1 d2 d3
  obtain ⟨z1, hz1⟩ : ∃ z, w1.alloc (.cells #[.slice pe D.bl.length ce, .slice pf D.ws.length cf, .int .i64 D.fu, .bool D.dn] 25) = z := ⟨_, rfl⟩
  have s1 : w.heap.size + 2 ≤ w1.heap.size := by have := b1.size; omega
  have a1 := alloc_new w1 (.cells #[.slice pe D.bl.length ce, .slice pf D.ws.length cf, .int .i64 D.fu, .bool D.dn] 25)
  have X1 := Lib.hid ((alloc_past w1 (.cells #[.slice pe D.bl.length ce, .slice pf D.ws.length cf, .int .i64 D.fu, .bool D.dn] 25) w.heap.size (by omega)).trans ((b1.block w.heap.size (by omega)).trans X0.out))
  have Y1 := Lib.hid ((alloc_past w1 (.cells #[.slice pe D.bl.length ce, .slice pf D.ws.length cf, .int .i64 D.fu, .bool D.dn] 25) (w.heap.size + 1) (by omega)).trans ((b1.block (w.heap.size + 1) (by omega)).trans Y0.out))
  have B1 := Lib.hid ((B0.out.trans (b1.mono B0.out.size)).alloc (by omega) (.cells #[.slice pe D.bl.length ce, .slice pf D.ws.length cf, .int .i64 D.fu, .bool D.dn] 25))
  have r1 : (w1.alloc (.cells #[.slice pe D.bl.length ce, .slice pf D.ws.length cf, .int .i64 D.fu, .bool D.dn] 25)).heap.size = w1.heap.size + 1 := by rw [World.size_alloc]
  rw [hz1] at a1 X1 Y1 B1 r1
  have P1 := Lib.hid a1
  have D1 := Lib.hid (hd1.below (Below.refl w1.heap.size w1 |>.alloc (Nat.le_refl _) (.cells #[.slice pe D.bl.length ce, .slice pf D.ws.length cf, .int .i64 D.fu, .bool D.dn] 25)))
  rw [hz1] at D1
  have Hz1 := Lib.hid hz1
  clear hd1 b1 hz1 a1
  obtain ⟨c0, c1, c2, c3, _, _, _, _⟩ := Wp.four_of X1.out
  obtain ⟨d0, d1, d2, d3, _, _, _, _⟩ := Wp.four_of Y1.out
  rw [← Hz1.out] at c0 c1 c2 c3 d0 d1 d2 d3
  go_wp2_with fail
  rw [Hz1.out]
  refine (KR.out _ B1.out).mono ?_
  rintro e w2 ⟨v2, rfl, hd2, b2⟩
  obtain ⟨pg, cg, ph, ch, rfl, hd2⟩ := devAt_open hd2
  clear c0 c1 c2 c3 d0 d1 d2 d3
  obtain ⟨z2, hz2⟩ : ∃ z, w2.alloc (.cells #[.slice pg D.bl.length cg, .slice ph D.ws.length ch, .int .i64 D.fu, .bool D.dn] 25) = z := ⟨_, rfl⟩
  have s2 : w.heap.size + 2 ≤ w2.heap.size := by have := b2.size; omega
  have a2 := alloc_new w2 (.cells #[.slice pg D.bl.length cg, .slice ph D.ws.length ch, .int .i64 D.fu, .bool D.dn] 25)
  have X2 := Lib.hid ((alloc_past w2 (.cells #[.slice pg D.bl.length cg, .slice ph D.ws.length ch, .int .i64 D.fu, .bool D.dn] 25) w.heap.size (by omega)).trans ((b2.block w.heap.size (by omega)).trans X1.out))
  have Y2 := Lib.hid ((alloc_past w2 (.cells #[.slice pg D.bl.length cg, .slice ph D.ws.length ch, .int .i64 D.fu, .bool D.dn] 25) (w.heap.size + 1) (by omega)).trans ((b2.block (w.heap.size + 1) (by omega)).trans Y1.out))
  have B2 := Lib.hid ((B1.out.trans (b2.mono B1.out.size)).alloc (by omega) (.cells #[.slice pg D.bl.length cg, .slice ph D.ws.length ch, .int .i64 D.fu, .bool D.dn] 25))
  have r2 : (w2.alloc (.cells #[.slice pg D.bl.length cg, .slice ph D.ws.length ch, .int .i64 D.fu, .bool D.dn] 25)).heap.size = w2.heap.size + 1 := by rw [World.size_alloc]
  rw [hz2] at a2 X2 Y2 B2 r2
  have Q2 := Lib.hid a2
  have D2 := Lib.hid (hd2.below (Below.refl w2.heap.size w2 |>.alloc (Nat.le_refl _) (.cells #[.slice pg D.bl.length cg, .slice ph D.ws.length ch, .int .i64 D.fu, .bool D.dn] 25)))
  have E2 := Lib.hid ((D1.out.below b2).below (Below.refl w2.heap.size w2 |>.alloc (Nat.le_refl _) (.cells #[.slice pg D.bl.length cg, .slice ph D.ws.length ch, .int .i64 D.fu, .bool D.dn] 25)))
  have P2 := Lib.hid ((alloc_past w2 (.cells #[.slice pg D.bl.length cg, .slice ph D.ws.length ch, .int .i64 D.fu, .bool D.dn] 25) w1.heap.size (by have := b2.size; omega)).trans ((b2.block w1.heap.size (by omega)).trans P1.out))
  rw [hz2] at D2 E2 P2
  have t2 : w1.heap.size < z2.heap.size := by have := b2.size; omega
  have Hz2 := Lib.hid hz2
  clear hd2 b2 hz2 a2
  obtain ⟨c0, c1, c2, c3, _, _, _, _⟩ := Wp.four_of X2.out
  obtain ⟨d0, d1, d2, d3, _, _, _, _⟩ := Wp.four_of Y2.out
  rw [← Hz2.out] at c0 c1 c2 c3 d0 d1 d2 d3
  go_wp2_with fail
  rw [Hz2.out]
  refine (KS.out _ B2.out).mono ?_
  rintro e w3 ⟨rfl, b3⟩
  clear c0 c1 c2 c3 d0 d1 d2 d3
  have s3 : z2.heap.size ≤ w3.heap.size := b3.size
  have X3 := Lib.hid ((b3.block w.heap.size (by omega)).trans X2.out)
  have Y3 := Lib.hid ((b3.block (w.heap.size + 1) (by omega)).trans Y2.out)
  have P3 := Lib.hid ((b3.block w1.heap.size (by omega)).trans P2.out)
  have Q3 := Lib.hid ((b3.block w2.heap.size (by omega)).trans Q2.out)
  have B3 := Lib.hid (B2.out.trans (b3.mono B2.out.size))
  have D3 := Lib.hid (D2.out.below b3)
  have E3 := Lib.hid (E2.out.below b3)
  clear b3
  obtain ⟨c0, c1, c2, c3, _, _, _, _⟩ := Wp.four_of X3.out
  obtain ⟨d0, d1, d2, d3, _, _, _, _⟩ := Wp.four_of Y3.out
  go_wp2_with fail
  refine (KT.out _ B3.out).mono ?_
  rintro e w4 ⟨rfl, b4⟩
  clear c0 c1 c2 c3 d0 d1 d2 d3
  have s4 : w3.heap.size ≤ w4.heap.size := b4.size
  have X4 := Lib.hid ((b4.block w.heap.size (by omega)).trans X3.out)
  have Y4 := Lib.hid ((b4.block (w.heap.size + 1) (by omega)).trans Y3.out)
  have P4 := Lib.hid ((b4.block w1.heap.size (by omega)).trans P3.out)
  have Q4 := Lib.hid ((b4.block w2.heap.size (by omega)).trans Q3.out)
  have B4 := Lib.hid (B3.out.trans (b4.mono B3.out.size))
  have D4 := Lib.hid (D3.out.below b4)
  have E4 := Lib.hid (E3.out.below b4)
  clear b4
  go_wp2_with fail
  refine (blives_any _).mono ?_
  rintro e w5 ⟨rfl, b5⟩
  have s5 : w4.heap.size ≤ w5.heap.size := b5.size
  have X5 := Lib.hid ((b5.block w.heap.size (by omega)).trans X4.out)
  have Y5 := Lib.hid ((b5.block (w.heap.size + 1) (by omega)).trans Y4.out)
  have P5 := Lib.hid ((b5.block w1.heap.size (by omega)).trans P4.out)
  have Q5 := Lib.hid ((b5.block w2.heap.size (by omega)).trans Q4.out)
  have B5 := Lib.hid (B4.out.trans (b5.mono B4.out.size))
  have D5 := Lib.hid (D4.out.below b5)
  have E5 := Lib.hid (E4.out.below b5)
  clear b5
  obtain ⟨c0, c1, c2, c3, _, _, _, _⟩ := Wp.four_of P5.out
  obtain ⟨d0, d1, d2, d3, _, _, _, _⟩ := Wp.four_of Q5.out
  go_wp2_with fail
  refine (rone_any _ _ D _ E5.out D5.out h1 h2).mono ?_
  rintro e w6 ⟨rfl, b6⟩
  go_wp2_with fail
  go_ret
  exact ⟨rfl, B5.out.trans (b6.mono B5.out.size)⟩
/-- The law, at whatever devices. -/
theorem blockCrash_any (v u : Value) (d x : Wp.Dev) (pk : Option Addr) (ck : Nat) (keep : List Int) (w : World) (hv : Wp.DevAt w v d) (hf : d.Fits) (hu : Wp.DevAt w u x) (hg : x.Fits) (hk : Wp.At Wp.mkN w pk keep) (hkl : keep.length ≤ 140737488351232) (hki : ∀ x ∈ keep, Wp.I64 x) :
    Calls Try.prog 3 #[v, u, .slice pk keep.length ck] w fun e w' => e = .returned (.bool true) ∧ Below w.heap.size w w' := by
  obtain ⟨pb, cb, pw, cw, rfl, hv2, _⟩ := asks hv hf
  obtain ⟨pb2, cb2, pw2, cw2, rfl, hu2, _⟩ := asks hu hg
  have same : ∃ (s : Bool) (r2 : Int), ((∀ w', Below w.heap.size w w' → Calls Try.prog 6 #[.agg #[.slice pb d.bl.length cb, .slice pw d.ws.length cw, .int .i64 d.fu, .bool d.dn], .agg #[.slice pb2 x.bl.length cb2, .slice pw2 x.ws.length cw2, .int .i64 x.fu, .bool x.dn]] w' fun e w'' => e = .returned (.tuple #[.bool s, .int .i64 r2]) ∧ Below w'.heap.size w' w'')) ∧ ((∀ w', Below w.heap.size w w' → Calls Try.prog 7 #[.agg #[.slice pb d.bl.length cb, .slice pw d.ws.length cw, .int .i64 d.fu, .bool d.dn], .agg #[.slice pb2 x.bl.length cb2, .slice pw2 x.ws.length cw2, .int .i64 x.fu, .bool x.dn]] w' fun e w'' => e = .returned (.tuple #[.bool s, .int .i64 r2]) ∧ Below w'.heap.size w' w'')) := by
    cases g1 : d.ok with
    | false => exact ⟨false, 2, fun w' hb => Same_bad1 _ _ d x w' (hv2 w' hb) (hu2 w' hb) hf hg g1, fun w' hb => rsame_bad1 _ _ d x w' (hv2 w' hb) (hu2 w' hb) hf hg g1⟩
    | true =>
      cases g2 : x.ok with
      | false => exact ⟨false, 2, fun w' hb => Same_bad2 _ _ d x w' (hv2 w' hb) (hu2 w' hb) hf hg g1 g2, fun w' hb => rsame_bad2 _ _ d x w' (hv2 w' hb) (hu2 w' hb) hf hg g1 g2⟩
      | true => exact ⟨_, 0, fun w' hb => Same_ok _ _ d x w' (hv2 w' hb) (hu2 w' hb) hf hg g1 g2, fun w' hb => rsame_ok _ _ d x w' (hv2 w' hb) (hu2 w' hb) hf hg g1 g2⟩
  obtain ⟨s, r2, hs, ht⟩ := same
  cases g1 : d.ok with
  | false => exact blockCrash_at pb cb pw cw pb2 cb2 pw2 cw2 d x Wp.Dev.zero 2 r2 s pk ck keep w (Lib.hid fun w' hb => Crash_bad _ d pk ck keep w' (hv2 w' hb) hf g1) (Lib.hid fun w' hb => rcrash_bad _ d pk ck keep w' (hv2 w' hb) hf g1) (Lib.hid hs) (Lib.hid ht) (by simp [Wp.Dev.zero]) (by simp [Wp.Dev.zero])
  | true =>
    have hl : (Wp.tearAll d.bl d.ws keep).length ≤ 4096 := by
      have h9 := (Wp.tearAll_good keep ((Wp.Dev.ok_iff d).1 g1).2.1 ((Wp.Dev.ok_iff d).1 g1).2.2).1
      have h8 := (Wp.Dev.Fits_ok g1).1.1
      omega
    exact blockCrash_at pb cb pw cw pb2 cb2 pw2 cw2 d x ⟨Wp.tearAll d.bl d.ws keep, [], -1, false⟩ 0 r2 s pk ck keep w (Lib.hid fun w' hb => Crash_ok _ d pk ck keep w' (hv2 w' hb) hf g1 hkl (hk.below hb) hki) (Lib.hid fun w' hb => rcrash_ok _ d pk ck keep w' (hv2 w' hb) hf g1 hkl (hk.below hb) hki) (Lib.hid hs) (Lib.hid ht) hl (by simp)
end Go.Proofs.Ytpaleljnkejdgaa
