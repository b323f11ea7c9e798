/-
  The walk of block.Same, at whatever two devices. Conditions: a device's lists and numbers are of a size that a machine holds.
-/
import Derived.Test.YtpaleljnkejdgaaHasAll
import Derived.Test.YtpaleljnkejdgaaShelf
import Derived.Deep.RegionHeld3
namespace Go.Proofs.Ytpaleljnkejdgaa
open Go.RowKit

theorem equal_any (p1 p2 : Option Addr) (c1 c2 : Nat) (l m : List ByteArray) (w : World) (hl : l.length ≤ 4096) (hm : m.length ≤ 4096) (h1 : Wp.At Wp.mkT w p1 l) (h2 : Wp.At Wp.mkT w p2 m) :
    Calls Try.prog 15 #[.slice p1 l.length c1, .slice p2 m.length c2] w fun e w' => e = .returned (.bool (decide (l = m))) ∧ Below w.heap.size w w' := by
  by_cases hlm : l.length = m.length
  · rcases h1 with rfl | ⟨b1, o1, rfl, hc1⟩
    · have hm0 : m = [] := List.length_eq_zero_iff.1 hlm.symm
      subst hm0
      refine (Try.slices_Equal_string_empty p1 p2 c1 0 c2 w (by omega)).mono ?_
      rintro e w' ⟨rfl, rfl⟩
      exact ⟨rfl, Below.refl _ _⟩
    · rcases h2 with rfl | ⟨b2, o2, rfl, hc2⟩
      · have hl0 : l = [] := List.length_eq_zero_iff.1 hlm
        subst hl0
        refine (Try.slices_Equal_string_empty (some ⟨b1, o1, none⟩) p2 c1 0 c2 w (by omega)).mono ?_
        rintro e w' ⟨rfl, rfl⟩
        exact ⟨rfl, Below.refl _ _⟩
      · refine (Try.slices_Equal_string b1 o1 l.length c1 b2 o2 m.length c2 l m w (Nat.le_refl _) (Nat.le_refl _) (by omega) (by omega) (fun j hj => by rw [hc1 j hj]; simp [List.getD, List.getElem?_eq_getElem hj, Wp.mkT]) (fun j hj => by rw [hc2 j hj]; simp [List.getD, List.getElem?_eq_getElem hj, Wp.mkT])).mono ?_
        rintro e w' ⟨rfl, q, rfl⟩
        rw [List.take_length, List.take_length]
        exact ⟨rfl, below_drewN (Below.refl _ _) _⟩
  · refine (Try.slices_Equal_string_lens p1 p2 l.length c1 m.length c2 w hlm).mono ?_
    rintro e w' ⟨rfl, rfl⟩
    exact ⟨by rw [decide_eq_false (fun e => hlm (by rw [e]))], Below.refl _ _⟩

theorem index_two (a b c d e f g h : Value) (W : World) :
    (Instr.index 43 (.agg #[a, b, c, d, e, f, g, h]) (.int .i64 0)).run Try.prog W = .ok (.agg #[a, b, c, d]) W ∧
    (Instr.index 43 (.agg #[a, b, c, d, e, f, g, h]) (.int .i64 1)).run Try.prog W = .ok (.agg #[e, f, g, h]) W := by
  have hs : ∀ W, Sem.run Try.prog (sizeOf 25) W = .ok 4 W := fun W => Try.sizeOf25 W
  have hg : ∀ W, Sem.run Try.prog (isAgg 25) W = .ok true W := fun W => Try.isAgg25 W
  refine ⟨?_, ?_⟩
  · simp [Instr.index, run_underlying Try.underlying43, asIntOf, hs, hg, part, Sem.run_bind, Result.andThen]
  · simp [Instr.index, run_underlying Try.underlying43, asIntOf, hs, hg, part, Sem.run_bind, Result.andThen]
set_option maxHeartbeats 1000000 in
/-- Same, of two devices that are right. -/
theorem Same_ok (v u : Value) (d x : Wp.Dev) (w : World) (hv : Wp.DevAt w v d) (hu : Wp.DevAt w u x) (hf : d.Fits) (hg : x.Fits) (hok : d.ok = true) (hok2 : x.ok = true) :
    Calls Try.prog 6 #[v, u] w fun e w' => e = .returned (.tuple #[.bool (decide (d.hasAll = x.hasAll)), .int .i64 0]) ∧ Below w.heap.size w w' := by
  obtain ⟨pb, cb, pw, cw, rfl, hv2, hc⟩ := asks hv hf
  obtain ⟨pb2, cb2, pw2, cw2, rfl, hu2, hc2⟩ := asks hu hg
  rw [Wp.Dev.chk_ok hok] at hc
  rw [Wp.Dev.chk_ok hok2] at hc2
  have Hc := Lib.hid hc
  have Hc2 := Lib.hid hc2
  obtain ⟨⟨n1, n2, n3⟩, n4, n5⟩ := Wp.Dev.Fits_ok hok
  obtain ⟨⟨m1, m2, m3⟩, m4, m5⟩ := Wp.Dev.Fits_ok hok2
  have ha := fun (w' : World) (hb : Below w.heap.size w w') => hasAll_any _ d w' (hv2 w' hb) n1 n2 (fun x hx => ⟨(((Wp.Dev.ok_iff d).1 hok).2.2 x hx).1, (((Wp.Dev.ok_iff d).1 hok).2.2 x hx).2.1⟩)
  have ha2 := fun (w' : World) (hb : Below w.heap.size w w') => hasAll_any _ x w' (hu2 w' hb) m1 m2 (fun y hy => ⟨(((Wp.Dev.ok_iff x).1 hok2).2.2 y hy).1, (((Wp.Dev.ok_iff x).1 hok2).2.2 y hy).2.1⟩)
  have Ha := Lib.hid ha
  have Ha2 := Lib.hid ha2
  have l1 : d.hasAll.length ≤ 4096 := by unfold Wp.Dev.hasAll; rw [Wp.setAll_length]; exact n1
  have l2 : x.hasAll.length ≤ 4096 := by unfold Wp.Dev.hasAll; rw [Wp.setAll_length]; exact m1
  clear hc hc2 ha ha2 hv hu hf hg hok hok2 hv2 hu2 n4 n5 m4 m5
  generalize d.hasAll = S1 at *
  generalize x.hasAll = S2 at *
  obtain ⟨bl, ws, fu, dn⟩ := d
  obtain ⟨bl2, ws2, fu2, dn2⟩ := x
  simp only [] at *
  obtain ⟨s2, b2, x2, y2⟩ := two_boxes w #[.slice pb bl.length cb, .slice pw ws.length cw, .int .i64 fu, .bool dn] #[.slice pb2 bl2.length cb2, .slice pw2 ws2.length cw2, .int .i64 fu2, .bool dn2] 25 25
  obtain ⟨w0, hw0⟩ : ∃ w0, (w.alloc (.cells #[.slice pb bl.length cb, .slice pw ws.length cw, .int .i64 fu, .bool dn] 25)).alloc (.cells #[.slice pb2 bl2.length cb2, .slice pw2 ws2.length cw2, .int .i64 fu2, .bool dn2] 25) = w0 := ⟨_, rfl⟩
  rw [hw0] at s2 b2 x2 y2
  have X2 := Lib.hid x2
  have Y2 := Lib.hid y2
  have hw0' := Lib.hid hw0
  clear x2 y2 hw0
  go_enter Try.func6, Try.ntmps6
  go_wp2_with fail
  rw [hw0'.out]
  go_loopw [12] (fun t wr => ∃ k : Nat, k ≤ 2 ∧ t = .int .i64 k ∧ Below (w.heap.size + 2) w0 wr) (fun t _ => 2 - (intOf t).toNat)
  case atStart => exact ⟨0, by omega, rfl, Below.refl _ _⟩
  case round =>
    obtain ⟨k, hk, rfl, hB⟩ := hrel
    have s3 : w.heap.size + 2 ≤ wr.heap.size := by have := hB.size; omega
    match k, hk with
    | 0, _ =>
      rw [show ((0 : Nat) : Int) = 0 from rfl]
      have hi0 := fun W => (index_two (.slice pb bl.length cb) (.slice pw ws.length cw) (.int .i64 fu) (.bool dn) (.slice pb2 bl2.length cb2) (.slice pw2 ws2.length cw2) (.int .i64 fu2) (.bool dn2) W).1
      go_wp2_with fail
      refine (Hc.out _ ((b2.trans (hB.mono (by omega))).alloc (by omega) _)).mono ?_
      rintro e w1 ⟨rfl, hb1⟩
      go_wp2_with fail
      refine ⟨⟨1, by omega, rfl, (hB.alloc s3 _).trans (hb1.mono (by simp; omega))⟩, by simp [intOf]⟩
    | 1, _ =>
      rw [show ((1 : Nat) : Int) = 1 from rfl]
      have hi0 := fun W => (index_two (.slice pb bl.length cb) (.slice pw ws.length cw) (.int .i64 fu) (.bool dn) (.slice pb2 bl2.length cb2) (.slice pw2 ws2.length cw2) (.int .i64 fu2) (.bool dn2) W).2
      go_wp2_with fail
      refine (Hc2.out _ ((b2.trans (hB.mono (by omega))).alloc (by omega) _)).mono ?_
      rintro e w1 ⟨rfl, hb1⟩
      go_wp2_with fail
      refine ⟨⟨2, by omega, rfl, (hB.alloc s3 _).trans (hb1.mono (by simp; omega))⟩, by simp [intOf]⟩
    | 2, _ =>
      rw [show ((2 : Nat) : Int) = 2 from rfl]
      have hbel : Below w.heap.size w wr := b2.trans (hB.mono (by omega))
      obtain ⟨c0, c1, c2, c3, _, _, _, _⟩ := Wp.four_of ((hB.block w.heap.size (by omega)).trans X2.out)
      obtain ⟨d0, d1, d2, d3, _, _, _, _⟩ := Wp.four_of ((hB.block (w.heap.size + 1) (by omega)).trans Y2.out)
      have L0 : w.heap.size < wr.heap.size := by omega
      have L1 : w.heap.size + 1 < wr.heap.size := by omega
      have hbd := Lib.hid hbel.drew
      go_wp2_with fail
      go_region_held3 (fun w' => w'.cell? ⟨w.heap.size, 0, none⟩ = some (.slice pb bl.length cb) ∧ w'.cell? ⟨w.heap.size, 1, none⟩ = some (.slice pw ws.length cw) ∧ w'.cell? ⟨w.heap.size, 2, none⟩ = some (.int .i64 fu) ∧ w'.cell? ⟨w.heap.size, 3, none⟩ = some (.bool dn) ∧
          w'.cell? ⟨w.heap.size + 1, 0, none⟩ = some (.slice pb2 bl2.length cb2) ∧ w'.cell? ⟨w.heap.size + 1, 1, none⟩ = some (.slice pw2 ws2.length cw2) ∧ w'.cell? ⟨w.heap.size + 1, 2, none⟩ = some (.int .i64 fu2) ∧ w'.cell? ⟨w.heap.size + 1, 3, none⟩ = some (.bool dn2))
        (first
          | (go_keep; done)
          | (exact ⟨(e7.cell (p := ⟨w.heap.size, 0, none⟩) k0).trans c0, (e7.cell (p := ⟨w.heap.size, 1, none⟩) k0).trans c1, (e7.cell (p := ⟨w.heap.size, 2, none⟩) k0).trans c2, (e7.cell (p := ⟨w.heap.size, 3, none⟩) k0).trans c3, (e7.cell (p := ⟨w.heap.size + 1, 0, none⟩) k1).trans d0, (e7.cell (p := ⟨w.heap.size + 1, 1, none⟩) k1).trans d1, (e7.cell (p := ⟨w.heap.size + 1, 2, none⟩) k1).trans d2, (e7.cell (p := ⟨w.heap.size + 1, 3, none⟩) k1).trans d3⟩))
        (first
          | (go_at_call 16; (with_reducible refine (Ha.out _ hbd.out).mono ?_); rintro e w5 ⟨v5, rfl, ho5, hb5⟩; have e7 : Below wr.heap.size wr w5 := ((Below.refl _ wr).drew.trans hb5); have k0 : w.heap.size < wr.heap.size := L0; have k1 : w.heap.size + 1 < wr.heap.size := L1; have bb5 : Below w.heap.size w w5 := hbel.trans (e7.mono hbel.size); obtain ⟨p5, c5, h5, a5⟩ := owns_at ho5; subst h5; clear ho5)
          | (go_at_call 16; (with_reducible refine (Ha2.out _ bb5).mono ?_); rintro e w6 ⟨v6, rfl, ho6, hb6⟩; have e8 := e7.trans (hb6.mono e7.size); clear e7; have e7 := e8; clear e8; have bb6 := bb5.trans (hb6.mono bb5.size); obtain ⟨p6, c6, h6, a6⟩ := owns_at ho6; subst h6; have a5' := a5.below hb6; clear ho6 a5)
          | (go_at_call 15; (with_reducible refine (equal_any _ _ _ _ _ _ _ l1 l2 a5' a6).mono ?_); rintro e w7 ⟨rfl, hb7⟩; have e8 := e7.trans (hb7.mono e7.size); clear e7; have e7 := e8; clear e8))
      go_wp2_with fail
      go_ret2
      exact ⟨rfl, hbel.trans (e7.mono hbel.size)⟩
end Go.Proofs.Ytpaleljnkejdgaa
