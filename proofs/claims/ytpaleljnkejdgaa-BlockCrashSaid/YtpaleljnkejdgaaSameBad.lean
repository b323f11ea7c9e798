/-
  The walk of Same of two devices of which one is not right. Conditions: a device's lists and numbers are of a size that a machine holds.
-/
import Derived.Test.YtpaleljnkejdgaaSameWalk
namespace Go.Proofs.Ytpaleljnkejdgaa
open Go.RowKit

set_option maxHeartbeats 1000000 in
theorem Same_bad1 (v u : Value) (d x : Wp.Dev) (w : World) (hv : Wp.DevAt w v d) (hu : Wp.DevAt w u x) (hf : d.Fits) (hg : x.Fits) (hok : d.ok = false) :
    Calls Try.prog 6 #[v, u] w fun e w' => e = .returned (.tuple #[.bool false, .int .i64 2]) ∧ Below w.heap.size w w' := by
  obtain ⟨pb, cb, pw, cw, rfl, _, hc⟩ := asks hv hf
  obtain ⟨pb2, cb2, pw2, cw2, rfl, _, hc2⟩ := asks hu hg
  rw [Wp.Dev.chk_bad hok] at hc
  have Hc := Lib.hid hc
  have Hc2 := Lib.hid hc2
  clear hc hc2 hv hu hf hg hok
  obtain ⟨bl, ws, fu, dn⟩ := d
  obtain ⟨bl2, ws2, fu2, dn2⟩ := x
  simp only [] at Hc Hc2 ⊢
  obtain ⟨s2, b2, x2, y2⟩ := two_boxes w #[.slice pb bl.length cb, .slice pw ws.length cw, .int .i64 fu, .bool dn] #[.slice pb2 bl2.length cb2, .slice pw2 ws2.length cw2, .int .i64 fu2, .bool dn2] 25 25
  obtain ⟨w0, hw0⟩ : ∃ w0, (w.alloc (.cells #[.slice pb bl.length cb, .slice pw ws.length cw, .int .i64 fu, .bool dn] 25)).alloc (.cells #[.slice pb2 bl2.length cb2, .slice pw2 ws2.length cw2, .int .i64 fu2, .bool dn2] 25) = w0 := ⟨_, rfl⟩
  rw [hw0] at s2 b2
  have hw0' := Lib.hid hw0
  clear x2 y2 hw0
  go_enter Try.func6, Try.ntmps6
  go_wp2_with fail
  rw [hw0'.out]
  go_loopw [12] (fun t wr => ∃ k : Nat, k ≤ 0 ∧ t = .int .i64 k ∧ Below (w.heap.size + 2) w0 wr) (fun t _ => 2 - (intOf t).toNat)
  case atStart => exact ⟨0, by omega, rfl, Below.refl _ _⟩
  case round =>
    obtain ⟨k, hk, rfl, hB⟩ := hrel
    have s3 : w.heap.size + 2 ≤ wr.heap.size := by have := hB.size; omega
    match k, hk with
    | 0, _ =>
      rw [show ((0 : Nat) : Int) = 0 from rfl]
      have hi0 := fun W => (index_two (.slice pb bl.length cb) (.slice pw ws.length cw) (.int .i64 fu) (.bool dn) (.slice pb2 bl2.length cb2) (.slice pw2 ws2.length cw2) (.int .i64 fu2) (.bool dn2) W).1
      go_wp2_with fail
      refine (Hc.out _ ((b2.trans (hB.mono (by omega))).alloc (by omega) _)).mono ?_
      rintro e w1 ⟨rfl, hb1⟩
      go_wp2_with fail
      go_ret2
      exact ⟨rfl, ((b2.trans (hB.mono (by omega))).alloc (by omega) _).trans (hb1.mono (by simp; omega))⟩
set_option maxHeartbeats 1000000 in
theorem Same_bad2 (v u : Value) (d x : Wp.Dev) (w : World) (hv : Wp.DevAt w v d) (hu : Wp.DevAt w u x) (hf : d.Fits) (hg : x.Fits) (hok : d.ok = true) (hok2 : x.ok = false) :
    Calls Try.prog 6 #[v, u] w fun e w' => e = .returned (.tuple #[.bool false, .int .i64 2]) ∧ Below w.heap.size w w' := by
  obtain ⟨pb, cb, pw, cw, rfl, _, hc⟩ := asks hv hf
  obtain ⟨pb2, cb2, pw2, cw2, rfl, _, hc2⟩ := asks hu hg
  rw [Wp.Dev.chk_ok hok] at hc
  rw [Wp.Dev.chk_bad hok2] at hc2
  have Hc := Lib.hid hc
  have Hc2 := Lib.hid hc2
  clear hc hc2 hv hu hf hg hok hok2
  obtain ⟨bl, ws, fu, dn⟩ := d
  obtain ⟨bl2, ws2, fu2, dn2⟩ := x
  simp only [] at Hc Hc2 ⊢
  obtain ⟨s2, b2, x2, y2⟩ := two_boxes w #[.slice pb bl.length cb, .slice pw ws.length cw, .int .i64 fu, .bool dn] #[.slice pb2 bl2.length cb2, .slice pw2 ws2.length cw2, .int .i64 fu2, .bool dn2] 25 25
  obtain ⟨w0, hw0⟩ : ∃ w0, (w.alloc (.cells #[.slice pb bl.length cb, .slice pw ws.length cw, .int .i64 fu, .bool dn] 25)).alloc (.cells #[.slice pb2 bl2.length cb2, .slice pw2 ws2.length cw2, .int .i64 fu2, .bool dn2] 25) = w0 := ⟨_, rfl⟩
  rw [hw0] at s2 b2
  have hw0' := Lib.hid hw0
  clear x2 y2 hw0
  go_enter Try.func6, Try.ntmps6
  go_wp2_with fail
  rw [hw0'.out]
  go_loopw [12] (fun t wr => ∃ k : Nat, k ≤ 1 ∧ t = .int .i64 k ∧ Below (w.heap.size + 2) w0 wr) (fun t _ => 2 - (intOf t).toNat)
  case atStart => exact ⟨0, by omega, rfl, Below.refl _ _⟩
  case round =>
    obtain ⟨k, hk, rfl, hB⟩ := hrel
    have s3 : w.heap.size + 2 ≤ wr.heap.size := by have := hB.size; omega
    match k, hk with
    | 0, _ =>
      rw [show ((0 : Nat) : Int) = 0 from rfl]
      have hi0 := fun W => (index_two (.slice pb bl.length cb) (.slice pw ws.length cw) (.int .i64 fu) (.bool dn) (.slice pb2 bl2.length cb2) (.slice pw2 ws2.length cw2) (.int .i64 fu2) (.bool dn2) W).1
      go_wp2_with fail
      refine (Hc.out _ ((b2.trans (hB.mono (by omega))).alloc (by omega) _)).mono ?_
      rintro e w1 ⟨rfl, hb1⟩
      go_wp2_with fail
      refine ⟨⟨1, by omega, rfl, (hB.alloc s3 _).trans (hb1.mono (by simp; omega))⟩, by simp [intOf]⟩
    | 1, _ =>
      rw [show ((1 : Nat) : Int) = 1 from rfl]
      have hi0 := fun W => (index_two (.slice pb bl.length cb) (.slice pw ws.length cw) (.int .i64 fu) (.bool dn) (.slice pb2 bl2.length cb2) (.slice pw2 ws2.length cw2) (.int .i64 fu2) (.bool dn2) W).2
      go_wp2_with fail
      refine (Hc2.out _ ((b2.trans (hB.mono (by omega))).alloc (by omega) _)).mono ?_
      rintro e w1 ⟨rfl, hb1⟩
      go_wp2_with fail
      go_ret2
      exact ⟨rfl, ((b2.trans (hB.mono (by omega))).alloc (by omega) _).trans (hb1.mono (by simp; omega))⟩
end Go.Proofs.Ytpaleljnkejdgaa
