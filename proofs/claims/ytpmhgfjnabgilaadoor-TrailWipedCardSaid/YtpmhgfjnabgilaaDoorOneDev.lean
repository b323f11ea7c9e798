/-
  The walk of the document's comparison of two devices (bellmanref03.One), where they are one. Conditions: a device is right.
-/
import Derived.Test.YtpmhgfjnabgilaaDoorDevBox
import Derived.Test.YtpmhgfjnabgilaaDoorWriteCall
import Derived.Test.YtpmhgfjnabgilaaDoorEqualS
namespace Go.Proofs.YtpmhgfjnabgilaaDoor
open Go.RowKit

set_option maxRecDepth 100000 in
set_option maxHeartbeats 800000 in
theorem one_same (v u : Value) (d : Wp.Dev) (w : World) (hv : Wp.DevAt w v d) (hu : Wp.DevAt w u d) (hb : d.bl.length ≤ 4096) (hw : d.ws.length ≤ 4096) :
    Calls Tryd.prog 24 #[v, u] w fun e w' => e = .returned (.bool true) ∧ Below w.heap.size w w' := by
  obtain ⟨pb, cb, pw, cw, rfl, hab, haw⟩ := hv
  obtain ⟨pb2, cb2, pw2, cw2, rfl, hab2, haw2⟩ := hu
  unfold Wp.devV
  have Hab := Lib.hid hab
  have Haw := Lib.hid haw
  have Hab2 := Lib.hid hab2
  have Haw2 := Lib.hid haw2
  clear hab haw hab2 haw2
  obtain ⟨bl, ws, fu, dn⟩ := d
  simp only [] at *
  obtain ⟨n, hn⟩ : ∃ n, n = bl.length := ⟨_, rfl⟩
  obtain ⟨m, hm⟩ : ∃ m, m = ws.length := ⟨_, rfl⟩
  rw [← hn] at hb ⊢
  rw [← hm] at hw ⊢
  have HN := Lib.hid hn
  have HM := Lib.hid hm
  clear hn hm
  obtain ⟨s2, b2, x2, y2⟩ := two_boxes w #[.slice pb n cb, .slice pw m cw, .int .i64 fu, .bool dn] #[.slice pb2 n cb2, .slice pw2 m cw2, .int .i64 fu, .bool dn] 25 25
  have X2 := Lib.hid x2
  have Y2 := Lib.hid y2
  have B2 := Lib.hid b2
  clear x2 y2 b2
  go_enter Tryd.func24, Tryd.ntmps24
  go_wp2_with fail
  obtain ⟨w0, hw0⟩ : ∃ w0, (w.alloc (.cells #[.slice pb n cb, .slice pw m cw, .int .i64 fu, .bool dn] 25)).alloc (.cells #[.slice pb2 n cb2, .slice pw2 m cw2, .int .i64 fu, .bool dn] 25) = w0 := ⟨_, rfl⟩
  rw [hw0] at s2 X2 Y2 B2 ⊢
  clear hw0
  have hB0 := B2.out
  go_loopw [5, 40] (fun _ t wr => ∃ k : Nat, k ≤ n ∧ t = .int .i64 k ∧ Below (w.heap.size + 2) w0 wr) (fun _ t _ => n - (intOf t).toNat)
  case atStart => exact ⟨0, Nat.zero_le _, rfl, Below.refl _ _⟩
  case round =>
    obtain ⟨k, hk, rfl, hB⟩ := hrel
    have hbel : Below w.heap.size w wr := hB0.trans (hB.mono (by omega))
    have hsz := hB.size
    by_cases hlt : k < n
    · have hkl : k < bl.length := by rw [← HN.out]; exact hlt
      obtain ⟨b1, o1, rfl, hc1⟩ := (Hab.out.below hbel).get k hkl
      obtain ⟨b2, o2, rfl, hc2⟩ := (Hab2.out.below hbel).get k hkl
      obtain ⟨x, hx⟩ : ∃ x, x = bl[k] := ⟨_, rfl⟩
      rw [← hx] at hc1 hc2
      simp only [Wp.mkT] at hc1 hc2
      have hlt2 : (k : Int) < (n : Int) := by omega
      have hk0 : (0 : Int) ≤ (k : Int) := by omega
      obtain ⟨c0, c1, c2, c3, _, _, _, _⟩ := Wp.four_of ((hB.block w.heap.size (by omega)).trans X2.out)
      obtain ⟨d0, d1, d2, d3, _, _, _, _⟩ := Wp.four_of ((hB.block (w.heap.size + 1) (by omega)).trans Y2.out)
      clear hx hkl
      go_wp2_with fail
      go_quiet (fail)
      go_wp2_with fail
      refine ⟨⟨k + 1, by omega, by go_num, Wp.below_drews hB _⟩, by simp [intOf]; omega⟩
    · obtain rfl : k = n := by omega
      obtain ⟨c0, c1, c2, c3, _, _, _, _⟩ := Wp.four_of ((hB.block w.heap.size (by omega)).trans X2.out)
      obtain ⟨d0, d1, d2, d3, _, _, _, _⟩ := Wp.four_of ((hB.block (w.heap.size + 1) (by omega)).trans Y2.out)
      go_wp2_with fail
      obtain ⟨wo, hwo⟩ : ∃ wo, wo = wr := ⟨_, rfl⟩
      subst hwo
      go_loopw [6, 58] (fun _ t w2 => ∃ j : Nat, j ≤ m ∧ t = .int .i64 j ∧ Below wo.heap.size wo w2) (fun _ t _ => m - (intOf t).toNat)
      case atStart => exact ⟨0, Nat.zero_le _, rfl, Below.refl _ _⟩
      case round =>
        obtain ⟨j, hj, rfl, hB3⟩ := hrel
        have hbel4 : Below w.heap.size w wr := hbel.trans (hB3.mono hbel.size)
        have hsz3 := hB3.size
        by_cases hlt3 : j < m
        · have hjl : j < ws.length := by rw [← HM.out]; exact hlt3
          obtain ⟨b1, o1, rfl, hc1, hc1'⟩ := (Haw.out.below hbel4).get j hjl
          obtain ⟨b2, o2, rfl, hc2, hc2'⟩ := (Haw2.out.below hbel4).get j hjl
          obtain ⟨x, hx⟩ : ∃ x, x = ws[j] := ⟨_, rfl⟩
          rw [← hx] at hc1 hc2 hc1' hc2'
          obtain ⟨xa, xd⟩ := x
          simp only [] at hc1 hc2 hc1' hc2'
          have hlt2 : (j : Int) < (m : Int) := by omega
          have hk0 : (0 : Int) ≤ (j : Int) := by omega
          have L0 := (hB.block w.heap.size (by omega)).trans X2.out
          have L1 := (hB.block (w.heap.size + 1) (by omega)).trans Y2.out
          clear c0 c1 c2 c3 d0 d1 d2 d3
          obtain ⟨c0, c1, c2, c3, _, _, _, _⟩ := Wp.four_of ((hB3.block w.heap.size (by omega)).trans L0)
          obtain ⟨d0, d1, d2, d3, _, _, _, _⟩ := Wp.four_of ((hB3.block (w.heap.size + 1) (by omega)).trans L1)
          clear hx hjl L0 L1
          go_wp2_with fail
          go_quiet (fail)
          go_wp2_with fail
          refine ⟨⟨j + 1, by omega, by go_num, Wp.below_drews hB3 _⟩, by simp [intOf]; omega⟩
        · obtain rfl : j = m := by omega
          go_wp2_with fail
          go_ret
          exact ⟨rfl, hbel4⟩
end Go.Proofs.YtpmhgfjnabgilaaDoor
