/-
  The walks of the document's own has and One of devices (bellmanref03). Conditions: a device's lists and numbers are of a size that a machine holds.
-/
import Derived.Test.YtpaleljnkejdgaaRCheck
import Derived.Test.YtpaleljnkejdgaaReadPlain
import Derived.Deep.QuietTactic
import Derived.BigQuiet
namespace Go.Proofs.Ytpaleljnkejdgaa
open Go.RowKit

set_option maxHeartbeats 1000000 in
theorem rhas_any (v : Value) (d : Wp.Dev) (a : Nat) (w : World) (hv : Wp.DevAt w v d) (ha : a < d.bl.length) (hb : d.bl.length ≤ 4096) (hw : d.ws.length ≤ 4096) :
    Calls Try.prog 17 #[v, .int .i64 a] w fun e w' => e = .returned (.string (d.has a)) ∧ Below w.heap.size w w' := by
  obtain ⟨pb, cb, pw, cw, rfl, hab, haw⟩ := hv
  unfold Wp.devV Wp.Dev.has
  obtain ⟨bl, ws, fu, dn⟩ := d
  simp only [] at *
  obtain ⟨b1, o1, rfl, hc1⟩ := hab.get a ha
  have hal : (a : Int) < (bl.length : Int) := by omega
  rw [Int.toNat_natCast, Wp.nth_get _ _ ha]
  obtain ⟨s0, hs0⟩ : ∃ s, s = bl[a] := ⟨_, rfl⟩
  rw [← hs0] at hc1 ⊢
  simp only [Wp.mkT] at hc1
  have hblt : b1 < w.heap.size := World.block_lt_of_cell? w _ hc1
  have Haw := Lib.hid haw
  obtain ⟨m, hmm⟩ : ∃ m, m = ws.length := ⟨_, rfl⟩
  have Hm := Lib.hid hmm
  rw [← hmm] at hw ⊢
  clear hmm haw hs0
  have B0 := Lib.hid ((Below.refl w.heap.size w).alloc (Nat.le_refl _) (.cells #[.slice (some ⟨b1, o1, none⟩) bl.length cb, .slice pw m cw, .int .i64 fu, .bool dn] 25))
  obtain ⟨w0, hw0⟩ : ∃ w0, w.alloc (.cells #[.slice (some ⟨b1, o1, none⟩) bl.length cb, .slice pw m cw, .int .i64 fu, .bool dn] 25) = w0 := ⟨_, rfl⟩
  rw [hw0] at B0
  have Hw0 := Lib.hid hw0
  clear hw0
  go_enter Try.func17, Try.ntmps17
  go_wp2_with fail
  rw [Hw0.out]
  go_loopw [5, 16] (fun s t wr => ∃ k : Nat, k ≤ m ∧ t = .int .i64 k ∧ s = .string (Wp.hasF a (ws.take k) s0) ∧ Below w.heap.size w wr) (fun _ t _ => m - (intOf t).toNat)
  case atStart => exact ⟨0, Nat.zero_le _, rfl, rfl, B0.out⟩
  case round =>
    obtain ⟨k, hk, rfl, rfl, hB⟩ := hrel
    clear hc1
    by_cases hlt : k < m
    · have hkl : k < ws.length := by rw [← Hm.out]; exact hlt
      obtain ⟨b, off, rfl, e1, e2⟩ := (Haw.out.below hB).get k hkl
      have hst := Wp.hasF_take a ws s0 k hkl
      obtain ⟨x, hxe⟩ : ∃ x, x = ws[k] := ⟨_, rfl⟩
      rw [← hxe] at e1 e2 hst
      clear hxe hkl
      obtain ⟨xa, xd⟩ := x
      simp only [] at e1 e2 hst
      have Hst := Lib.hid hst
      clear hst
      have B5 := Lib.hid (hB.alloc hB.size (.cells #[.int .i64 xa, .string xd] 40))
      by_cases hne : xa = (a : Int)
      · have q : (xa == (a : Int)) = true := by simpa using hne
        have H2 := Lib.hid (Hst.out.trans (if_pos hne))
        clear hne
        go_wp2_with fail
        exact ⟨⟨k + 1, by omega, by go_num, by rw [H2.out], B5.out⟩, by simp [intOf]; omega⟩
      · have q : (xa == (a : Int)) = false := by simpa using hne
        have H2 := Lib.hid (Hst.out.trans (if_neg hne))
        clear hne
        go_wp2_with fail
        exact ⟨⟨k + 1, by omega, by go_num, by rw [H2.out], B5.out⟩, by simp [intOf]; omega⟩
    · obtain rfl : k = m := by omega
      have e : ws.take k = ws := by rw [Hm.out, List.take_length]
      have E := Lib.hid e
      clear e
      go_wp2_with fail
      go_ret
      rw [E.out]
      exact ⟨rfl, hB⟩

set_option maxHeartbeats 2000000 in
/-- Two values that read as one device are one. -/
theorem rone_any (u v : Value) (d : Wp.Dev) (w : World) (hu : Wp.DevAt w u d) (hv : Wp.DevAt w v d) (hb : d.bl.length ≤ 4096) (hw : d.ws.length ≤ 4096) :
    Calls Try.prog 9 #[u, v] w fun e w' => e = .returned (.bool true) ∧ Below w.heap.size w w' := by
  obtain ⟨pb, cb, pw, cw, rfl, hab, haw⟩ := hu
  obtain ⟨pb2, cb2, pw2, cw2, rfl, hab2, haw2⟩ := hv
  unfold Wp.devV
  obtain ⟨bl, ws, fu, dn⟩ := d
  simp only [] at *
  have Hab := Lib.hid hab
  have Hab2 := Lib.hid hab2
  have Haw := Lib.hid haw
  have Haw2 := Lib.hid haw2
  obtain ⟨n, hnn⟩ : ∃ n, n = bl.length := ⟨_, rfl⟩
  obtain ⟨m, hmm⟩ : ∃ m, m = ws.length := ⟨_, rfl⟩
  have Hn := Lib.hid hnn
  have Hm := Lib.hid hmm
  rw [← hmm] at hw ⊢
  rw [← hnn] at hb ⊢
  clear hmm hnn haw haw2 hab hab2
  obtain ⟨s2, b2, x2, y2⟩ := two_boxes w #[.slice pb n cb, .slice pw m cw, .int .i64 fu, .bool dn] #[.slice pb2 n cb2, .slice pw2 m cw2, .int .i64 fu, .bool dn] 25 25
  obtain ⟨w0, hw0⟩ : ∃ w0, (w.alloc (.cells #[.slice pb n cb, .slice pw m cw, .int .i64 fu, .bool dn] 25)).alloc (.cells #[.slice pb2 n cb2, .slice pw2 m cw2, .int .i64 fu, .bool dn] 25) = w0 := ⟨_, rfl⟩
  rw [hw0] at s2 b2 x2 y2
  have X2 := Lib.hid x2
  have Y2 := Lib.hid y2
  have B2 := Lib.hid b2
  have Hw0 := Lib.hid hw0
  clear x2 y2 hw0 b2
  go_enter Try.func9, Try.ntmps9
  go_wp2_with fail
  rw [Hw0.out]
  go_loopw [40] (fun t wr => ∃ k : Nat, k ≤ n ∧ t = .int .i64 k ∧ Below (w.heap.size + 2) w0 wr) (fun t _ => n - (intOf t).toNat)
  case atStart => exact ⟨0, Nat.zero_le _, rfl, Below.refl _ _⟩
  case round =>
    obtain ⟨k, hk, rfl, hB⟩ := hrel
    have s3 : w.heap.size + 2 ≤ wr.heap.size := by have := hB.size; omega
    have B3 := Lib.hid (B2.out.trans (hB.mono (by omega)))
    have hx := (hB.block w.heap.size (by omega)).trans X2.out
    have hy := (hB.block (w.heap.size + 1) (by omega)).trans Y2.out
    have HX := Lib.hid hx
    have HY := Lib.hid hy
    obtain ⟨c0, c1, c2, c3, _, _, _, _⟩ := Wp.four_of hx
    obtain ⟨d0, d1, d2, d3, _, _, _, _⟩ := Wp.four_of hy
    clear hx hy
    by_cases hlt : k < n
    · have hkl : k < bl.length := by rw [← Hn.out]; exact hlt
      obtain ⟨ba, oa, rfl, e1⟩ := (Hab.out.below B3.out).get k hkl
      obtain ⟨bb, ob, rfl, e2⟩ := (Hab2.out.below B3.out).get k hkl
      simp only [Wp.mkT] at e1 e2
      generalize bl[k] = x at *
      have hki : (k : Int) < (n : Int) := by omega
      have hk0 : (0 : Int) ≤ (k : Int) := by omega
      clear hkl
      go_wp2_with fail
      go_quiet (fail)
      go_wp2_with fail
      exact ⟨⟨k + 1, by omega, by go_num, below_drewN hB _⟩, by simp [intOf]; omega⟩
    · obtain rfl : k = n := by omega
      obtain ⟨wo, rfl⟩ : ∃ wo : World, wo = wr := ⟨_, rfl⟩
      go_wp2_with fail
      clear c0 c1 c2 c3 d0 d1 d2 d3
      go_loopw [58] (fun t wz => ∃ j : Nat, j ≤ m ∧ t = .int .i64 j ∧ Below (w.heap.size + 2) w0 wz) (fun t _ => m - (intOf t).toNat)
      case atStart => exact ⟨0, Nat.zero_le _, rfl, hB⟩
      case round =>
        obtain ⟨j, hj, rfl, hB4⟩ := hrel
        have B5 := Lib.hid (B2.out.trans (hB4.mono (by omega)))
        obtain ⟨c0, c1, c2, c3, _, _, _, _⟩ := Wp.four_of ((hB4.block w.heap.size (by omega)).trans X2.out)
        obtain ⟨d0, d1, d2, d3, _, _, _, _⟩ := Wp.four_of ((hB4.block (w.heap.size + 1) (by omega)).trans Y2.out)
        by_cases hlt2 : j < m
        · have hjl : j < ws.length := by rw [← Hm.out]; exact hlt2
          obtain ⟨ba, oa, rfl, e1, e2⟩ := (Haw.out.below B5.out).get j hjl
          obtain ⟨bb, ob, rfl, e3, e4⟩ := (Haw2.out.below B5.out).get j hjl
          generalize ws[j] = x at *
          obtain ⟨xa, xd⟩ := x
          simp only [] at e1 e2 e3 e4
          have hji : (j : Int) < (m : Int) := by omega
          have hj0 : (0 : Int) ≤ (j : Int) := by omega
          clear hjl
          go_wp2_with fail
          go_quiet (fail)
          go_wp2_with fail
          exact ⟨⟨j + 1, by omega, by go_num, below_drewN hB4 _⟩, by simp [intOf]; omega⟩
        · obtain rfl : j = m := by omega
          go_wp2_with fail
          go_ret
          exact ⟨rfl, B5.out⟩
end Go.Proofs.Ytpaleljnkejdgaa
