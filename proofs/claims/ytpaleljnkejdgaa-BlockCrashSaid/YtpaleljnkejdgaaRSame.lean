/-
  The walk of the document's own Same (bellmanref03). Conditions: a device's lists and numbers are of a size that a machine holds.
-/
import Derived.Test.YtpaleljnkejdgaaRHas
import Derived.Test.YtpaleljnkejdgaaRCrash
import Derived.Deep.RegionHeld3
namespace Go.Proofs.Ytpaleljnkejdgaa
open Go.RowKit

set_option maxHeartbeats 2000000 in
theorem rsame_bad1 (v u : Value) (d x : Wp.Dev) (w : World) (hv : Wp.DevAt w v d) (hu : Wp.DevAt w u x) (hf : d.Fits) (hg : x.Fits) (hok : d.ok = false) :
    Calls Try.prog 7 #[v, u] w fun e w' => e = .returned (.tuple #[.bool false, .int .i64 2]) ∧ Below w.heap.size w w' := by
  obtain ⟨pb, cb, pw, cw, rfl, _, hc⟩ := rasks hv hf
  obtain ⟨pb2, cb2, pw2, cw2, rfl, _, hc2⟩ := rasks hu hg
  rw [Wp.Dev.chk_bad hok] at hc
  have Hc := Lib.hid hc
  clear hc hc2 hv hu hf hg hok
  obtain ⟨bl, ws, fu, dn⟩ := d
  obtain ⟨bl2, ws2, fu2, dn2⟩ := x
  unfold Wp.devV at Hc ⊢
  simp only [] at Hc ⊢
  obtain ⟨s2, b2, _, _⟩ := two_boxes w #[.slice pb bl.length cb, .slice pw ws.length cw, .int .i64 fu, .bool dn] #[.slice pb2 bl2.length cb2, .slice pw2 ws2.length cw2, .int .i64 fu2, .bool dn2] 25 25
  have B2 := Lib.hid b2
  clear b2
  go_enter Try.func7, Try.ntmps7
  go_wp2_with fail
  refine (Hc.out _ B2.out).mono ?_
  rintro e w1 ⟨rfl, hb1⟩
  rw [s2] at hb1
  go_wp2_with fail
  go_ret2
  exact ⟨rfl, B2.out.trans (hb1.mono (by omega))⟩
set_option maxHeartbeats 2000000 in
theorem rsame_bad2 (v u : Value) (d x : Wp.Dev) (w : World) (hv : Wp.DevAt w v d) (hu : Wp.DevAt w u x) (hf : d.Fits) (hg : x.Fits) (hok : d.ok = true) (hok2 : x.ok = false) :
    Calls Try.prog 7 #[v, u] w fun e w' => e = .returned (.tuple #[.bool false, .int .i64 2]) ∧ Below w.heap.size w w' := by
  obtain ⟨pb, cb, pw, cw, rfl, _, hc⟩ := rasks hv hf
  obtain ⟨pb2, cb2, pw2, cw2, rfl, _, hc2⟩ := rasks hu hg
  rw [Wp.Dev.chk_ok hok] at hc
  rw [Wp.Dev.chk_bad hok2] at hc2
  have Hc := Lib.hid hc
  have Hc2 := Lib.hid hc2
  clear hc hc2 hv hu hf hg hok hok2
  obtain ⟨bl, ws, fu, dn⟩ := d
  obtain ⟨bl2, ws2, fu2, dn2⟩ := x
  unfold Wp.devV at Hc Hc2 ⊢
  simp only [] at Hc Hc2 ⊢
  obtain ⟨s2, b2, x2, y2⟩ := two_boxes w #[.slice pb bl.length cb, .slice pw ws.length cw, .int .i64 fu, .bool dn] #[.slice pb2 bl2.length cb2, .slice pw2 ws2.length cw2, .int .i64 fu2, .bool dn2] 25 25
  have B2 := Lib.hid b2
  have Y2 := Lib.hid y2
  clear b2 x2 y2
  go_enter Try.func7, Try.ntmps7
  go_wp2_with fail
  refine (Hc.out _ B2.out).mono ?_
  rintro e w1 ⟨rfl, hb1⟩
  rw [s2] at hb1
  obtain ⟨d0, d1, d2, d3, _, _, _, _⟩ := Wp.four_of ((hb1.block (w.heap.size + 1) (by omega)).trans Y2.out)
  have B3 := Lib.hid (B2.out.trans (hb1.mono (by omega)))
  go_wp2_with fail
  refine (Hc2.out _ B3.out).mono ?_
  rintro e w2 ⟨rfl, hb2⟩
  go_wp2_with fail
  go_ret2
  exact ⟨rfl, B3.out.trans (hb2.mono B3.out.size)⟩
theorem Wp.has_nth (e : Wp.Dev) (h : e.ok = true) (a : Nat) (ha : a < e.bl.length) : e.has (a : Int) = Wp.nth e.hasAll a := by
  have := Wp.setAll_nth e.bl e.ws (a : Int) (by omega) (by omega) (fun y hy => (((Wp.Dev.ok_iff e).1 h).2.2 y hy).1)
  unfold Wp.Dev.has Wp.Dev.hasAll
  rw [Int.toNat_natCast] at this ⊢
  exact this.symm
theorem Wp.ba_ne {a b : ByteArray} (h : ¬ a = b) : (a == b) = false := by
  rcases a with ⟨x⟩
  rcases b with ⟨y⟩
  have h2 : ¬ x = y := fun e => h (by rw [e])
  exact (beq_eq_false_iff_ne (a := x) (b := y)).2 h2
theorem Wp.nth_ext (S T : List ByteArray) (h : S.length = T.length) (he : ∀ j, j < S.length → Wp.nth S j = Wp.nth T j) : S = T := by
  apply List.ext_getElem h
  intro i h1 h2
  rw [← Wp.nth_get S i h1, ← Wp.nth_get T i h2]
  exact he i h1
set_option maxHeartbeats 2000000 in
/-- Same, of two devices that are right. -/
theorem rsame_ok (v u : Value) (d x : Wp.Dev) (w : World) (hv : Wp.DevAt w v d) (hu : Wp.DevAt w u x) (hf : d.Fits) (hg : x.Fits) (hok : d.ok = true) (hok2 : x.ok = true) :
    Calls Try.prog 7 #[v, u] w fun e w' => e = .returned (.tuple #[.bool (decide (d.hasAll = x.hasAll)), .int .i64 0]) ∧ Below w.heap.size w w' := by
  obtain ⟨pb, cb, pw, cw, rfl, hv2, hc⟩ := rasks hv hf
  obtain ⟨pb2, cb2, pw2, cw2, rfl, hu2, hc2⟩ := rasks hu hg
  rw [Wp.Dev.chk_ok hok] at hc
  rw [Wp.Dev.chk_ok hok2] at hc2
  have Hc := Lib.hid hc
  have Hc2 := Lib.hid hc2
  obtain ⟨⟨n1, n2, n3⟩, n4, n5⟩ := Wp.Dev.Fits_ok hok
  obtain ⟨⟨m1, m2, m3⟩, m4, m5⟩ := Wp.Dev.Fits_ok hok2
  have Ha := Lib.hid (fun (w' : World) (hb : Below w.heap.size w w') (a : Nat) (h : a < d.bl.length) => (Wp.has_nth d hok a h) ▸ rhas_any _ d a w' (hv2 w' hb) h n1 n2)
  have Ha2 := Lib.hid (fun (w' : World) (hb : Below w.heap.size w w') (a : Nat) (h : a < x.bl.length) => (Wp.has_nth x hok2 a h) ▸ rhas_any _ x a w' (hu2 w' hb) h m1 m2)
  have l1 : d.hasAll.length = d.bl.length := by unfold Wp.Dev.hasAll; rw [Wp.setAll_length]
  have l2 : x.hasAll.length = x.bl.length := by unfold Wp.Dev.hasAll; rw [Wp.setAll_length]
  clear hc hc2 hv hu hf hg hok hok2 hv2 hu2 n4 n5 m4 m5
  generalize d.hasAll = S1 at *
  generalize x.hasAll = S2 at *
  obtain ⟨bl, ws, fu, dn⟩ := d
  obtain ⟨bl2, ws2, fu2, dn2⟩ := x
  unfold Wp.devV at Hc Hc2 Ha Ha2 ⊢
  simp only [] at Hc Hc2 Ha Ha2 n1 n2 n3 m1 m2 m3 l1 l2 ⊢
  obtain ⟨s2, b2, x2, y2⟩ := two_boxes w #[.slice pb bl.length cb, .slice pw ws.length cw, .int .i64 fu, .bool dn] #[.slice pb2 bl2.length cb2, .slice pw2 ws2.length cw2, .int .i64 fu2, .bool dn2] 25 25
  have B2 := Lib.hid b2
  have X2 := Lib.hid x2
  have Y2 := Lib.hid y2
  clear b2 x2 y2
  go_enter Try.func7, Try.ntmps7
  go_wp2_with fail
  refine (Hc.out _ B2.out).mono ?_
  rintro e w1 ⟨rfl, hb1⟩
  rw [s2] at hb1
  obtain ⟨d0, d1, d2, d3, _, _, _, _⟩ := Wp.four_of ((hb1.block (w.heap.size + 1) (by omega)).trans Y2.out)
  have B3 := Lib.hid (B2.out.trans (hb1.mono (by omega)))
  have s3 : w.heap.size + 2 ≤ w1.heap.size := by have := hb1.size; omega
  go_wp2_with fail
  refine (Hc2.out _ B3.out).mono ?_
  rintro e w2 ⟨rfl, hb2⟩
  clear d0 d1 d2 d3
  have hx := (hb2.block w.heap.size (by omega)).trans ((hb1.block w.heap.size (by omega)).trans X2.out)
  have hy := (hb2.block (w.heap.size + 1) (by omega)).trans ((hb1.block (w.heap.size + 1) (by omega)).trans Y2.out)
  obtain ⟨c0, c1, c2, c3, _, _, _, _⟩ := Wp.four_of hx
  obtain ⟨d0, d1, d2, d3, _, _, _, _⟩ := Wp.four_of hy
  have B4 := Lib.hid (B3.out.trans (hb2.mono B3.out.size))
  have HX := Lib.hid hx
  have HY := Lib.hid hy
  clear hx hy
  have s4 : w1.heap.size ≤ w2.heap.size := hb2.size
  by_cases hlen : bl.length = bl2.length
  · rw [hlen] at c0 Ha HX l1 ⊢
    clear hlen
    obtain ⟨n, hn⟩ : ∃ n, n = bl2.length := ⟨_, rfl⟩
    rw [← hn] at c0 d0 Ha Ha2 HX HY l1 l2 m1 ⊢
    clear hn
    go_wp2_with fail
    clear c0 c1 c2 c3 d0 d1 d2 d3
    go_loopw [25] (fun t wr => ∃ k : Nat, k ≤ n ∧ t = .int .i64 k ∧ (∀ j, j < k → Wp.nth S1 j = Wp.nth S2 j) ∧ Below w2.heap.size w2 wr) (fun t _ => n - (intOf t).toNat)
    case atStart => exact ⟨0, Nat.zero_le _, rfl, fun j h => absurd h (Nat.not_lt_zero j), Below.refl _ _⟩
    case round =>
      obtain ⟨k, hk, rfl, hT, hB⟩ := hrel
      have s5 : w2.heap.size ≤ wr.heap.size := hB.size
      have hbel : Below w.heap.size w wr := B4.out.trans (hB.mono (by omega))
      by_cases hlt : k < n
      · obtain ⟨c0, c1, c2, c3, _, _, _, _⟩ := Wp.four_of ((hB.block w.heap.size (by omega)).trans HX.out)
        obtain ⟨d0, d1, d2, d3, _, _, _, _⟩ := Wp.four_of ((hB.block (w.heap.size + 1) (by omega)).trans HY.out)
        have L0 : w.heap.size < wr.heap.size := by omega
        have L1 : w.heap.size + 1 < wr.heap.size := by omega
        have Hk1 := Lib.hid (fun w' hb => Ha.out w' hb k hlt)
        have Hk2 := Lib.hid (fun w' hb => Ha2.out w' hb k hlt)
        have hstep : Wp.nth S1 k = Wp.nth S2 k → ∀ j, j < k + 1 → Wp.nth S1 j = Wp.nth S2 j := fun e j hj => by
          by_cases h : j = k
          · rw [h]; exact e
          · exact hT j (by omega)
        have hdiff : Wp.nth S1 k ≠ Wp.nth S2 k → S1 ≠ S2 := fun e h => e (by rw [h])
        have Hstep := Lib.hid hstep
        have Hdiff := Lib.hid hdiff
        clear hstep hdiff hT
        generalize Wp.nth S1 k = y1 at *
        generalize Wp.nth S2 k = y2 at *
        have hbd := Lib.hid hbel.drew
        by_cases hy : y1 = y2
        · subst hy
          go_wp2_with fail
          go_region_held3 (fun w' => w'.cell? ⟨w.heap.size, 0, none⟩ = some (.slice pb n cb) ∧ w'.cell? ⟨w.heap.size, 1, none⟩ = some (.slice pw ws.length cw) ∧ w'.cell? ⟨w.heap.size, 2, none⟩ = some (.int .i64 fu) ∧ w'.cell? ⟨w.heap.size, 3, none⟩ = some (.bool dn) ∧
              w'.cell? ⟨w.heap.size + 1, 0, none⟩ = some (.slice pb2 n cb2) ∧ w'.cell? ⟨w.heap.size + 1, 1, none⟩ = some (.slice pw2 ws2.length cw2) ∧ w'.cell? ⟨w.heap.size + 1, 2, none⟩ = some (.int .i64 fu2) ∧ w'.cell? ⟨w.heap.size + 1, 3, none⟩ = some (.bool dn2))
            (first
              | (go_keep; done)
              | (exact ⟨(e7.cell (p := ⟨w.heap.size, 0, none⟩) k0).trans c0, (e7.cell (p := ⟨w.heap.size, 1, none⟩) k0).trans c1, (e7.cell (p := ⟨w.heap.size, 2, none⟩) k0).trans c2, (e7.cell (p := ⟨w.heap.size, 3, none⟩) k0).trans c3, (e7.cell (p := ⟨w.heap.size + 1, 0, none⟩) k1).trans d0, (e7.cell (p := ⟨w.heap.size + 1, 1, none⟩) k1).trans d1, (e7.cell (p := ⟨w.heap.size + 1, 2, none⟩) k1).trans d2, (e7.cell (p := ⟨w.heap.size + 1, 3, none⟩) k1).trans d3⟩))
            (first
              | (go_at_call 17; (with_reducible refine (Hk1.out _ hbd.out).mono ?_); rintro e w5 ⟨rfl, hb5⟩; have e7 : Below wr.heap.size wr w5 := ((Below.refl _ wr).drew.trans hb5); have k0 : w.heap.size < wr.heap.size := L0; have k1 : w.heap.size + 1 < wr.heap.size := L1; have bb5 : Below w.heap.size w w5 := hbel.trans (e7.mono hbel.size))
              | (go_at_call 17; (with_reducible refine (Hk2.out _ bb5).mono ?_); rintro e w6 ⟨rfl, hb6⟩; have e8 := e7.trans (hb6.mono e7.size); clear e7; have e7 := e8; clear e8))
          go_wp2_with fail
          exact ⟨⟨k + 1, by omega, by go_num, Hstep.out (by trivial), hB.trans (e7.mono s5)⟩, by simp [intOf]; omega⟩
        · have q : (y1 == y2) = false := Wp.ba_ne hy
          have q2 : (y1 != y2) = true := by unfold bne; rw [q]; rfl
          have q3 : (y1.toList == y2.toList) = false := by rw [beq_eq_false_iff_ne, ne_eq, ByteArray.toList_eq, ByteArray.toList_eq]; intro h; apply hy; rcases y1 with ⟨x1⟩; rcases y2 with ⟨x2⟩; simp only [] at h; rw [Array.toList_inj.1 h]
          have q4 : (y1.toList != y2.toList) = true := by unfold bne; rw [q3]; rfl
          have Hy := Lib.hid hy
          clear hy
          go_wp2_with fail
          go_region_held3 (fun w' => w'.cell? ⟨w.heap.size, 0, none⟩ = some (.slice pb n cb) ∧ w'.cell? ⟨w.heap.size, 1, none⟩ = some (.slice pw ws.length cw) ∧ w'.cell? ⟨w.heap.size, 2, none⟩ = some (.int .i64 fu) ∧ w'.cell? ⟨w.heap.size, 3, none⟩ = some (.bool dn) ∧
              w'.cell? ⟨w.heap.size + 1, 0, none⟩ = some (.slice pb2 n cb2) ∧ w'.cell? ⟨w.heap.size + 1, 1, none⟩ = some (.slice pw2 ws2.length cw2) ∧ w'.cell? ⟨w.heap.size + 1, 2, none⟩ = some (.int .i64 fu2) ∧ w'.cell? ⟨w.heap.size + 1, 3, none⟩ = some (.bool dn2))
            (first
              | (go_keep; done)
              | (exact ⟨(e7.cell (p := ⟨w.heap.size, 0, none⟩) k0).trans c0, (e7.cell (p := ⟨w.heap.size, 1, none⟩) k0).trans c1, (e7.cell (p := ⟨w.heap.size, 2, none⟩) k0).trans c2, (e7.cell (p := ⟨w.heap.size, 3, none⟩) k0).trans c3, (e7.cell (p := ⟨w.heap.size + 1, 0, none⟩) k1).trans d0, (e7.cell (p := ⟨w.heap.size + 1, 1, none⟩) k1).trans d1, (e7.cell (p := ⟨w.heap.size + 1, 2, none⟩) k1).trans d2, (e7.cell (p := ⟨w.heap.size + 1, 3, none⟩) k1).trans d3⟩))
            (first
              | (go_at_call 17; (with_reducible refine (Hk1.out _ hbd.out).mono ?_); rintro e w5 ⟨rfl, hb5⟩; have e7 : Below wr.heap.size wr w5 := ((Below.refl _ wr).drew.trans hb5); have k0 : w.heap.size < wr.heap.size := L0; have k1 : w.heap.size + 1 < wr.heap.size := L1; have bb5 : Below w.heap.size w w5 := hbel.trans (e7.mono hbel.size))
              | (go_at_call 17; (with_reducible refine (Hk2.out _ bb5).mono ?_); rintro e w6 ⟨rfl, hb6⟩; have e8 := e7.trans (hb6.mono e7.size); clear e7; have e7 := e8; clear e8))
          go_wp2_with fail
          go_ret2
          exact ⟨by rw [decide_eq_false (Hdiff.out Hy.out)]; rfl, hbel.trans (e7.mono hbel.size)⟩
      · obtain rfl : k = n := by omega
        obtain rfl : S1 = S2 := Wp.nth_ext S1 S2 (by omega) (fun j hj => hT j (by omega))
        go_wp2_with fail
        go_ret2
        exact ⟨rfl, hbel⟩
  · have q : ((bl.length : Int) == (bl2.length : Int)) = false := by simp only [beq_eq_false_iff_ne, ne_eq]; omega
    go_wp2_with fail
    go_ret2
    exact ⟨by rw [decide_eq_false (fun e => hlen (by rw [← l1, ← l2, e]))]; rfl, B4.out⟩
end Go.Proofs.Ytpaleljnkejdgaa
