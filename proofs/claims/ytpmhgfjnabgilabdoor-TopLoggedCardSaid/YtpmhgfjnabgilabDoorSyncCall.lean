
/-
  The walk of block.Sync, at whatever device. Conditions: a device's lists and numbers are of a size that a machine holds.
-/
import Derived.Test.YtpmhgfjnabgilabDoorSync
namespace Go.Proofs.YtpmhgfjnabgilabDoor
open Go.RowKit

set_option maxRecDepth 100000 in
set_option maxHeartbeats 1000000 in
/-- Sync, of a device that is not right. -/
theorem Sync_bad (v : Value) (d : Wp.Dev) (w : World) (hv : Wp.DevAt w v d) (hf : d.Fits) (hok : d.ok = false) :
    Calls Tryd.prog 13 #[v] w fun e w' => ∃ v', e = .returned (.tuple #[v', .int .i64 2]) ∧ Wp.DevAt w' v' Wp.Dev.zero ∧ Below w.heap.size w w' := by
  obtain ⟨pb, cb, pw, cw, rfl, _, hc⟩ := asks hv hf
  rw [Wp.Dev.chk_bad hok] at hc
  have Hc := Lib.hid hc
  clear hv hf hok hc
  obtain ⟨bl, ws, fu, dn⟩ := d
  simp only [] at Hc
  obtain ⟨s2, b2, x2, y2⟩ := two_boxes w #[.slice pb bl.length cb, .slice pw ws.length cw, .int .i64 fu, .bool dn] #[.slice none 0 0, .slice none 0 0, .int .i64 0, .bool false] 38 38
  have Y2 := Lib.hid y2
  have B2 := Lib.hid b2
  clear x2 y2 b2
  go_enter Tryd.func13, Tryd.ntmps13
  go_wp2_with fail
  refine (Hc.out _ B2.out).mono ?_
  rintro e w1 ⟨rfl, hb1⟩
  rw [s2] at hb1
  have hy := (hb1.block (w.heap.size + 1) (by omega)).trans Y2.out
  obtain ⟨c0, c1, c2, c3, f0, f1, f2, f3⟩ := Wp.four_of hy
  have Hy := Lib.hid hy
  clear hy
  go_wp2_with fail
  refine bodyPost_ret (ret_cell2 rfl _ _ (w.heap.size + 1) 38 _ _ rfl (four_set Hy.out _ _ _ _) Tryd.underlying38 rfl (by kernel_rfl)) rfl ?_
  exact ⟨_, rfl, Wp.DevAt.zero _, four_below (B2.out.trans (hb1.mono (by omega))) (by omega) _ _ _ _⟩
/-- A device's value whose blocks have room for all. -/
def Wp.CapOk (v : Value) (n : Nat) : Prop := ∃ p c x y z, v = .agg #[.slice p n c, x, y, z] ∧ n ≤ c
theorem owns_cap {w : World} {base : Nat} {e : TypeId} {size : Nat} {v : Value} {n : Nat} {xs : List Value} (h : w.ownsRow base e size v n xs) (p : Option Addr) (c : Nat) (hv : v = .slice p n c) : n ≤ c := by
  rcases h.2 with ⟨_, h0⟩ | ⟨g, cap, cur, h2, _, _, hn, _⟩
  · omega
  · rw [hv] at h2
    simp only [Value.slice.injEq] at h2
    omega
set_option maxRecDepth 100000 in
set_option maxHeartbeats 1000000 in
/-- Sync, of a device that is right. -/
theorem Sync_okc (v : Value) (d : Wp.Dev) (w : World) (hv : Wp.DevAt w v d) (hf : d.Fits) (hok : d.ok = true) :
    Calls Tryd.prog 13 #[v] w fun e w' => ∃ v', e = .returned (.tuple #[v', .int .i64 d.sync1.2]) ∧ Wp.DevAt w' v' d.sync1.1 ∧ Below w.heap.size w w' ∧ Wp.CapOk v' d.sync1.1.bl.length := by
  obtain ⟨⟨n1, n2, n3⟩, n4, n5⟩ := Wp.Dev.Fits_ok hok
  have hin : ∀ x ∈ d.ws, 0 ≤ x.1 ∧ x.1 < (d.bl.length : Int) := fun x hx => ⟨(((Wp.Dev.ok_iff d).1 hok).2.2 x hx).1, (((Wp.Dev.ok_iff d).1 hok).2.2 x hx).2.1⟩
  have Hin := Lib.hid hin
  clear hin
  have n6 := hf.fu.2
  obtain ⟨pb, cb, pw, cw, rfl, hv2, hc⟩ := asks hv hf
  rw [Wp.Dev.chk_ok hok] at hc
  have hcp := fun (w' : World) (hb : Below w.heap.size w w') => copied_any _ d w' (hv2 w' hb) n1 n2 n4 n5
  have Hcp := Lib.hid hcp
  have Hc := Lib.hid hc
  clear hcp hc hv hf n4 n5 hv2 hok
  obtain ⟨bl, ws, fu, dn⟩ := d
  simp only [] at Hc Hcp n1 n2 n3 n6 Hin
  obtain ⟨r, hr⟩ : ∃ r, r = (⟨bl, ws, fu, dn⟩ : Wp.Dev).sync1 := ⟨_, rfl⟩
  rw [← hr]
  have HR := Lib.hid hr
  clear hr
  obtain ⟨s2, b2, x2, y2⟩ := two_boxes w #[.slice pb bl.length cb, .slice pw ws.length cw, .int .i64 fu, .bool dn] #[.slice none 0 0, .slice none 0 0, .int .i64 0, .bool false] 38 38
  have X2 := Lib.hid x2
  have Y2 := Lib.hid y2
  have B2 := Lib.hid b2
  clear x2 y2 b2
  go_enter Tryd.func13, Tryd.ntmps13
  go_wp2_with fail
  refine (Hc.out _ B2.out).mono ?_
  rintro e w1 ⟨rfl, hb1⟩
  rw [s2] at hb1
  have hB1 := Lib.hid (B2.out.trans (hb1.mono (by omega)))
  have hx := (hb1.block w.heap.size (by omega)).trans X2.out
  have hy := (hb1.block (w.heap.size + 1) (by omega)).trans Y2.out
  have s3 : w.heap.size + 2 ≤ w1.heap.size := by have := hb1.size; omega
  obtain ⟨c0, c1, c2, c3, _, _, _, _⟩ := Wp.four_of hx
  have Hy := Lib.hid hy
  clear hy hx
  go_wp2_with fail
  refine (Hcp.out _ hB1.out).mono ?_
  rintro e w2 ⟨vb, vw, rfl, hob, how, hne, hnb, hb2⟩
  clear c0 c1 c2 c3
  have hvb : ∃ p c, vb = .slice p bl.length c := by
    obtain ⟨p5, c5, h5, _⟩ := owns_at hob
    exact ⟨p5, c5, h5⟩
  have hvw : ∃ p c, vw = .slice p ws.length c := by
    obtain ⟨p5, c5, h5, _⟩ := owns_atW how
    exact ⟨p5, c5, h5⟩
  have s4 : w1.heap.size ≤ w2.heap.size := hb2.size
  have Hob := Lib.hid hob
  have How := Lib.hid how
  obtain ⟨p1, q1, rfl⟩ := hvb
  obtain ⟨p2, q2, rfl⟩ := hvw
  have hwr := sync_any (w2.alloc (.cells #[.slice p1 bl.length q1, .slice p2 ws.length q2, .int .i64 fu, .bool dn] 82)) w2.heap.size w1.heap.size _ _ ⟨bl, ws, fu, dn⟩ (alloc_new _ _) n3 n6 (hob.alloc _) (how.alloc _)
    (fun e => by have := (hob.lt _ e).2; omega) (fun e => by have := (how.lt _ e).2; omega) s4 n1 n2 Hin.out
  clear hob how hne hnb
  have hy2 := (alloc_past w2 (.cells #[.slice p1 bl.length q1, .slice p2 ws.length q2, .int .i64 fu, .bool dn] 82) (w.heap.size + 1) (by omega)).trans ((hb2.block (w.heap.size + 1) (by omega)).trans Hy.out)
  have Hy2 := Lib.hid hy2
  have hB2 := Lib.hid ((hB1.out.trans (hb2.mono (by omega))).alloc (by omega) (.cells #[.slice p1 bl.length q1, .slice p2 ws.length q2, .int .i64 fu, .bool dn] 82))
  rw [← HR.out] at hwr
  have Hwr := Lib.hid hwr
  clear hwr hy2
  go_wp2_with fail
  refine Hwr.out.mono ?_
  rintro e w5 ⟨rfl, ⟨vb5, vw5, hbx, ho1, ho2⟩, hrest, hb5⟩
  obtain ⟨r1, r2⟩ := r
  obtain ⟨bl5, ws5, fu5, dn5⟩ := r1
  simp only [] at hbx ho1 ho2 ⊢
  obtain ⟨p6, c6, h6, _⟩ := owns_atW ho2
  subst h6
  have hcap := owns_cap ho1
  obtain ⟨p7, c7, h7, _⟩ := owns_at ho1
  subst h7
  have Hcap := Lib.hid (hcap _ _ rfl)
  clear hcap
  have hy5 := (hrest (w.heap.size + 1) (by rw [World.size_alloc]; omega) (by omega)).trans Hy2.out
  have s5 : w2.heap.size < w5.heap.size := by have := hb5.size; simp at this; omega
  obtain ⟨d0, d1, d2, d3, _, _, _, _⟩ := hbx.facts
  obtain ⟨c0, c1, c2, c3, f0, f1, f2, f3⟩ := Wp.four_of hy5
  have Hy5 := Lib.hid hy5
  have Ho1 := Lib.hid ho1
  have Ho2 := Lib.hid ho2
  have hB5 := Lib.hid (hB2.out.trans (hb5.mono (by omega)))
  clear hy5 ho1 ho2 hbx hrest
  go_wp2_with fail
  refine bodyPost_ret (ret_cell2 rfl _ _ (w.heap.size + 1) 38 _ _ rfl (four_set Hy5.out _ _ _ _) Tryd.underlying38 rfl (by kernel_rfl)) rfl ?_
  refine ⟨_, rfl, ?_, four_below hB5.out (by omega) _ _ _ _, ⟨_, _, _, _, _, rfl, Hcap.out⟩⟩
  exact devAt_rows (d := ⟨bl5, ws5, fu5, dn5⟩) (ownsRow_at Ho1.out (Nat.le_refl _) (fun k hk => four_rest _ _ _ _ _ _ k (by omega))) (ownsRow_at Ho2.out (Nat.le_refl _) (fun k hk => four_rest _ _ _ _ _ _ k (by omega)))
/-- Sync, of a device that is right. -/
theorem Sync_ok (v : Value) (d : Wp.Dev) (w : World) (hv : Wp.DevAt w v d) (hf : d.Fits) (hok : d.ok = true) :
    Calls Tryd.prog 13 #[v] w fun e w' => ∃ v', e = .returned (.tuple #[v', .int .i64 d.sync1.2]) ∧ Wp.DevAt w' v' d.sync1.1 ∧ Below w.heap.size w w' := by
  refine (Sync_okc v d w hv hf hok).mono ?_
  rintro e w' ⟨v', h1, h2, h3, _⟩
  exact ⟨v', h1, h2, h3⟩
end Go.Proofs.YtpmhgfjnabgilabDoor
