/-
  The walk of the law TrailWiped: behind a wipe a region has no records, and wiped again it is the same device. Conditions: sum's table reads as it is laid; a device's lists and numbers are of a size that a machine holds.
-/
import Derived.Test.YtpmhgfjnabgilaaDoorTrLives
import Derived.Test.YtpmhgfjnabgilaaDoorOneDev
namespace Go.Proofs.YtpmhgfjnabgilaaDoor
open Go.RowKit

set_option maxRecDepth 100000 in
set_option maxHeartbeats 1000000 in
theorem trailWiped_any (v : Value) (d : Wp.Dev) (f k : Int) (w : World) (hL : Sp.Laid w) (hv : Wp.DevAt w v d) (hf : d.Fits) (f1 : Wp.I64 f) (k1 : Wp.I64 k) :
    Calls Tryd.prog 5 #[v, .int .i64 f, .int .i64 k] w fun e w' => e = .returned (.bool true) ∧ Below w.heap.size w w' := by
  have HLv := Lib.hid (fun W h => trlives_any W (hL.below h))
  have HL := Lib.hid hL
  obtain ⟨pb, cb, pw, cw, rfl, hv⟩ := devAt_open hv
  have hW := fun W (h : Below w.heap.size w W) => trWipe_any _ d f k W (hv.below h) hf f1 k1
  by_cases h0 : (Tr.wipe d f k).2 = 0
  · have hrk : Tr.rchk d f k = 0 := by
      by_cases hc : Tr.rchk d f k = 0
      · exact hc
      · unfold Tr.wipe at h0
        rw [if_pos hc] at h0
        exact h0
    have hgd : Wp.Good d := ⟨(Tr.rchk_ok hrk).1, hf.fu.2⟩
    obtain ⟨w1, w2, w3, w4⟩ := Tr.wiped hgd h0
    have hrd := fun v' W (h : Below w.heap.size w W) (hd : Wp.DevAt W v' (Tr.wipe d f k).1) => trRead_any v' (Tr.wipe d f k).1 f k W (hL.below h) hd w1.fits f1 k1
    have hw2 := fun v' W (hd : Wp.DevAt W v' (Tr.wipe d f k).1) => trWipe_any v' (Tr.wipe d f k).1 f k W hd w1.fits f1 k1
    obtain ⟨⟨q1, q2, _⟩, _, _⟩ := (Wp.Dev.ok_iff _).1 w1.ok
    have hon := fun v' u' W (hd : Wp.DevAt W v' (Tr.wipe d f k).1) hu => one_same v' u' (Tr.wipe d f k).1 W hd hu q1 q2
    rw [h0] at hW
    rw [w4] at hw2
    have hrc : ∀ l u, Tr.Recs (Tr.rgn (Tr.wipe d f k).1 f k) l u → l = [] ∧ u = 0 := by
      intro l u h
      rw [w3] at h
      exact Tr.Recs.of_none (Tr.first_zeros _) h
    have hrd2 : ∀ v' W, Below w.heap.size w W → Wp.DevAt W v' (Tr.wipe d f k).1 → Calls Tryd.prog 16 #[v', .int .i64 f, .int .i64 k] W fun e w' => ∃ p c, e = .returned (.tuple #[.slice p 0 c, .int .i64 0, .int .i64 0]) ∧ Below W.heap.size W w' := by
      intro v' W h hd
      refine (hrd v' W h hd).mono ?_
      rintro e w' ⟨vl, l, u, rfl, _, h2, h3, h4⟩
      obtain ⟨rfl, rfl⟩ := hrc l u (h2 w2)
      obtain ⟨p, c, rfl, _⟩ := owns_at (mk := Wp.mkT) (l := []) h3
      exact ⟨p, c, by rw [w2]; rfl, h4⟩
    generalize (Tr.wipe d f k).1 = E at *
    have HW := Lib.hid hW
    have HRd := Lib.hid hrd2
    have HW2 := Lib.hid hw2
    have HOn := Lib.hid hon
    clear hW hrd hrd2 hw2 hon hrc w1 w2 w3 w4 h0 hrk hgd hv hf hL q1 q2
    obtain ⟨bl, ws, fu, dn⟩ := d
    simp only [] at HW ⊢
    have B0 := Lib.hid ((Below.refl w.heap.size w).alloc (Nat.le_refl _) (.cells #[.slice pb bl.length cb, .slice pw ws.length cw, .int .i64 fu, .bool dn] 25))
    have X0 := Lib.hid (alloc_new w (.cells #[.slice pb bl.length cb, .slice pw ws.length cw, .int .i64 fu, .bool dn] 25))
    generalize bl.length = n at *
    generalize ws.length = m at *
    go_enter Tryd.func5, Tryd.ntmps5
    go_wp2_with fail
    refine (HLv.out _ B0.out).mono ?_
    rintro e w1 ⟨rfl, hb1⟩
    rw [World.size_alloc] at hb1
    have B1 := Lib.hid (B0.out.trans (hb1.mono (by omega)))
    obtain ⟨c0, c1, c2, c3, _, _, _, _⟩ := Wp.four_of ((hb1.block w.heap.size (by omega)).trans X0.out)
    clear hb1
    go_wp2_with fail
    refine (HW.out _ B1.out).mono ?_
    rintro e w2 ⟨v2, rfl, hd2, hb2⟩
    obtain ⟨pb2, cb2, pw2, cw2, rfl, hd2⟩ := devAt_open hd2
    have hz2 := (Below.refl w2.heap.size w2).alloc (Nat.le_refl _) (.cells #[.slice pb2 E.bl.length cb2, .slice pw2 E.ws.length cw2, .int .i64 E.fu, .bool E.dn] 25)
    have B2 := Lib.hid ((B1.out.trans (hb2.mono B1.out.size)).trans (hz2.mono (by have := hb2.size; have := B1.out.size; omega)))
    have D2 := Lib.hid (hd2.below hz2)
    have X2 := Lib.hid (alloc_new w2 (.cells #[.slice pb2 E.bl.length cb2, .slice pw2 E.ws.length cw2, .int .i64 E.fu, .bool E.dn] 25))
    clear hd2 hb2 hz2 c0 c1 c2 c3
    go_wp2_with fail
    refine (HRd.out _ _ B2.out D2.out).mono ?_
    rintro e w3 ⟨p3, q3, rfl, hb3⟩
    rw [World.size_alloc] at hb3
    have X3 := Lib.hid ((hb3.block w2.heap.size (by omega)).trans X2.out)
    have D3 := Lib.hid (D2.out.below (by rw [World.size_alloc]; exact hb3))
    have B3 := Lib.hid (B2.out.trans (hb3.mono (by have := B2.out.size; simp at this; omega)))
    have hs3 : w2.heap.size < w3.heap.size := by have := hb3.size; simp at this; omega
    clear hb3 X2 D2 B2
    obtain ⟨c0, c1, c2, c3, _, _, _, _⟩ := Wp.four_of X3.out
    go_wp2_with fail
    refine (HW2.out _ _ D3.out).mono ?_
    rintro e w4 ⟨v4, rfl, hd4, hb4⟩
    obtain ⟨pb4, cb4, pw4, cw4, rfl, hd4⟩ := devAt_open hd4
    have hs4 : w2.heap.size < w4.heap.size := by have := hb4.size; omega
    have X4 := Lib.hid ((hb4.block w2.heap.size hs3).trans X3.out)
    have D4 := Lib.hid (D3.out.below hb4)
    have F4 := Lib.hid hd4
    have B4 := Lib.hid (B3.out.trans (hb4.mono B3.out.size))
    clear c0 c1 c2 c3 hd4 hb4 X3 D3 B3
    obtain ⟨c0, c1, c2, c3, _, _, _, _⟩ := Wp.four_of X4.out
    go_wp2_with fail
    refine (HOn.out _ _ _ (D4.out.below ((Below.refl _ _).alloc (Nat.le_refl _) _)) (F4.out.below ((Below.refl _ _).alloc (Nat.le_refl _) _))).mono ?_
    rintro e w5 ⟨rfl, hb5⟩
    rw [World.size_alloc] at hb5
    have B5 := Lib.hid ((B4.out.alloc B4.out.size _).trans (hb5.mono (by have := B4.out.size; omega)))
    clear c0 c1 c2 c3 hb5
    go_wp2_with fail
    go_ret
    exact ⟨rfl, B5.out⟩
  · have hb : ((Tr.wipe d f k).2 != 0) = true := by rw [bne_iff_ne]; exact h0
    generalize (Tr.wipe d f k).2 = C at *
    have HW := Lib.hid hW
    clear hW h0 hv hf hL
    obtain ⟨bl, ws, fu, dn⟩ := d
    simp only [] at HW ⊢
    have B0 := Lib.hid ((Below.refl w.heap.size w).alloc (Nat.le_refl _) (.cells #[.slice pb bl.length cb, .slice pw ws.length cw, .int .i64 fu, .bool dn] 25))
    have X0 := Lib.hid (alloc_new w (.cells #[.slice pb bl.length cb, .slice pw ws.length cw, .int .i64 fu, .bool dn] 25))
    generalize bl.length = n at *
    generalize ws.length = m at *
    go_enter Tryd.func5, Tryd.ntmps5
    go_wp2_with fail
    refine (HLv.out _ B0.out).mono ?_
    rintro e w1 ⟨rfl, hb1⟩
    rw [World.size_alloc] at hb1
    have B1 := Lib.hid (B0.out.trans (hb1.mono (by omega)))
    obtain ⟨c0, c1, c2, c3, _, _, _, _⟩ := Wp.four_of ((hb1.block w.heap.size (by omega)).trans X0.out)
    clear hb1
    go_wp2_with fail
    refine (HW.out _ B1.out).mono ?_
    rintro e w2 ⟨v2, rfl, hd2, hb2⟩
    obtain ⟨pb2, cb2, pw2, cw2, rfl, _⟩ := devAt_open hd2
    have B2 := Lib.hid (B1.out.trans (hb2.mono B1.out.size))
    clear hd2 hb2
    go_wp2_with fail
    go_ret
    exact ⟨rfl, B2.out.alloc B2.out.size _⟩
end Go.Proofs.YtpmhgfjnabgilaaDoor
