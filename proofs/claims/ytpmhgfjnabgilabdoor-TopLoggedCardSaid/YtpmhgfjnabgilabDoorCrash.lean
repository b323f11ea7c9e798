
/-
  The walk of block.Crash, at whatever device. Conditions: a device's lists and numbers, and keep, are of a size that a machine holds.
-/
import Derived.Test.YtpmhgfjnabgilabDoorSyncCall
namespace Go.Proofs.YtpmhgfjnabgilabDoor
open Go.RowKit

set_option maxRecDepth 100000 in
theorem Wp.tearAll_cons (bl : List ByteArray) (w : Int × ByteArray) (ws : List (Int × ByteArray)) (ks : List Int) : Wp.tearAll bl (w :: ws) ks = Wp.tearAll (bl.set w.1.toNat (Wp.laid (Wp.nth bl w.1.toNat) w.2 (Wp.clamp (ks.headD 0)))) ws ks.tail := rfl
set_option maxRecDepth 100000 in
theorem Wp.tearAll_step (T : List ByteArray) (ws : List (Int × ByteArray)) (keep : List Int) (k : Nat) (hk : k < ws.length) :
    Wp.tearAll T (ws.drop k) (keep.drop k) = Wp.tearAll (T.set ws[k].1.toNat (Wp.laid (Wp.nth T ws[k].1.toNat) ws[k].2 (Wp.clamp (if h : k < keep.length then keep[k] else 0)))) (ws.drop (k + 1)) (keep.drop (k + 1)) := by
  rw [List.drop_eq_getElem_cons hk, Wp.tearAll_cons, List.tail_drop]
  by_cases h : k < keep.length
  · rw [dif_pos h, List.drop_eq_getElem_cons h]; rfl
  · rw [dif_neg h, List.drop_eq_nil_of_le (by omega)]; rfl
set_option maxRecDepth 100000 in
theorem Wp.clamp_int (x : Int) : min (max x 0) 64 = (Wp.clamp x : Int) := by unfold Wp.clamp; omega
set_option maxRecDepth 100000 in
theorem Wp.clamp_le (x : Int) : Wp.clamp x ≤ 64 := by unfold Wp.clamp; omega
set_option maxRecDepth 100000 in
theorem Wp.laid_size (b s : ByteArray) (n : Nat) (hn : n ≤ s.size) (hn2 : n ≤ 64) (hb : b.size ≤ 64) : (Wp.laid b s n).size = 64 := by
  unfold Wp.laid
  rw [Wp.B_size]
  exact laidL_length _ _ _ (by rw [← Wp.size_len]; exact hn) hn2 (by rw [← Wp.size_len]; exact hb)
set_option maxRecDepth 100000 in
set_option maxHeartbeats 1000000 in
/-- Crash, of a device that is not right. -/
theorem Crash_bad (v : Value) (d : Wp.Dev) (pk : Option Addr) (ck : Nat) (keep : List Int) (w : World) (hv : Wp.DevAt w v d) (hf : d.Fits) (hok : d.ok = false) :
    Calls Tryd.prog 14 #[v, .slice pk keep.length ck] w fun e w' => ∃ v', e = .returned (.tuple #[v', .int .i64 2]) ∧ Wp.DevAt w' v' Wp.Dev.zero ∧ Below w.heap.size w w' := by
  obtain ⟨pb, cb, pw, cw, rfl, _, hc⟩ := asks hv hf
  rw [Wp.Dev.chk_bad hok] at hc
  have Hc := Lib.hid hc
  clear hv hf hok hc
  obtain ⟨bl, ws, fu, dn⟩ := d
  simp only [] at Hc
  obtain ⟨s2, b2, x2, y2⟩ := two_boxes w #[.slice pb bl.length cb, .slice pw ws.length cw, .int .i64 fu, .bool dn] #[.slice none 0 0, .slice none 0 0, .int .i64 0, .bool false] 38 38
  have Y2 := Lib.hid y2
  have B2 := Lib.hid b2
  clear x2 y2 b2
  go_enter Tryd.func14, Tryd.ntmps14
  go_wp2_with fail
  refine (Hc.out _ B2.out).mono ?_
  rintro e w1 ⟨rfl, hb1⟩
  rw [s2] at hb1
  have hy := (hb1.block (w.heap.size + 1) (by omega)).trans Y2.out
  obtain ⟨c0, c1, c2, c3, f0, f1, f2, f3⟩ := Wp.four_of hy
  have Hy := Lib.hid hy
  clear hy
  go_wp2_with fail
  refine bodyPost_ret (ret_cell2 rfl _ _ (w.heap.size + 1) 38 _ _ rfl (four_set Hy.out _ _ _ _) Tryd.underlying38 rfl (by kernel_rfl)) rfl ?_
  exact ⟨_, rfl, Wp.DevAt.zero _, four_below (B2.out.trans (hb1.mono (by omega))) (by omega) _ _ _ _⟩
set_option maxRecDepth 100000 in
set_option maxHeartbeats 1000000 in
/-- Crash, of a device that is right. -/
theorem Crash_ok (v : Value) (d : Wp.Dev) (pk : Option Addr) (ck : Nat) (keep : List Int) (w : World) (hv : Wp.DevAt w v d) (hf : d.Fits) (hok : d.ok = true) (hkl : keep.length ≤ 140737488351232) (hka : Wp.At Wp.mkN w pk keep) (hki : ∀ x ∈ keep, Wp.I64 x) :
    Calls Tryd.prog 14 #[v, .slice pk keep.length ck] w fun e w' => ∃ v', e = .returned (.tuple #[v', .int .i64 0]) ∧ Wp.DevAt w' v' ⟨Wp.tearAll d.bl d.ws keep, [], -1, false⟩ ∧ Below w.heap.size w w' := by
  obtain ⟨⟨n1, n2, n3⟩, n4, n5⟩ := Wp.Dev.Fits_ok hok
  have hin : ∀ x ∈ d.ws, 0 ≤ x.1 ∧ x.1 < (d.bl.length : Int) ∧ x.2.size = 64 := fun x hx => ((Wp.Dev.ok_iff d).1 hok).2.2 x hx
  have Hin := Lib.hid hin
  have Hbs := Lib.hid n4
  clear hin
  have n6 := hf.fu.2
  obtain ⟨pb, cb, pw, cw, rfl, hv2, hc⟩ := asks hv hf
  rw [Wp.Dev.chk_ok hok] at hc
  have hcp := fun (w' : World) (hb : Below w.heap.size w w') => copied_any _ d w' (hv2 w' hb) n1 n2 n4 n5
  have Hcp := Lib.hid hcp
  have Hc := Lib.hid hc
  clear hcp hc hv hf n4 n5 hv2 hok
  obtain ⟨bl, ws, fu, dn⟩ := d
  simp only [] at Hc Hcp n1 n2 n3 n6 Hin Hbs
  obtain ⟨r, hr⟩ : ∃ r, r = Wp.tearAll bl ws keep := ⟨_, rfl⟩
  rw [← hr]
  have HR := Lib.hid hr
  clear hr
  have Hka := Lib.hid hka
  have Hki := Lib.hid hki
  clear hka hki
  obtain ⟨s2, b2, x2, y2⟩ := two_boxes w #[.slice pb bl.length cb, .slice pw ws.length cw, .int .i64 fu, .bool dn] #[.slice none 0 0, .slice none 0 0, .int .i64 0, .bool false] 38 38
  have X2 := Lib.hid x2
  have Y2 := Lib.hid y2
  have B2 := Lib.hid b2
  clear x2 y2 b2
  go_enter Tryd.func14, Tryd.ntmps14
  go_wp2_with fail
  refine (Hc.out _ B2.out).mono ?_
  rintro e w1 ⟨rfl, hb1⟩
  rw [s2] at hb1
  have hB1 := Lib.hid (B2.out.trans (hb1.mono (by omega)))
  have hx := (hb1.block w.heap.size (by omega)).trans X2.out
  have hy := (hb1.block (w.heap.size + 1) (by omega)).trans Y2.out
  have s3 : w.heap.size + 2 ≤ w1.heap.size := by have := hb1.size; omega
  obtain ⟨c0, c1, c2, c3, _, _, _, _⟩ := Wp.four_of hx
  have Hy := Lib.hid hy
  clear hy hx
  go_wp2_with fail
  refine (Hcp.out _ hB1.out).mono ?_
  rintro e w2 ⟨vb, vw, rfl, hob, how, hne, hnb, hb2⟩
  clear c0 c1 c2 c3
  have hvb : ∃ p c, vb = .slice p bl.length c := by
    obtain ⟨p5, c5, h5, _⟩ := owns_at hob
    exact ⟨p5, c5, h5⟩
  have hvw : ∃ p c, vw = .slice p ws.length c := by
    obtain ⟨p5, c5, h5, _⟩ := owns_atW how
    exact ⟨p5, c5, h5⟩
  have s4 : w1.heap.size ≤ w2.heap.size := hb2.size
  have Hob := Lib.hid hob
  have How := Lib.hid how
  obtain ⟨p1, q1, rfl⟩ := hvb
  obtain ⟨p2, q2, rfl⟩ := hvw
  have hx3 := alloc_new w2 (.cells #[.slice p1 bl.length q1, .slice p2 ws.length q2, .int .i64 fu, .bool dn] 82)
  have hy3 := (alloc_past w2 (.cells #[.slice p1 bl.length q1, .slice p2 ws.length q2, .int .i64 fu, .bool dn] 82) (w.heap.size + 1) (by omega)).trans ((hb2.block (w.heap.size + 1) (by omega)).trans Hy.out)
  have hob3 := hob.alloc (.cells #[.slice p1 bl.length q1, .slice p2 ws.length q2, .int .i64 fu, .bool dn] 82)
  have how3 := how.alloc (.cells #[.slice p1 bl.length q1, .slice p2 ws.length q2, .int .i64 fu, .bool dn] 82)
  have hB3 := Lib.hid ((hB1.out.trans (hb2.mono (by omega))).alloc (by omega) (.cells #[.slice p1 bl.length q1, .slice p2 ws.length q2, .int .i64 fu, .bool dn] 82))
  have hs3 : (w2.alloc (.cells #[.slice p1 bl.length q1, .slice p2 ws.length q2, .int .i64 fu, .bool dn] 82)).heap.size = w2.heap.size + 1 := by rw [World.size_alloc]
  have g1 : (Value.slice p1 bl.length q1).ownBlock ≠ some w2.heap.size := fun e => by have := (hob.lt _ e).2; omega
  have g2 : (Value.slice p1 bl.length q1).ownBlock ≠ some (w.heap.size + 1) := ownsRow_block hob _ (by omega)
  have hwl : ∀ k, (Value.slice p2 ws.length q2).ownBlock = some k → k < w2.heap.size := fun k hk => (how.lt k hk).2
  have Hwl := Lib.hid hwl
  clear hob how hwl
  obtain ⟨w3, hw3⟩ : ∃ w3, w2.alloc (.cells #[.slice p1 bl.length q1, .slice p2 ws.length q2, .int .i64 fu, .bool dn] 82) = w3 := ⟨_, rfl⟩
  have hx4 := (Wp.four_of hx3)
  rw [hw3] at hx3 hx4 hy3 hob3 how3 hB3 hs3
  have Hx3 := Lib.hid hx3
  have Hy3 := Lib.hid hy3
  have Ho3 := Lib.hid hob3
  have Hw3 := Lib.hid how3
  clear hx3 hy3 hob3 how3
  obtain ⟨c0, c1, c2, c3, f0, f1, f2, f3⟩ := hx4
  go_wp2_with fail
  clear hw3
  go_loopw [23] (fun t wr => ∃ (k : Nat) (T : List ByteArray), k ≤ ws.length ∧ t = .int .i64 k ∧ T.length = bl.length ∧ (∀ x ∈ T, x.size ≤ 64) ∧ Wp.tearAll T (ws.drop k) (keep.drop k) = r ∧ wr.ownsRow w1.heap.size 9 1 (.slice p1 bl.length q1) bl.length (T.map Wp.mkT) ∧ (∀ j, j < w3.heap.size → (Value.slice p1 bl.length q1).ownBlock ≠ some j → wr.heap[j]? = w3.heap[j]?) ∧ w3.heap.size ≤ wr.heap.size ∧ Below w1.heap.size w3 wr) (fun t _ => ws.length - (intOf t).toNat)
  case atStart => exact ⟨0, bl, Nat.zero_le _, rfl, rfl, Hbs.out, HR.out.symm, Ho3.out, fun _ _ _ => rfl, Nat.le_refl _, Below.refl _ _⟩
  case round =>
    obtain ⟨k, T, hk, rfl, hTl, hTs, hT, ho, hrest, hle, hB⟩ := hrel
    have hxr := (hrest w2.heap.size (by omega) g1).trans Hx3.out
    have hyr := (hrest (w.heap.size + 1) (by omega) g2).trans Hy3.out
    by_cases hlt : k < ws.length
    · have hbel : Below w.heap.size w wr := hB3.out.trans (hB.mono (by omega))
      have hwr := ownsRow_at2 Hw3.out (fun k hk => hrest k (by have := Hwl.out k hk; omega) (fun e => hnb (e.trans hk.symm)))
      obtain ⟨p9, c9, h9, hat9⟩ := owns_atW hwr
      simp only [Value.slice.injEq, true_and] at h9
      obtain ⟨rfl, rfl⟩ := h9
      obtain ⟨b, off, rfl, hcell1, hcell2⟩ := hat9.get k hlt
      obtain ⟨i1, i2, i4⟩ := Hin.out ws[k] (List.getElem_mem _)
      have hst := Wp.tearAll_step T ws keep k hlt
      rw [hT] at hst
      obtain ⟨x, hxe⟩ : ∃ x, x = ws[k] := ⟨_, rfl⟩
      rw [← hxe] at hcell1 hcell2 i1 i2 i4 hst
      clear hxe hT hat9 hwr
      obtain ⟨xa, xd⟩ := x
      simp only [] at hcell1 hcell2 i1 i2 i4 hst
      obtain ⟨a, rfl⟩ := Int.eq_ofNat_of_zero_le i1
      rw [Int.toNat_natCast] at hst
      have haT : a < T.length := by omega
      have hnT : Wp.nth T a = T[a] := Wp.nth_get T a haT
      have hsa := hTs T[a] (List.getElem_mem _)
      rw [← hTl] at ho
      obtain ⟨g, c, u, hsl, hgb, hcg, hfg, _⟩ := own_set ho a haT xd
      simp only [Value.slice.injEq, hTl, true_and] at hsl
      obtain ⟨rfl, rfl⟩ := hsl
      have hcg2 : wr.cell? ⟨g, a, none⟩ = some (.string T[a]) := by
        obtain ⟨p8, c8, h8, hat8⟩ := owns_at ho
        obtain ⟨b8, o8, rfl, hc8⟩ := hat8.get a haT
        simp only [Value.slice.injEq, Option.some.injEq, Addr.mk.injEq, and_true] at h8
        obtain ⟨⟨rfl, rfl⟩, _⟩ := h8
        rw [Nat.zero_add] at hc8
        exact hc8
      obtain ⟨n, hn⟩ : ∃ n, n = Wp.clamp (if h : k < keep.length then keep[k] else 0) := ⟨_, rfl⟩
      rw [← hn, hnT] at hst
      have hn64 : n ≤ 64 := by rw [hn]; exact Wp.clamp_le _
      have hlaid := fun w => laid_any T[a] xd n w (by omega) hn64 hsa
      have hls := Wp.laid_size T[a] xd n (by omega) hn64 hsa
      obtain ⟨L, hL⟩ : ∃ L, L = Wp.laid T[a] xd n := ⟨_, rfl⟩
      rw [← hL] at hst hlaid hls
      obtain ⟨s0, hs0⟩ : ∃ s0, s0 = T[a] := ⟨_, rfl⟩
      rw [← hs0] at hcg2 hlaid
      have HTs := Lib.hid hTs
      have Hst := Lib.hid hst
      have Hho := Lib.hid ho
      have Hrest := Lib.hid hrest
      have Hxr := Lib.hid hxr
      have Hyr := Lib.hid hyr
      have Hbel := Lib.hid hbel
      obtain ⟨c0, c1, c2, c3, f0, f1, f2, f3⟩ := Wp.four_of hxr
      clear hst hL hs0 hTs ho hrest hxr hyr hbel hnT hcg
      have i3 : (a : Int) < (bl.length : Int) := i2
      have glt : g < wr.heap.size := World.block_lt_of_cell? wr _ hcg2
      have s9 : w2.heap.size < wr.heap.size := by omega
      have hgw : (⟨g, a, none⟩ : Addr).block ≠ (⟨w2.heap.size, 0, none⟩ : Addr).block := fun e => g1 (by rw [show g = w2.heap.size from e]; rfl)
      have hgr : g ≠ wr.heap.size := by omega
      have hw19 : w1.heap.size ≤ w3.heap.size := by omega
      by_cases hkk : k < keep.length
      · rw [dif_pos hkk] at hn
        obtain ⟨kb, ko, rfl, hkc⟩ := (Hka.out.below Hbel.out).get k hkk
        rw [show Wp.mkN keep[k] = Value.int .i64 keep[k] from rfl] at hkc
        have hki2 := Hki.out keep[k] (List.getElem_mem _)
        obtain ⟨y, hy⟩ : ∃ y, y = keep[k] := ⟨_, rfl⟩
        rw [← hy] at hkc hn hki2
        have hcl := Wp.clamp_int y
        rw [← hn] at hcl
        have Hcl := Lib.hid hcl
        obtain ⟨hk1, hk2⟩ := hki2
        have kblt : kb < wr.heap.size := World.block_lt_of_cell? wr _ hkc
        clear hy hn hcl
        have x0 : (wr.alloc (.cells #[.int .i64 a, .string xd] 86)).cell? ⟨w2.heap.size, 0, none⟩ = some (.slice (some ⟨g, 0, none⟩) bl.length q1) := Lib.cell?_alloc_some _ c0
        have y0 : (wr.alloc (.cells #[.int .i64 a, .string xd] 86)).cell? ⟨wr.heap.size, 0, none⟩ = some (.int .i64 a) := by rw [World.cell?_alloc_at _ _ _ _ rfl]; rfl
        have y1 : (wr.alloc (.cells #[.int .i64 a, .string xd] 86)).cell? ⟨wr.heap.size, 1, none⟩ = some (.string xd) := by rw [World.cell?_alloc_at _ _ _ _ rfl]; rfl
        have z0 : (wr.alloc (.cells #[.int .i64 a, .string xd] 86)).cell? ⟨g, a, none⟩ = some (.string s0) := Lib.cell?_alloc_some _ hcg2
        have zf : (wr.alloc (.cells #[.int .i64 a, .string xd] 86)).frozen? ⟨g, a, none⟩ = false := (RowKit.frozen?_alloc_cells _ _ _ _).trans hfg
        have sz4 : (wr.alloc (.cells #[.int .i64 a, .string xd] 86)).heap.size = wr.heap.size + 1 := by rw [World.size_alloc]
        have Hw4r := Lib.hid (show ∀ k, k < wr.heap.size → (wr.alloc (.cells #[.int .i64 a, .string xd] 86)).heap[k]? = wr.heap[k]? from fun k hk => alloc_past _ _ _ hk)
        have Hb4 := Lib.hid ((Below.refl wr.heap.size wr).alloc (Nat.le_refl _) (.cells #[.int .i64 a, .string xd] 86))
        go_wp2_with fail
        rw [Hcl.out]
        obtain ⟨w4, hw4⟩ : ∃ w4, wr.alloc (.cells #[.int .i64 a, .string xd] 86) = w4 := ⟨_, rfl⟩
        rw [hw4] at x0 y0 y1 z0 zf sz4 Hw4r Hb4 ⊢
        clear hw4 hkc hcell1 hcell2 hcg2 hfg c0 c1 c2 c3 f0 f1 f2 f3
        refine wp_region_held_drew (S := fun w' => w'.cell? ⟨w2.heap.size, 0, none⟩ = some (.slice (some ⟨g, 0, none⟩) bl.length q1) ∧ w'.cell? ⟨wr.heap.size, 0, none⟩ = some (.int .i64 a) ∧ w'.cell? ⟨wr.heap.size, 1, none⟩ = some (.string xd)) (by kernel_rfl) ⟨x0, y0, y1⟩ (fun hHeld => ?_)
        refine wpAnyH_take (i := 0) (v := ?_) rfl (by kernel_rfl) (by kernel_rfl) (by kernel_rfl) (fun _ _ _ h => h) (Or.inl ⟨by rfl, ?_⟩) (by assumption) ?_
        rotate_left 1
        · (intro w hSw; (try dsimp only at hSw); go_simp; try with_reducible rfl)
        simp only [Act.put, List.setIfInBounds_toArray]
        refine wpAnyH_take (i := 1) (v := ?_) rfl (by kernel_rfl) (by kernel_rfl) (by kernel_rfl) (fun _ _ _ h => h) (Or.inl ⟨by rfl, ?_⟩) (by assumption) ?_
        rotate_left 1
        · (intro w hSw; (try dsimp only at hSw); go_simp; try with_reducible rfl)
        simp only [Act.put]
        refine wpAnyH_take (i := 2) (v := ?_) rfl (by kernel_rfl) (by kernel_rfl) (by kernel_rfl) (fun _ _ _ h => h) (Or.inl ⟨by rfl, ?_⟩) (by assumption) ?_
        rotate_left 1
        · (intro w hSw; (try dsimp only at hSw); go_simp; try with_reducible rfl)
        simp only [Act.put]
        refine wpAnyH_take (i := 3) (v := ?_) rfl (by kernel_rfl) (by kernel_rfl) (by kernel_rfl) (fun _ _ _ h => h) (Or.inl ⟨by rfl, ?_⟩) (by assumption) ?_
        rotate_left 1
        · (intro w hSw; (try dsimp only at hSw); go_simp; try with_reducible rfl)
        simp only [Act.put]
        refine wpAnyH_take (i := 4) (v := ?_) rfl (by kernel_rfl) (by kernel_rfl) (by kernel_rfl) (fun _ _ _ h => h) (Or.inl ⟨by rfl, ?_⟩) (by assumption) ?_
        rotate_left 1
        · (intro w hSw; (try dsimp only at hSw); go_simp; try with_reducible rfl)
        simp only [Act.put]
        refine wpAnyH_take (i := 5) (v := ?_) rfl (by kernel_rfl) (by kernel_rfl) (by kernel_rfl) (fun _ _ _ h => h) (Or.inl ⟨by rfl, ?_⟩) (by assumption) ?_
        rotate_left 1
        · (intro w hSw; (try dsimp only at hSw); go_simp; try with_reducible rfl)
        simp only [Act.put]
        refine wpAnyH_take (i := 6) (v := ?_) rfl (by kernel_rfl) (by kernel_rfl) (by kernel_rfl) (fun _ _ _ h => h) (Or.inl ⟨by rfl, ?_⟩) (by assumption) ?_
        rotate_left 1
        · (intro w hSw; (try dsimp only at hSw); go_simp; try with_reducible rfl)
        simp only [Act.put]
        refine wpAnyH_take (i := 7) (v := ?_) rfl (by kernel_rfl) (by kernel_rfl) (by kernel_rfl) (fun _ _ _ h => h) (Or.inl ⟨by rfl, ?_⟩) (by assumption) ?_
        rotate_left 1
        · (intro w hSw; (try dsimp only at hSw); go_simp; try with_reducible rfl)
        simp only [Act.put]
        refine wpAnyH_take (i := 8) (v := ?_) rfl (by kernel_rfl) (by kernel_rfl) (by kernel_rfl) (fun _ _ _ h => h) (Or.inl ⟨by rfl, ?_⟩) (by assumption) ?_
        rotate_left 1
        · (intro w hSw; (try dsimp only at hSw); go_simp; try with_reducible rfl)
        simp only [Act.put]
        refine wpAnyH_take (i := 9) (v := ?_) rfl (by kernel_rfl) (by kernel_rfl) (by kernel_rfl) (fun _ _ _ h => h) (Or.inl ⟨by rfl, ?_⟩) (by assumption) ?_
        rotate_left 1
        · (intro w hSw; (try dsimp only at hSw); go_simp; try with_reducible rfl)
        simp only [Act.put]
        refine wpAnyH_take (i := 10) (v := ?_) rfl (by kernel_rfl) (by kernel_rfl) (by kernel_rfl) (fun _ _ _ h => h) (Or.inl ⟨by rfl, ?_⟩) (by assumption) ?_
        rotate_left 1
        · (intro w hSw; (try dsimp only at hSw); go_simp; try with_reducible rfl)
        simp only [Act.put]
        refine wpAnyH_take (i := 12) (v := ?_) rfl (by kernel_rfl) (by kernel_rfl) (by kernel_rfl) (fun _ _ _ h => h) (Or.inl ⟨by rfl, ?_⟩) (by assumption) ?_
        rotate_left 1
        · (intro w hSw; (try dsimp only at hSw); go_simp; try with_reducible rfl)
        simp only [Act.put]
        refine wpAnyH_take (i := 13) (v := ?_) rfl (by kernel_rfl) (by kernel_rfl) (by kernel_rfl) (fun _ _ _ h => h) (Or.inl ⟨by rfl, ?_⟩) (by assumption) ?_
        rotate_left 1
        · (intro w hSw; (try dsimp only at hSw); go_simp; try with_reducible rfl)
        simp only [Act.put]
        refine wpAnyH_take (i := 14) (v := ?_) rfl (by kernel_rfl) (by kernel_rfl) (by kernel_rfl) (fun _ _ _ h => h) (Or.inl ⟨by rfl, ?_⟩) (by assumption) ?_
        rotate_left 1
        · (intro w hSw; (try dsimp only at hSw); go_simp; try with_reducible rfl)
        simp only [Act.put]
        refine wpAnyH_ready (rs := [11]) (by kernel_rfl) (by simp) ?_
        refine AllReadyH.cons rfl (fun K hK => ?_) AllReadyH.nil
        go_simp
        refine hK.out _ _ (by assumption) (fun hHeld => ?_)
        clear hK K
        refine wpAnyH_ready (rs := [15]) (by kernel_rfl) (by simp) ?_
        refine AllReadyH.cons rfl (fun K hK => ?_) AllReadyH.nil
        go_simp
        with_reducible refine (hlaid _).mono ?_
        rintro e w5 ⟨rfl, b5⟩
        have x0' := (b5.cell (p := ⟨w2.heap.size, 0, none⟩) (by simp; omega)).trans x0
        have y0' := (b5.cell (p := ⟨wr.heap.size, 0, none⟩) (by simp; omega)).trans y0
        have y1' := (b5.cell (p := ⟨wr.heap.size, 1, none⟩) (by simp; omega)).trans y1
        have z0' := (b5.cell (p := ⟨g, a, none⟩) (by simp; omega)).trans z0
        have zf' := (b5.frozen (p := ⟨g, a, none⟩) (by simp; omega)).trans zf
        go_simp
        refine hK.out _ _ ⟨x0', y0', y1'⟩ (fun hHeld2 => ?_)
        clear hK K
        refine wpAnyH_take (i := 16) (v := ?_) rfl (by kernel_rfl) (by kernel_rfl) (by kernel_rfl) (fun _ _ _ h => h) (Or.inl ⟨by rfl, ?_⟩) (by assumption) ?_
        rotate_left 1
        · (intro w hSw; (try dsimp only at hSw); go_simp; try with_reducible rfl)
        simp only [Act.put, List.setIfInBounds_toArray]
        refine wpAnyH_ready (rs := [17]) (by kernel_rfl) (by simp) ?_
        refine AllReadyH.cons rfl (fun K hK => ?_) AllReadyH.nil
        go_simp
        refine hK.out _ _ ⟨by rw [World.cell?_setCell_far _ _ _ _ hgw]; exact x0', by rw [World.cell?_setCell_far _ _ _ _ hgr]; exact y0', by rw [World.cell?_setCell_far _ _ _ _ hgr]; exact y1'⟩ (fun hHeld3 => ?_)
        clear hK K
        refine wpAnyH_done (by kernel_rfl) ?_ _
        have hrow5 := ownsRow_at2 (w' := w5) Hho.out (fun j hj => by
          have e : j = g := by simp [Value.ownBlock] at hj; exact hj.symm
          subst e
          exact (b5.block j (by show j < w4.heap.size; omega)).trans (Hw4r.out j glt))
        obtain ⟨g', c', u', hsl', _, _, _, hset⟩ := own_set hrow5 a haT L
        simp only [Value.slice.injEq, Option.some.injEq, Addr.mk.injEq, and_true] at hsl'
        obtain ⟨rfl, _⟩ := hsl'
        rw [List.length_set, hTl] at hset
        have hrest5 : ∀ j, j < w3.heap.size → (Value.slice (some ⟨g, 0, none⟩) bl.length q1).ownBlock ≠ some j → (w5.setCell ⟨g, a, none⟩ (.string L)).heap[j]? = w3.heap[j]? := fun j hj hne => by
          rw [Below.heap_setCell _ _ _ _ (by intro e; exact hne (by rw [e]; rfl))]
          exact (b5.block j (by show j < w4.heap.size; omega)).trans ((Hw4r.out j (by omega)).trans (Hrest.out j hj hne))
        have hbl5 : Below w1.heap.size w3 (w5.setCell ⟨g, a, none⟩ (.string L)) := (((hB.trans (Hb4.out.mono (by omega))).drew).trans (b5.mono (by show w1.heap.size ≤ w4.heap.size; omega))).setCell (p := ⟨g, a, none⟩) hgb _
        have hsz5 : w3.heap.size ≤ (w5.setCell ⟨g, a, none⟩ (.string L)).heap.size := by
          have := b5.size
          simp [World.setCell] at this ⊢
          omega
        have hmem : ∀ x ∈ T.set a L, x.size ≤ 64 := fun x hx => by
          rcases List.mem_or_eq_of_mem_set hx with h | h
          · exact HTs.out x h
          · rw [h]; omega
        have Hset := Lib.hid hset
        have Hrest5 := Lib.hid hrest5
        have Hmem := Lib.hid hmem
        clear hset hrest5 hmem hrow5 x0 x0' y0 y0' y1 y1' z0 z0' zf zf' hHeld hHeld2 hHeld3
        go_wp2_with fail
        exact ⟨⟨k + 1, T.set a L, by omega, by go_num, by rw [List.length_set]; exact hTl, Hmem.out, Hst.out.symm, Hset.out, Hrest5.out, hsz5, hbl5⟩, by simp [intOf]; omega⟩
      · rw [dif_neg hkk, show Wp.clamp 0 = 0 from rfl] at hn
        subst hn
        have hlaid0 : ∀ w, Calls Tryd.prog 31 #[.string s0, .string xd, .int .i64 0] w fun e w' => e = .returned (.string L) ∧ Below w.heap.size w w' := hlaid
        have hkk2 : ¬ (k : Int) < (keep.length : Int) := by omega
        clear hlaid
        have x0 : (wr.alloc (.cells #[.int .i64 a, .string xd] 86)).cell? ⟨w2.heap.size, 0, none⟩ = some (.slice (some ⟨g, 0, none⟩) bl.length q1) := Lib.cell?_alloc_some _ c0
        have y0 : (wr.alloc (.cells #[.int .i64 a, .string xd] 86)).cell? ⟨wr.heap.size, 0, none⟩ = some (.int .i64 a) := by rw [World.cell?_alloc_at _ _ _ _ rfl]; rfl
        have y1 : (wr.alloc (.cells #[.int .i64 a, .string xd] 86)).cell? ⟨wr.heap.size, 1, none⟩ = some (.string xd) := by rw [World.cell?_alloc_at _ _ _ _ rfl]; rfl
        have z0 : (wr.alloc (.cells #[.int .i64 a, .string xd] 86)).cell? ⟨g, a, none⟩ = some (.string s0) := Lib.cell?_alloc_some _ hcg2
        have zf : (wr.alloc (.cells #[.int .i64 a, .string xd] 86)).frozen? ⟨g, a, none⟩ = false := (RowKit.frozen?_alloc_cells _ _ _ _).trans hfg
        have sz4 : (wr.alloc (.cells #[.int .i64 a, .string xd] 86)).heap.size = wr.heap.size + 1 := by rw [World.size_alloc]
        have Hw4r := Lib.hid (show ∀ k, k < wr.heap.size → (wr.alloc (.cells #[.int .i64 a, .string xd] 86)).heap[k]? = wr.heap[k]? from fun k hk => alloc_past _ _ _ hk)
        have Hb4 := Lib.hid ((Below.refl wr.heap.size wr).alloc (Nat.le_refl _) (.cells #[.int .i64 a, .string xd] 86))
        go_wp2_with fail
        obtain ⟨w4, hw4⟩ : ∃ w4, wr.alloc (.cells #[.int .i64 a, .string xd] 86) = w4 := ⟨_, rfl⟩
        rw [hw4] at x0 y0 y1 z0 zf sz4 Hw4r Hb4 ⊢
        clear hw4 hcell1 hcell2 hcg2 hfg c0 c1 c2 c3 f0 f1 f2 f3
        refine wp_region_held_drew (S := fun w' => w'.cell? ⟨w2.heap.size, 0, none⟩ = some (.slice (some ⟨g, 0, none⟩) bl.length q1) ∧ w'.cell? ⟨wr.heap.size, 0, none⟩ = some (.int .i64 a) ∧ w'.cell? ⟨wr.heap.size, 1, none⟩ = some (.string xd)) (by kernel_rfl) ⟨x0, y0, y1⟩ (fun hHeld => ?_)
        refine wpAnyH_take (i := 0) (v := ?_) rfl (by kernel_rfl) (by kernel_rfl) (by kernel_rfl) (fun _ _ _ h => h) (Or.inl ⟨by rfl, ?_⟩) (by assumption) ?_
        rotate_left 1
        · (intro w hSw; (try dsimp only at hSw); go_simp; try with_reducible rfl)
        simp only [Act.put, List.setIfInBounds_toArray]
        refine wpAnyH_take (i := 1) (v := ?_) rfl (by kernel_rfl) (by kernel_rfl) (by kernel_rfl) (fun _ _ _ h => h) (Or.inl ⟨by rfl, ?_⟩) (by assumption) ?_
        rotate_left 1
        · (intro w hSw; (try dsimp only at hSw); go_simp; try with_reducible rfl)
        simp only [Act.put]
        refine wpAnyH_take (i := 2) (v := ?_) rfl (by kernel_rfl) (by kernel_rfl) (by kernel_rfl) (fun _ _ _ h => h) (Or.inl ⟨by rfl, ?_⟩) (by assumption) ?_
        rotate_left 1
        · (intro w hSw; (try dsimp only at hSw); go_simp; try with_reducible rfl)
        simp only [Act.put]
        refine wpAnyH_take (i := 3) (v := ?_) rfl (by kernel_rfl) (by kernel_rfl) (by kernel_rfl) (fun _ _ _ h => h) (Or.inl ⟨by rfl, ?_⟩) (by assumption) ?_
        rotate_left 1
        · (intro w hSw; (try dsimp only at hSw); go_simp; try with_reducible rfl)
        simp only [Act.put]
        refine wpAnyH_take (i := 4) (v := ?_) rfl (by kernel_rfl) (by kernel_rfl) (by kernel_rfl) (fun _ _ _ h => h) (Or.inl ⟨by rfl, ?_⟩) (by assumption) ?_
        rotate_left 1
        · (intro w hSw; (try dsimp only at hSw); go_simp; try with_reducible rfl)
        simp only [Act.put]
        refine wpAnyH_take (i := 5) (v := ?_) rfl (by kernel_rfl) (by kernel_rfl) (by kernel_rfl) (fun _ _ _ h => h) (Or.inl ⟨by rfl, ?_⟩) (by assumption) ?_
        rotate_left 1
        · (intro w hSw; (try dsimp only at hSw); go_simp; try with_reducible rfl)
        simp only [Act.put]
        refine wpAnyH_take (i := 6) (v := ?_) rfl (by kernel_rfl) (by kernel_rfl) (by kernel_rfl) (fun _ _ _ h => h) (Or.inl ⟨by rfl, ?_⟩) (by assumption) ?_
        rotate_left 1
        · (intro w hSw; (try dsimp only at hSw); go_simp; try with_reducible rfl)
        simp only [Act.put]
        refine wpAnyH_take (i := 7) (v := ?_) rfl (by kernel_rfl) (by kernel_rfl) (by kernel_rfl) (fun _ _ _ h => h) (Or.inl ⟨by rfl, ?_⟩) (by assumption) ?_
        rotate_left 1
        · (intro w hSw; (try dsimp only at hSw); go_simp; try with_reducible rfl)
        simp only [Act.put]
        refine wpAnyH_take (i := 8) (v := ?_) rfl (by kernel_rfl) (by kernel_rfl) (by kernel_rfl) (fun _ _ _ h => h) (Or.inl ⟨by rfl, ?_⟩) (by assumption) ?_
        rotate_left 1
        · (intro w hSw; (try dsimp only at hSw); go_simp; try with_reducible rfl)
        simp only [Act.put]
        refine wpAnyH_take (i := 9) (v := ?_) rfl (by kernel_rfl) (by kernel_rfl) (by kernel_rfl) (fun _ _ _ h => h) (Or.inl ⟨by rfl, ?_⟩) (by assumption) ?_
        rotate_left 1
        · (intro w hSw; (try dsimp only at hSw); go_simp; try with_reducible rfl)
        simp only [Act.put]
        refine wpAnyH_take (i := 10) (v := ?_) rfl (by kernel_rfl) (by kernel_rfl) (by kernel_rfl) (fun _ _ _ h => h) (Or.inl ⟨by rfl, ?_⟩) (by assumption) ?_
        rotate_left 1
        · (intro w hSw; (try dsimp only at hSw); go_simp; try with_reducible rfl)
        simp only [Act.put]
        refine wpAnyH_take (i := 12) (v := ?_) rfl (by kernel_rfl) (by kernel_rfl) (by kernel_rfl) (fun _ _ _ h => h) (Or.inl ⟨by rfl, ?_⟩) (by assumption) ?_
        rotate_left 1
        · (intro w hSw; (try dsimp only at hSw); go_simp; try with_reducible rfl)
        simp only [Act.put]
        refine wpAnyH_take (i := 13) (v := ?_) rfl (by kernel_rfl) (by kernel_rfl) (by kernel_rfl) (fun _ _ _ h => h) (Or.inl ⟨by rfl, ?_⟩) (by assumption) ?_
        rotate_left 1
        · (intro w hSw; (try dsimp only at hSw); go_simp; try with_reducible rfl)
        simp only [Act.put]
        refine wpAnyH_take (i := 14) (v := ?_) rfl (by kernel_rfl) (by kernel_rfl) (by kernel_rfl) (fun _ _ _ h => h) (Or.inl ⟨by rfl, ?_⟩) (by assumption) ?_
        rotate_left 1
        · (intro w hSw; (try dsimp only at hSw); go_simp; try with_reducible rfl)
        simp only [Act.put]
        refine wpAnyH_ready (rs := [11]) (by kernel_rfl) (by simp) ?_
        refine AllReadyH.cons rfl (fun K hK => ?_) AllReadyH.nil
        go_simp
        refine hK.out _ _ (by assumption) (fun hHeld => ?_)
        clear hK K
        refine wpAnyH_ready (rs := [15]) (by kernel_rfl) (by simp) ?_
        refine AllReadyH.cons rfl (fun K hK => ?_) AllReadyH.nil
        go_simp
        with_reducible refine (hlaid0 _).mono ?_
        rintro e w5 ⟨rfl, b5⟩
        have x0' := (b5.cell (p := ⟨w2.heap.size, 0, none⟩) (by simp; omega)).trans x0
        have y0' := (b5.cell (p := ⟨wr.heap.size, 0, none⟩) (by simp; omega)).trans y0
        have y1' := (b5.cell (p := ⟨wr.heap.size, 1, none⟩) (by simp; omega)).trans y1
        have z0' := (b5.cell (p := ⟨g, a, none⟩) (by simp; omega)).trans z0
        have zf' := (b5.frozen (p := ⟨g, a, none⟩) (by simp; omega)).trans zf
        go_simp
        refine hK.out _ _ ⟨x0', y0', y1'⟩ (fun hHeld2 => ?_)
        clear hK K
        refine wpAnyH_take (i := 16) (v := ?_) rfl (by kernel_rfl) (by kernel_rfl) (by kernel_rfl) (fun _ _ _ h => h) (Or.inl ⟨by rfl, ?_⟩) (by assumption) ?_
        rotate_left 1
        · (intro w hSw; (try dsimp only at hSw); go_simp; try with_reducible rfl)
        simp only [Act.put, List.setIfInBounds_toArray]
        refine wpAnyH_ready (rs := [17]) (by kernel_rfl) (by simp) ?_
        refine AllReadyH.cons rfl (fun K hK => ?_) AllReadyH.nil
        go_simp
        refine hK.out _ _ ⟨by rw [World.cell?_setCell_far _ _ _ _ hgw]; exact x0', by rw [World.cell?_setCell_far _ _ _ _ hgr]; exact y0', by rw [World.cell?_setCell_far _ _ _ _ hgr]; exact y1'⟩ (fun hHeld3 => ?_)
        clear hK K
        refine wpAnyH_done (by kernel_rfl) ?_ _
        have hrow5 := ownsRow_at2 (w' := w5) Hho.out (fun j hj => by
          have e : j = g := by simp [Value.ownBlock] at hj; exact hj.symm
          subst e
          exact (b5.block j (by show j < w4.heap.size; omega)).trans (Hw4r.out j glt))
        obtain ⟨g', c', u', hsl', _, _, _, hset⟩ := own_set hrow5 a haT L
        simp only [Value.slice.injEq, Option.some.injEq, Addr.mk.injEq, and_true] at hsl'
        obtain ⟨rfl, _⟩ := hsl'
        rw [List.length_set, hTl] at hset
        have hrest5 : ∀ j, j < w3.heap.size → (Value.slice (some ⟨g, 0, none⟩) bl.length q1).ownBlock ≠ some j → (w5.setCell ⟨g, a, none⟩ (.string L)).heap[j]? = w3.heap[j]? := fun j hj hne => by
          rw [Below.heap_setCell _ _ _ _ (by intro e; exact hne (by rw [e]; rfl))]
          exact (b5.block j (by show j < w4.heap.size; omega)).trans ((Hw4r.out j (by omega)).trans (Hrest.out j hj hne))
        have hbl5 : Below w1.heap.size w3 (w5.setCell ⟨g, a, none⟩ (.string L)) := (((hB.trans (Hb4.out.mono (by omega))).drew).trans (b5.mono (by show w1.heap.size ≤ w4.heap.size; omega))).setCell (p := ⟨g, a, none⟩) hgb _
        have hsz5 : w3.heap.size ≤ (w5.setCell ⟨g, a, none⟩ (.string L)).heap.size := by
          have := b5.size
          simp [World.setCell] at this ⊢
          omega
        have hmem : ∀ x ∈ T.set a L, x.size ≤ 64 := fun x hx => by
          rcases List.mem_or_eq_of_mem_set hx with h | h
          · exact HTs.out x h
          · rw [h]; omega
        have Hset := Lib.hid hset
        have Hrest5 := Lib.hid hrest5
        have Hmem := Lib.hid hmem
        clear hset hrest5 hmem hrow5 x0 x0' y0 y0' y1 y1' z0 z0' zf zf' hHeld hHeld2 hHeld3
        go_wp2_with fail
        exact ⟨⟨k + 1, T.set a L, by omega, by go_num, by rw [List.length_set]; exact hTl, Hmem.out, Hst.out.symm, Hset.out, Hrest5.out, hsz5, hbl5⟩, by simp [intOf]; omega⟩
    · have hkm : k = ws.length := by omega
      subst hkm
      rw [List.drop_length] at hT
      have hT2 : T = r := hT
      subst hT2
      obtain ⟨c0, c1, c2, c3, f0, f1, f2, f3⟩ := Wp.four_of hxr
      obtain ⟨d0, d1, d2, d3, e0, e1, e2, e3⟩ := Wp.four_of hyr
      have Hxr := Lib.hid hxr
      have Hyr := Lib.hid hyr
      have Ho := Lib.hid ho
      clear ho hxr hyr hT hrest
      go_wp2_with fail
      have hne2 : w.heap.size + 1 ≠ w2.heap.size := by omega
      have hy9 : (((wr.setCell ⟨w2.heap.size, 1, none⟩ (.slice none 0 0)).setCell ⟨w2.heap.size, 3, none⟩ (.bool false)).setCell ⟨w2.heap.size, 2, none⟩ (.int .i64 (-1))).heap[w.heap.size + 1]? = some (.cells #[.slice none 0 0, .slice none 0 0, .int .i64 0, .bool false] 38 (0, 0)) := by
        rw [Below.heap_setCell _ _ _ _ (by simpa using hne2), Below.heap_setCell _ _ _ _ (by simpa using hne2), Below.heap_setCell _ _ _ _ (by simpa using hne2)]
        exact Hyr.out
      refine bodyPost_ret (ret_cell2 rfl _ _ (w.heap.size + 1) 38 _ _ rfl (four_set hy9 _ _ _ _) Tryd.underlying38 rfl (by kernel_rfl)) rfl ?_
      refine ⟨_, rfl, ?_, four_below (((((hB3.out.trans (hB.mono (by omega))).setCell (p := ⟨w2.heap.size, 1, none⟩) (by simp; omega) _).setCell (p := ⟨w2.heap.size, 3, none⟩) (by simp; omega) _).setCell (p := ⟨w2.heap.size, 2, none⟩) (by simp; omega) _)) (by omega) _ _ _ _⟩
      refine devAt_rows (b1 := w1.heap.size) (b2 := 0) (d := ⟨T, [], -1, false⟩) ?_ (World.ownsRow_nil _ _ _ _)
      show World.ownsRow _ _ _ _ _ T.length _
      rw [hTl]
      refine ownsRow_at2 Ho.out (fun k hk => ?_)
      have n1 : k ≠ w2.heap.size := fun e => g1 (by rw [← e]; exact hk)
      have n2 : k ≠ w.heap.size + 1 := fun e => g2 (by rw [← e]; exact hk)
      rw [four_rest _ _ _ _ _ _ k n2, Below.heap_setCell _ _ _ _ (by simpa using n1), Below.heap_setCell _ _ _ _ (by simpa using n1), Below.heap_setCell _ _ _ _ (by simpa using n1)]
end Go.Proofs.YtpmhgfjnabgilabDoor
