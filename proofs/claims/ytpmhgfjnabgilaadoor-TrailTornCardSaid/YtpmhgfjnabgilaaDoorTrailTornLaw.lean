/-
  The walk of the law TrailTorn: where the blocks behind those that are used are zero, and synced, a record that is appended is there behind a crash as it is, or not at all. Conditions: sum's table reads as it is laid; lists, numbers and texts are of a size that a machine holds.
-/
import Derived.Test.YtpmhgfjnabgilaaDoorTrLives
import Derived.Test.YtpmhgfjnabgilaaDoorTrTorn
import Derived.Test.YtpmhgfjnabgilaaDoorCrash
namespace Go.Proofs.YtpmhgfjnabgilaaDoor
open Go.RowKit

/-- What holds at each round of the loop that appends. -/
structure Tt.Rel (w : World) (g B kk : Nat) (used v : Value) (wr : World) : Prop where
  ex : ∃ (D : Wp.Dev) (had : List ByteArray) (pb : Option Addr) (cb : Nat) (pw : Option Addr) (cw : Nat), used = .int .i64 ((Tr.allB had).length : Nat) ∧ had.length = kk ∧ (Tr.allB had).length ≤ 4 * kk ∧ Tr.St D 64 0 had ∧
    wr.heap[g]? = some (.cells #[.slice pb D.bl.length cb, .slice pw D.ws.length cw, .int .i64 D.fu, .bool D.dn] 25 (0, 0)) ∧
    Wp.DevAt wr (.agg #[.slice pb D.bl.length cb, .slice pw D.ws.length cw, .int .i64 D.fu, .bool D.dn]) D ∧ wr.ownsRow B 9 1 v had.length (had.map Wp.mkT)
  below : Below w.heap.size w wr
  le : B ≤ wr.heap.size
theorem Tt.take_pre (l : List ByteArray) (r : ByteArray) : (l ++ [r]).take l.length = l := List.take_left' rfl
theorem Tt.get_mid (l : List ByteArray) (r : ByteArray) (h : l.length < (l ++ [r]).length) : (l ++ [r])[l.length] = r := by
  rw [List.getElem_append_right (Nat.le_refl _)]; simp
/-- A row of texts reads as it did when a box is written. -/
theorem at_four_box {w : World} {g : Nat} {p : Option Addr} {l : List ByteArray} {a b : Option Addr} {n1 c1 n2 c2 : Nat} {i : Int} {q : Bool} {T : TypeId} (h : Wp.At Wp.mkT w p l) (hb : w.heap[g]? = some (.cells #[.slice a n1 c1, .slice b n2 c2, .int .i64 i, .bool q] T (0, 0))) (x y z u : Value) :
    Wp.At Wp.mkT ((((w.setCell ⟨g, 0, none⟩ x).setCell ⟨g, 1, none⟩ y).setCell ⟨g, 2, none⟩ z).setCell ⟨g, 3, none⟩ u) p l := by
  rcases h with h | ⟨b0, off, hp, hc⟩
  · exact Or.inl h
  · refine Or.inr ⟨b0, off, hp, fun j hj => ?_⟩
    by_cases e : b0 = g
    · exfalso
      have h2 := hc j hj
      rw [e, Lib.cell_of_heap hb] at h2
      generalize off + j = o at h2
      match o, h2 with
      | 0, h2 => simp [Wp.mkT] at h2
      | 1, h2 => simp [Wp.mkT] at h2
      | 2, h2 => simp [Wp.mkT] at h2
      | 3, h2 => simp [Wp.mkT] at h2
      | o + 4, h2 => simp at h2
    · exact (World.cell?_of_block (a := ⟨b0, off + j, none⟩) (four_rest w g x y z u b0 e)).trans (hc j hj)
/-- What stands where a device was put by, and stored into the box. -/
theorem Tt.stored {w wr w3 : World} {g B : Nat} {a b x y va : Value} {n : Nat} {c1 c2 : Nat} {p1 p2 : Option Addr} {l : List Value} {d' : Wp.Dev} (hB : Below w.heap.size w wr) (hg : w.heap.size ≤ g) (hgl : g < wr.heap.size) (hgB : g < B)
    (hbx : wr.heap[g]? = some (.cells #[a, b, x, y] 25 (0, 0))) (hb3 : Below wr.heap.size wr w3) (hO : Wp.OwnDev w3 wr.heap.size (.agg #[.slice p1 d'.bl.length c1, .slice p2 d'.ws.length c2, .int .i64 d'.fu, .bool d'.dn]) d')
    (hr : wr.ownsRow B 9 1 va n l) (W : World) (hW : W = (((((w3.alloc (.cells #[.slice p1 d'.bl.length c1, .slice p2 d'.ws.length c2, .int .i64 d'.fu, .bool d'.dn] 25)).setCell ⟨g, 0, none⟩ (.slice p1 d'.bl.length c1)).setCell ⟨g, 1, none⟩ (.slice p2 d'.ws.length c2)).setCell ⟨g, 2, none⟩ (.int .i64 d'.fu)).setCell ⟨g, 3, none⟩ (.bool d'.dn))) :
    W.heap[g]? = some (.cells #[.slice p1 d'.bl.length c1, .slice p2 d'.ws.length c2, .int .i64 d'.fu, .bool d'.dn] 25 (0, 0)) ∧ W.ownsRow B 9 1 va n l ∧ (∀ k, va.ownBlock = some k → k < wr.heap.size) ∧
    Wp.OwnDev W wr.heap.size (.agg #[.slice p1 d'.bl.length c1, .slice p2 d'.ws.length c2, .int .i64 d'.fu, .bool d'.dn]) d' ∧ Below w.heap.size w W ∧ wr.heap.size < W.heap.size := by
  subst hW
  have s3 := hb3.size
  have sB := hB.size
  have hbz := hb3.alloc hb3.size (.cells #[.slice p1 d'.bl.length c1, .slice p2 d'.ws.length c2, .int .i64 d'.fu, .bool d'.dn] 25)
  have hx3 := (hbz.block g hgl).trans hbx
  refine ⟨four_set hx3 _ _ _ _, ownsRow_at2 (ownsRow_below hr hbz) (fun k hk => four_rest _ _ _ _ _ _ k (by have := (hr.lt k hk).1; omega)), fun k hk => (hr.lt k hk).2, ?_, four_below (hB.trans (hbz.mono sB)) hg _ _ _ _, by rw [set4_size, World.size_alloc]; omega⟩
  refine (hO.rest (w' := w3.alloc _) (fun k _ hk => alloc_past _ _ _ hk)).rest (fun k hk _ => four_rest _ _ _ _ _ _ k (by omega))
/-- What stands where the row has grown. -/
theorem Tt.grown {w wr W w5 : World} {g B : Nat} {va : Value} {n : Nat} {l : List Value} {d' : Wp.Dev} {p1 p2 : Option Addr} {c1 c2 : Nat} {x : Value} {t : TypeId} (hB : Below w.heap.size w W) (hg : w.heap.size ≤ g) (hgB : g < B) (hsz : wr.heap.size < W.heap.size) (hgl : g < wr.heap.size) (hBl : B ≤ wr.heap.size)
    (hX : W.heap[g]? = some (.cells #[.slice p1 d'.bl.length c1, .slice p2 d'.ws.length c2, .int .i64 d'.fu, .bool d'.dn] 25 (0, 0))) (hr : W.ownsRow B 9 1 va n l) (hlt : ∀ k, va.ownBlock = some k → k < wr.heap.size)
    (hO : Wp.OwnDev W wr.heap.size (.agg #[.slice p1 d'.bl.length c1, .slice p2 d'.ws.length c2, .int .i64 d'.fu, .bool d'.dn]) d') (hgr : (W.alloc (.cells #[x] t)).grownBy w5 va.ownBlock) :
    w5.heap[g]? = some (.cells #[.slice p1 d'.bl.length c1, .slice p2 d'.ws.length c2, .int .i64 d'.fu, .bool d'.dn] 25 (0, 0)) ∧ Wp.DevAt w5 (.agg #[.slice p1 d'.bl.length c1, .slice p2 d'.ws.length c2, .int .i64 d'.fu, .bool d'.dn]) d' ∧ Below w.heap.size w w5 ∧ B ≤ w5.heap.size := by
  have sB := hB.size
  have s5 := hgr.size
  rw [World.size_alloc] at s5
  have hkeep : ∀ k, k < W.heap.size → some k ≠ va.ownBlock → w5.heap[k]? = W.heap[k]? := fun k hk hne => (hgr.block k (by rw [World.size_alloc]; omega) hne).trans (alloc_past _ _ _ hk)
  refine ⟨(hkeep g (by omega) (fun e => by have := (hr.lt g e.symm).1; omega)).trans hX, (hO.rest (fun k hk hkl => hkeep k hkl (fun e => by have := hlt k e.symm; omega))).devAt, ?_, by omega⟩
  exact (hB.alloc sB _).grown hgr (by rw [World.size_alloc]; omega) (fun k hk => by have := (hr.lt k hk).1; omega)
set_option maxRecDepth 100000 in
set_option maxHeartbeats 1000000 in
theorem trailTorn_any (p1 : Option Addr) (c1 : Nat) (l : List ByteArray) (r : ByteArray) (fuse : Int) (p2 : Option Addr) (c2 : Nat) (keep : List Int) (w : World) (hL : Sp.Laid w) (hA : Wp.At Wp.mkT w p1 l) (hl : l.length ≤ 140737488351232) (hls : ∀ x ∈ l, x.size ≤ 140737488351232) (hr : r.size ≤ 140737488351232) (hfu : Wp.I64 fuse)
    (hK : Wp.At Wp.mkN w p2 keep) (hk : keep.length ≤ 140737488351232) (hki : ∀ x ∈ keep, Wp.I64 x) :
    Calls Tryd.prog 4 #[.slice p1 l.length c1, .string r, .int .i64 fuse, .slice p2 keep.length c2] w fun e w' => e = .returned (.bool true) ∧ Below w.heap.size w w' := by
  have HLv := Lib.hid (fun W h => trlives_any W (hL.below h))
  have HL := Lib.hid hL
  have HA := Lib.hid hA
  have HK := Lib.hid hK
  have HLs := Lib.hid hls
  have HKi := Lib.hid hki
  clear hA hK hls hki hL
  obtain ⟨F1, F2⟩ := hfu
  obtain ⟨n, hn⟩ : ∃ n, n = l.length := ⟨_, rfl⟩
  have HN := Lib.hid hn
  rw [← hn] at hl ⊢
  clear hn
  by_cases hf0 : fuse < -1
  · go_enter Tryd.func4, Tryd.ntmps4
    go_wp2_with fail
    refine (HLv.out _ (Below.refl _ _)).mono ?_
    rintro e w1 ⟨rfl, hb1⟩
    go_wp2_with fail
    go_ret
    exact ⟨rfl, hb1⟩
  · have hf1 : -1 ≤ fuse := by omega
    clear hf0
    go_enter Tryd.func4, Tryd.ntmps4
    go_wp2_with fail
    refine (HLv.out _ (Below.refl _ _)).mono ?_
    rintro e w1 ⟨rfl, hb1⟩
    have B1 := Lib.hid hb1
    clear hb1
    go_wp2_with fail
    refine (Make_any 64 _ (by omega) (by omega)).mono ?_
    rintro e w2 ⟨v2, rfl, hd2, hb2⟩
    obtain ⟨pb2, cb2, pw2, cw2, rfl, hd2⟩ := devAt_open hd2
    have hz2 := (B1.out.trans (hb2.mono B1.out.size)).alloc (by have := hb2.size; have := B1.out.size; omega) (.cells #[.slice pb2 (Wp.Dev.make 64).bl.length cb2, .slice pw2 (Wp.Dev.make 64).ws.length cw2, .int .i64 (Wp.Dev.make 64).fu, .bool (Wp.Dev.make 64).dn] 25)
    have hw2 : w.heap.size ≤ w2.heap.size := by have := hb2.size; have := B1.out.size; omega
    have HR0 : Tt.Rel w w2.heap.size (w2.heap.size + 1) 0 (.int .i64 0) (.slice none 0 0) (w2.alloc (.cells #[.slice pb2 (Wp.Dev.make 64).bl.length cb2, .slice pw2 (Wp.Dev.make 64).ws.length cw2, .int .i64 (Wp.Dev.make 64).fu, .bool (Wp.Dev.make 64).dn] 25)) :=
      ⟨⟨Wp.Dev.make 64, [], pb2, cb2, pw2, cw2, rfl, rfl, by simp [Tr.allB], Tr.St.make 64 0 (by omega) (by omega), alloc_new _ _, hd2.below ((Below.refl _ _).alloc (Nat.le_refl _) _), World.ownsRow_nil _ _ _ _⟩, hz2, by simp⟩
    have HR0 := Lib.hid HR0
    clear hd2 hb2 hz2
    generalize Wp.Dev.make 64 = D0 at *
    go_upto_block 0 with fail
    go_cut [11, 12] from 13 to 66 (fun v11 v12 wx => ∃ kk, kk ≤ 6 ∧ Tt.Rel w w2.heap.size (w2.heap.size + 1) kk v11 v12 wx)
    case first =>
      go_wp2_with fail
      go_loopw [11, 12, 37] (fun v11 v12 i wr => ∃ k : Nat, k ≤ n ∧ k ≤ 6 ∧ i = .int .i64 k ∧ Hid (Tt.Rel w w2.heap.size (w2.heap.size + 1) k v11 v12 wr)) (fun _ _ i _ => n - (intOf i).toNat)
      case atStart => exact ⟨0, Nat.zero_le _, by omega, rfl, HR0⟩
      case round =>
        obtain ⟨k, hk1, hk6, rfl, HRel⟩ := hrel
        by_cases hlt : k < n
        · obtain ⟨⟨D, had, pb, cb, pw, cw, hu, hhl, hab, hst, hbx, hdv, hown⟩, hbel, hle⟩ := HRel.out
          have hkl : k < l.length := by rw [← HN.out]; exact hlt
          obtain ⟨b, off, rfl, hcell⟩ := (HA.out.below hbel).get k hkl
          rw [show Wp.mkT l[k] = Value.string l[k] from rfl] at hcell
          have hxs := HLs.out l[k] (List.getElem_mem _)
          generalize l[k] = x at hcell hxs
          by_cases h6 : k = 6
          · subst h6
            clear hkl
            go_wp2_with fail
            go_meet
            exact ⟨6, by omega, HRel.out⟩
          · have h6b : ((k : Int) == 6) = false := beq_eq_false_iff_ne.2 (by omega)
            by_cases h200 : 200 < x.size
            · go_wp2_with fail
              go_meet
              exact ⟨k, hk6, HRel.out⟩
            · have hclen : (Tr.cutB x.data.toList).length ≤ 4 := by
                rw [Tr.cutB_len, Sp.frameB, List.length_append, List.length_append, Sp.four_len, ← Wp.size_len]
                have := Wp.numB_len x.size
                omega
              obtain ⟨d', hap, hst'⟩ := hst.app 64 x (by omega) (by omega) (by omega) (by omega)
              have hca := trAppend_anyF (.agg #[.slice pb D.bl.length cb, .slice pw D.ws.length cw, .int .i64 D.fu, .bool D.dn]) D 0 64 ((Tr.allB had).length : Nat) x wr (HL.out.below hbel) hdv hst.good.fits (by unfold Wp.I64; omega) (by unfold Wp.I64; omega) (by unfold Wp.I64; omega) (by omega)
              rw [show Tr.app D 0 64 ((Tr.allB had).length : Nat) x = _ from hap] at hca
              have Hca := Lib.hid hca
              clear hca hap hst
              subst hu
              obtain ⟨c0, c1', c2', c3, g0, g1, g2, g3⟩ := Wp.four_of hbx
              have hglt : w2.heap.size < wr.heap.size := (Array.getElem?_eq_some_iff.1 hbx).1
              have Hst' := Lib.hid hst'
              have Hbx := Lib.hid hbx
              have Hown := Lib.hid hown
              have HB := Lib.hid hbel
              clear HRel hkl hst' hbx hdv hown hbel
              obtain ⟨i0, hi, hz0, hz1, hz2⟩ := infoText_some
              go_wp2_with fail
              refine Hca.out.mono ?_
              rintro e w3 ⟨v3, rfl, hd3, hb3, ho3⟩
              have ho3 := ho3 trivial
              have hd3 := ho3.devAt
              have ho4 := Lib.hid ho3
              obtain ⟨pb3, cb3, pw3, cw3, rfl, _⟩ := devAt_open hd3
              have hst4 := Tt.stored HB.out hw2 hglt (Nat.lt_succ_self _) Hbx.out hb3 ho4.out Hown.out _ rfl
              have hHx3 := (((hb3.alloc hb3.size (.cells #[.slice pb3 d'.bl.length cb3, .slice pw3 d'.ws.length cw3, .int .i64 d'.fu, .bool d'.dn] 25))).block w2.heap.size hglt).trans Hbx.out
              have Hst4 := Lib.hid hst4
              clear hst4 ho3 ho4 hd3 hb3 c0 c1' c2' c3 g0 g1 g2 g3
              obtain ⟨c0, c1', c2', c3, g0, g1, g2, g3⟩ := Wp.four_of hHx3
              clear hHx3
              go_upto_region 16 with fail
              clear c0 c1' c2' c3 g0 g1 g2 g3
              generalize (((((w3.alloc (.cells #[.slice pb3 d'.bl.length cb3, .slice pw3 d'.ws.length cw3, .int .i64 d'.fu, .bool d'.dn] 25)).setCell ⟨w2.heap.size, 0, none⟩ (.slice pb3 d'.bl.length cb3)).setCell ⟨w2.heap.size, 1, none⟩ (.slice pw3 d'.ws.length cw3)).setCell ⟨w2.heap.size, 2, none⟩ (.int .i64 d'.fu)).setCell ⟨w2.heap.size, 3, none⟩ (.bool d'.dn)) = W at *
              obtain ⟨X4, O4, L4, D4, B4, S4⟩ := Hst4.out
              have Hown4 := Lib.hid O4
              go_wp2_with (at_builtin; refine wpList_append_own _ rfl _ _ 22 rfl (w2.heap.size + 1) 9 i0 _ 1 16 Tryd.underlying22 hi hz0 hz1 hz2 rfl (by decide) _ _ _ rfl (Hown4.out.alloc _) ⟨W.heap.size, 0, none⟩ 1 1 [Wp.mkT x] rfl rfl ?c1 ?c2 ?c3 ?c4 ?c5 ?_)
              case c1 => exact cell_one_new _ _ _
              case c2 => simp [Wp.mkT, Value.oneCell']
              case c3 => unfold maxLen; omega
              case c4 => omega
              case c5 => simp; omega
              intro v' w5 hown5 hgrow5 _
              have hg5 := Tt.grown B4 hw2 (Nat.lt_succ_self _) S4 hglt hle X4 O4 L4 D4 hgrow5
              have Hg5 := Lib.hid hg5
              have Hown5 := Lib.hid hown5
              clear hown5 hgrow5 hg5 X4 O4 L4 D4 B4 S4
              go_wp2_with fail
              have hq5 : (Tr.allB (had ++ [x])).length = (Tr.allB had).length + (Tr.cutB x.data.toList).length := by rw [Tr.allB_append, List.length_append]; simp [Tr.allB]
              refine ⟨⟨k + 1, by omega, by omega, by go_num, Lib.hid ⟨⟨d', had ++ [x], pb3, cb3, pw3, cw3, ?_, by rw [List.length_append, hhl]; rfl, ?_, Hst'.out, Hg5.out.1, Hg5.out.2.1, ?_⟩, Hg5.out.2.2.1, Hg5.out.2.2.2⟩⟩, by simp [intOf]; omega⟩
              · rw [hq5]; go_num
              · rw [hq5]; omega
              · rw [List.length_append, List.map_append, hhl]; exact Hown5.out
        · obtain rfl : k = n := by omega
          go_wp2_with fail
          go_meet
          exact ⟨k, hk6, HRel.out⟩
    case rest =>
      obtain ⟨kk, hkk, ⟨D, had, pb, cb, pw, cw, rfl, hhl, hab, hst, hbx, hdv, hown⟩, hbel, hle⟩ := hcut
      have hglt : w2.heap.size < wc.heap.size := (Array.getElem?_eq_some_iff.1 hbx).1
      obtain ⟨pr, cr, rfl, _⟩ := owns_at hown
      obtain ⟨hs0, hsy, hsf⟩ := hst.sync
      have hks := Sync_ok _ D wc hdv hst.good.fits hst.good.ok
      rw [hs0] at hks
      generalize D.sync1.1 = S at *
      have hsy := hsy.fuse fuse hf1 F2
      have hka : ∀ v W, Sp.Laid W → Wp.DevAt W v { S with fu := fuse } → Calls Tryd.prog 17 #[v, .int .i64 0, .int .i64 64, .int .i64 ((Tr.allB had).length : Nat), .string r] W fun e w' => ∃ v', e = .returned (.tuple #[v', .int .i64 (Tr.app { S with fu := fuse } 0 64 ((Tr.allB had).length : Nat) r).2.1, .int .i64 (Tr.app { S with fu := fuse } 0 64 ((Tr.allB had).length : Nat) r).2.2]) ∧ Wp.DevAt w' v' (Tr.app { S with fu := fuse } 0 64 ((Tr.allB had).length : Nat) r).1 ∧ Below W.heap.size W w' :=
        fun v W hw hd => trAppend_any v { S with fu := fuse } 0 64 ((Tr.allB had).length : Nat) r W hw hd hsy.good.fits (by unfold Wp.I64; omega) (by unfold Wp.I64; omega) (by unfold Wp.I64; omega) (by omega)
      have he1 : (Tr.app { S with fu := fuse } 0 64 ((Tr.allB had).length : Nat) r).2.2 = 0 → Wp.Good (Tr.app { S with fu := fuse } 0 64 ((Tr.allB had).length : Nat) r).1 ∧ Wp.Good (Tr.app { S with fu := fuse } 0 64 ((Tr.allB had).length : Nat) r).1.sync1.1 ∧
          Tr.Ends (Tr.crashed (Tr.app { S with fu := fuse } 0 64 ((Tr.allB had).length : Nat) r).1.sync1.1 keep) 0 64 had r (Tr.app { S with fu := fuse } 0 64 ((Tr.allB had).length : Nat) r).2.1 (Tr.app { S with fu := fuse } 0 64 ((Tr.allB had).length : Nat) r).1.sync1.2 := hsy.ends_sync (k := 64) rfl r keep
      have he2 : ∀ why : Int, why ≠ 0 → Wp.Good (Tr.app { S with fu := fuse } 0 64 ((Tr.allB had).length : Nat) r).1 ∧ Tr.Ends (Tr.crashed (Tr.app { S with fu := fuse } 0 64 ((Tr.allB had).length : Nat) r).1 keep) 0 64 had r 0 why := fun why hw => hsy.ends_app (k := 64) rfl r keep why hw
      obtain ⟨⟨e2, n2, no⟩, hE⟩ : ∃ T, T = Tr.app { S with fu := fuse } 0 64 ((Tr.allB had).length : Nat) r := ⟨_, rfl⟩
      simp only [← hE] at hka he1 he2
      clear hE hsy
      have hcr := fun (e : Wp.Dev) (hg : Wp.Good e) v W (hd : Wp.DevAt W v e) (hb : Below w.heap.size w W) => Crash_ok v e p2 c2 keep W hd hg.fits hg.ok hk (HK.out.below hb) HKi.out
      have hrd := fun (e : Wp.Dev) (hg : Wp.Good e) (hc : Tr.rchk (Tr.crashed e keep) 0 64 = 0) v W (hw : Sp.Laid W) (hd : Wp.DevAt W v (Tr.crashed e keep)) => (trRead_any v (Tr.crashed e keep) 0 64 W hw hd (hg.crash keep).fits (by unfold Wp.I64; omega) (by unfold Wp.I64; omega))
      have Hks := Lib.hid hks
      have Hka := Lib.hid hka
      have He1 := Lib.hid he1
      have He2 := Lib.hid he2
      have HCr := Lib.hid hcr
      have HRd := Lib.hid hrd
      have Hbx := Lib.hid hbx
      have B0 := Lib.hid hbel
      have O0 := Lib.hid hown
      have hhl6 : had.length ≤ 6 := by omega
      clear hst hs0 hsf hbx hdv hown hbel hks hka he1 he2 hcr hrd HR0 B1
      generalize hU : (Tr.allB had).length = u at *
      have HU := Lib.hid hU
      clear hU
      obtain ⟨c0, d1, d2, c3, _, _, _, _⟩ := Wp.four_of Hbx.out
      go_wp2_with fail
      refine Hks.out.mono ?_
      rintro e w3 ⟨v3, rfl, hd3, hb3⟩
      obtain ⟨pb3, cb3, pw3, cw3, rfl, hd3⟩ := devAt_open hd3
      have hx3 := (hb3.block w2.heap.size hglt).trans Hbx.out
      clear c0 d1 d2 c3
      have X4 := Lib.hid (four_set hx3 (.slice pb3 S.bl.length cb3) (.slice pw3 S.ws.length cw3) (.int .i64 S.fu) (.bool S.dn))
      have D4 := Lib.hid (devAt_box hd3 hx3 (fun j hj => four_rest w3 w2.heap.size (.slice pb3 S.bl.length cb3) (.slice pw3 S.ws.length cw3) (.int .i64 S.fu) (.bool S.dn) j hj))
      have B4 := Lib.hid (four_below (B0.out.trans (hb3.mono B0.out.size)) hw2 (.slice pb3 S.bl.length cb3) (.slice pw3 S.ws.length cw3) (.int .i64 S.fu) (.bool S.dn))
      have O4 := Lib.hid (ownsRow_at2 (ownsRow_below O0.out hb3) (fun k hk => four_rest w3 w2.heap.size (.slice pb3 S.bl.length cb3) (.slice pw3 S.ws.length cw3) (.int .i64 S.fu) (.bool S.dn) k (by have := (O0.out.lt k hk).1; omega)))
      obtain ⟨c0, d1, d2, c3, f0, f1, f2, f3⟩ := Wp.four_of hx3
      clear hx3 hd3 hb3
      go_upto_region 19 with fail
      generalize ((((w3.setCell ⟨w2.heap.size, 0, none⟩ (.slice pb3 S.bl.length cb3)).setCell ⟨w2.heap.size, 1, none⟩ (.slice pw3 S.ws.length cw3)).setCell ⟨w2.heap.size, 2, none⟩ (.int .i64 S.fu)).setCell ⟨w2.heap.size, 3, none⟩ (.bool S.dn)) = W4 at *
      clear c0 d1 d2 c3 f0 f1 f2 f3
      obtain ⟨c0, d1, d2, c3, f0, f1, f2, f3⟩ := Wp.four_of X4.out
      have X5 := Lib.hid ((Lib.heap_setCell_same (i := 2) X4.out (.int .i64 fuse)).trans rfl : (W4.setCell ⟨w2.heap.size, 2, none⟩ (.int .i64 fuse)).heap[w2.heap.size]? = some (.cells #[.slice pb3 S.bl.length cb3, .slice pw3 S.ws.length cw3, .int .i64 fuse, .bool S.dn] 25 (0, 0)))
      have D5 := Lib.hid (devAt_fuse (devAt_box D4.out X4.out (fun j hj => Below.heap_setCell W4 ⟨w2.heap.size, 2, none⟩ (.int .i64 fuse) j hj)) fuse)
      have B5 := Lib.hid (B4.out.setCell (p := ⟨w2.heap.size, 2, none⟩) hw2 (.int .i64 fuse))
      have O5 := Lib.hid (ownsRow_at2 O4.out (fun k hk => Below.heap_setCell W4 ⟨w2.heap.size, 2, none⟩ (.int .i64 fuse) k (by have := (O4.out.lt k hk).1; show k ≠ w2.heap.size; omega)))
      go_upto_region 20 with fail
      generalize (W4.setCell ⟨w2.heap.size, 2, none⟩ (.int .i64 fuse)) = W5 at *
      clear c0 d1 d2 c3 f0 f1 f2 f3 X4 D4 B4 O4 O0 B0 Hbx
      obtain ⟨c0, d1, d2, c3, _, _, _, _⟩ := Wp.four_of X5.out
      have hA5 : Wp.At Wp.mkT W5 pr had := by
        obtain ⟨p', c', he, ha⟩ := owns_at O5.out
        cases he
        exact ha
      have A5 := Lib.hid hA5
      clear hA5 O5
      go_wp2_with fail
      refine (Hka.out _ _ (HL.out.below B5.out) D5.out).mono ?_
      rintro e w6 ⟨v6, rfl, hd6, hb6⟩
      obtain ⟨pb6, cb6, pw6, cw6, rfl, hd6⟩ := devAt_open hd6
      have hz6 := hb6.alloc hb6.size (.cells #[.slice pb6 e2.bl.length cb6, .slice pw6 e2.ws.length cw6, .int .i64 e2.fu, .bool e2.dn] 25)
      have B6 := Lib.hid (B5.out.trans (hz6.mono B5.out.size))
      have A6 := Lib.hid (A5.out.below hz6)
      have X6 := Lib.hid (alloc_new w6 (.cells #[.slice pb6 e2.bl.length cb6, .slice pw6 e2.ws.length cw6, .int .i64 e2.fu, .bool e2.dn] 25))
      have D6 := Lib.hid (hd6.below ((Below.refl _ _).alloc (Nat.le_refl _) (.cells #[.slice pb6 e2.bl.length cb6, .slice pw6 e2.ws.length cw6, .int .i64 e2.fu, .bool e2.dn] 25)))
      have s6 : w.heap.size ≤ w6.heap.size := by have := B5.out.size; have := hb6.size; omega
      clear hd6 hb6 hz6 c0 d1 d2 c3 X5 D5 B5 A5 Hka Hks
      by_cases hn0 : no = 0
      · subst hn0
        obtain ⟨g2, g3, hen⟩ := He1.out rfl
        have hk3 := fun v W (hd : Wp.DevAt W v e2) => Sync_ok v e2 W hd g2.fits g2.ok
        generalize e2.sync1.1 = e3 at *
        generalize e2.sync1.2 = why at *
        have hcr3 : ∀ v W, Wp.DevAt W v e3 → Below w.heap.size w W → Calls Tryd.prog 22 #[v, .slice p2 keep.length c2] W fun x w' => ∃ v', x = .returned (.tuple #[v', .int .i64 0]) ∧ Wp.DevAt w' v' (Tr.crashed e3 keep) ∧ Below W.heap.size W w' := HCr.out e3 g3
        have hrd3 : ∀ v W, Sp.Laid W → Wp.DevAt W v (Tr.crashed e3 keep) → Calls Tryd.prog 16 #[v, .int .i64 0, .int .i64 64] W fun x w' => ∃ v' m q, x = .returned (.tuple #[v', .int .i64 (q : Nat), .int .i64 0]) ∧ ((m = had ∧ q = u ∧ why ≠ 0) ∨ (m = had ++ [r] ∧ u < q ∧ (why ≠ 0 ∨ (q : Int) = n2))) ∧ q ≤ 4096 ∧ w'.ownsRow W.heap.size 9 1 v' m.length (m.map Wp.mkT) ∧ Below W.heap.size W w' := by
          intro v W hw hd
          refine (HRd.out e3 g3 hen.1 v W hw hd).mono ?_
          rintro x w' ⟨v', m, q, rfl, _, hrc, ho, hb⟩
          have hrc := hrc hen.1
          exact ⟨v', m, q, by rw [hen.1], by rw [← HU.out]; exact hen.2 m q hrc, by have := hrc.le; have := Tr.rgn_length hen.1; omega, ho, hb⟩
        generalize Tr.crashed e3 keep = cr9 at *
        have Hcr := Lib.hid hcr3
        have Hrd := Lib.hid hrd3
        clear hcr3 hrd3 hen HCr HRd He1 He2
        have Hk3 := Lib.hid hk3
        clear hk3
        obtain ⟨c0, d1, d2, c3, f0, f1, f2, f3⟩ := Wp.four_of X6.out
        go_wp2_with fail
        refine (Hk3.out _ _ D6.out).mono ?_
        rintro e w7 ⟨v7, rfl, hd7, hb7⟩
        obtain ⟨pb7, cb7, pw7, cw7, rfl, hd7⟩ := devAt_open hd7
        rw [World.size_alloc] at hb7
        have hx7 := (hb7.block w6.heap.size (by omega)).trans X6.out
        have X8 := Lib.hid (four_set hx7 (.slice pb7 e3.bl.length cb7) (.slice pw7 e3.ws.length cw7) (.int .i64 e3.fu) (.bool e3.dn))
        have D8 := Lib.hid (devAt_box hd7 hx7 (fun j hj => four_rest w7 w6.heap.size (.slice pb7 e3.bl.length cb7) (.slice pw7 e3.ws.length cw7) (.int .i64 e3.fu) (.bool e3.dn) j hj))
        have B8 := Lib.hid (four_below (B6.out.trans (hb7.mono (by omega))) s6 (.slice pb7 e3.bl.length cb7) (.slice pw7 e3.ws.length cw7) (.int .i64 e3.fu) (.bool e3.dn))
        have A8 := Lib.hid (at_four_box (A6.out.below (by rw [World.size_alloc]; exact hb7)) hx7 (.slice pb7 e3.bl.length cb7) (.slice pw7 e3.ws.length cw7) (.int .i64 e3.fu) (.bool e3.dn))
        clear c0 d1 d2 c3 f0 f1 f2 f3
        obtain ⟨c0, d1, d2, c3, f0, f1, f2, f3⟩ := Wp.four_of hx7
        clear hx7 hd7 hb7 X6 D6 B6 A6
        go_upto_region 23 with fail
        generalize ((((w7.setCell ⟨w6.heap.size, 0, none⟩ (.slice pb7 e3.bl.length cb7)).setCell ⟨w6.heap.size, 1, none⟩ (.slice pw7 e3.ws.length cw7)).setCell ⟨w6.heap.size, 2, none⟩ (.int .i64 e3.fu)).setCell ⟨w6.heap.size, 3, none⟩ (.bool e3.dn)) = W8 at *
        clear c0 d1 d2 c3 f0 f1 f2 f3
        -- from a device in a box of its own: crash, read, compare
        obtain ⟨k0, k1, k2, k3, _, _, _, _⟩ := Wp.four_of X8.out
        go_wp2_with fail
        refine (Hcr.out _ _ D8.out B8.out).mono ?_
        rintro e w9 ⟨v9, rfl, hd9, hb9⟩
        obtain ⟨pb9, cb9, pw9, cw9, rfl, hd9⟩ := devAt_open hd9
        have B9 := Lib.hid ((B8.out.trans (hb9.mono B8.out.size)).alloc (by have := hb9.size; have := B8.out.size; omega) (.cells #[.slice pb9 cr9.bl.length cb9, .slice pw9 cr9.ws.length cw9, .int .i64 cr9.fu, .bool cr9.dn] 25))
        have D9 := Lib.hid (hd9.below ((Below.refl _ _).alloc (Nat.le_refl _) (.cells #[.slice pb9 cr9.bl.length cb9, .slice pw9 cr9.ws.length cw9, .int .i64 cr9.fu, .bool cr9.dn] 25)))
        have A9 := Lib.hid ((A8.out.below hb9).below ((Below.refl _ _).alloc (Nat.le_refl _) (.cells #[.slice pb9 cr9.bl.length cb9, .slice pw9 cr9.ws.length cw9, .int .i64 cr9.fu, .bool cr9.dn] 25)))
        clear k0 k1 k2 k3 hd9 hb9 X8 D8 B8 A8
        go_wp2_with fail
        refine (Hrd.out _ _ (HL.out.below B9.out) D9.out).mono ?_
        rintro e w10 ⟨v10, m, q, rfl, hca, hq4, ho10, hb10⟩
        have B10 := Lib.hid (B9.out.trans (hb10.mono B9.out.size))
        have A10 := Lib.hid (A9.out.below hb10)
        obtain ⟨p10, q10, rfl, ha10⟩ := owns_at ho10
        have hq10 := owns_cap ho10 _ _ rfl
        clear ho10 hb10 A9 B9 D9
        rcases hca with ⟨rfl, rfl, hwy⟩ | ⟨rfl, hqu, hwy⟩
        · have hsm := same_texts p10 pr q10 cr m w10 (by omega) ha10 A10.out
          rw [hhl] at hsm
          have Hsm := Lib.hid hsm
          have hwb : (why != 0) = true := by rw [bne_iff_ne]; exact hwy
          clear ha10 hsm
          go_wp2_with fail
          refine Hsm.out.mono ?_
          rintro e w11 ⟨rfl, hb11⟩
          have B11 := B10.out.trans (hb11.mono B10.out.size)
          go_wp2_with fail
          go_ret
          exact ⟨rfl, B11⟩
        · obtain ⟨b10, o10, rfl, hcell10⟩ := ha10.get had.length (by simp)
          rw [Tt.get_mid had r, show Wp.mkT r = Value.string r from rfl] at hcell10
          have hat := Wp.At.take ha10 had.length
          rw [Tt.take_pre had r] at hat
          have hsm := same_texts (some ⟨b10, o10, none⟩) pr q10 cr had w10 (by omega) hat A10.out
          have hml : (had ++ [r]).length = had.length + 1 := by simp
          rw [hml] at hq10 ⊢
          rw [hhl] at hsm hcell10
          have Hsm := Lib.hid hsm
          clear ha10 hat hsm
          go_wp2_with fail
          rw [show (min ((kk : Int) + 1) (kk : Int)).toNat = kk by omega]
          refine Hsm.out.mono ?_
          rintro e w11 ⟨rfl, hb11⟩
          have B11 := B10.out.trans (hb11.mono B10.out.size)
          have hcell11 := (hb11.cell (p := ⟨b10, o10 + kk, none⟩) (World.block_lt_of_cell? w10 _ hcell10)).trans hcell10
          clear hcell10 hb11
          by_cases hw0 : why = 0
          · have hq2 : n2 = (q : Int) := by rcases hwy with h | h; exact absurd hw0 h; exact h.symm
            subst hq2 hw0
            go_wp2_with fail
            go_ret
            exact ⟨rfl, B11⟩
          · have hwb : (why != 0) = true := by rw [bne_iff_ne]; exact hw0
            clear hwy hw0
            go_wp2_with fail
            go_ret
            exact ⟨rfl, B11⟩
      · have Hn0 := Lib.hid hn0
        obtain ⟨g2, hen⟩ := He2.out no hn0
        have hen := hen.mono_n (n' := n2) hn0
        have hb1 : (no == 0) = false := beq_eq_false_iff_ne.2 hn0
        obtain ⟨why, rfl⟩ : ∃ y, y = no := ⟨_, rfl⟩
        have hcr3 : ∀ v W, Wp.DevAt W v e2 → Below w.heap.size w W → Calls Tryd.prog 22 #[v, .slice p2 keep.length c2] W fun x w' => ∃ v', x = .returned (.tuple #[v', .int .i64 0]) ∧ Wp.DevAt w' v' (Tr.crashed e2 keep) ∧ Below W.heap.size W w' := HCr.out e2 g2
        have hrd3 : ∀ v W, Sp.Laid W → Wp.DevAt W v (Tr.crashed e2 keep) → Calls Tryd.prog 16 #[v, .int .i64 0, .int .i64 64] W fun x w' => ∃ v' m q, x = .returned (.tuple #[v', .int .i64 (q : Nat), .int .i64 0]) ∧ ((m = had ∧ q = u ∧ why ≠ 0) ∨ (m = had ++ [r] ∧ u < q ∧ (why ≠ 0 ∨ (q : Int) = n2))) ∧ q ≤ 4096 ∧ w'.ownsRow W.heap.size 9 1 v' m.length (m.map Wp.mkT) ∧ Below W.heap.size W w' := by
          intro v W hw hd
          refine (HRd.out e2 g2 hen.1 v W hw hd).mono ?_
          rintro x w' ⟨v', m, q, rfl, _, hrc, ho, hb⟩
          have hrc := hrc hen.1
          exact ⟨v', m, q, by rw [hen.1], by rw [← HU.out]; exact hen.2 m q hrc, by have := hrc.le; have := Tr.rgn_length hen.1; omega, ho, hb⟩
        generalize Tr.crashed e2 keep = cr9 at *
        have Hcr := Lib.hid hcr3
        have Hrd := Lib.hid hrd3
        clear hcr3 hrd3 hen HCr HRd He1 He2
        have X8 := X6
        have D8 := D6
        have B8 := B6
        have A8 := A6
        clear X6 D6 B6 A6
        clear hn0
        obtain ⟨c0, d1, d2, c3, f0, f1, f2, f3⟩ := Wp.four_of X8.out
        go_upto_region 23 with fail
        clear c0 d1 d2 c3 f0 f1 f2 f3
        generalize (w6.alloc (.cells #[.slice pb6 e2.bl.length cb6, .slice pw6 e2.ws.length cw6, .int .i64 e2.fu, .bool e2.dn] 25)) = W8 at *
        -- from a device in a box of its own: crash, read, compare
        obtain ⟨k0, k1, k2, k3, _, _, _, _⟩ := Wp.four_of X8.out
        go_wp2_with fail
        refine (Hcr.out _ _ D8.out B8.out).mono ?_
        rintro e w9 ⟨v9, rfl, hd9, hb9⟩
        obtain ⟨pb9, cb9, pw9, cw9, rfl, hd9⟩ := devAt_open hd9
        have B9 := Lib.hid ((B8.out.trans (hb9.mono B8.out.size)).alloc (by have := hb9.size; have := B8.out.size; omega) (.cells #[.slice pb9 cr9.bl.length cb9, .slice pw9 cr9.ws.length cw9, .int .i64 cr9.fu, .bool cr9.dn] 25))
        have D9 := Lib.hid (hd9.below ((Below.refl _ _).alloc (Nat.le_refl _) (.cells #[.slice pb9 cr9.bl.length cb9, .slice pw9 cr9.ws.length cw9, .int .i64 cr9.fu, .bool cr9.dn] 25)))
        have A9 := Lib.hid ((A8.out.below hb9).below ((Below.refl _ _).alloc (Nat.le_refl _) (.cells #[.slice pb9 cr9.bl.length cb9, .slice pw9 cr9.ws.length cw9, .int .i64 cr9.fu, .bool cr9.dn] 25)))
        clear k0 k1 k2 k3 hd9 hb9 X8 D8 B8 A8
        go_wp2_with fail
        refine (Hrd.out _ _ (HL.out.below B9.out) D9.out).mono ?_
        rintro e w10 ⟨v10, m, q, rfl, hca, hq4, ho10, hb10⟩
        have B10 := Lib.hid (B9.out.trans (hb10.mono B9.out.size))
        have A10 := Lib.hid (A9.out.below hb10)
        obtain ⟨p10, q10, rfl, ha10⟩ := owns_at ho10
        have hq10 := owns_cap ho10 _ _ rfl
        clear ho10 hb10 A9 B9 D9
        rcases hca with ⟨rfl, rfl, hwy⟩ | ⟨rfl, hqu, hwy⟩
        · have hsm := same_texts p10 pr q10 cr m w10 (by omega) ha10 A10.out
          rw [hhl] at hsm
          have Hsm := Lib.hid hsm
          have hwb : (why != 0) = true := by rw [bne_iff_ne]; exact hwy
          clear ha10 hsm
          go_wp2_with fail
          refine Hsm.out.mono ?_
          rintro e w11 ⟨rfl, hb11⟩
          have B11 := B10.out.trans (hb11.mono B10.out.size)
          go_wp2_with fail
          go_ret
          exact ⟨rfl, B11⟩
        · obtain ⟨b10, o10, rfl, hcell10⟩ := ha10.get had.length (by simp)
          rw [Tt.get_mid had r, show Wp.mkT r = Value.string r from rfl] at hcell10
          have hat := Wp.At.take ha10 had.length
          rw [Tt.take_pre had r] at hat
          have hsm := same_texts (some ⟨b10, o10, none⟩) pr q10 cr had w10 (by omega) hat A10.out
          have hml : (had ++ [r]).length = had.length + 1 := by simp
          rw [hml] at hq10 ⊢
          rw [hhl] at hsm hcell10
          have Hsm := Lib.hid hsm
          clear ha10 hat hsm
          go_wp2_with fail
          rw [show (min ((kk : Int) + 1) (kk : Int)).toNat = kk by omega]
          refine Hsm.out.mono ?_
          rintro e w11 ⟨rfl, hb11⟩
          have B11 := B10.out.trans (hb11.mono B10.out.size)
          have hcell11 := (hb11.cell (p := ⟨b10, o10 + kk, none⟩) (World.block_lt_of_cell? w10 _ hcell10)).trans hcell10
          clear hcell10 hb11
          have hwb : (why != 0) = true := by rw [bne_iff_ne]; exact Hn0.out
          clear hwy
          go_wp2_with fail
          go_ret
          exact ⟨rfl, B11⟩
end Go.Proofs.YtpmhgfjnabgilaaDoor
