/-
  The walk of the law TopLogged: records that are appended and synced are read behind any crash, in their order; of one that was not synced it is there whole, or not at all; behind a wipe there is none. Conditions: sum's table reads as it is laid; lists, numbers and texts are of a size that a machine holds.
-/
import Derived.Test.YtpmhgfjnabgilabDoorTtKit
import Derived.Test.YtpmhgfjnabgilabDoorBegins
import Derived.Test.YtpmhgfjnabgilabDoorOwnOne
namespace Go.Proofs.YtpmhgfjnabgilabDoor
open Go.RowKit

set_option maxRecDepth 100000 in
set_option maxHeartbeats 1000000 in
/-- Two slices that read as one list are the same. -/
theorem top_texts (p1 p2 : Option Addr) (c1 c2 : Nat) (l : List ByteArray) (w : World) (hm : l.length ≤ 9223372036854775807) (h1 : Wp.At Wp.mkT w p1 l) (h2 : Wp.At Wp.mkT w p2 l) :
    Calls Tryd.prog 17 #[.slice p1 l.length c1, .slice p2 l.length c2] w fun e w' => e = .returned (.bool true) ∧ Below w.heap.size w w' := by
  have H1 := Lib.hid h1
  have H2 := Lib.hid h2
  obtain ⟨n, hn⟩ : ∃ n, n = l.length := ⟨_, rfl⟩
  have Hn := Lib.hid hn
  rw [← hn] at hm ⊢
  clear h1 h2 hn
  go_enter Tryd.func17, Tryd.ntmps17
  go_wp2_with fail
  go_loopw [5, 13] (fun _ t wr => ∃ k : Nat, k ≤ n ∧ t = .int .i64 k ∧ Below w.heap.size w wr) (fun _ t _ => n - (intOf t).toNat)
  case atStart => exact ⟨0, Nat.zero_le _, rfl, Below.refl _ _⟩
  case round =>
    obtain ⟨k, hk, rfl, hB⟩ := hrel
    by_cases hlt : k < n
    · have hkl : k < l.length := by rw [← Hn.out]; exact hlt
      obtain ⟨b1, o1, rfl, hc1⟩ := (H1.out.below hB).get k hkl
      obtain ⟨b2, o2, rfl, hc2⟩ := (H2.out.below hB).get k hkl
      obtain ⟨x, hx⟩ : ∃ x, x = l[k] := ⟨_, rfl⟩
      rw [← hx] at hc1 hc2
      simp only [Wp.mkT] at hc1 hc2
      have hlt2 : (k : Int) < (n : Int) := by omega
      have hk0 : (0 : Int) ≤ (k : Int) := by omega
      clear hx hkl
      go_wp2_with fail
      go_quiet (fail)
      go_wp2_with fail
      refine ⟨⟨k + 1, by omega, by go_num, Wp.below_drews hB _⟩, by simp [intOf]; omega⟩
    · obtain rfl : k = n := by omega
      go_wp2_with fail
      go_ret
      exact ⟨rfl, hB⟩
set_option maxRecDepth 100000 in
theorem top_texts_len (p1 p2 : Option Addr) (c1 c2 n m : Nat) (w : World) (h : ((n : Int) != (m : Int)) = true) :
    Calls Tryd.prog 17 #[.slice p1 n c1, .slice p2 m c2] w fun e w' => e = .returned (.bool false) ∧ Below w.heap.size w w' := by
  go_enter Tryd.func17, Tryd.ntmps17
  go_wp2_with fail
  go_ret
  exact ⟨rfl, Below.refl _ _⟩
theorem Ow.listW {ops : Array Oper} {rest : List Oper} {o : Oper} {a : Act} {w : World} {Q : Exit → Act → World → Prop} {α : Type} {mk : α → Value}
    (hw : Region.wanted o (yielded ops a.tmps) = true) (s x : Operand) (t : TypeId) (hop : o.op = Op.call { callee := Callee.builtin Builtin.append, args := #[s, x], argTypes := #[t, t] })
    (h1 : ∀ x, (mk x).oneCell' = true) {e : TypeId} {z : Value} (hT : Ow.Ty t e z) (l m : List α) (v : Value) (q : Option Addr) (n c : Nat) (base : Nat) (hs : a.eval s = v) (hx : a.eval x = .slice q n c)
    (hO : w.ownsRow base e 1 v l.length (l.map mk)) (hA : Wp.At mk w q m) (hn : n = m.length) (hl : l.length ≤ 100000) (hm : m.length ≤ 100000) (hb : base ≤ w.heap.size)
    (hK : ∀ v' w', w'.ownsRow base e 1 v' (l ++ m).length ((l ++ m).map mk) → w.grownBy w' v.ownBlock → wpList Tryd.prog ops Q rest (a.put o.dst v') w') : wpList Tryd.prog ops Q (o :: rest) a w := by
  refine BigFrame.wpList_want hw fun K hK2 => ?_
  obtain ⟨v', w', hr, h2, h3⟩ := Ow.append h1 hT l m v q n c base o.type w hO hA hn hl hm hb
  unfold Oper.wp
  simp [execOp, hop, resolve, invoke, builtin, hs, hx, hr, Result.andThen]
  exact hK2 _ _ (hK v' w' h2 h3)
theorem tyTexts : Ow.Ty 22 9 (.string ⟨#[]⟩) := ⟨Tryd.underlying22, by obtain ⟨i, h1, h2, h3, h4⟩ := infoText_some; exact ⟨i, h1, h2, h3, by omega⟩, rfl⟩
/-- The device has as many blocks behind an append. -/
theorem Tt.app_len {d : Wp.Dev} {N f k : Nat} {had : List ByteArray} (h : Tr.Sy d N f had) (r : ByteArray) : (Tr.app d f k ((Tr.allB had).length : Nat) r).1.bl.length = N := by
  by_cases h0 : Tr.fitC d f k ((Tr.allB had).length : Nat) r = 0
  · obtain ⟨x1, x2, x3, x4, x5⟩ := Tr.fit_ok h0
    obtain ⟨j, j1, j2, j3, j4, j5⟩ := Tr.writes_spec (Tr.cutB r.data.toList) d ((f + (Tr.allB had).length : Nat) : Int) h.good h.dn (Tr.cutB_size _)
    have e : (Tr.app d f k ((Tr.allB had).length : Nat) r).1 = (Tr.writes d ((f + (Tr.allB had).length : Nat) : Int) (Tr.cutB r.data.toList)).1 := by
      unfold Tr.app
      rw [h0, if_neg (by simp), show (f : Int) + ((Tr.allB had).length : Nat) = ((f + (Tr.allB had).length : Nat) : Int) by omega]
      split <;> rfl
    rw [e, j3, h.len]
  · have e : (Tr.app d f k ((Tr.allB had).length : Nat) r).1 = d := by
      unfold Tr.app
      rw [if_pos h0]
      exact if_pos h.good.ok
    rw [e, h.len]
theorem Tt.wipe_crashed {e : Wp.Dev} (hg : Wp.Good e) (keep : List Int) (hl : e.bl.length = 64) (hc : Tr.rchk (Tr.crashed e keep) 4 60 = 0) : (Tr.wipe (Tr.crashed e keep) 4 60).2 = 0 := by
  unfold Tr.wipe
  rw [hc, if_neg (by simp)]
  have hr := Tr.rgn_length hc
  obtain ⟨_, h4, h5⟩ := (Wp.Dev.ok_iff e).1 hg.ok
  have hlen := (Wp.tearAll_good keep h4 h5).1
  have hl2 : (Tr.crashed e keep).bl.length = 64 := hlen.trans hl
  exact Tr.wipes_done _ _ 4 (hg.crash keep) rfl rfl (by omega) (by rw [hr, hl2]; decide) (by rw [hr]; show 0 + _ ≤ 4096; decide)
set_option maxRecDepth 100000 in
set_option maxHeartbeats 1000000 in
theorem topLogged_any (p1 : Option Addr) (c1 : Nat) (l : List ByteArray) (r : ByteArray) (p2 : Option Addr) (c2 : Nat) (keep : List Int) (w : World) (hL : Sp.Laid w) (hA : Wp.At Wp.mkT w p1 l) (hl : l.length ≤ 140737488351232) (hls : ∀ x ∈ l, x.size ≤ 140737488351232) (hr : r.size ≤ 140737488351232)
    (hK : Wp.At Wp.mkN w p2 keep) (hk : keep.length ≤ 140737488351232) (hki : ∀ x ∈ keep, Wp.I64 x) :
    Calls Tryd.prog 4 #[.slice p1 l.length c1, .string r, .slice p2 keep.length c2] w fun e w' => e = .returned (.bool true) ∧ Below w.heap.size w w' := by
  have HL := Lib.hid hL
  have HA := Lib.hid hA
  have HK := Lib.hid hK
  have HLs := Lib.hid hls
  have HKi := Lib.hid hki
  clear hA hK hls hki hL
  obtain ⟨n, hn⟩ : ∃ n, n = l.length := ⟨_, rfl⟩
  have HN := Lib.hid hn
  rw [← hn] at hl ⊢
  clear hn
  go_enter Tryd.func4, Tryd.ntmps4
  go_wp2_with fail
  refine (begins_any _).mono ?_
  rintro e w1 ⟨rfl, hb1⟩
  have B1 := Lib.hid hb1
  clear hb1
  go_wp2_with fail
  refine (Make_any 64 _ (by omega) (by omega)).mono ?_
  rintro e w2 ⟨v2, rfl, hd2, hb2⟩
  obtain ⟨pb2, cb2, pw2, cw2, rfl, hd2⟩ := devAt_open hd2
  have hz2 := (B1.out.trans (hb2.mono B1.out.size)).alloc (by have := hb2.size; have := B1.out.size; omega) (.cells #[.slice pb2 (Wp.Dev.make 64).bl.length cb2, .slice pw2 (Wp.Dev.make 64).ws.length cw2, .int .i64 (Wp.Dev.make 64).fu, .bool (Wp.Dev.make 64).dn] 38)
  have hw2 : w.heap.size ≤ w2.heap.size := by have := hb2.size; have := B1.out.size; omega
  have HR0 : Tt.Rel 64 4 w w2.heap.size (w2.heap.size + 1) 0 (.int .i64 0) (.slice none 0 0) (w2.alloc (.cells #[.slice pb2 (Wp.Dev.make 64).bl.length cb2, .slice pw2 (Wp.Dev.make 64).ws.length cw2, .int .i64 (Wp.Dev.make 64).fu, .bool (Wp.Dev.make 64).dn] 38)) :=
    ⟨⟨Wp.Dev.make 64, [], pb2, cb2, pw2, cw2, rfl, rfl, by simp [Tr.allB], Tr.St.make 64 4 (by omega) (by omega), alloc_new _ _, hd2.below ((Below.refl _ _).alloc (Nat.le_refl _) _), World.ownsRow_nil _ _ _ _⟩, hz2, by simp⟩
  have HR0 := Lib.hid HR0
  clear hd2 hb2 hz2
  generalize Wp.Dev.make 64 = D0 at *
  go_upto_block 0 with fail
  go_cut [9, 10] from 11 to 67 (fun v11 v12 wx => ∃ kk, kk ≤ 8 ∧ Tt.Rel 64 4 w w2.heap.size (w2.heap.size + 1) kk v11 v12 wx)
  case first =>
    go_wp2_with fail
    go_loopw [9, 10, 38] (fun v11 v12 i wr => ∃ k : Nat, k ≤ n ∧ k ≤ 8 ∧ i = .int .i64 k ∧ Hid (Tt.Rel 64 4 w w2.heap.size (w2.heap.size + 1) k v11 v12 wr)) (fun _ _ i _ => n - (intOf i).toNat)
    case atStart => exact ⟨0, Nat.zero_le _, by omega, rfl, HR0⟩
    case round =>
      obtain ⟨k, hk1, hk6, rfl, HRel⟩ := hrel
      by_cases hlt : k < n
      · obtain ⟨⟨D, had, pb, cb, pw, cw, hu, hhl, hab, hst, hbx, hdv, hown⟩, hbel, hle⟩ := HRel.out
        have hkl : k < l.length := by rw [← HN.out]; exact hlt
        obtain ⟨b, off, rfl, hcell⟩ := (HA.out.below hbel).get k hkl
        rw [show Wp.mkT l[k] = Value.string l[k] from rfl] at hcell
        have hxs := HLs.out l[k] (List.getElem_mem _)
        generalize l[k] = x at hcell hxs
        by_cases h6 : k = 8
        · subst h6
          clear hkl
          go_wp2_with fail
          go_meet
          exact ⟨8, by omega, HRel.out⟩
        · have h6b : ((k : Int) == 8) = false := beq_eq_false_iff_ne.2 (by omega)
          by_cases h200 : 200 < x.size
          · go_wp2_with fail
            go_meet
            exact ⟨k, hk6, HRel.out⟩
          · have hclen : (Tr.cutB x.data.toList).length ≤ 4 := by
              rw [Tr.cutB_len, Sp.frameB, List.length_append, List.length_append, Sp.four_len, ← Wp.size_len]
              have := Wp.numB_len x.size
              omega
            obtain ⟨d', hap, hst'⟩ := hst.app 60 x (by omega) (by omega) (by omega) (by omega)
            have hca := trAppend_anyF (.agg #[.slice pb D.bl.length cb, .slice pw D.ws.length cw, .int .i64 D.fu, .bool D.dn]) D 4 60 ((Tr.allB had).length : Nat) x wr (HL.out.below hbel) hdv hst.good.fits (by unfold Wp.I64; omega) (by unfold Wp.I64; omega) (by unfold Wp.I64; omega) (by omega)
            rw [show Tr.app D 4 60 ((Tr.allB had).length : Nat) x = _ from hap] at hca
            have Hca := Lib.hid hca
            clear hca hap hst
            subst hu
            obtain ⟨c0, c1', c2', c3, g0, g1, g2, g3⟩ := Wp.four_of hbx
            have hglt : w2.heap.size < wr.heap.size := (Array.getElem?_eq_some_iff.1 hbx).1
            have Hst' := Lib.hid hst'
            have Hbx := Lib.hid hbx
            have Hown := Lib.hid hown
            have HB := Lib.hid hbel
            clear HRel hkl hst' hbx hdv hown hbel
            obtain ⟨i0, hi, hz0, hz1, hz2⟩ := infoText_some
            go_wp2_with fail
            refine Hca.out.mono ?_
            rintro e w3 ⟨v3, rfl, hd3, hb3, ho3⟩
            have ho3 := ho3 trivial
            have hd3 := ho3.devAt
            have ho4 := Lib.hid ho3
            obtain ⟨pb3, cb3, pw3, cw3, rfl, _⟩ := devAt_open hd3
            have hst4 := Tt.stored HB.out hw2 hglt (Nat.lt_succ_self _) Hbx.out hb3 ho4.out Hown.out _ rfl
            have hHx3 := (((hb3.alloc hb3.size (.cells #[.slice pb3 d'.bl.length cb3, .slice pw3 d'.ws.length cw3, .int .i64 d'.fu, .bool d'.dn] 38))).block w2.heap.size hglt).trans Hbx.out
            have Hst4 := Lib.hid hst4
            clear hst4 ho3 ho4 hd3 hb3 c0 c1' c2' c3 g0 g1 g2 g3
            obtain ⟨c0, c1', c2', c3, g0, g1, g2, g3⟩ := Wp.four_of hHx3
            clear hHx3
            go_upto_region 14 with fail
            clear c0 c1' c2' c3 g0 g1 g2 g3
            generalize (((((w3.alloc (.cells #[.slice pb3 d'.bl.length cb3, .slice pw3 d'.ws.length cw3, .int .i64 d'.fu, .bool d'.dn] 38)).setCell ⟨w2.heap.size, 0, none⟩ (.slice pb3 d'.bl.length cb3)).setCell ⟨w2.heap.size, 1, none⟩ (.slice pw3 d'.ws.length cw3)).setCell ⟨w2.heap.size, 2, none⟩ (.int .i64 d'.fu)).setCell ⟨w2.heap.size, 3, none⟩ (.bool d'.dn)) = W at *
            obtain ⟨X4, O4, L4, D4, B4, S4⟩ := Hst4.out
            have Hown4 := Lib.hid O4
            go_wp2_with (at_builtin; refine wpList_append_own _ rfl _ _ 22 rfl (w2.heap.size + 1) 9 i0 _ 1 16 Tryd.underlying22 hi hz0 hz1 hz2 rfl (by decide) _ _ _ rfl (Hown4.out.alloc _) ⟨W.heap.size, 0, none⟩ 1 1 [Wp.mkT x] rfl rfl ?c1 ?c2 ?c3 ?c4 ?c5 ?_)
            case c1 => exact cell_one_new _ _ _
            case c2 => simp [Wp.mkT, Value.oneCell']
            case c3 => unfold maxLen; omega
            case c4 => omega
            case c5 => simp; omega
            intro v' w5 hown5 hgrow5 _
            have hg5 := Tt.grown B4 hw2 (Nat.lt_succ_self _) S4 hglt hle X4 O4 L4 D4 hgrow5
            have Hg5 := Lib.hid hg5
            have Hown5 := Lib.hid hown5
            clear hown5 hgrow5 hg5 X4 O4 L4 D4 B4 S4
            go_wp2_with fail
            have hq5 : (Tr.allB (had ++ [x])).length = (Tr.allB had).length + (Tr.cutB x.data.toList).length := by rw [Tr.allB_append, List.length_append]; simp [Tr.allB]
            refine ⟨⟨k + 1, by omega, by omega, by go_num, Lib.hid ⟨⟨d', had ++ [x], pb3, cb3, pw3, cw3, ?_, by rw [List.length_append, hhl]; rfl, ?_, Hst'.out, Hg5.out.1, Hg5.out.2.1, ?_⟩, Hg5.out.2.2.1, Hg5.out.2.2.2⟩⟩, by simp [intOf]; omega⟩
            · rw [hq5]; go_num
            · rw [hq5]; omega
            · rw [List.length_append, List.map_append, hhl]; exact Hown5.out
      · obtain rfl : k = n := by omega
        go_wp2_with fail
        go_meet
        exact ⟨k, hk6, HRel.out⟩
  case rest =>
    obtain ⟨kk, hkk, ⟨D, had, pb, cb, pw, cw, rfl, hhl, hab, hst, hbx, hdv, hown⟩, hbel, hle⟩ := hcut
    have hglt : w2.heap.size < wc.heap.size := (Array.getElem?_eq_some_iff.1 hbx).1
    obtain ⟨pr, cr, rfl, _⟩ := owns_at hown
    obtain ⟨hs0, hsy, hsf⟩ := hst.sync
    have hks := Sync_ok _ D wc hdv hst.good.fits hst.good.ok
    rw [hs0] at hks
    generalize D.sync1.1 = S at *
    have hka : ∀ v W, Sp.Laid W → Wp.DevAt W v S → Calls Tryd.prog 12 #[v, .int .i64 4, .int .i64 60, .int .i64 ((Tr.allB had).length : Nat), .string r] W fun e w' => ∃ v', e = .returned (.tuple #[v', .int .i64 (Tr.app S 4 60 ((Tr.allB had).length : Nat) r).2.1, .int .i64 (Tr.app S 4 60 ((Tr.allB had).length : Nat) r).2.2]) ∧ Wp.DevAt w' v' (Tr.app S 4 60 ((Tr.allB had).length : Nat) r).1 ∧ Below W.heap.size W w' :=
      fun v W hw hd => trAppend_any v S 4 60 ((Tr.allB had).length : Nat) r W hw hd hsy.good.fits (by unfold Wp.I64; omega) (by unfold Wp.I64; omega) (by unfold Wp.I64; omega) (by omega)
    obtain ⟨g2, hen⟩ : Wp.Good (Tr.app S 4 60 ((Tr.allB had).length : Nat) r).1 ∧ Tr.Ends (Tr.crashed (Tr.app S 4 60 ((Tr.allB had).length : Nat) r).1 keep) 4 60 had r 0 1 := hsy.ends_app (k := 60) rfl r keep 1 (by decide)
    have hlenE : (Tr.app S 4 60 ((Tr.allB had).length : Nat) r).1.bl.length = 64 := Tt.app_len hsy r
    obtain ⟨⟨e2, n2, no⟩, hE⟩ : ∃ T, T = Tr.app S 4 60 ((Tr.allB had).length : Nat) r := ⟨_, rfl⟩
    simp only [← hE] at hka g2 hen hlenE
    clear hE hsy
    have hgc := g2.crash keep
    have hwi : (Tr.wipe (Tr.crashed e2 keep) 4 60).2 = 0 := Tt.wipe_crashed g2 keep hlenE hen.1
    obtain ⟨wg, wr, ww, _⟩ := Tr.wiped (d := Tr.crashed e2 keep) hgc hwi
    have hcr : ∀ v W, Wp.DevAt W v e2 → Below w.heap.size w W → Calls Tryd.prog 14 #[v, .slice p2 keep.length c2] W fun x w' => ∃ v', x = .returned (.tuple #[v', .int .i64 0]) ∧ Wp.DevAt w' v' (Tr.crashed e2 keep) ∧ Below W.heap.size W w' := fun v W hd hb => Crash_ok v e2 p2 c2 keep W hd g2.fits g2.ok hk (HK.out.below hb) HKi.out
    have hrd : ∀ v W, Sp.Laid W → Wp.DevAt W v (Tr.crashed e2 keep) → Calls Tryd.prog 15 #[v, .int .i64 4, .int .i64 60] W fun x w' => ∃ v' m q, x = .returned (.tuple #[v', .int .i64 (q : Nat), .int .i64 0]) ∧ (m = had ∨ m = had ++ [r]) ∧ q ≤ 4096 ∧ w'.ownsRow W.heap.size 9 1 v' m.length (m.map Wp.mkT) ∧ Below W.heap.size W w' := by
      intro v W hw hd
      refine (trRead_any v (Tr.crashed e2 keep) 4 60 W hw hd hgc.fits (by unfold Wp.I64; omega) (by unfold Wp.I64; omega)).mono ?_
      rintro x w' ⟨v', m, q, rfl, _, hrc, ho, hb⟩
      have hrc := hrc hen.1
      refine ⟨v', m, q, by rw [hen.1], ?_, by have := hrc.le; have := Tr.rgn_length hen.1; omega, ho, hb⟩
      rcases hen.2 m q hrc with h | h
      · exact Or.inl h.1
      · exact Or.inr h.1
    have hwp : ∀ v W, Wp.DevAt W v (Tr.crashed e2 keep) → Calls Tryd.prog 16 #[v, .int .i64 4, .int .i64 60] W fun x w' => ∃ v', x = .returned (.tuple #[v', .int .i64 0]) ∧ Wp.DevAt w' v' (Tr.wipe (Tr.crashed e2 keep) 4 60).1 ∧ Below W.heap.size W w' := by
      intro v W hd
      have := trWipe_any v (Tr.crashed e2 keep) 4 60 W hd hgc.fits (by unfold Wp.I64; omega) (by unfold Wp.I64; omega)
      rw [hwi] at this
      exact this
    have hrn : ∀ v W, Sp.Laid W → Wp.DevAt W v (Tr.wipe (Tr.crashed e2 keep) 4 60).1 → Calls Tryd.prog 15 #[v, .int .i64 4, .int .i64 60] W fun x w' => ∃ p c, x = .returned (.tuple #[.slice p 0 c, .int .i64 0, .int .i64 0]) ∧ Below W.heap.size W w' := by
      intro v W hw hd
      refine (trRead_any v _ 4 60 W hw hd wg.fits (by unfold Wp.I64; omega) (by unfold Wp.I64; omega)).mono ?_
      rintro x w' ⟨v', m, q, rfl, _, hrc, ho, hb⟩
      have hrc := hrc wr
      rw [ww] at hrc
      obtain ⟨rfl, rfl⟩ := Tr.Recs.of_none (Tr.first_zeros _) hrc
      obtain ⟨p, c, rfl, _⟩ := owns_at (mk := Wp.mkT) (l := []) ho
      exact ⟨p, c, by rw [wr]; rfl, hb⟩
    generalize (Tr.wipe (Tr.crashed e2 keep) 4 60).1 = Z at *
    generalize Tr.crashed e2 keep = C at *
    have Hks := Lib.hid hks
    have Hka := Lib.hid hka
    have HCr := Lib.hid hcr
    have HRd := Lib.hid hrd
    have HWp := Lib.hid hwp
    have HRn := Lib.hid hrn
    have Hbx := Lib.hid hbx
    have B0 := Lib.hid hbel
    have O0 := Lib.hid hown
    have hhl8 : had.length ≤ 8 := by omega
    clear hst hs0 hsf hbx hdv hown hbel hks hka hcr hrd hwp hrn HR0 B1 hen g2 hgc hwi wg wr ww hlenE
    generalize (Tr.allB had).length = u at *
    obtain ⟨c0, d1, d2, c3, _, _, _, _⟩ := Wp.four_of Hbx.out
    go_wp2_with fail
    refine Hks.out.mono ?_
    rintro e w3 ⟨v3, rfl, hd3, hb3⟩
    obtain ⟨pb3, cb3, pw3, cw3, rfl, hd3⟩ := devAt_open hd3
    have hx3 := (hb3.block w2.heap.size hglt).trans Hbx.out
    clear c0 d1 d2 c3
    have X4 := Lib.hid (four_set hx3 (.slice pb3 S.bl.length cb3) (.slice pw3 S.ws.length cw3) (.int .i64 S.fu) (.bool S.dn))
    have D4 := Lib.hid (devAt_box hd3 hx3 (fun j hj => four_rest w3 w2.heap.size (.slice pb3 S.bl.length cb3) (.slice pw3 S.ws.length cw3) (.int .i64 S.fu) (.bool S.dn) j hj))
    have B4 := Lib.hid (four_below (B0.out.trans (hb3.mono B0.out.size)) hw2 (.slice pb3 S.bl.length cb3) (.slice pw3 S.ws.length cw3) (.int .i64 S.fu) (.bool S.dn))
    have O4 := Lib.hid (ownsRow_at2 (ownsRow_below O0.out hb3) (fun k hk => four_rest w3 w2.heap.size (.slice pb3 S.bl.length cb3) (.slice pw3 S.ws.length cw3) (.int .i64 S.fu) (.bool S.dn) k (by have := (O0.out.lt k hk).1; omega)))
    obtain ⟨c0, d1, d2, c3, f0, f1, f2, f3⟩ := Wp.four_of hx3
    clear hx3 hd3 hb3
    go_upto_region 17 with fail
    generalize ((((w3.setCell ⟨w2.heap.size, 0, none⟩ (.slice pb3 S.bl.length cb3)).setCell ⟨w2.heap.size, 1, none⟩ (.slice pw3 S.ws.length cw3)).setCell ⟨w2.heap.size, 2, none⟩ (.int .i64 S.fu)).setCell ⟨w2.heap.size, 3, none⟩ (.bool S.dn)) = W5 at *
    clear c0 d1 d2 c3 f0 f1 f2 f3
    obtain ⟨c0, d1, d2, c3, _, _, _, _⟩ := Wp.four_of X4.out
    have hA5 : Wp.At Wp.mkT W5 pr had := by
      obtain ⟨p', c', he, ha⟩ := owns_at O4.out
      cases he
      exact ha
    have A5 := Lib.hid hA5
    have hcap := owns_cap O4.out _ _ rfl
    clear hA5 O0 B0 Hbx
    go_wp2_with fail
    refine (Hka.out _ _ (HL.out.below B4.out) D4.out).mono ?_
    rintro e w6 ⟨v6, rfl, hd6, hb6⟩
    obtain ⟨pb6, cb6, pw6, cw6, rfl, hd6⟩ := devAt_open hd6
    have hz6 := hb6.alloc hb6.size (.cells #[.slice pb6 e2.bl.length cb6, .slice pw6 e2.ws.length cw6, .int .i64 e2.fu, .bool e2.dn] 38)
    have B6 := Lib.hid (B4.out.trans (hz6.mono B4.out.size))
    have A6 := Lib.hid (A5.out.below hz6)
    have D6 := Lib.hid (hd6.below ((Below.refl _ _).alloc (Nat.le_refl _) (.cells #[.slice pb6 e2.bl.length cb6, .slice pw6 e2.ws.length cw6, .int .i64 e2.fu, .bool e2.dn] 38)))
    clear hd6 hb6 hz6 c0 d1 d2 c3 X4 D4 B4 A5 O4 Hka Hks
    go_wp2_with fail
    refine (HCr.out _ _ D6.out B6.out).mono ?_
    rintro e w9 ⟨v9, rfl, hd9, hb9⟩
    obtain ⟨pb9, cb9, pw9, cw9, rfl, hd9⟩ := devAt_open hd9
    have B9 := Lib.hid ((B6.out.trans (hb9.mono B6.out.size)).alloc (by have := hb9.size; have := B6.out.size; omega) (.cells #[.slice pb9 C.bl.length cb9, .slice pw9 C.ws.length cw9, .int .i64 C.fu, .bool C.dn] 38))
    have D9 := Lib.hid (hd9.below ((Below.refl _ _).alloc (Nat.le_refl _) (.cells #[.slice pb9 C.bl.length cb9, .slice pw9 C.ws.length cw9, .int .i64 C.fu, .bool C.dn] 38)))
    have A9 := Lib.hid ((A6.out.below hb9).below ((Below.refl _ _).alloc (Nat.le_refl _) (.cells #[.slice pb9 C.bl.length cb9, .slice pw9 C.ws.length cw9, .int .i64 C.fu, .bool C.dn] 38)))
    have X9 := Lib.hid (alloc_new w9 (.cells #[.slice pb9 C.bl.length cb9, .slice pw9 C.ws.length cw9, .int .i64 C.fu, .bool C.dn] 38))
    clear hd9 hb9 D6 B6 A6
    go_wp2_with fail
    refine (HRd.out _ _ (HL.out.below B9.out) D9.out).mono ?_
    rintro e w10 ⟨v10, m, q, rfl, hca, hq4, ho10, hb10⟩
    have B10 := Lib.hid (B9.out.trans (hb10.mono B9.out.size))
    have A10 := Lib.hid (A9.out.below hb10)
    have D10 := Lib.hid (D9.out.below hb10)
    have hs9 : w9.heap.size < w10.heap.size := by have := hb10.size; rw [World.size_alloc] at this; omega
    rw [World.size_alloc] at hb10
    obtain ⟨c0, d1, d2, c3, _, _, _, _⟩ := Wp.four_of ((hb10.block w9.heap.size (by omega)).trans X9.out)
    obtain ⟨p10, q10, rfl, ha10⟩ := owns_at ho10
    have hq10 := owns_cap ho10 _ _ rfl
    have M10 := Lib.hid ha10
    clear ho10 hb10 A9 B9 D9 ha10 X9
    have hml : m.length ≤ 9 := by rcases hca with h | h <;> rw [h] <;> (try rw [List.length_append, List.length_singleton]) <;> omega
    go_wp2_with fail
    refine (HWp.out _ _ D10.out).mono ?_
    rintro e w11 ⟨v11, rfl, hd11, hb11⟩
    obtain ⟨pb11, cb11, pw11, cw11, rfl, hd11⟩ := devAt_open hd11
    have hz11 := hb11.alloc hb11.size (.cells #[.slice pb11 Z.bl.length cb11, .slice pw11 Z.ws.length cw11, .int .i64 Z.fu, .bool Z.dn] 38)
    have B11 := Lib.hid (B10.out.trans (hz11.mono B10.out.size))
    have A11 := Lib.hid (A10.out.below hz11)
    have M11 := Lib.hid (M10.out.below hz11)
    have D11 := Lib.hid (hd11.below ((Below.refl _ _).alloc (Nat.le_refl _) (.cells #[.slice pb11 Z.bl.length cb11, .slice pw11 Z.ws.length cw11, .int .i64 Z.fu, .bool Z.dn] 38)))
    clear hd11 hb11 hz11 c0 d1 d2 c3 B10 A10 M10 D10
    go_wp2_with fail
    refine (HRn.out _ _ (HL.out.below B11.out) D11.out).mono ?_
    rintro e w12 ⟨p12, c12, rfl, hb12⟩
    have B12 := Lib.hid (B11.out.trans (hb12.mono B11.out.size))
    have A12 := Lib.hid (A11.out.below hb12)
    have M12 := Lib.hid (M11.out.below hb12)
    clear hb12 B11 A11 M11 D11 HCr HRd HWp HRn
    rcases hca with rfl | rfl
    · have Hsm := Lib.hid (top_texts p10 pr q10 cr m w12 (by omega) M12.out A12.out)
      rw [hhl] at Hsm
      go_wp2_with fail
      refine Hsm.out.mono ?_
      rintro e w13 ⟨rfl, hb13⟩
      have B13 := B12.out.trans (hb13.mono B12.out.size)
      go_wp2_with fail
      go_ret
      exact ⟨rfl, B13⟩
    · obtain ⟨nn, hnn⟩ : ∃ nn, nn = (had ++ [r]).length := ⟨_, rfl⟩
      have hn2 : nn = kk + 1 := by rw [hnn, List.length_append, hhl]; rfl
      rw [← hnn] at hml hq10 ⊢
      clear hnn
      subst hn2
      have htl := Lib.hid (top_texts_len p10 pr q10 cr (kk + 1) kk w12 (by rw [bne_iff_ne]; omega))
      go_wp2_with fail
      refine htl.out.mono ?_
      rintro e w13 ⟨rfl, hb13⟩
      have B13 := Lib.hid (B12.out.trans (hb13.mono B12.out.size))
      clear htl
      have A13 := Lib.hid (A12.out.below hb13)
      have M13 := Lib.hid (M12.out.below hb13)
      have HNn2 := Lib.hid hhl
      clear hhl
      have hbe := Lib.hid ((Below.refl w13.heap.size w13).alloc (Nat.le_refl _) (.cells #[] 9))
      clear hb13 A12 M12
      go_wp2_with (at_builtin; go_loud (refine Ow.listW (mk := Wp.mkT) rfl _ _ _ rfl (fun _ => rfl) tyTexts [] had (.slice (some ⟨w13.heap.size, 0, none⟩) 0 0) _ _ _ w13.heap.size rfl rfl (World.ownsRow_made w13 #[] 0 (Nat.le_refl _) (Nat.zero_le _) rfl) (A13.out.below hbe.out) HNn2.out.symm (by simp) (by omega) hbe.out.size ?_))
      intro va wa hoa hga
      have ha : Below w13.heap.size w13 wa := Ow.grown hbe.out (World.ownsRow_made w13 #[] 0 (Nat.le_refl _) (Nat.zero_le _) rfl) hga hbe.out.size
      have Hoa := Lib.hid hoa
      have Ha := Lib.hid ha
      clear hoa hga ha
      go_wp2_with (at_builtin; go_loud (refine Ow.listW (mk := Wp.mkT) rfl _ _ _ rfl (fun _ => rfl) tyTexts had [r] va _ _ _ w13.heap.size rfl rfl (Hoa.out.alloc _) (Ow.one (Ow.n3 wa 9 _)) rfl (by omega) (by simp) (Ha.out.alloc Ha.out.size _).size ?_))
      intro vb wb hob hgb
      have hb := Ow.grown (Ha.out.alloc Ha.out.size (.cells #[.string r] 9)) (Hoa.out.alloc _) hgb (Ha.out.alloc Ha.out.size _).size
      have hob2 : wb.ownsRow w13.heap.size 9 1 vb (had ++ [r]).length ((had ++ [r]).map Wp.mkT) := by rw [List.length_append, List.map_append]; exact hob
      obtain ⟨pb0, cb0, rfl, hatb⟩ := owns_at hob2
      have hmb : (had ++ [r]).length = kk + 1 := by rw [List.length_append, HNn2.out]; rfl
      rw [hmb]
      have hfin := top_texts p10 pb0 q10 cb0 (had ++ [r]) wb (by rw [hmb]; omega) (M13.out.below hb) hatb
      rw [hmb] at hfin
      have B14 := Lib.hid (B13.out.trans (hb.mono B13.out.size))
      have Hfin := Lib.hid hfin
      clear hob hob2 hgb hb hatb hfin
      go_wp2_with fail
      refine Hfin.out.mono ?_
      rintro e w15 ⟨rfl, hb15⟩
      have B15 := B14.out.trans (hb15.mono B14.out.size)
      go_wp2_with fail
      go_ret
      exact ⟨rfl, B15⟩
end Go.Proofs.YtpmhgfjnabgilabDoor
