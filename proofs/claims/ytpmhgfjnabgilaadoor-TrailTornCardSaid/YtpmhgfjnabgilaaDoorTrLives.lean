/-
  The walk of bellmanlaw04.lives: the answers that the document gives. Condition: sum's table reads as it is laid.
-/
import Derived.Test.YtpmhgfjnabgilaaDoorTrCalls
import Derived.Test.YtpmhgfjnabgilaaDoorTrSt
import Derived.Test.YtpmhgfjnabgilaaDoorSameT
import Derived.Deep.RegionHeld3
namespace Go.Proofs.YtpmhgfjnabgilaaDoor
open Go.RowKit

def Tl.ab : ByteArray := ⟨#[97, 98]⟩
def Tl.z60 : ByteArray := Wp.B (List.replicate 60 0)
def Tl.z150 : ByteArray := Wp.B (List.replicate 150 0)
/-- What the document's answers come to. -/
structure Tl.Facts (d0 d1 d2 e : Wp.Dev) : Prop where
  g0 : Wp.Good d0
  g1 : Wp.Good d1
  g2 : Wp.Good d2
  ge : Wp.Good e
  a1 : Tr.app d0 2 5 0 Tl.ab = (d1, 1, 0)
  a2 : Tr.app d1 2 5 1 Tl.z60 = (d2, 3, 0)
  a3 : Tr.app d2 2 5 3 Tl.z150 = (d2, 0, 8)
  w : Tr.wipe d2 2 5 = (e, 0)
  r2 : Tr.rchk d2 2 5 = 0 ∧ Tr.Recs (Tr.rgn d2 2 5) [Tl.ab, Tl.z60] 3
  re : Tr.rchk e 2 5 = 0 ∧ Tr.Recs (Tr.rgn e 2 5) [] 0
  rx : Tr.rchk d2 4 5 = 1
theorem Tl.lenOf (n k : Nat) (h : (Wp.numB (n : Int)).length = k) : (Tr.cutB (Wp.B (List.replicate n 0)).data.toList).length = (k + 4 + n - 1) / 63 + 1 := by
  rw [Tr.cutB_len, Wp.B_data, Sp.frameB, List.length_append, List.length_append, Sp.four_len, List.length_replicate, h]
theorem Tl.lenAb : (Tr.cutB Tl.ab.data.toList).length = 1 := by rw [Tr.cutB_len]; rfl
theorem Tl.len60 : (Tr.cutB Tl.z60.data.toList).length = 2 := (Tl.lenOf 60 2 (by rfl)).trans (by omega)
theorem Tl.len150 : (Tr.cutB Tl.z150.data.toList).length = 3 := (Tl.lenOf 150 2 (by rfl)).trans (by omega)
theorem Tl.facts : ∃ d1 d2 e, Tl.Facts (Wp.Dev.make 8) d1 d2 e := by
  have st0 := Tr.St.make 8 2 (by omega) (by omega)
  obtain ⟨d1, a1, st1⟩ := st0.app 5 Tl.ab (by omega) (by omega) (show 2 ≤ 32768 by omega) (by rw [Tl.lenAb]; simp [Tr.allB])
  have l1 : (Tr.allB ([] ++ [Tl.ab])).length = 1 := by simp only [List.nil_append, Tr.allB, List.map_cons, List.map_nil, List.flatten_cons, List.flatten_nil, List.append_nil]; exact Tl.lenAb
  have s60 : Tl.z60.size ≤ 32768 := by unfold Tl.z60; rw [Wp.B_size, List.length_replicate]; omega
  have s150 : Tl.z150.size ≤ 32768 := by unfold Tl.z150; rw [Wp.B_size, List.length_replicate]; omega
  obtain ⟨d2, a2, st2⟩ := st1.app 5 Tl.z60 (by omega) (by omega) s60 (by rw [l1, Tl.len60]; omega)
  have l2 : (Tr.allB ([] ++ [Tl.ab] ++ [Tl.z60])).length = 3 := by rw [Tr.allB_append, List.length_append, l1]; simp only [Tr.allB, List.map_cons, List.map_nil, List.flatten_cons, List.flatten_nil, List.append_nil]; rw [Tl.len60]
  have a3 := st2.full 5 Tl.z150 (by omega) (by rw [l2]; omega) s150 (by rw [l2, Tl.len150]; omega)
  have r2 := st2.recs 5 (by omega) (by rw [l2]; omega)
  have hw := st2.wipe 5 (by omega) (by omega)
  obtain ⟨w1, w2, w3, w4⟩ := Tr.wiped (f := 2) (k := 5) st2.good hw
  rw [l1, Tl.len60] at a2
  rw [l2] at a3 r2
  rw [show (Tr.allB []).length = 0 from rfl, Tl.lenAb] at a1
  refine ⟨d1, d2, (Tr.wipe d2 2 5).1, st0.good, st1.good, st2.good, w1, a1, a2, a3, ?_, ⟨st2.rchk 5 (by omega), r2⟩, ⟨w2, ?_⟩, ?_⟩
  · rw [← hw]; rfl
  · have w3' : Tr.rgn (Tr.wipe d2 2 5).1 2 5 = List.replicate 5 Wp.zeros := w3
    rw [w3']
    exact Tr.Recs.mk2 (l := []) (by simp) (Tr.first_zeros 5)
  · unfold Tr.rchk
    rw [if_neg (by rw [st2.good.ok]; simp), if_neg (by rw [st2.dn]; simp), if_pos (by rw [st2.len]; omega)]

theorem infoByte_some : ∃ i, Tryd.prog.info? 5 = some i ∧ i.zero = some (.int .u8 0) ∧ i.size = 1 ∧ i.bytes = 1 := info_parts (by kernel_rfl)
set_option maxRecDepth 100000 in
/-- A text of zero bytes: made, and turned. -/
theorem Tl.made (n : Nat) (h : n ≤ 1000) : ∃ C : Array Value, (∀ W : World, (Instr.makeSlice 81 (.int .i64 (n : Int)) (.int .i64 (n : Int))).run Tryd.prog W = .ok (.slice (some ⟨W.heap.size, 0, none⟩) n n) (W.alloc (.cells C 5))) ∧
    ∀ (b : Nat) (W : World), W.heap[b]? = some (.cells C 5 (0, 0)) → (convert 81 9 (.slice (some ⟨b, 0, none⟩) n n)).run Tryd.prog W = .ok (.string (Wp.B (List.replicate n 0))) W := by
  obtain ⟨i0, hi, hz0, hz1, hz2⟩ := infoByte_some
  refine ⟨madeCells (Value.int .u8 0).cells n, fun W => ?_, fun b W hb => ?_⟩
  · have := run_makeSlice (P := Tryd.prog) W 81 5 i0 _ Tryd.underlying81 hi hz0 .i64 .i64 (n : Int) (n : Int) (by omega) (by omega) (by rw [hz1]; omega) (by rw [hz2]; omega) (by omega)
    rw [hz1, Nat.mul_one, Int.toNat_natCast] at this
    exact this
  · have h1 := run_convert_bytes_back (P := Tryd.prog) W 81 9 5 ⟨b, 0, none⟩ n (List.replicate n 0) Tryd.underlying81 Tryd.underlying5 Tryd.underlying9 (fun j hj => by
      have hj2 : j < n := by simpa using hj
      have e : (⟨b, 0, none⟩ : Addr).add j = ⟨b, j, none⟩ := by simp [Addr.add]; omega
      rw [e, Lib.cell_of_heap hb, ← Array.getElem?_toList, show (Value.int .u8 0).cells = #[Value.int .u8 0] from rfl, toList_madeCells_one, List.getElem?_replicate, if_pos hj2, List.getElem_replicate]
      rfl)
    rw [List.length_replicate] at h1
    exact h1
set_option maxRecDepth 100000 in
set_option maxHeartbeats 2000000 in
theorem trlives_walk (d0 d1 d2 e : Wp.Dev) (w : World) (hL : Sp.Laid w)
    (K0 : Hid (∀ w, Calls Tryd.prog 20 #[.int .i64 8] w fun r w' => ∃ v', r = .returned (.tuple #[v', .int .i64 0]) ∧ Wp.DevAt w' v' d0 ∧ Below w.heap.size w w'))
    (KB1 : Hid (∀ w, Sp.Laid w → Calls Tryd.prog 53 #[.string ⟨#[48, 49, 50, 51, 52, 53, 54, 55, 56, 57]⟩] w fun r w' => r = .returned (.tuple #[.int .i64 1, .int .i64 0]) ∧ Below w.heap.size w w'))
    (KB2 : Hid (∀ w, Sp.Laid w → Calls Tryd.prog 53 #[.string Tl.z60] w fun r w' => r = .returned (.tuple #[.int .i64 2, .int .i64 0]) ∧ Below w.heap.size w w'))
    (K1 : Hid (∀ v w, Sp.Laid w → Wp.DevAt w v d0 → Calls Tryd.prog 17 #[v, .int .i64 2, .int .i64 5, .int .i64 0, .string ⟨#[97, 98]⟩] w fun r w' => ∃ v', r = .returned (.tuple #[v', .int .i64 1, .int .i64 0]) ∧ Wp.DevAt w' v' d1 ∧ Below w.heap.size w w'))
    (K2 : Hid (∀ v w, Sp.Laid w → Wp.DevAt w v d1 → Calls Tryd.prog 17 #[v, .int .i64 2, .int .i64 5, .int .i64 1, .string Tl.z60] w fun r w' => ∃ v', r = .returned (.tuple #[v', .int .i64 3, .int .i64 0]) ∧ Wp.DevAt w' v' d2 ∧ Below w.heap.size w w'))
    (K3 : Hid (∀ v w, Sp.Laid w → Wp.DevAt w v d2 → Calls Tryd.prog 16 #[v, .int .i64 2, .int .i64 5] w fun r w' => ∃ v', r = .returned (.tuple #[v', .int .i64 3, .int .i64 0]) ∧ w'.ownsRow w.heap.size 9 1 v' 2 ([Tl.ab, Tl.z60].map Wp.mkT) ∧ Below w.heap.size w w'))
    (K4 : Hid (∀ v w, Sp.Laid w → Wp.DevAt w v d2 → Calls Tryd.prog 17 #[v, .int .i64 2, .int .i64 5, .int .i64 3, .string Tl.z150] w fun r w' => ∃ v', r = .returned (.tuple #[v', .int .i64 0, .int .i64 8]) ∧ Wp.DevAt w' v' d2 ∧ Below w.heap.size w w'))
    (K5 : Hid (∀ v w, Wp.DevAt w v d2 → Calls Tryd.prog 23 #[v, .int .i64 2, .int .i64 5] w fun r w' => ∃ v', r = .returned (.tuple #[v', .int .i64 0]) ∧ Wp.DevAt w' v' e ∧ Below w.heap.size w w'))
    (K6 : Hid (∀ v w, Sp.Laid w → Wp.DevAt w v e → Calls Tryd.prog 16 #[v, .int .i64 2, .int .i64 5] w fun r w' => ∃ v' u, r = .returned (.tuple #[v', .int .i64 u, .int .i64 0]) ∧ w'.ownsRow w.heap.size 9 1 v' 0 [] ∧ Below w.heap.size w w'))
    (K7 : Hid (∀ v w, Sp.Laid w → Wp.DevAt w v d2 → Calls Tryd.prog 16 #[v, .int .i64 4, .int .i64 5] w fun r w' => ∃ v' u, r = .returned (.tuple #[v', .int .i64 u, .int .i64 1]) ∧ Below w.heap.size w w')) :
    Calls Tryd.prog 15 #[] w fun e w' => e = .returned (.bool true) ∧ Below w.heap.size w w' := by
  have HL := Lib.hid hL
  clear hL
  obtain ⟨C6, hm6, hc6⟩ := Tl.made 60 (by omega)
  obtain ⟨C15, hm15, hc15⟩ := Tl.made 150 (by omega)
  rw [show Wp.B (List.replicate 60 0) = Tl.z60 from rfl] at hc6
  rw [show Wp.B (List.replicate 150 0) = Tl.z150 from rfl] at hc15
  simp only [Int.cast_ofNat_Int] at hm6 hm15
  go_enter Tryd.func15, Tryd.ntmps15
  go_wp2_with fail
  refine (KB1.out _ HL.out).mono ?_
  rintro r w1 ⟨rfl, hb1⟩
  have hcx := hc6 _ _ (alloc_new w1 (.cells C6 5))
  go_wp2_with fail
  clear hcx
  have hb1d := (hb1.alloc hb1.size (.cells C6 5))
  refine (KB2.out _ (HL.out.below hb1d)).mono ?_
  rintro r w2 ⟨rfl, hb2⟩
  have HB2 := Lib.hid (hb1d.trans (hb2.mono hb1d.size))
  clear hb1 hb1d hb2
  go_wp2_with fail
  refine (K0.out _).mono ?_
  rintro r w3 ⟨v3, rfl, hd3, hb3⟩
  obtain ⟨pb3, cb3, pw3, cw3, rfl, hd3⟩ := devAt_open hd3
  have HB3 := Lib.hid (HB2.out.trans (hb3.mono HB2.out.size))
  have Hd3 := Lib.hid hd3
  clear hd3 hb3
  go_wp2_with fail
  have gle := HB3.out.size
  refine (K1.out _ _ (HL.out.below (HB3.out.alloc HB3.out.size (.cells #[.slice pb3 d0.bl.length cb3, .slice pw3 d0.ws.length cw3, .int .i64 d0.fu, .bool d0.dn] 25))) (Hd3.out.below ((Below.refl _ _).alloc (Nat.le_refl _) (.cells #[.slice pb3 d0.bl.length cb3, .slice pw3 d0.ws.length cw3, .int .i64 d0.fu, .bool d0.dn] 25)))).mono ?_
  rintro r w4 ⟨v4, rfl, hd4, hb4⟩
  obtain ⟨pb4, cb4, pw4, cw4, rfl, hd4⟩ := devAt_open hd4
  rw [World.size_alloc] at hb4
  have hx4 := (hb4.block w3.heap.size (by omega)).trans (alloc_new w3 (.cells #[.slice pb3 d0.bl.length cb3, .slice pw3 d0.ws.length cw3, .int .i64 d0.fu, .bool d0.dn] 25))
  have hB4 := (HB3.out.alloc HB3.out.size (.cells #[.slice pb3 d0.bl.length cb3, .slice pw3 d0.ws.length cw3, .int .i64 d0.fu, .bool d0.dn] 25)).trans (hb4.mono (by omega))
  have hg4 : w3.heap.size < w4.heap.size := by have := hb4.size; rw [World.size_alloc] at this; omega
  clear hb4 HB3 Hd3
  generalize w3.heap.size = g at *
  have X4 := Lib.hid (four_set hx4 (.slice pb4 d1.bl.length cb4) (.slice pw4 d1.ws.length cw4) (.int .i64 d1.fu) (.bool d1.dn))
  have D4 := Lib.hid (devAt_box hd4 hx4 (fun j hj => four_rest w4 g (.slice pb4 d1.bl.length cb4) (.slice pw4 d1.ws.length cw4) (.int .i64 d1.fu) (.bool d1.dn) j hj))
  have B4 := Lib.hid (four_below hB4 gle (.slice pb4 d1.bl.length cb4) (.slice pw4 d1.ws.length cw4) (.int .i64 d1.fu) (.bool d1.dn))
  have S4 := set4_size w4 g (.slice pb4 d1.bl.length cb4) (.slice pw4 d1.ws.length cw4) (.int .i64 d1.fu) (.bool d1.dn)
  obtain ⟨c0, c1, c2, c3, f0, f1, f2, f3⟩ := Wp.four_of hx4
  clear hx4 hd4 hB4
  go_wp2_with fail
  generalize ((((w4.setCell ⟨g, 0, none⟩ (.slice pb4 d1.bl.length cb4)).setCell ⟨g, 1, none⟩ (.slice pw4 d1.ws.length cw4)).setCell ⟨g, 2, none⟩ (.int .i64 d1.fu)).setCell ⟨g, 3, none⟩ (.bool d1.dn)) = W at *
  clear f0 f1 f2 f3 c0 c1 c2 c3
  have hgW : g < W.heap.size := by omega
  clear S4
  obtain ⟨c0, c1, c2, c3, f0, f1, f2, f3⟩ := Wp.four_of X4.out
  have hwb := ((Below.refl W.heap.size W).alloc (Nat.le_refl _) (.cells C6 5)).drew
  have hl1 := Lib.hid (HL.out.below (B4.out.trans (hwb.mono B4.out.size)))
  have hv1 := Lib.hid (D4.out.below hwb)
  have hx1 := Lib.hid ((hwb.block g hgW).trans X4.out)
  have hB1 := Lib.hid (B4.out.trans (hwb.mono B4.out.size))
  have hcx := hc6 W.heap.size ((W.alloc (.cells C6 5)).drew) (alloc_new W (.cells C6 5))
  have hws := hwb.size
  clear hwb
  go_upto_region 5 with fail
  go_cut [9, 10] from 45 to 54 (fun v9 v10 wx => v9 = .int .i64 3 ∧ v10 = .int .i64 0 ∧ ∃ pb cb pw cw, wx.heap[g]? = some (.cells #[.slice pb d2.bl.length cb, .slice pw d2.ws.length cw, .int .i64 d2.fu, .bool d2.dn] 25 (0, 0)) ∧ Wp.DevAt wx (.agg #[.slice pb d2.bl.length cb, .slice pw d2.ws.length cw, .int .i64 d2.fu, .bool d2.dn]) d2 ∧ Below w.heap.size w wx)
  case first =>
    go_region_law (first
      | (go_simp; (with_reducible refine (K2.out _ _ hl1.out hv1.out).mono ?_); rintro r w5 ⟨v5, rfl, hd5, hb5⟩; obtain ⟨pb5, cb5, pw5, cw5, rfl, hd5⟩ := devAt_open hd5; have hx5 := (hb5.block g (by omega)).trans hx1.out; have hB5 := hB1.out.trans (hb5.mono hB1.out.size); obtain ⟨k0, k1, k2, k3, h0, h1, h2, h3⟩ := Wp.four_of hx5))
    all_goals (try go_wp2_with fail)
    all_goals go_meet
    all_goals exact ⟨rfl, rfl, pb5, cb5, pw5, cw5, four_set hx5 _ _ _ _, devAt_box hd5 hx5 (fun j hj => four_rest _ _ _ _ _ _ j hj), four_below hB5 gle _ _ _ _⟩
  case rest =>
    obtain ⟨rfl, rfl, pb5, cb5, pw5, cw5, hx5, hd5, hB5⟩ := hcut
    have X5 := Lib.hid hx5
    have D5 := Lib.hid hd5
    have B5 := Lib.hid hB5
    have hg5 : g < wc.heap.size := (Array.getElem?_eq_some_iff.1 hx5).1
    clear hx5 hd5 hB5 hcx hws hl1 hv1 hx1 hB1 c0 c1 c2 c3 f0 f1 f2 f3 B4 D4 X4 hgW hg4
    obtain ⟨c0, c1, c2, c3, _, _, _, _⟩ := Wp.four_of X5.out
    go_wp2_with fail
    refine (K3.out _ _ (HL.out.below B5.out) D5.out).mono ?_
    rintro r w6 ⟨v6, rfl, ho6, hb6⟩
    have Ho6 := Lib.hid (owns_base ho6 B5.out.size)
    obtain ⟨p6, q6, rfl, ha6⟩ := owns_at (l := [Tl.ab, Tl.z60]) ho6
    have Ha6 := Lib.hid ha6
    have X6 := Lib.hid ((hb6.block g hg5).trans X5.out)
    have D6 := Lib.hid (D5.out.below hb6)
    have B6 := Lib.hid (B5.out.trans (hb6.mono B5.out.size))
    have hg6 : g < w6.heap.size := by have := hb6.size; omega
    clear ho6 ha6 hb6 c0 c1 c2 c3 X5 D5 B5 hg5
    obtain ⟨c0, c1, c2, c3, _, _, _, _⟩ := Wp.four_of X6.out
    have hfa : ∀ W, Below w6.heap.size w6 W → Sp.Laid W ∧ Wp.DevAt W (.agg #[.slice pb5 d2.bl.length cb5, .slice pw5 d2.ws.length cw5, .int .i64 d2.fu, .bool d2.dn]) d2 ∧ Below w6.heap.size w6 W := fun W h => ⟨HL.out.below (B6.out.trans (h.mono B6.out.size)), D6.out.below h, h⟩
    have Fa := Lib.hid (hfa _ (((Below.refl w6.heap.size w6).alloc (Nat.le_refl _) (.cells C15 5)).drew))
    have Fb := Lib.hid (hfa _ ((((Below.refl w6.heap.size w6).alloc (Nat.le_refl _) (.cells C15 5)).alloc (by simp) (.cells #[.slice none 0 0, .slice none 0 0, .int .i64 0, .bool false] 25)).drew))
    have Fc := Lib.hid (hfa _ ((((Below.refl w6.heap.size w6).alloc (Nat.le_refl _) (.cells #[.slice none 0 0, .slice none 0 0, .int .i64 0, .bool false] 25)).alloc (by simp) (.cells C15 5)).drew))
    have Na := hc15 w6.heap.size ((w6.alloc (.cells C15 5)).drew) (alloc_new w6 (.cells C15 5))
    have Nb := hc15 w6.heap.size (((w6.alloc (.cells C15 5)).alloc (.cells #[.slice none 0 0, .slice none 0 0, .int .i64 0, .bool false] 25)).drew) ((alloc_past _ _ _ (by simp)).trans (alloc_new w6 (.cells C15 5)))
    have Nc := hc15 (w6.heap.size + 1) (((w6.alloc (.cells #[.slice none 0 0, .slice none 0 0, .int .i64 0, .bool false] 25)).alloc (.cells C15 5)).drew) (alloc_at _ _ _ (by simp))
    have Zb := Lib.hid (show (((w6.alloc (.cells C15 5)).alloc (.cells #[.slice none 0 0, .slice none 0 0, .int .i64 0, .bool false] 25)).drew).heap[w6.heap.size + 1]? = some (.cells #[.slice none 0 0, .slice none 0 0, .int .i64 0, .bool false] 25 (0, 0)) from alloc_at _ _ _ (by simp))
    have Zc := Lib.hid (show (((w6.alloc (.cells #[.slice none 0 0, .slice none 0 0, .int .i64 0, .bool false] 25)).alloc (.cells C15 5)).drew).heap[w6.heap.size]? = some (.cells #[.slice none 0 0, .slice none 0 0, .int .i64 0, .bool false] 25 (0, 0)) from (alloc_past _ _ _ (by simp)).trans (alloc_new w6 _))
    clear hfa
    go_wp2_with fail
    go_upto_region 7 with fail
    go_cut [14, 15, 16] from 60 to 69 (fun _ v15 v16 wx => v15 = .int .i64 0 ∧ v16 = .int .i64 8 ∧ Below w6.heap.size w6 wx)
    case first =>
      go_region_law
        (first
          | (go_simp; (with_reducible refine (K4.out _ _ Fa.out.1 Fa.out.2.1).mono ?_); rintro r w7 ⟨v7, rfl, hd7, hb7⟩; obtain ⟨pb7, cb7, pw7, cw7, rfl, hd7⟩ := devAt_open hd7; have e7 := Fa.out.2.2.trans (hb7.mono Fa.out.2.2.size))
          | (go_simp; (with_reducible refine (K4.out _ _ Fb.out.1 Fb.out.2.1).mono ?_); rintro r w7 ⟨v7, rfl, hd7, hb7⟩; obtain ⟨pb7, cb7, pw7, cw7, rfl, hd7⟩ := devAt_open hd7; have e7 := Fb.out.2.2.trans (hb7.mono Fb.out.2.2.size); have hx7 := (hb7.block (w6.heap.size + 1) (by simp <;> omega)).trans Zb.out; obtain ⟨k0, k1, k2, k3, h0, h1, h2, h3⟩ := Wp.four_of hx7)
          | (go_simp; (with_reducible refine (K4.out _ _ Fc.out.1 Fc.out.2.1).mono ?_); rintro r w7 ⟨v7, rfl, hd7, hb7⟩; obtain ⟨pb7, cb7, pw7, cw7, rfl, hd7⟩ := devAt_open hd7; have e7 := Fc.out.2.2.trans (hb7.mono Fc.out.2.2.size); have hx7 := (hb7.block w6.heap.size (by simp <;> omega)).trans Zc.out; obtain ⟨k0, k1, k2, k3, h0, h1, h2, h3⟩ := Wp.four_of hx7))
      all_goals (try go_wp2_with fail)
      all_goals go_meet
      all_goals first | exact ⟨rfl, rfl, e7.alloc e7.size _⟩ | exact ⟨rfl, rfl, four_below e7 (by omega) _ _ _ _⟩
    case rest =>
      obtain ⟨rfl, rfl, hb7⟩ := hcut
      have X7 := Lib.hid ((hb7.block g hg6).trans X6.out)
      have D7 := Lib.hid (D6.out.below hb7)
      have B7 := Lib.hid (B6.out.trans (hb7.mono B6.out.size))
      have Ha7 := Lib.hid (Ha6.out.below hb7)
      have hg7 : g < wc.heap.size := by have := hb7.size; omega
      clear c0 c1 c2 c3 Fa Fb Fc Na Nb Nc Zb Zc X6 D6 B6 Ha6 hg6 hb7
      obtain ⟨c0, c1, c2, c3, _, _, _, _⟩ := Wp.four_of X7.out
      go_wp2_with fail
      refine (K5.out _ _ D7.out).mono ?_
      rintro r w8 ⟨v8, rfl, hd8, hb8⟩
      obtain ⟨pb8, cb8, pw8, cw8, rfl, hd8⟩ := devAt_open hd8
      have hz8 := hb8.alloc hb8.size (.cells #[.slice pb8 e.bl.length cb8, .slice pw8 e.ws.length cw8, .int .i64 e.fu, .bool e.dn] 25)
      have X8 := Lib.hid ((hz8.block g hg7).trans X7.out)
      have D8 := Lib.hid (D7.out.below hz8)
      have B8 := Lib.hid (B7.out.trans (hz8.mono B7.out.size))
      have Ha8 := Lib.hid (Ha7.out.below hz8)
      have E8 := Lib.hid (hd8.below ((Below.refl _ _).alloc (Nat.le_refl _) (.cells #[.slice pb8 e.bl.length cb8, .slice pw8 e.ws.length cw8, .int .i64 e.fu, .bool e.dn] 25)))
      have hg8 : g < w8.heap.size := by have := hb8.size; omega
      clear hz8 hb8 hd8 c0 c1 c2 c3 X7 D7 B7 Ha7 hg7
      go_wp2_with fail
      refine (K6.out _ _ (HL.out.below B8.out) E8.out).mono ?_
      rintro r w9 ⟨v9, u9, rfl, ho9, hb9⟩
      obtain ⟨p9, q9, rfl, _⟩ := owns_at (mk := Wp.mkT) (l := []) ho9
      have X9 := Lib.hid ((hb9.block g (by simp; omega)).trans X8.out)
      have D9 := Lib.hid (D8.out.below hb9)
      have B9 := Lib.hid (B8.out.trans (hb9.mono B8.out.size))
      have Ha9 := Lib.hid (Ha8.out.below hb9)
      have hg9 : g < w9.heap.size := by have := hb9.size; simp at this; omega
      clear hb9 ho9 X8 D8 B8 Ha8 E8 hg8
      obtain ⟨c0, c1, c2, c3, _, _, _, _⟩ := Wp.four_of X9.out
      go_wp2_with fail
      refine (K7.out _ _ (HL.out.below B9.out) D9.out).mono ?_
      rintro r w10 ⟨v10, u10, rfl, hb10⟩
      have B10 := Lib.hid (B9.out.trans (hb10.mono B9.out.size))
      obtain ⟨b6, o6, rfl, hc6'⟩ := (Ha9.out.below hb10).get 0 (by simp)
      have hl0 : w10.cell? ⟨b6, o6, none⟩ = some (.string ⟨#[97, 98]⟩) := hc6'
      clear hb10 hc6' c0 c1 c2 c3 X9 D9 B9 Ha9 hg9
      go_wp2_with fail
      go_ret
      exact ⟨rfl, B10.out⟩

theorem trlives_any (w : World) (hL : Sp.Laid w) : Calls Tryd.prog 15 #[] w fun e w' => e = .returned (.bool true) ∧ Below w.heap.size w w' := by
  obtain ⟨d1, d2, e, F⟩ := Tl.facts
  have i2 : Wp.I64 2 := by unfold Wp.I64; omega
  have i5 : Wp.I64 5 := by unfold Wp.I64; omega
  have i4 : Wp.I64 4 := by unfold Wp.I64; omega
  have hz : ∀ n, n ≤ 1000 → (Wp.B (List.replicate n 0)).size ≤ 281474976710656 := fun n h => by rw [Wp.B_size, List.length_replicate]; omega
  have ab : Tl.ab.size ≤ 281474976710656 := show 2 ≤ 281474976710656 by omega
  have c10 : (Tr.cutR ⟨#[48, 49, 50, 51, 52, 53, 54, 55, 56, 57]⟩).length = 1 := by
    rw [show Tr.cutR ⟨#[48, 49, 50, 51, 52, 53, 54, 55, 56, 57]⟩ = Tr.cutB (⟨#[48, 49, 50, 51, 52, 53, 54, 55, 56, 57]⟩ : ByteArray).data.toList from if_neg (show ¬ 32768 < 10 by omega), Tr.cutB_len]
    rfl
  have n60 : ¬ 32768 < Tl.z60.size := by unfold Tl.z60; rw [Wp.B_size, List.length_replicate]; omega
  have c60 : (Tr.cutR Tl.z60).length = 2 := by rw [show Tr.cutR Tl.z60 = Tr.cutB Tl.z60.data.toList from if_neg n60]; exact Tl.len60
  refine trlives_walk (Wp.Dev.make 8) d1 d2 e w hL
    (Lib.hid fun w => Make_any 8 w (by omega) (by omega))
    (Lib.hid fun w h => by
      have := trBlocks_any ⟨#[48, 49, 50, 51, 52, 53, 54, 55, 56, 57]⟩ w h (show 10 ≤ 281474976710656 by omega)
      rw [c10, show Tr.cutC ⟨#[48, 49, 50, 51, 52, 53, 54, 55, 56, 57]⟩ = 0 from if_neg (show ¬ 32768 < 10 by omega)] at this
      exact this)
    (Lib.hid fun w h => by
      have := trBlocks_any Tl.z60 w h (hz 60 (by omega))
      rw [c60, show Tr.cutC Tl.z60 = 0 from if_neg n60] at this
      exact this)
    (Lib.hid fun v w h hv => by
      have := trAppend_any v _ 2 5 0 Tl.ab w h hv F.g0.fits i2 i5 (by unfold Wp.I64; omega) ab
      rw [F.a1] at this
      exact this)
    (Lib.hid fun v w h hv => by
      have := trAppend_any v _ 2 5 1 Tl.z60 w h hv F.g1.fits i2 i5 (by unfold Wp.I64; omega) (hz 60 (by omega))
      rw [F.a2] at this
      exact this)
    (Lib.hid fun v w h hv => by
      refine (trRead_any v _ 2 5 w h hv F.g2.fits i2 i5).mono ?_
      rintro r w' ⟨v', l, u, rfl, _, h2, h3, h4⟩
      obtain ⟨rfl, rfl⟩ := Tr.Recs.uniq F.r2.2 (h2 F.r2.1)
      exact ⟨v', by rw [F.r2.1]; rfl, h3, h4⟩)
    (Lib.hid fun v w h hv => by
      have := trAppend_any v _ 2 5 3 Tl.z150 w h hv F.g2.fits i2 i5 (by unfold Wp.I64; omega) (hz 150 (by omega))
      rw [F.a3] at this
      exact this)
    (Lib.hid fun v w hv => by
      have := trWipe_any v _ 2 5 w hv F.g2.fits i2 i5
      rw [F.w] at this
      exact this)
    (Lib.hid fun v w h hv => by
      refine (trRead_any v _ 2 5 w h hv F.ge.fits i2 i5).mono ?_
      rintro r w' ⟨v', l, u, rfl, _, h2, h3, h4⟩
      obtain ⟨rfl, rfl⟩ := Tr.Recs.uniq F.re.2 (h2 F.re.1)
      exact ⟨v', _, by rw [F.re.1], h3, h4⟩)
    (Lib.hid fun v w h hv => by
      refine (trRead_any v _ 4 5 w h hv F.g2.fits i4 i5).mono ?_
      rintro r w' ⟨v', l, u, rfl, _, _, _, h4⟩
      exact ⟨v', _, by rw [F.rx], h4⟩)
end Go.Proofs.YtpmhgfjnabgilaaDoor
