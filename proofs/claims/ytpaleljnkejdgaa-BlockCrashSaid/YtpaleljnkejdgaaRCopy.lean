/-
  The walk of the document's own Copy of a device (bellmanref03): a device in memory of its own. Conditions: a device's lists are of a size that a machine holds.
-/
import Derived.Test.YtpaleljnkejdgaaWriteCall
import Derived.Test.YtpaleljnkejdgaaOwnOne
import Derived.Lib.AppendZeros
namespace Go.Proofs.Ytpaleljnkejdgaa
open Go.RowKit

theorem tyStrings : Ow.Ty 22 9 (.string ⟨#[]⟩) := ⟨Try.underlying22, by obtain ⟨i, h1, h2, h3, h4⟩ : ∃ i, Try.prog.info? 9 = some i ∧ i.zero = some (.string ⟨#[]⟩) ∧ i.size = 1 ∧ i.bytes = 16 := info_parts (by kernel_rfl); exact ⟨i, h1, h2, h3, by omega⟩, rfl⟩
theorem infoWaits : ∃ i, Try.prog.info? 40 = some i ∧ i.zero = some (.agg #[.int .i64 0, .string ⟨#[]⟩]) ∧ i.size = 2 ∧ i.bytes = 24 := info_parts (by kernel_rfl)
/-- Waits that lie anywhere, appended to an empty row of the call's own. -/
theorem rcopy_waits (ws : List (Int × ByteArray)) (v : Value) (q : Option Addr) (c : Nat) (base : Nat) (ty : TypeId) (w : World) (hO : w.ownsRow base 40 2 v 0 []) (hA : Wp.AtW w q ws) (hm : ws.length ≤ 100000) (hb : base ≤ w.heap.size) :
    ∃ v' w', (Builtin.append_ #[23, 23] ty #[v, .slice q ws.length c]).run Try.prog w = .ok v' w' ∧ w'.ownsRow base 40 2 v' ws.length (Wp.wcells ws) ∧ w.grownBy w' v.ownBlock := by
  obtain ⟨i0, hi, hz0, hz1, hz2⟩ := infoWaits
  cases q with
  | some ad =>
    have hnews : ∀ j u, (Wp.wcells ws)[j]? = some u → w.cell? (ad.add j) = some u := by
      intro j u hj
      rcases hA with rfl | ⟨b, off, hp, hc⟩
      · simp [Wp.wcells] at hj
      · cases hp
        have hjl : j < ws.length * 2 := by rw [← Wp.wcells_len]; exact (List.getElem?_eq_some_iff.1 hj).1
        have hd : j / 2 < ws.length := by omega
        obtain ⟨g1, g2⟩ := Wp.wcells_get ws (j / 2) hd
        have e : (⟨b, off, none⟩ : Addr).add j = ⟨b, off + j, none⟩ := by simp [Addr.add]
        rw [e]
        rcases Nat.mod_two_eq_zero_or_one j with hr | hr
        · have ej : j / 2 * 2 = j := by omega
          rw [ej, hj] at g1
          cases g1
          have := (hc (j / 2) hd).1
          rw [ej] at this
          exact this
        · have ej : j / 2 * 2 + 1 = j := by omega
          rw [ej, hj] at g2
          cases g2
          have := (hc (j / 2) hd).2
          rw [Nat.add_assoc, ej] at this
          exact this
    obtain ⟨v', w', hr, h2, h3, _, _⟩ := run_append_own_at (P := Try.prog) w base 23 ty 40 i0 _ 2 24 Try.underlying23 hi hz0 hz1 hz2 rfl (by decide) v 0 [] hO ad ws.length c (Wp.wcells ws) (Wp.wcells_len ws) hnews (Wp.wcells_one ws) (by unfold maxLen; omega) (by omega) hb
    rw [Nat.zero_add, List.nil_append] at h2
    exact ⟨v', w', hr, h2, h3⟩
  | none =>
    have hm0 : ws = [] := by
      rcases hA with h | ⟨b, off, hp, _⟩
      · exact h
      · cases hp
    subst hm0
    rcases hO.2 with ⟨rfl, h0⟩ | ⟨g, cap, cur, rfl, hg, hc, hn, hm2, hs, ht⟩
    · refine ⟨.slice none 0 0, w, ?_, hO, ⟨rfl, rfl, rfl, Nat.le_refl _, fun _ _ _ => rfl⟩⟩
      have hf := run_firstCells_none (P := Try.prog) w i0.size 0 0 c
      simp [Builtin.append_, run_underlying Try.underlying23, sizeOf, typeInfo, hi, Builtin.lenOf, hf]
    · refine ⟨.slice (some ⟨g, 0, none⟩) 0 cap, w, ?_, hO, ⟨rfl, rfl, rfl, Nat.le_refl _, fun _ _ _ => rfl⟩⟩
      exact run_append_room_src (P := Try.prog) w 23 23 ty 40 i0 Try.underlying23 hi g 0 0 cap (.slice none 0 c) 0 [] (Src.ofNil w Try.underlying23 c) (by omega) (by simp) (by simp)
set_option maxRecDepth 100000 in
set_option maxHeartbeats 2000000 in
theorem rcopy_any (pb : Option Addr) (cb : Nat) (pw : Option Addr) (cw : Nat) (d : Wp.Dev) (w : World) (hb : Wp.At Wp.mkT w pb d.bl) (hw : Wp.AtW w pw d.ws) (h1 : d.bl.length ≤ 4096) (h2 : d.ws.length ≤ 4096) :
    Calls Try.prog 14 #[Wp.devV pb cb pw cw d] w fun e w' => ∃ vb vw, e = .returned (.agg #[vb, vw, .int .i64 d.fu, .bool d.dn]) ∧ w'.ownsRow w.heap.size 9 1 vb d.bl.length (d.bl.map Wp.mkT) ∧ w'.ownsRow w.heap.size 40 2 vw d.ws.length (Wp.wcells d.ws) ∧ Below w.heap.size w w' := by
  obtain ⟨bl, ws, fu, dn⟩ := d
  unfold Wp.devV
  simp only [] at *
  have Hb := Lib.hid hb
  have Hw := Lib.hid hw
  obtain ⟨n, hn⟩ : ∃ n, n = bl.length := ⟨_, rfl⟩
  obtain ⟨m, hm⟩ : ∃ m, m = ws.length := ⟨_, rfl⟩
  have Hn := Lib.hid hn
  have Hm := Lib.hid hm
  rw [← hn] at h1
  rw [← hm] at h2
  rw [← hn, ← hm]
  clear hn hm hb hw
  have st := two_boxes w #[.slice pb n cb, .slice pw m cw, .int .i64 fu, .bool dn] #[.slice none 0 0, .slice none 0 0, .int .i64 0, .bool false] 25 25
  obtain ⟨w2, hw2⟩ : ∃ w2, w2 = (w.alloc (.cells #[.slice pb n cb, .slice pw m cw, .int .i64 fu, .bool dn] 25)).alloc (.cells #[.slice none 0 0, .slice none 0 0, .int .i64 0, .bool false] 25) := ⟨_, rfl⟩
  rw [← hw2] at st
  obtain ⟨s2, b2, x2, y2⟩ := st
  -- the blocks' new row
  have e3 : Below (w.heap.size + 2) w2 (w2.alloc (.cells #[] 9)) := (Below.refl _ _).alloc (by omega) _
  have o3 : (w2.alloc (.cells #[] 9)).ownsRow (w.heap.size + 2) 9 1 (.slice (some ⟨w.heap.size + 1 + 1, 0, none⟩) 0 0) 0 [] := by
    have h := World.ownsRow_made (base := w.heap.size + 2) (e := 9) (size := 1) w2 #[] 0 (by omega) (Nat.zero_le _) rfl
    rw [s2] at h
    exact h
  have s3 : (w2.alloc (.cells #[] 9)).heap.size = w.heap.size + 3 := by rw [World.size_alloc, s2]
  obtain ⟨v4, w4, hr4, ho4, hg4⟩ := Ow.append (mk := Wp.mkT) (fun _ => rfl) tyStrings [] bl (.slice (some ⟨w.heap.size + 1 + 1, 0, none⟩) 0 0) pb n cb (w.heap.size + 2) 22 (w2.alloc (.cells #[] 9)) o3 (Hb.out.below (b2.trans (e3.mono (by omega)))) Hn.out (by simp) (by rw [← Hn.out]; omega) (by omega)
  rw [List.nil_append] at ho4
  obtain ⟨p4, c4, rfl, _⟩ := owns_at ho4
  have e4 : Below (w.heap.size + 2) w2 w4 := Ow.grown e3 o3 hg4 (by omega)
  have x4 := (e4.block w.heap.size (by omega)).trans x2
  have y4 := (e4.block (w.heap.size + 1) (by omega)).trans y2
  have s4 : w.heap.size + 3 ≤ w4.heap.size := by have := hg4.size; omega
  -- the device's box has it
  have x5 : (w4.setCell ⟨w.heap.size, 0, none⟩ (.slice p4 bl.length c4)).heap[w.heap.size]? = some (.cells #[(.slice p4 bl.length c4), .slice pw m cw, .int .i64 fu, .bool dn] 25 (0, 0)) := Lib.heap_setCell_same (i := 0) x4 (.slice p4 bl.length c4)
  have k5 : ∀ k, k ≠ w.heap.size → (w4.setCell ⟨w.heap.size, 0, none⟩ (.slice p4 bl.length c4)).heap[k]? = w4.heap[k]? := fun k hk => Below.heap_setCell _ _ _ _ (by simpa using hk)
  have z5 : (w4.setCell ⟨w.heap.size, 0, none⟩ (.slice p4 bl.length c4)).heap.size = w4.heap.size := by simp
  have b5 : Below w.heap.size w (w4.setCell ⟨w.heap.size, 0, none⟩ (.slice p4 bl.length c4)) := (b2.trans (e4.mono (by omega))).setCell (p := ⟨w.heap.size, 0, none⟩) (Nat.le_refl _) (.slice p4 bl.length c4)
  have o5 := ownsRow_at (base' := w.heap.size + 2) ho4 (Nat.le_refl _) (fun k hk => k5 k (by omega))
  obtain ⟨w5, hw5⟩ : ∃ w5, w5 = w4.setCell ⟨w.heap.size, 0, none⟩ (.slice p4 bl.length c4) := ⟨_, rfl⟩
  rw [← hw5] at x5 k5 z5 b5 o5
  have y5 := (k5 (w.heap.size + 1) (by omega)).trans y4
  -- the waits' new row
  have o6 : (w5.alloc (.cells #[] 40)).ownsRow (w.heap.size + 2) 40 2 (.slice (some ⟨w4.heap.size, 0, none⟩) 0 0) 0 [] := by
    have h := World.ownsRow_made (base := w.heap.size + 2) (e := 40) (size := 2) w5 #[] 0 (by omega) (Nat.zero_le _) rfl
    rw [z5] at h
    exact h
  have b6 : Below w.heap.size w (w5.alloc (.cells #[] 40)) := b5.alloc (by omega) _
  have s6 : (w5.alloc (.cells #[] 40)).heap.size = w4.heap.size + 1 := by rw [World.size_alloc, z5]
  obtain ⟨v7, w7, hr7, ho7, hg7⟩ := rcopy_waits ws (.slice (some ⟨w4.heap.size, 0, none⟩) 0 0) pw cw (w.heap.size + 2) 23 (w5.alloc (.cells #[] 40)) o6 (Hw.out.below b6) (by rw [← Hm.out]; omega) (by omega)
  obtain ⟨p7', c7', rfl, _⟩ := owns_atW ho7
  rw [← Hm.out] at hr7 ho7
  have k7 : ∀ k, k < w4.heap.size → w7.heap[k]? = w5.heap[k]? := fun k hk => (hg7.block k (by omega) (by simp [Value.ownBlock]; omega)).trans (alloc_past w5 _ k (by omega))
  have x7 := (k7 w.heap.size (by omega)).trans x5
  have y7 := (k7 (w.heap.size + 1) (by omega)).trans y5
  have o7 := World.ownsRow.kept (o5.alloc (.cells #[] 40)) hg7 (by
    cases hv : (Value.slice p4 bl.length c4).ownBlock with
    | none => exact Or.inl rfl
    | some k =>
      have := (o5.lt k hv).2
      exact Or.inr (by simp [Value.ownBlock]; omega))
  have b7 : Below w.heap.size w w7 := b6.grown hg7 (by omega) (fun k hk => by simp [Value.ownBlock] at hk; omega)
  have s7 : w4.heap.size + 1 ≤ w7.heap.size := by have := hg7.size; omega
  have x8 : (w7.setCell ⟨w.heap.size, 1, none⟩ (.slice p7' m c7')).heap[w.heap.size]? = some (.cells #[(.slice p4 bl.length c4), (.slice p7' m c7'), .int .i64 fu, .bool dn] 25 (0, 0)) := Lib.heap_setCell_same (i := 1) x7 (.slice p7' m c7')
  have k8 : ∀ k, k ≠ w.heap.size → (w7.setCell ⟨w.heap.size, 1, none⟩ (.slice p7' m c7')).heap[k]? = w7.heap[k]? := fun k hk => Below.heap_setCell _ _ _ _ (by simpa using hk)
  have y8 := (k8 (w.heap.size + 1) (by omega)).trans y7
  have b8 : Below w.heap.size w (w7.setCell ⟨w.heap.size, 1, none⟩ (.slice p7' m c7')) := b7.setCell (p := ⟨w.heap.size, 1, none⟩) (Nat.le_refl _) (.slice p7' m c7')
  have o8 := ownsRow_at (base' := w.heap.size + 2) o7 (Nat.le_refl _) (fun k hk => k8 k (by omega))
  have p8 := ownsRow_at (base' := w.heap.size + 2) ho7 (Nat.le_refl _) (fun k hk => k8 k (by omega))
  have l5 : w5.cell? ⟨w.heap.size, 1, none⟩ = some (.slice pw m cw) := (Wp.four_of x5).c1
  have l6 : (w5.alloc (.cells #[] 40)).cell? ⟨w.heap.size, 1, none⟩ = some (.slice pw m cw) := Lib.cell?_alloc_some _ l5
  rw [hw5] at l5 l6
  have HX4 := Lib.hid x4
  have HX7 := Lib.hid x7
  have HX8 := Lib.hid x8
  have HY8 := Lib.hid y8
  have HB8 := Lib.hid b8
  have HO8 := Lib.hid o8
  have HP8 := Lib.hid p8
  rw [hw2] at hr4
  rw [hw5] at hr7
  have HR4 := Lib.hid hr4
  have HR7 := Lib.hid hr7
  clear x2 y2 b2 e3 o3 hr4 ho4 hg4 e4 x4 y4 x5 k5 b5 o5 y5 o6 b6 hr7 ho7 hg7 k7 x7 y7 o7 b7 x8 k8 y8 b8 o8 p8 hw2 hw5
  obtain ⟨a0, a1, a2, a3, af0, af1, af2, af3⟩ := Wp.four_of HX4.out
  obtain ⟨b0, b1, b2, b3, bf0, bf1, bf2, bf3⟩ := Wp.four_of HX7.out
  obtain ⟨d0, d1, d2, d3, df0, df1, df2, df3⟩ := Wp.four_of HX8.out
  obtain ⟨r0, r1, r2, r3, rf0, rf1, rf2, rf3⟩ := Wp.four_of HY8.out
  go_enter Try.func14, Try.ntmps14
  go_wp2_with (at_builtin; first | (refine Lib.wpList_append_run _ rfl _ _ _ _ rfl _ _ rfl rfl _ _ HR4.out ?_) | (refine Lib.wpList_append_run _ rfl _ _ _ _ rfl _ _ rfl rfl _ _ HR7.out ?_))
  refine bodyPost_ret (ret_cell1 rfl _ _ (w.heap.size + 1) 25 _ _ rfl (four_set HY8.out _ _ _ _) Try.underlying25 rfl (by kernel_rfl)) rfl ?_
  exact ⟨_, _, rfl, by rw [Hn.out]; exact ownsRow_at (base := w.heap.size + 2) (base' := w.heap.size) HO8.out (by omega) (fun k (hk : w.heap.size + 2 ≤ k) => four_rest _ (w.heap.size + 1) _ _ _ _ k (by omega)), ownsRow_at (base := w.heap.size + 2) (base' := w.heap.size) HP8.out (by omega) (fun k (hk : w.heap.size + 2 ≤ k) => four_rest _ (w.heap.size + 1) _ _ _ _ k (by omega)), four_below HB8.out (by omega) _ _ _ _⟩
end Go.Proofs.Ytpaleljnkejdgaa
