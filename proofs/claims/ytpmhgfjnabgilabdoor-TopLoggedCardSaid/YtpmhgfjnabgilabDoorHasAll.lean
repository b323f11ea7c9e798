
/-
  The walks of a device's hasAll and sync, and of block.Sync. Conditions: a device's lists and numbers are of a size that a machine holds.
-/
import Derived.Test.YtpmhgfjnabgilabDoorBlockW
namespace Go.Proofs.YtpmhgfjnabgilabDoor
open Go.RowKit

set_option maxRecDepth 100000 in
/-- A part of a row of one's own is stored. -/
theorem own_set {w : World} {base : Nat} {e : TypeId} {v : Value} {l : List ByteArray} (h : w.ownsRow base e 1 v l.length (l.map Wp.mkT)) (a : Nat) (ha : a < l.length) (x : ByteArray) :
    ∃ g c u, v = .slice (some ⟨g, 0, none⟩) l.length c ∧ base ≤ g ∧ w.cell? ⟨g, a, none⟩ = some u ∧ w.frozen? ⟨g, a, none⟩ = false ∧ (w.setCell ⟨g, a, none⟩ (.string x)).ownsRow base e 1 v (l.set a x).length ((l.set a x).map Wp.mkT) := by
  rcases h.2 with ⟨hv, h0⟩ | ⟨g, cap, cur, hv, hg, hc, hn, hm, hs, ht⟩
  · omega
  · have hcs : a < cur.size := by omega
    refine ⟨g, cap, cur[a], hv, hg, by rw [Lib.cell_of_heap hc, Array.getElem?_eq_getElem], by simp [World.frozen?, hc], by simp, Or.inr ⟨g, cap, cur.setIfInBounds a (.string x), by rw [List.length_set]; exact hv, hg, Lib.heap_setCell_same hc _, by rw [List.length_set]; exact hn, hm, by rw [Array.size_setIfInBounds]; exact hs, ?_⟩⟩
    rw [List.length_set, Array.toList_setIfInBounds, List.take_set, ht, List.map_set]
    rfl
set_option maxRecDepth 100000 in
theorem cloneS_any (p : Option Addr) (c : Nat) (l : List ByteArray) (w : World) (hn : l.length ≤ 4096) (hl : Wp.At Wp.mkT w p l) :
    Calls Tryd.prog 97 #[.slice p l.length c] w fun e w' => ∃ v, e = .returned v ∧ w'.ownsRow w.heap.size 9 1 v l.length (l.map Wp.mkT) ∧ Below w.heap.size w w' := by
  rcases hl with rfl | ⟨b, off, rfl, hc⟩
  · cases p with
    | none =>
      refine (Tryd.slices_Clone_string_nil _ c w).mono ?_
      rintro e w' ⟨rfl, rfl⟩
      exact ⟨_, rfl, World.ownsRow_nil _ _ _ _, Below.refl _ _⟩
    | some a =>
      refine (Tryd.slices_Clone_string_zero a c w).mono ?_
      rintro e w' ⟨v, rfl, ho, _, hb⟩
      exact ⟨_, rfl, ho, hb⟩
  · refine (Tryd.slices_Clone_string b off l.length c l w (Nat.le_refl _) (by omega) (fun j hj => by rw [hc j hj]; simp [List.getD, List.getElem?_eq_getElem hj, Wp.mkT])).mono ?_
    rintro e w' ⟨v, rfl, ho, _, hb⟩
    rw [List.take_length] at ho
    exact ⟨_, rfl, ho, hb⟩

set_option maxRecDepth 100000 in
set_option maxHeartbeats 1000000 in
/-- hasAll: what each block has. -/
theorem hasAll_any (v : Value) (d : Wp.Dev) (w : World) (hv : Wp.DevAt w v d) (hb : d.bl.length ≤ 4096) (hw : d.ws.length ≤ 4096) (hin : ∀ x ∈ d.ws, 0 ≤ x.1 ∧ x.1 < (d.bl.length : Int)) :
    Calls Tryd.prog 70 #[v] w fun e w' => ∃ v', e = .returned v' ∧ w'.ownsRow w.heap.size 9 1 v' d.hasAll.length (d.hasAll.map Wp.mkT) ∧ Below w.heap.size w w' := by
  obtain ⟨pb, cb, pw, cw, rfl, hab, haw⟩ := hv
  unfold Wp.devV Wp.Dev.hasAll
  obtain ⟨bl, ws, fu, dn⟩ := d
  simp only [] at *
  have hcl := fun (w' : World) (hbw : Below w.heap.size w w') => cloneS_any pb cb bl w' hb (hab.below hbw)
  have Hcl := Lib.hid hcl
  have Haw := Lib.hid haw
  have Hin := Lib.hid hin
  clear hcl hab haw hin
  obtain ⟨m, hmm⟩ : ∃ m, m = ws.length := ⟨_, rfl⟩
  rw [← hmm] at hw ⊢
  have Hm := Lib.hid hmm
  clear hmm
  have Hbox := Lib.hid (alloc_new w (.cells #[.slice pb bl.length cb, .slice pw m cw, .int .i64 fu, .bool dn] 82))
  have B0 := Lib.hid ((Below.refl w.heap.size w).alloc (Nat.le_refl _) (.cells #[.slice pb bl.length cb, .slice pw m cw, .int .i64 fu, .bool dn] 82))
  go_enter Tryd.func70, Tryd.ntmps70
  go_wp2_with fail
  refine (Hcl.out _ B0.out).mono ?_
  rintro e w1 ⟨vb, rfl, hown, hb1⟩
  rw [World.size_alloc] at hown hb1
  have hx := (hb1.block w.heap.size (by omega)).trans Hbox.out
  obtain ⟨c0, c1, c2, c3, _, _, _, _⟩ := Wp.four_of hx
  have s1 : w.heap.size < w1.heap.size := by have := hb1.size; simp at this; omega
  have hB1 := Lib.hid (B0.out.trans (hb1.mono (by omega)))
  have Hown := Lib.hid hown
  have hv1 : ∃ p c, vb = .slice p bl.length c := by
    obtain ⟨p5, c5, h5, _⟩ := owns_at hown
    exact ⟨p5, c5, h5⟩
  obtain ⟨p1, q1, rfl⟩ := hv1
  clear hown hx
  go_wp2_with fail
  clear c0 c1 c2 c3
  go_loopw [14] (fun t wr => ∃ k : Nat, k ≤ m ∧ t = .int .i64 k ∧ wr.ownsRow (w.heap.size + 1) 9 1 (.slice p1 bl.length q1) bl.length ((Wp.setAll bl (ws.take k)).map Wp.mkT) ∧ Below (w.heap.size + 1) w1 wr) (fun t _ => m - (intOf t).toNat)
  case atStart => exact ⟨0, Nat.zero_le _, rfl, Hown.out, Below.refl _ _⟩
  case round =>
    obtain ⟨k, hk, rfl, ho, hB⟩ := hrel
    have s2 : w1.heap.size ≤ wr.heap.size := hB.size
    by_cases hlt : k < m
    · have hkl : k < ws.length := by rw [← Hm.out]; exact hlt
      obtain ⟨b, off, rfl, hcell1, hcell2⟩ := Haw.out.get k hkl
      have hblt : b < w.heap.size := World.block_lt_of_cell? w _ hcell1
      have hcell3 := (hB.cell (p := ⟨b, off + k * 2, none⟩) (show b < w.heap.size + 1 by omega)).trans ((hB1.out.cell (p := ⟨b, off + k * 2, none⟩) hblt).trans hcell1)
      have hcell4 := (hB.cell (p := ⟨b, off + k * 2 + 1, none⟩) (show b < w.heap.size + 1 by omega)).trans ((hB1.out.cell (p := ⟨b, off + k * 2 + 1, none⟩) hblt).trans hcell2)
      clear hcell1 hcell2
      obtain ⟨i1, i2⟩ := Hin.out ws[k] (List.getElem_mem _)
      have hst := Wp.setAll_take bl ws k hkl
      obtain ⟨x, hxe⟩ : ∃ x, x = ws[k] := ⟨_, rfl⟩
      rw [← hxe] at hcell3 hcell4 i1 i2 hst
      clear hxe hkl
      obtain ⟨xa, xd⟩ := x
      simp only [] at hcell3 hcell4 i1 i2 hst
      obtain ⟨a, rfl⟩ := Int.eq_ofNat_of_zero_le i1
      rw [Int.toNat_natCast] at hst
      have hl1 := Wp.setAll_length bl (ws.take k)
      have HS := Lib.hid hst
      clear hst
      generalize Wp.setAll bl (ws.take k) = S1 at *
      rw [← hl1] at ho
      obtain ⟨g, c, u, hsl, hg, hcg, hfg, hset⟩ := own_set ho a (by omega) xd
      simp only [Value.slice.injEq, hl1, true_and] at hsl
      obtain ⟨rfl, rfl⟩ := hsl
      have glt : g < wr.heap.size := World.block_lt_of_cell? wr _ hcg
      rw [List.length_set, hl1] at hset
      have Hset := Lib.hid hset
      clear hset ho hl1
      have i3 : (a : Int) < (bl.length : Int) := i2
      go_wp2_with fail
      refine ⟨⟨k + 1, by omega, by go_num, ?_, ?_⟩, by simp [intOf]; omega⟩
      · rw [HS.out]
        exact Hset.out.alloc _
      · exact (hB.setCell (p := ⟨g, a, none⟩) hg _).alloc (by simp [World.setCell]; omega) _
    · obtain rfl : k = m := by omega
      have ho2 := ho
      rw [Hm.out, List.take_length] at ho2
      have Ho := Lib.hid ho2
      clear ho ho2
      go_wp2_with fail
      go_ret
      refine ⟨_, rfl, ?_, hB1.out.trans (hB.mono (by omega))⟩
      rw [Wp.setAll_length]
      exact ownsRow_at Ho.out (by omega) (fun k _ => rfl)
end Go.Proofs.YtpmhgfjnabgilabDoor
