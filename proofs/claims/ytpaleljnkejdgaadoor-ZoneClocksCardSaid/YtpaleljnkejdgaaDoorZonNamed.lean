/-
  The walk of zone.Named: a name's zone, or none. Condition: the table of names reads as it is laid.
-/
import Derived.Test.YtpaleljnkejdgaaDoorZonTable
import Derived.Test.YtpaleljnkejdgaaDoorZonLocal
import Derived.Lib.BufferMore
namespace Go.Proofs.YtpaleljnkejdgaaDoor
open Go.RowKit

theorem ten_set {w : World} {g : Nat} {a b c d e f h i j k : Value} {t : TypeId} (hh : w.heap[g]? = some (.cells #[a, b, c, d, e, f, h, i, j, k] t (0, 0))) (a' b' c' d' e' f' h' i' j' k' : Value) :
    ((((((((((w.setCell ⟨g, 0, none⟩ a').setCell ⟨g, 1, none⟩ b').setCell ⟨g, 2, none⟩ c').setCell ⟨g, 3, none⟩ d').setCell ⟨g, 4, none⟩ e').setCell ⟨g, 5, none⟩ f').setCell ⟨g, 6, none⟩ h').setCell ⟨g, 7, none⟩ i').setCell ⟨g, 8, none⟩ j').setCell ⟨g, 9, none⟩ k').heap[g]? = some (.cells #[a', b', c', d', e', f', h', i', j', k'] t (0, 0)) :=
  (Lib.heap_setCell_same (i := 9) (Lib.heap_setCell_same (i := 8) (Lib.heap_setCell_same (i := 7) (Lib.heap_setCell_same (i := 6) (Lib.heap_setCell_same (i := 5) (Lib.heap_setCell_same (i := 4) (Lib.heap_setCell_same (i := 3) (Lib.heap_setCell_same (i := 2) (Lib.heap_setCell_same (i := 1) (Lib.heap_setCell_same (i := 0) hh a') b') c') d') e') f') h') i') j') k').trans (by simp)
set_option maxRecDepth 10000 in
theorem Zt.index (k : Nat) (hk : k < 8) (w : World) : (Instr.index 104 (.agg Zt.all) (.int .i64 (k : Int))).run Tryd.prog w = .ok (.agg (Zt.row k).toArray) w := by
  have hs : ∀ W, Sem.run Tryd.prog (sizeOf 103) W = .ok 11 W := fun W => Tryd.sizeOf103 W
  have hg : ∀ W, Sem.run Tryd.prog (isAgg 103) W = .ok true W := fun W => Tryd.isAgg103 W
  have hk2 : k = 0 ∨ k = 1 ∨ k = 2 ∨ k = 3 ∨ k = 4 ∨ k = 5 ∨ k = 6 ∨ k = 7 := by omega
  rcases hk2 with rfl | rfl | rfl | rfl | rfl | rfl | rfl | rfl
  · simp [Instr.index, run_underlying Tryd.underlying104, asIntOf, hs, hg, part, Sem.run_bind, Result.andThen, Zt.all, Zt.row, Zt.nm, Zt.zn, Wp.zoneC]
  · simp [Instr.index, run_underlying Tryd.underlying104, asIntOf, hs, hg, part, Sem.run_bind, Result.andThen, Zt.all, Zt.row, Zt.nm, Zt.zn, Wp.zoneC]
  · simp [Instr.index, run_underlying Tryd.underlying104, asIntOf, hs, hg, part, Sem.run_bind, Result.andThen, Zt.all, Zt.row, Zt.nm, Zt.zn, Wp.zoneC]
  · simp [Instr.index, run_underlying Tryd.underlying104, asIntOf, hs, hg, part, Sem.run_bind, Result.andThen, Zt.all, Zt.row, Zt.nm, Zt.zn, Wp.zoneC]
  · simp [Instr.index, run_underlying Tryd.underlying104, asIntOf, hs, hg, part, Sem.run_bind, Result.andThen, Zt.all, Zt.row, Zt.nm, Zt.zn, Wp.zoneC]
  · simp [Instr.index, run_underlying Tryd.underlying104, asIntOf, hs, hg, part, Sem.run_bind, Result.andThen, Zt.all, Zt.row, Zt.nm, Zt.zn, Wp.zoneC]
  · simp [Instr.index, run_underlying Tryd.underlying104, asIntOf, hs, hg, part, Sem.run_bind, Result.andThen, Zt.all, Zt.row, Zt.nm, Zt.zn, Wp.zoneC]
  · simp [Instr.index, run_underlying Tryd.underlying104, asIntOf, hs, hg, part, Sem.run_bind, Result.andThen, Zt.all, Zt.row, Zt.nm, Zt.zn, Wp.zoneC]

/-- A name's row, or none. -/
def Zt.At (nm : ByteArray) (z : Wp.Zn) (e : Int) : Prop := (∃ k, k < 8 ∧ nm = Zt.nm k ∧ (∀ j, j < k → nm ≠ Zt.nm j) ∧ z = Zt.zn k ∧ e = 0) ∨ ((∀ j, j < 8 → nm ≠ Zt.nm j) ∧ z = Wp.Zn.zero ∧ e = 13)
structure Wp.TenF (w : World) (g : Nat) : Prop where
  f0 : w.frozen? ⟨g, 0, none⟩ = false
  f1 : w.frozen? ⟨g, 1, none⟩ = false
  f2 : w.frozen? ⟨g, 2, none⟩ = false
  f3 : w.frozen? ⟨g, 3, none⟩ = false
  f4 : w.frozen? ⟨g, 4, none⟩ = false
  f5 : w.frozen? ⟨g, 5, none⟩ = false
  f6 : w.frozen? ⟨g, 6, none⟩ = false
  f7 : w.frozen? ⟨g, 7, none⟩ = false
  f8 : w.frozen? ⟨g, 8, none⟩ = false
  f9 : w.frozen? ⟨g, 9, none⟩ = false
theorem Wp.tenF_of {w : World} {g : Nat} {c : Array Value} {t : TypeId} (h : w.heap[g]? = some (.cells c t (0, 0))) : Wp.TenF w g :=
  ⟨by simp [World.frozen?, h], by simp [World.frozen?, h], by simp [World.frozen?, h], by simp [World.frozen?, h], by simp [World.frozen?, h], by simp [World.frozen?, h], by simp [World.frozen?, h], by simp [World.frozen?, h], by simp [World.frozen?, h], by simp [World.frozen?, h]⟩
theorem ten_below {w0 w : World} {B g : Nat} (h0 : Below B w0 w) (hg : B ≤ g) (a' b' c' d' e' f' h' i' j' k' : Value) :
    Below B w0 ((((((((((w.setCell ⟨g, 0, none⟩ a').setCell ⟨g, 1, none⟩ b').setCell ⟨g, 2, none⟩ c').setCell ⟨g, 3, none⟩ d').setCell ⟨g, 4, none⟩ e').setCell ⟨g, 5, none⟩ f').setCell ⟨g, 6, none⟩ h').setCell ⟨g, 7, none⟩ i').setCell ⟨g, 8, none⟩ j').setCell ⟨g, 9, none⟩ k') :=
  (((((((((h0.setCell (p := ⟨g, 0, none⟩) hg a').setCell (p := ⟨g, 1, none⟩) hg b').setCell (p := ⟨g, 2, none⟩) hg c').setCell (p := ⟨g, 3, none⟩) hg d').setCell (p := ⟨g, 4, none⟩) hg e').setCell (p := ⟨g, 5, none⟩) hg f').setCell (p := ⟨g, 6, none⟩) hg h').setCell (p := ⟨g, 7, none⟩) hg i').setCell (p := ⟨g, 8, none⟩) hg j').setCell (p := ⟨g, 9, none⟩) hg k'
theorem Zt.index_box (k : Nat) (hk : k < 8) (w : World) : (Instr.index 104 (.agg Zt.all) (.int .i64 (k : Int))).run Tryd.prog w = .ok (.agg #[.string (Zt.nm k), .int .i64 (Zt.zn k).base, .int .i64 (Zt.zn k).save, .int .i64 (Zt.zn k).fr.mo, .int .i64 (Zt.zn k).fr.nth, .int .i64 (Zt.zn k).fr.wd, .int .i64 (Zt.zn k).fr.mi, .int .i64 (Zt.zn k).to.mo, .int .i64 (Zt.zn k).to.nth, .int .i64 (Zt.zn k).to.wd, .int .i64 (Zt.zn k).to.mi]) w :=
  (Zt.index k hk w).trans rfl
set_option maxRecDepth 10000 in
set_option maxHeartbeats 4000000 in
theorem zon_Named (nm : ByteArray) (z : Wp.Zn) (e0 : Int) (w : World) (hT : Zt.Laid w) (h : Zt.At nm z e0) :
    Calls Tryd.prog 25 #[.string nm] w fun e w' => e = .returned (.tuple #[.agg (Wp.zoneC z), .int .i64 e0]) ∧ Below w.heap.size w w' := by
  have HX := Lib.hid Zt.index_box
  have HS : (Tryd.prog.info? 104).map (·.size) = some Zt.all.size := by kernel_rfl
  unfold Zt.Laid at hT
  generalize Zt.all = A at *
  obtain ⟨t0, fr0, hT⟩ := hT
  have XB := Lib.hid (cv_new w (.cells #[.int .i64 0, .int .i64 0, .int .i64 0, .int .i64 0, .int .i64 0, .int .i64 0, .int .i64 0, .int .i64 0, .int .i64 0, .int .i64 0] 48))
  have B0 := Lib.hid (Wp.below_box w (.cells #[.int .i64 0, .int .i64 0, .int .i64 0, .int .i64 0, .int .i64 0, .int .i64 0, .int .i64 0, .int .i64 0, .int .i64 0, .int .i64 0] 48))
  obtain ⟨wB, hwB⟩ : ∃ wB, w.alloc (.cells #[.int .i64 0, .int .i64 0, .int .i64 0, .int .i64 0, .int .i64 0, .int .i64 0, .int .i64 0, .int .i64 0, .int .i64 0, .int .i64 0] 48) = wB := ⟨_, rfl⟩
  have SB : wB.heap.size = w.heap.size + 1 := by rw [← hwB, World.size_alloc]
  rw [hwB] at B0 XB
  have HwB := Lib.hid hwB
  clear hwB
  have hA := (B0.out.block _ (Array.getElem?_eq_some_iff.1 hT).1).trans hT
  have HH := Lib.hid h
  clear h hT
  go_enter Tryd.func25, Tryd.ntmps25
  go_wp2_with fail
  rw [HwB.out]
  refine wp_load_row _ _ rfl _ rfl t0 A fr0 _ hA Tryd.underlying104 rfl HS ?_
  clear hA HS
  go_wp2_with fail
  go_loopw [7] (fun i wr => ∃ k : Nat, k ≤ 8 ∧ i = .int .i64 k ∧ (∀ j, j < k → nm ≠ Zt.nm j) ∧ Below wB.heap.size wB wr) (fun i _ => 8 - (intOf i).toNat)
  case atStart => exact ⟨0, by omega, rfl, fun j hj => absurd hj (by omega), Below.refl _ _⟩
  case round =>
    obtain ⟨k, hk, rfl, hno, hB⟩ := hrel
    have BR := Lib.hid hB
    have HN := Lib.hid hno
    have SR := hB.size
    clear hB hno
    by_cases hlt : k < 8
    · have hix := HX.out k hlt
      by_cases hnm : nm = Zt.nm k
      · have hz : z = Zt.zn k ∧ e0 = 0 := by
          rcases HH.out with ⟨k', hk', h1, h2, h3, h4⟩ | ⟨h1, _, _⟩
          · have : k = k' := by
              rcases Nat.lt_trichotomy k k' with h | h | h
              · exact absurd hnm (h2 k h)
              · exact h
              · exact absurd h1 (HN.out k' h)
            subst this
            exact ⟨h3, h4⟩
          · exact absurd hnm (h1 k hlt)
        obtain ⟨hz, rfl⟩ := hz
        rw [← hnm, ← hz] at hix
        clear hnm hz
        have hx := (cv_past wr (.cells #[.string nm, .int .i64 z.base, .int .i64 z.save, .int .i64 z.fr.mo, .int .i64 z.fr.nth, .int .i64 z.fr.wd, .int .i64 z.fr.mi, .int .i64 z.to.mo, .int .i64 z.to.nth, .int .i64 z.to.wd, .int .i64 z.to.mi] 103) w.heap.size (by omega)).trans ((BR.out.block w.heap.size (by omega)).trans XB.out)
        have HX2 := Lib.hid hx
        obtain ⟨c0, c1, c2, c3, c4, c5, c6, c7, c8, c9⟩ := Wp.ten_of hx
        obtain ⟨f0, f1, f2, f3, f4, f5, f6, f7, f8, f9⟩ := Wp.tenF_of hx
        clear hx
        go_wp2_with fail
        refine bodyPost_ret (cv_ret rfl _ _ w.heap.size 48 _ _ rfl (ten_set HX2.out _ _ _ _ _ _ _ _ _ _) Tryd.underlying48 rfl (by kernel_rfl)) rfl ?_
        exact ⟨rfl, ten_below ((B0.out.trans (BR.out.mono (by omega))).alloc (by omega) _) (Nat.le_refl _) _ _ _ _ _ _ _ _ _ _⟩
      · have hq : ((Zt.nm k).toList == nm.toList) = false := by
          rw [beq_eq_false_iff_ne, ByteArray.toList_eq, ByteArray.toList_eq]
          exact fun h => hnm (ByteArray.ext (Array.toList_inj.1 h)).symm
        have HQ := Lib.hid hnm
        clear hnm
        have HN2 := Lib.hid (show ∀ j, j < k + 1 → nm ≠ Zt.nm j from fun j hj => by
          by_cases h : j < k
          · exact HN.out j h
          · obtain rfl : j = k := by omega
            exact HQ.out)
        clear HN HQ
        generalize Zt.nm k = nk at hix hq
        generalize Zt.zn k = zk at hix
        obtain ⟨base, save, ⟨fm, fn, fw, fi⟩, ⟨tm, tn, tw, ti⟩⟩ := zk
        simp only [] at hix
        go_wp2_with fail
        exact ⟨⟨k + 1, by omega, by go_num, HN2.out, BR.out.alloc (by omega) _⟩, by simp [intOf]; omega⟩
    · obtain rfl : k = 8 := by omega
      have hz : z = Wp.Zn.zero ∧ e0 = 13 := by
        rcases HH.out with ⟨k', hk', h1, h2, h3, h4⟩ | ⟨h1, h2, h3⟩
        · exact absurd h1 (HN.out k' hk')
        · exact ⟨h2, h3⟩
      obtain ⟨rfl, rfl⟩ := hz
      obtain ⟨c0, c1, c2, c3, c4, c5, c6, c7, c8, c9⟩ := Wp.ten_of ((BR.out.block w.heap.size (by omega)).trans XB.out)
      obtain ⟨f0, f1, f2, f3, f4, f5, f6, f7, f8, f9⟩ := Wp.tenF_of ((BR.out.block w.heap.size (by omega)).trans XB.out)
      go_wp2_with fail
      refine bodyPost_ret (cv_ret rfl _ _ w.heap.size 48 _ _ rfl (ten_set ((BR.out.block w.heap.size (by omega)).trans XB.out) _ _ _ _ _ _ _ _ _ _) Tryd.underlying48 rfl (by kernel_rfl)) rfl ?_
      exact ⟨rfl, ten_below (B0.out.trans (BR.out.mono (by omega))) (Nat.le_refl _) _ _ _ _ _ _ _ _ _ _⟩
end Go.Proofs.YtpaleljnkejdgaaDoor
