
/-
  The walk of heap's twice: whether two timers have one number. Condition: at most 1000000 timers.
-/
import Derived.Test.YtlbifinkjghgaaaHpCmp
import Derived.Test.YtlbifinkjghgaaaShelf
import Derived.Sort.OwnSortedInts
import Derived.OwnWalk
namespace Go.Proofs.Ytlbifinkjghgaaa
open Go.RowKit Go.Lib Go.Sort Go.Shelf

/-- The timers' numbers. -/
def Hp.sq (l : List (Int × Int × Int × Int)) : List Int := l.map fun x => x.2.1
/-- Whether two timers have one number. -/
noncomputable def Hp.tw (l : List (Int × Int × Int × Int)) : Bool := @decide (¬ (Hp.sq l).Nodup) (Classical.propDecidable _)
theorem Hp.tw_true {l : List (Int × Int × Int × Int)} : Hp.tw l = true ↔ ¬ (Hp.sq l).Nodup := by unfold Hp.tw; exact @decide_eq_true_iff _ (Classical.propDecidable _)
theorem Hp.tw_false {l : List (Int × Int × Int × Int)} : Hp.tw l = false ↔ (Hp.sq l).Nodup := by
  unfold Hp.tw
  rw [@decide_eq_false_iff_not _ (Classical.propDecidable _)]
  exact Classical.not_not
theorem Hp.compact_lt (zs : List Int) (hs : zs.Pairwise (· ≤ ·)) : (Lib.compact zs).length < zs.length ↔ ¬ zs.Nodup := by
  have e1 : (Lib.compact zs).length = ((List.range zs.length).filter (keeps zs.toArray)).length := by simp [Lib.compact, compactUpTo]
  have e2 : zs.length = (List.range zs.length).length := by simp
  have ge : ∀ j, j < zs.length → zs.toArray[j]! = zs.getD j 0 := fun j hj => by
    rw [getElem!_pos _ _ (by simpa using hj)]; simp [hj]
  have hle := List.pairwise_iff_getElem.1 hs
  constructor
  · intro h hn
    rw [e1] at h
    have h' : ((List.range zs.length).filter (keeps zs.toArray)).length < (List.range zs.length).length := by rw [← e2]; exact h
    obtain ⟨j, hj, hk⟩ := List.length_filter_lt_length_iff_exists.1 h'
    rw [List.mem_range] at hj
    unfold keeps at hk
    have hk2 : ¬ (j = 0 ∨ zs.toArray[j]! ≠ zs.toArray[j - 1]!) := by simpa using hk
    have h0 : j ≠ 0 := fun e => hk2 (Or.inl e)
    have h1 : zs.toArray[j]! = zs.toArray[j - 1]! := Classical.byContradiction fun e => hk2 (Or.inr e)
    rw [ge j hj, ge (j - 1) (by omega)] at h1
    have := List.pairwise_iff_getElem.1 hn (j - 1) j (by omega) hj (by omega)
    simp [hj, show j - 1 < zs.length by omega] at h1
    exact this h1.symm
  · intro hn
    refine Classical.byContradiction fun h => hn ?_
    have adj : ∀ j (hj : j < zs.length), 0 < j → zs[j - 1] < zs[j] := by
      intro j hj h0
      have h1 := hle (j - 1) j (by omega) hj (by omega)
      refine Classical.byContradiction fun h2 => h ?_
      rw [e1]
      have : ((List.range zs.length).filter (keeps zs.toArray)).length < (List.range zs.length).length := by
        refine List.length_filter_lt_length_iff_exists.2 ⟨j, List.mem_range.2 hj, ?_⟩
        unfold keeps
        have h3 : zs.toArray[j]! = zs.toArray[j - 1]! := by
          rw [ge j hj, ge (j - 1) (by omega)]
          simp [hj, show j - 1 < zs.length by omega]
          omega
        simp [h3]
        omega
      rw [← e2] at this
      exact this
    have all : ∀ d i (h1 : i + d + 1 < zs.length), zs[i] < zs[i + d + 1] := by
      intro d
      induction d with
      | zero => intro i h1; have := adj (i + 1) (by omega) (by omega); simpa using this
      | succ d ih =>
        intro i h1
        have a := ih i (by omega)
        have b := adj (i + (d + 1) + 1) h1 (by omega)
        have e : i + (d + 1) + 1 - 1 = i + d + 1 := by omega
        simp only [e] at b
        omega
    refine List.pairwise_iff_getElem.2 fun i j hi hj hij => ?_
    have := all (j - i - 1) i (by omega)
    have e : i + (j - i - 1) + 1 = j := by omega
    simp only [e] at this
    intro e2
    omega
theorem Hp.tw_sort (l : List (Int × Int × Int × Int)) : decide ((Lib.compact ((Hp.sq l).mergeSort fun x y => decide (x ≤ y))).length < l.length) = Hp.tw l := by
  have hp : ((Hp.sq l).mergeSort fun x y => decide (x ≤ y)).Perm (Hp.sq l) := List.mergeSort_perm _ _
  have hs : ((Hp.sq l).mergeSort fun x y => decide (x ≤ y)).Pairwise (· ≤ ·) := by
    have := List.pairwise_mergeSort (le := fun x y : Int => decide (x ≤ y)) (fun a b c h1 h2 => by simp at *; omega) (fun a b => by simp; omega) (Hp.sq l)
    exact this.imp (fun h => by simpa using h)
  have hl : ((Hp.sq l).mergeSort fun x y => decide (x ≤ y)).length = l.length := by rw [hp.length_eq]; simp [Hp.sq]
  have key := Hp.compact_lt _ hs
  rw [hl, hp.nodup_iff] at key
  by_cases h : (Hp.sq l).Nodup
  · rw [Hp.tw_false.2 h, decide_eq_false_iff_not]; exact fun e => (key.1 e) h
  · rw [Hp.tw_true.2 h, decide_eq_true_eq]; exact key.2 h
theorem Hp.sq_take (l : List (Int × Int × Int × Int)) (k : Nat) (h : k < l.length) : Hp.sq (l.take (k + 1)) = Hp.sq (l.take k) ++ [l[k].2.1] := by
  rw [List.take_succ_eq_append_getElem h]; unfold Hp.sq; rw [List.map_append]; rfl
/-- The row of numbers while it is filled: k of n. -/
def Hp.Filled (w0 : World) (g n : Nat) (l : List (Int × Int × Int × Int)) (k : Nat) (W : World) : Prop :=
  ∃ cs : List Int, W.heap[g]? = some (.cells (cs.map (Value.int .i64)).toArray 2 (0, 0)) ∧ cs.length = n ∧ cs.take k = Hp.sq (l.take k) ∧ Below g w0 W
theorem hp_infoI64 : ∃ i, Try.prog.info? 2 = some i ∧ i.zero = some (.int .i64 0) ∧ i.size = 1 ∧ i.bytes = 8 := info_parts (by kernel_rfl)
theorem hp_cells_set {w : World} {g : Nat} {A : Array Value} {t : TypeId} {fz : Nat × Nat} (h : w.heap[g]? = some (.cells A t fz)) (k : Nat) (b : Value) : (w.setCell ⟨g, k, none⟩ b).heap[g]? = some (.cells (A.setIfInBounds k b) t fz) := by
  simp [World.setCell, Array.getElem?_modify, h]
theorem Hp.Filled.step {w0 W : World} {g n k : Nat} {l : List (Int × Int × Int × Int)} (h : Hp.Filled w0 g n l k W) (hk : k < l.length) (hkn : k < n) (o : Obj) : Hp.Filled w0 g n l (k + 1) ((W.setCell ⟨g, k, none⟩ (.int .i64 l[k].2.1)).alloc o) := by
  obtain ⟨cs, h1, h2, h3, h4⟩ := h
  have hg : g < W.heap.size := (Array.getElem?_eq_some_iff.1 h1).1
  have hsz : (W.setCell ⟨g, k, none⟩ (.int .i64 l[k].2.1)).heap.size = W.heap.size := by simp [World.setCell]
  refine ⟨cs.set k l[k].2.1, ?_, by rw [List.length_set]; exact h2, ?_, (h4.setCell (p := ⟨g, k, none⟩) (Nat.le_refl _) _).alloc (by rw [hsz]; omega) o⟩
  · rw [hp_past _ _ _ (by rw [hsz]; exact hg), hp_cells_set h1]
    simp [List.map_set]
  · rw [Hp.sq_take l k hk, ← h3, List.take_succ_eq_append_getElem (by rw [List.length_set]; omega)]
    simp [List.take_set_of_le (Nat.le_refl k)]
theorem Hp.Filled.done {w0 W : World} {g n : Nat} {l : List (Int × Int × Int × Int)} (h : Hp.Filled w0 g n l n W) (hn : n = l.length) : W.heap[g]? = some (.cells ((Hp.sq l).map (Value.int .i64)).toArray 2 (0, 0)) := by
  obtain ⟨cs, h1, h2, h3, h4⟩ := h
  rw [List.take_of_length_le (by omega), hn, List.take_length] at h3
  rw [h1, h3]
theorem hp_sort64 (ns : List Int) (g c : Nat) (W : World) (h : W.heap[g]? = some (.cells (ns.map (Value.int .i64)).toArray 2 (0, 0))) (hn : ns.length ≤ 1000000) :
    Calls Try.prog 23 #[.slice (some ⟨g, 0, none⟩) ns.length c] W fun e w' => e = .returned (.tuple #[]) ∧ w'.heap[g]? = some (.cells ((ns.mergeSort fun x y => decide (x ≤ y)).map (Value.int .i64)).toArray 2 (0, 0)) ∧ Below g W w' := by
  have hg : g < W.heap.size := (Array.getElem?_eq_some_iff.1 h).1
  have hH : Holds (Value.int .i64) W g 0 ns.toArray := holds_of_blockI h (List.take_of_length_le (by simp))
  refine (Try.slices_Sort_int64 g 0 c ns W hH hg (by omega)).mono ?_
  rintro e w' ⟨rfl, n, os, rfl⟩
  refine ⟨rfl, ?_, (Below.refl _ _).grown (grownBy_sortedI _) (by omega) (fun k hk => by cases hk; exact Nat.le_refl _)⟩
  rw [heap_sortedI _ h]
  have hl : (ns.mergeSort fun x y => decide (x ≤ y)).length = ns.length := List.length_mergeSort ns
  have := take_putCellsI (ns.map (Value.int .i64)).toArray (ns.mergeSort fun x y => decide (x ≤ y)) (by simp)
  rw [List.take_of_length_le (by simp [putCells])] at this
  rw [← this]
theorem hp_compact64 (ns : List Int) (g : Nat) (W : World) (h : W.heap[g]? = some (.cells (ns.map (Value.int .i64)).toArray 2 (0, 0))) (hn : ns.length ≤ 1000000) :
    Calls Try.prog 24 #[.slice (some ⟨g, 0, none⟩) ns.length ns.length] W fun e w' => e = .returned (.slice (some ⟨g, 0, none⟩) (Lib.compact ns).length ns.length) ∧ Below g W w' := by
  have hg : g < W.heap.size := (Array.getElem?_eq_some_iff.1 h).1
  have hH : Holds (Value.int .i64) W g 0 ns.toArray := holds_of_blockI h (List.take_of_length_le (by simp))
  refine (Try.slices_Compact_int64 g 0 ns.length ns W hH (by omega) (Nat.le_refl _)).mono ?_
  rintro e w' ⟨rfl, q, rfl⟩
  have := (Below.refl g W).grown (grownBy_sortedI (w := W) (g := g) (n := q) (os := #[]) (Lib.compact ns ++ List.replicate (ns.length - (Lib.compact ns).length) 0).toArray) (by omega) (fun k hk => by cases hk; exact Nat.le_refl _)
  refine ⟨rfl, ?_⟩
  rwa [show ∀ w : World, grow w #[] = w from fun w => by simp [grow]] at this
theorem Hp.Filled.cell {w0 W : World} {g n k : Nat} {l : List (Int × Int × Int × Int)} (h : Hp.Filled w0 g n l k W) (hk : k < n) : ∃ z, W.cell? ⟨g, k, none⟩ = some (.int .i64 z) ∧ W.frozen? ⟨g, k, none⟩ = false ∧ g < W.heap.size := by
  obtain ⟨cs, h1, h2, h3, h4⟩ := h
  refine ⟨cs[k]'(by omega), ?_, by simp [World.frozen?, h1], (Array.getElem?_eq_some_iff.1 h1).1⟩
  rw [Lib.cell_of_heap h1]
  simp [show k < cs.length by omega]
theorem Hp.Filled.start {w0 W : World} {g n : Nat} {l : List (Int × Int × Int × Int)} (hb : Below g w0 W) (hO : W.ownsRow g 2 1 (.slice (some ⟨g, 0, none⟩) n n) n (madeCells #[Value.int .i64 0] n).toList) : Hp.Filled w0 g n l 0 W := by
  rcases hO.2 with ⟨hv, _⟩ | ⟨g', cap, cur, hv, hg, hc, hn, hm, hs, ht⟩
  · cases hv
  · cases hv
    refine ⟨List.replicate n 0, ?_, by simp, by simp [Hp.sq], hb⟩
    rw [hc]
    have e : cur = (List.replicate n (Value.int .i64 0)).toArray := by
      apply Array.ext'
      rw [List.take_of_length_le (by simp; omega)] at ht
      rw [ht]
      apply List.ext_getElem
      · simp [size_madeCells]
      · intro i h1 h2
        simp [madeCells, Nat.mod_one]
    rw [e]
    simp
theorem Hp.Filled.sized {w0 W : World} {g n k : Nat} {l : List (Int × Int × Int × Int)} (h : Hp.Filled w0 g n l k W) : Below g w0 W := by
  obtain ⟨cs, h1, h2, h3, h4⟩ := h; exact h4
set_option maxHeartbeats 2000000 in
theorem hp_twice (l : List (Int × Int × Int × Int)) (p : Option Addr) (c : Nat) (w : World) (hA : Hp.At w p l) (hn : l.length ≤ 1000000) :
    Calls Try.prog 10 #[.slice p l.length c] w fun e w' => e = .returned (.bool (Hp.tw l)) ∧ Below w.heap.size w w' := by
  have AL := Lib.hid hA
  have HT := Lib.hid (Hp.tw_sort l)
  generalize Hp.tw l = r at HT ⊢
  obtain ⟨n, hnl⟩ : ∃ n, n = l.length := ⟨_, rfl⟩
  have Hn := Lib.hid hnl
  rw [← hnl] at hn
  rw [← hnl]
  clear hnl hA
  obtain ⟨i0, hi, hz0, hz1, hz2⟩ := hp_infoI64
  go_enter Try.func10, Try.ntmps10
  go_wp2_with (at_make; refine wpList_make_full _ rfl _ _ 23 rfl w.heap.size 2 i0 _ 1 Try.underlying23 hi hz0 hz1 _ _ _ _ n rfl rfl rfl rfl ?m1 ?m2 ?m3 ?_)
  case m1 => rw [hz2]; omega
  case m2 => unfold maxLen; omega
  case m3 => exact Nat.le_refl _
  intro w1 hown hgrow
  have F1 := Lib.hid (Hp.Filled.start (l := l) ((Below.refl w.heap.size w).grown hgrow (Nat.le_refl _) (fun k hk => by cases hk)) hown)
  clear hown hgrow hi hz0 hz1 hz2
  go_wp2_with fail
  go_loopw [11] (fun i wr => ∃ k : Nat, k ≤ n ∧ i = .int .i64 k ∧ Hp.Filled w w.heap.size n l k wr) (fun i _ => n - (RowKit.intOf i).toNat)
  case atStart => exact ⟨0, Nat.zero_le _, rfl, F1.out⟩
  case round =>
    obtain ⟨k, hk, rfl, hF⟩ := hrel
    have HF := Lib.hid hF
    have BW := Lib.hid hF.sized
    have hz := hF.sized.size
    clear hF
    by_cases hlt : k < n
    · have hkl : k < l.length := by rw [← Hn.out]; exact hlt
      obtain ⟨b1, o1, rfl, e1, e2, e3, e4⟩ := (AL.out.below BW.out).get k hkl
      obtain ⟨z, f1, f2, f3⟩ := HF.out.cell hlt
      have HS := Lib.hid (fun o => HF.out.step hkl hlt o)
      generalize l[k] = y at e1 e2 e3 e4 HS
      obtain ⟨y1, y2, y3, y4⟩ := y
      simp only [] at e1 e2 e3 e4 HS
      have hltz : (k : Int) < (n : Int) := by omega
      have hk0 : (0 : Int) ≤ (k : Int) := by omega
      clear hkl
      go_wp2_with fail
      exact ⟨⟨k + 1, by omega, by go_num, HS.out _⟩, by simp [RowKit.intOf]; omega⟩
    · obtain rfl : k = n := by omega
      have hd := HF.out.done Hn.out
      have hlen : (Hp.sq l).length = k := by rw [Hn.out]; simp [Hp.sq]
      have hlen2 : ((Hp.sq l).mergeSort fun x y => decide (x ≤ y)).length = k := (List.length_mergeSort _).trans hlen
      have C1 := Lib.hid (hp_sort64 (Hp.sq l) w.heap.size k wr hd (by omega))
      have C2 := Lib.hid (fun W h => hp_compact64 ((Hp.sq l).mergeSort fun x y => decide (x ≤ y)) w.heap.size W h (by omega))
      rw [hlen] at C1
      rw [hlen2] at C2
      have HT2 := Lib.hid (show decide ((Lib.compact ((Hp.sq l).mergeSort fun x y => decide (x ≤ y))).length < k) = r by rw [Hn.out]; exact HT.out)
      generalize Lib.compact ((Hp.sq l).mergeSort fun x y => decide (x ≤ y)) = cz at C2 HT2
      generalize (Hp.sq l).mergeSort (fun x y => decide (x ≤ y)) = mz at C1 C2
      clear hd hlen hlen2 HF HT
      go_wp2_with fail
      refine C1.out.mono ?_
      rintro e w2 ⟨rfl, hh, hb⟩
      have H2 := Lib.hid hh
      have B2 := Lib.hid (BW.out.trans hb)
      clear hh hb
      go_wp2_with fail
      refine (C2.out _ H2.out).mono ?_
      rintro e w3 ⟨rfl, hb⟩
      have B3 := Lib.hid (B2.out.trans hb)
      clear hb
      go_wp2_with fail
      go_ret
      refine ⟨?_, B3.out⟩
      rw [← HT2.out]
      simp
end Go.Proofs.Ytlbifinkjghgaaa
