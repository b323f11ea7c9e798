/-
  The walk of the closure that ranges are sorted by, and slices.SortFunc at ranges: what a row of the call's own held, rising. Condition: the row is of a size that a machine holds.
-/
import Derived.Test.YtpaleljnkejdgaaGreatDoorWkNext
import Derived.Test.YtpaleljnkejdgaaGreatDoorShelf
import Derived.Sort.OwnSortedInts
namespace Go.Proofs.YtpaleljnkejdgaaGreatDoor
open Go.RowKit Go.Lib Go.Sort Go.Shelf

theorem Wk.ltAt (x y : Int × Int) : ltOf (fun x y : Int × Int => Lib.compareInt x.1 y.1) x y = decide (x.1 < y.1) := by
  unfold ltOf Lib.compareInt
  by_cases h1 : x.1 < y.1
  · simp [h1]
  · by_cases h2 : y.1 < x.1 <;> simp [h1, h2]
theorem Wk.swoAt : SWO (ltOf fun x y : Int × Int => Lib.compareInt x.1 y.1) where
  irrefl x := by rw [Wk.ltAt]; simp
  trans x y z h1 h2 := by rw [Wk.ltAt] at *; simp at *; omega
  ntrans x y z h1 h2 := by rw [Wk.ltAt] at *; simp at *; omega
set_option maxHeartbeats 1000000 in
set_option maxRecDepth 100000 in
theorem wk_closure (x y : Int × Int) (W : World) : Calls Tryz.prog 57 #[.agg #[.int .i64 x.1, .int .i64 x.2], .agg #[.int .i64 y.1, .int .i64 y.2]] W fun e w' => e = .returned (.int .i64 (Lib.compareInt x.1 y.1)) ∧ ∃ q os', w' = grow (W.drewN q) os' := by
  have hcon : ∀ W', Calls Tryz.prog 58 #[.int .i64 x.1, .int .i64 y.1] W' fun e w' => e = .returned (.int .i64 (Lib.compareInt x.1 y.1)) ∧ w' = W' := fun W' => by
    first
    | exact Tryz.cmp_Compare_int x.1 y.1 W'
    | exact Tryz.cmp_Compare_int_f58 x.1 y.1 W'
  generalize Lib.compareInt x.1 y.1 = r at hcon ⊢
  go_enter Tryz.func57, Tryz.ntmps57
  go_wp2_with fail
  refine (hcon _).mono ?_
  rintro e w' ⟨rfl, rfl⟩
  go_wp2_with fail
  go_ret
  exact ⟨rfl, 0, _, by rw [alloc_eq_grow, alloc_eq_grow, grow_grow]; rfl⟩
theorem wk_cmpLays (blk off size : Nat) (w : World) : CmpLays Tryz.prog 57 #[] Wk.rc 2 (fun x y => Lib.compareInt x.1 y.1) blk off size w :=
  fun _ _ _ _ x y => wk_closure x y _
theorem Wk.below_sort {B : Nat} {w0 w : World} (h : Below B w0 w) (blk off n : Nat) (hb : B ≤ blk) (hblk : blk < w.heap.size) (d : Array (Int × Int)) (os : Array Obj) : Below B w0 (sortWorldK Wk.rc 2 w blk off n d os) := by
  have hs : (putRowK Wk.rc 2 (Sort.ahead w n) blk off d).heap.size = w.heap.size := by simp [putRowK, putRow, mapBlock, Sort.ahead]
  refine h.trans ⟨rfl, rfl, rfl, ?_, fun k hk => ?_⟩
  · show w.heap.size ≤ ((putRowK Wk.rc 2 (Sort.ahead w n) blk off d).heap ++ os).size
    rw [Array.size_append, hs]; omega
  · unfold sortWorldK
    rw [heap_grow_old _ _ (by rw [hs]; omega)]
    show ((Sort.ahead w n).heap.modify blk _)[k]? = w.heap[k]?
    rw [Array.getElem?_modify, if_neg (by omega)]
    rfl
def Wk.SortPost (l : List (Int × Int)) (v : Value) (base : Nat) (w : World) (e : Ending) (w' : World) : Prop :=
  e = .returned (.tuple #[]) ∧ ∃ l' p c, l'.Perm l ∧ Wk.Rise l' ∧ v = .slice p l'.length c ∧ Wk.At w' p l' ∧ Below base w w'
set_option maxHeartbeats 1000000 in
set_option maxRecDepth 100000 in
theorem wk_sort (l : List (Int × Int)) (w : World) (base : Nat) (v : Value) (hO : Wk.Own w base v l) (hb : base ≤ w.heap.size) (hsz : l.length ≤ 10000) :
    Calls Tryz.prog 56 #[v, .func (.func 57) #[] #[]] w (Wk.SortPost l v base w) := by
  by_cases hl : 0 < l.length
  · have hown : w.ownsRow base 56 2 v l.length (Wk.rcs l) := hO
    rcases hown.2 with ⟨_, h0⟩ | ⟨g, cap, cur, rfl, hg, hc, hn, hm, hs, ht⟩
    · omega
    · have key : ∀ j v, j < l.length * 2 → (Wk.rcs l)[j]? = some v → w.cell? ⟨g, 0 + j, none⟩ = some v ∧ w.frozen? ⟨g, 0 + j, none⟩ = false := by
        intro j v hj hv
        refine ⟨?_, by simp [World.frozen?, hc]⟩
        rw [Lib.cell_of_heap hc, Nat.zero_add, ← Array.getElem?_toList, ← List.getElem?_take_of_lt hj, ht]
        exact hv
      have hH : HoldsK Wk.rc 2 w g 0 l.toArray := by
        intro j hj
        rw [size_flatK] at hj
        have hj2 : j < l.length * 2 := by simpa using hj
        rw [get_flatK _ _ _ _ hj]
        have hd : j / 2 < l.length := by omega
        have e1 : l.toArray[j / 2]! = l[j / 2] := by rw [getElem!_pos _ _ (by simpa using hd)]; simp
        rw [e1]
        obtain ⟨g1, g2⟩ := Wk.rcs_get l (j / 2) hd
        rcases Nat.mod_two_eq_zero_or_one j with hm | hm
        · rw [hm]
          have ej : j = j / 2 * 2 := by omega
          have := key j _ hj2 (by rw [ej]; exact g1)
          exact this
        · rw [hm]
          have ej : j = j / 2 * 2 + 1 := by omega
          have := key j (.int .i64 l[j / 2].2) hj2 (by rw [← g2]; congr 1)
          exact this
      have hgl : g < w.heap.size := World.block_lt_of_cell? w _ (key 0 _ (by omega) (Wk.rcs_get l 0 hl).1).1
      have hcon := Tryz.slices_SortFunc_range Wk.rc (fun _ => rfl) (fun x v hv => by simp [Wk.rc] at hv; rcases hv with rfl | rfl <;> rfl) (fun x y => Lib.compareInt x.1 y.1) Wk.swoAt 57 #[] g 0 cap l.toArray w
        (enters_of Tryz.func57 (by kernel_rfl) rfl) (wk_cmpLays g 0 l.toArray.size w) hH hgl (by simp; omega)
      rw [List.size_toArray] at hcon
      refine hcon.mono ?_
      rintro e w' ⟨rfl, d', n, os, ⟨hp1, _, hp2⟩, hsr, rfl⟩
      have hdl : d'.size = l.length := by simpa using hp1
      have hperm : d'.toList.Perm l := by
        have e1 : d'.extract 0 l.length = d' := Array.extract_eq_self_of_le (by omega)
        have e2 : l.toArray.extract 0 l.length = l.toArray := Array.extract_eq_self_of_le (by simp)
        rw [e1, e2] at hp2
        simpa using hp2
      have hlen : d'.toList.length = l.length := by simpa using hdl
      refine ⟨rfl, d'.toList, some ⟨g, 0, none⟩, cap, hperm, ?_, by rw [hlen], Or.inr ⟨g, 0, rfl, ?_⟩, Wk.below_sort (Below.refl _ _) g 0 n hg hgl d' os⟩
      · refine List.pairwise_iff_getElem.2 fun i j hi hj hij => ?_
        have hi' : i < d'.size := by simpa using hi
        have hj' : j < d'.size := by simpa using hj
        have := hsr i j (Nat.zero_le _) hij (by omega)
        rw [Wk.ltAt, getElem!_pos d' j hj', getElem!_pos d' i hi'] at this
        have h2 : ¬ d'[j].1 < d'[i].1 := by simpa using this
        rw [Array.getElem_toList, Array.getElem_toList]
        omega
      · have hH2 : HoldsK Wk.rc 2 (sortWorldK Wk.rc 2 w g 0 n d' os) g 0 d' := by
          unfold sortWorldK
          refine holdsK_grow _ _ _ _ _ _ _ ?_ (holdsK_putRowK _ _ _ _ _ l.toArray d' (holdsK_ahead _ _ _ n _ _ _ hH) (by rw [hdl]; simp))
          simpa [putRowK, putRow, mapBlock, Sort.ahead] using hgl
        intro i hi
        have hi' : i < d'.size := by simpa using hi
        have a := (hH2.cell hi' (show 0 < 2 by omega)).1
        have b := (hH2.cell hi' (show 1 < 2 by omega)).1
        rw [getElem!_pos d' i hi'] at a b
        rw [Array.getElem_toList]
        exact ⟨a, b⟩
  · have h0 : l = [] := List.length_eq_zero_iff.1 (by omega)
    subst h0
    obtain ⟨p, c, rfl, _⟩ := hO.at
    refine (Tryz.slices_SortFunc_range_none p c _ w).mono ?_
    rintro e w' ⟨rfl, rfl⟩
    exact ⟨rfl, [], p, c, List.Perm.refl _, List.Pairwise.nil, rfl, Or.inl rfl, Below.refl _ _⟩
end Go.Proofs.YtpaleljnkejdgaaGreatDoor
