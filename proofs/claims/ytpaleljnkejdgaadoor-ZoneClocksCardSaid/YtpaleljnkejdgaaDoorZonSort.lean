/-
  The walk of the closure that zone's turns are sorted by, and slices.SortFunc at turns: what a row of the call's own held, rising. Condition: the row holds at least one turn, and few.
-/
import Derived.Test.YtpaleljnkejdgaaDoorZonList
import Derived.Test.YtpaleljnkejdgaaDoorZonTurn
import Derived.Test.YtpaleljnkejdgaaDoorShelf
import Derived.Test.YtpaleljnkejdgaaDoorCmpInt64
import Derived.Sort.OwnSortedInts
namespace Go.Proofs.YtpaleljnkejdgaaDoor
open Go.RowKit Go.Lib Go.Sort

def Wp.turnC (x : Int × Int) : List Value := [.int .i64 x.1, .int .i64 x.2]
def Wp.turnCs (l : List (Int × Int)) : List Value := l.flatMap Wp.turnC
theorem Wp.turnCs_len (l : List (Int × Int)) : (Wp.turnCs l).length = l.length * 2 := by
  induction l with
  | nil => rfl
  | cons x l ih => simp only [Wp.turnCs, List.flatMap_cons, List.length_append, List.length_cons] at ih ⊢; rw [ih]; simp [Wp.turnC]; omega
theorem Wp.turnCs_get (l : List (Int × Int)) (i : Nat) (hi : i < l.length) : (Wp.turnCs l)[i * 2]? = some (.int .i64 l[i].1) ∧ (Wp.turnCs l)[i * 2 + 1]? = some (.int .i64 l[i].2) := by
  induction l generalizing i with
  | nil => simp at hi
  | cons x l ih =>
    have e : Wp.turnCs (x :: l) = .int .i64 x.1 :: .int .i64 x.2 :: Wp.turnCs l := rfl
    rw [e]
    cases i with
    | zero => exact ⟨rfl, rfl⟩
    | succ i =>
      have := ih i (by simpa using hi)
      rw [show (i + 1) * 2 = i * 2 + 1 + 1 by omega]
      simpa using this
theorem Wp.turnCs_append (a b : List (Int × Int)) : Wp.turnCs (a ++ b) = Wp.turnCs a ++ Wp.turnCs b := by simp [Wp.turnCs]
/-- The slice of turns whose first cell is at p reads as l: two cells each. -/
def Wp.AtP (w : World) (p : Option Addr) (l : List (Int × Int)) : Prop :=
  l = [] ∨ ∃ b off, p = some ⟨b, off, none⟩ ∧ ∀ i (h : i < l.length), w.cell? ⟨b, off + i * 2, none⟩ = some (.int .i64 l[i].1) ∧ w.cell? ⟨b, off + i * 2 + 1, none⟩ = some (.int .i64 l[i].2)
theorem Wp.AtP.below {w w' : World} {p : Option Addr} {l : List (Int × Int)} (h : Wp.AtP w p l) (hb : Below w.heap.size w w') : Wp.AtP w' p l := by
  rcases h with h | ⟨b, off, hp, hc⟩
  · exact Or.inl h
  · exact Or.inr ⟨b, off, hp, fun i hi => ⟨(hb.cell (World.block_lt_of_cell? w _ (hc i hi).1)).trans (hc i hi).1, (hb.cell (World.block_lt_of_cell? w _ (hc i hi).2)).trans (hc i hi).2⟩⟩
theorem Wp.AtP.get {w : World} {p : Option Addr} {l : List (Int × Int)} (h : Wp.AtP w p l) (k : Nat) (hk : k < l.length) :
    ∃ b off, p = some ⟨b, off, none⟩ ∧ w.cell? ⟨b, off + k * 2, none⟩ = some (.int .i64 l[k].1) ∧ w.cell? ⟨b, off + k * 2 + 1, none⟩ = some (.int .i64 l[k].2) := by
  rcases h with h | ⟨b, off, hp, hc⟩
  · subst h; simp at hk
  · exact ⟨b, off, hp, hc k hk⟩

theorem Cv.ltAt (x y : Int × Int) : ltOf (fun x y : Int × Int => Lib.compareInt x.1 y.1) x y = decide (x.1 < y.1) := by
  unfold ltOf Lib.compareInt
  by_cases h1 : x.1 < y.1
  · simp [h1]
  · by_cases h2 : y.1 < x.1 <;> simp [h1, h2]
theorem Cv.swoAt : SWO (ltOf fun x y : Int × Int => Lib.compareInt x.1 y.1) where
  irrefl x := by rw [Cv.ltAt]; simp
  trans x y z h1 h2 := by rw [Cv.ltAt] at *; simp at *; omega
  ntrans x y z h1 h2 := by rw [Cv.ltAt] at *; simp at *; omega
set_option maxHeartbeats 1000000 in
theorem zon_closure (x y : Int × Int) (W : World) : Calls Tryd.prog 91 #[.agg #[.int .i64 x.1, .int .i64 x.2], .agg #[.int .i64 y.1, .int .i64 y.2]] W fun e w' => e = .returned (.int .i64 (Lib.compareInt x.1 y.1)) ∧ ∃ q os', w' = grow (W.drewN q) os' := by
  have hcon : ∀ W', Calls Tryd.prog 92 #[.int .i64 x.1, .int .i64 y.1] W' fun e w' => e = .returned (.int .i64 (Lib.compareInt x.1 y.1)) ∧ w' = W' := fun W' => cmp64_Compare x.1 y.1 W'
  generalize Lib.compareInt x.1 y.1 = r at hcon ⊢
  go_enter Tryd.func91, Tryd.ntmps91
  go_wp2_with fail
  refine (hcon _).mono ?_
  rintro e w' ⟨rfl, rfl⟩
  go_wp2_with fail
  go_ret
  exact ⟨rfl, 0, _, by rw [alloc_eq_grow, alloc_eq_grow, grow_grow]; rfl⟩
theorem zon_cmpLays (blk off size : Nat) (w : World) : CmpLays Tryd.prog 91 #[] Wp.turnC 2 (fun x y => Lib.compareInt x.1 y.1) blk off size w :=
  fun _ _ _ _ x y => zon_closure x y _
theorem Wp.below_sort {B : Nat} {w0 w : World} (h : Below B w0 w) (blk off n : Nat) (hb : B ≤ blk) (hblk : blk < w.heap.size) (d : Array (Int × Int)) (os : Array Obj) : Below B w0 (sortWorldK Wp.turnC 2 w blk off n d os) := by
  have hs : (putRowK Wp.turnC 2 (Sort.ahead w n) blk off d).heap.size = w.heap.size := by simp [putRowK, putRow, mapBlock, Sort.ahead]
  refine h.trans ⟨rfl, rfl, rfl, ?_, fun k hk => ?_⟩
  · show w.heap.size ≤ ((putRowK Wp.turnC 2 (Sort.ahead w n) blk off d).heap ++ os).size
    rw [Array.size_append, hs]; omega
  · unfold sortWorldK
    rw [heap_grow_old _ _ (by rw [hs]; omega)]
    show ((Sort.ahead w n).heap.modify blk _)[k]? = w.heap[k]?
    rw [Array.getElem?_modify, if_neg (by omega)]
    rfl
set_option maxHeartbeats 1000000 in
theorem zon_sort (l : List (Int × Int)) (w : World) (base : Nat) (v : Value) (hown : w.ownsRow base 102 2 v l.length (Wp.turnCs l)) (hl : 0 < l.length) (hsz : l.length ≤ 100) :
    Calls Tryd.prog 90 #[v, .func (.func 91) #[] #[]] w fun e w' => e = .returned (.tuple #[]) ∧ ∃ l' p c, l'.Perm l ∧ l'.Pairwise (fun a b => a.1 ≤ b.1) ∧ v = .slice p l'.length c ∧ Wp.AtP w' p l' ∧ Below base w w' := by
  rcases hown.2 with ⟨_, h0⟩ | ⟨g, cap, cur, rfl, hg, hc, hn, hm, hs, ht⟩
  · omega
  · have key : ∀ j v, j < l.length * 2 → (Wp.turnCs l)[j]? = some v → w.cell? ⟨g, 0 + j, none⟩ = some v ∧ w.frozen? ⟨g, 0 + j, none⟩ = false := by
      intro j v hj hv
      refine ⟨?_, by simp [World.frozen?, hc]⟩
      rw [Lib.cell_of_heap hc, Nat.zero_add, ← Array.getElem?_toList, ← List.getElem?_take_of_lt hj, ht]
      exact hv
    have hH : HoldsK Wp.turnC 2 w g 0 l.toArray := by
      intro j hj
      rw [size_flatK] at hj
      have hj2 : j < l.length * 2 := by simpa using hj
      rw [get_flatK _ _ _ _ hj]
      have hd : j / 2 < l.length := by omega
      have e1 : l.toArray[j / 2]! = l[j / 2] := by rw [getElem!_pos _ _ (by simpa using hd)]; simp
      rw [e1]
      obtain ⟨g1, g2⟩ := Wp.turnCs_get l (j / 2) hd
      rcases Nat.mod_two_eq_zero_or_one j with hm | hm
      · rw [hm]
        have ej : j = j / 2 * 2 := by omega
        have := key j _ hj2 (by rw [ej]; exact g1)
        exact this
      · rw [hm]
        have ej : j = j / 2 * 2 + 1 := by omega
        have := key j (.int .i64 l[j / 2].2) hj2 (by rw [← g2]; congr 1)
        exact this
    have hgl : g < w.heap.size := World.block_lt_of_cell? w _ (key 0 _ (by omega) (Wp.turnCs_get l 0 hl).1).1
    have hcon := Tryd.slices_SortFunc_turn Wp.turnC (fun _ => rfl) (fun x v hv => by simp [Wp.turnC] at hv; rcases hv with rfl | rfl <;> rfl) (fun x y => Lib.compareInt x.1 y.1) Cv.swoAt 91 #[] g 0 cap l.toArray w
      (enters_of Tryd.func91 (by kernel_rfl) rfl) (zon_cmpLays g 0 l.toArray.size w) hH hgl (by simp; omega)
    rw [List.size_toArray] at hcon
    refine hcon.mono ?_
    rintro e w' ⟨rfl, d', n, os, ⟨hp1, _, hp2⟩, hsr, rfl⟩
    have hdl : d'.size = l.length := by simpa using hp1
    have hperm : d'.toList.Perm l := by
      have e1 : d'.extract 0 l.length = d' := Array.extract_eq_self_of_le (by omega)
      have e2 : l.toArray.extract 0 l.length = l.toArray := Array.extract_eq_self_of_le (by simp)
      rw [e1, e2] at hp2
      simpa using hp2
    have hlen : d'.toList.length = l.length := by simpa using hdl
    refine ⟨rfl, d'.toList, some ⟨g, 0, none⟩, cap, hperm, ?_, by rw [hlen], Or.inr ⟨g, 0, rfl, ?_⟩, Wp.below_sort (Below.refl _ _) g 0 n hg hgl d' os⟩
    · refine List.pairwise_iff_getElem.2 fun i j hi hj hij => ?_
      have hi' : i < d'.size := by simpa using hi
      have hj' : j < d'.size := by simpa using hj
      have := hsr i j (Nat.zero_le _) hij (by omega)
      rw [Cv.ltAt, getElem!_pos d' j hj', getElem!_pos d' i hi'] at this
      have h2 : ¬ d'[j].1 < d'[i].1 := by simpa using this
      rw [Array.getElem_toList, Array.getElem_toList]
      omega
    · have hH2 : HoldsK Wp.turnC 2 (sortWorldK Wp.turnC 2 w g 0 n d' os) g 0 d' := by
        unfold sortWorldK
        refine holdsK_grow _ _ _ _ _ _ _ ?_ (holdsK_putRowK _ _ _ _ _ l.toArray d' (holdsK_ahead _ _ _ n _ _ _ hH) (by rw [hdl]; simp))
        simpa [putRowK, putRow, mapBlock, Sort.ahead] using hgl
      intro i hi
      have hi' : i < d'.size := by simpa using hi
      have a := (hH2.cell hi' (show 0 < 2 by omega)).1
      have b := (hH2.cell hi' (show 1 < 2 by omega)).1
      rw [getElem!_pos d' i hi'] at a b
      rw [Array.getElem_toList]
      exact ⟨a, b⟩
end Go.Proofs.YtpaleljnkejdgaaDoor
