/-
  slices.Compact at two ints of the call's own: the one where they are alike, else both. No condition.
-/
import Derived.Test.YtpaleljnkejdgaaDoorZonLocal
namespace Go.Proofs.YtpaleljnkejdgaaDoor
open Go.RowKit Go.Lib Go.Sort

def Cv.two (a b : Int) : List Int := if a = b then [a] else [a, b]
theorem Cv.compact_two (a b : Int) : Lib.compact [a, b] = Cv.two a b := by
  unfold Cv.two
  have k0 : Lib.keeps #[a, b] 0 = true := by simp [Lib.keeps]
  show Lib.compactUpTo #[a, b] 2 = _
  rw [Lib.compactUpTo_succ, Lib.compactUpTo_succ, if_pos k0]
  by_cases h : a = b
  · have k1 : Lib.keeps #[a, b] 1 = false := by simp [Lib.keeps, h]
    rw [if_pos h, if_neg (by rw [k1]; simp)]
    rfl
  · have k1 : Lib.keeps #[a, b] 1 = true := by simp [Lib.keeps]; exact fun e => h e.symm
    rw [if_neg h, if_pos k1]
    rfl
theorem zon_compact (a b : Int) (g : Nat) (T : TypeId) (w : World) (hh : w.heap[g]? = some (.cells #[.int .i64 a, .int .i64 b] T (0, 0))) :
    Calls Tryd.prog 97 #[.slice (some ⟨g, 0, none⟩) 2 2] w fun e w' => e = .returned (.slice (some ⟨g, 0, none⟩) (Cv.two a b).length 2) ∧ (∀ i (h : i < (Cv.two a b).length), w'.cell? ⟨g, i, none⟩ = some (.int .i64 (Cv.two a b)[i])) ∧ RowKit.Below g w w' := by
  have hH : Holds (Value.int .i64) w g 0 [a, b].toArray := by
    intro j hj
    have hj2 : j < 2 := by simpa using hj
    refine ⟨?_, by simp [World.frozen?, hh]⟩
    rw [Lib.cell_of_heap hh, Nat.zero_add]
    match j, hj2 with
    | 0, _ => rfl
    | 1, _ => rfl
  have h := Tryd.slices_Compact_int g 0 2 [a, b] w hH (by simp) (by simp)
  rw [Cv.compact_two] at h
  refine h.mono ?_
  rintro e w' ⟨rfl, q, rfl⟩
  have hl : (Cv.two a b).length ≤ 2 := by unfold Cv.two; split <;> simp
  refine ⟨rfl, fun i hi => ?_, ⟨rfl, rfl, rfl, ?_, fun k hk => ?_⟩⟩
  · have h2 := holds_putRow (Value.int .i64) (Sort.ahead w q) g 0 [a, b].toArray (Cv.two a b ++ List.replicate ([a, b].length - (Cv.two a b).length) 0).toArray hH (by simp; omega)
    have h3 := (h2 i (by simp; omega)).1
    rw [Nat.zero_add] at h3
    rw [h3, getElem!_pos _ _ (by simp; omega)]
    simp [List.getElem_append_left hi]
  · simp [putRow, mapBlock, Sort.ahead]
  · show ((Sort.ahead w q).heap.modify g _)[k]? = w.heap[k]?
    rw [Array.getElem?_modify, if_neg (by omega)]
    rfl
end Go.Proofs.YtpaleljnkejdgaaDoor
