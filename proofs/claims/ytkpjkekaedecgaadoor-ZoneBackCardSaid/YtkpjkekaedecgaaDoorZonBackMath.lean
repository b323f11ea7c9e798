/-
  Plain mathematics: the times of a moment: at most two, rising, each with that moment; that of a time's own moment are its own too. No condition but those that the theorems state.
-/
import Derived.Test.YtkpjkekaedecgaaDoorZonTimesAll
namespace Go.Proofs.YtkpjkekaedecgaaDoor

theorem Wp.timeOne_mem {z : Wp.Zn} {u m x : Int} (h : x ∈ Wp.timeOne z u m) : x = u - m * 60 ∧ Wp.isT x = true ∧ Wp.ofs z x = m := by
  unfold Wp.timeOne at h
  split at h
  · next q =>
    obtain rfl : x = u - m * 60 := by simpa using h
    exact ⟨rfl, q.1, q.2⟩
  · cases h
theorem Wp.timesL_mem {z : Wp.Zn} {u x : Int} (h : x ∈ Wp.timesL z u) : Wp.isT x = true ∧ x + Wp.ofs z x * 60 = u := by
  unfold Wp.timesL at h
  obtain ⟨m, _, hx⟩ := List.mem_flatMap.1 h
  obtain ⟨h1, h2, h3⟩ := Wp.timeOne_mem hx
  exact ⟨h2, by rw [h3]; omega⟩
theorem Wp.timesL_two {z : Wp.Zn} (hs : 0 ≤ z.save) (u : Int) : (Wp.timesL z u).length ≤ 2 ∧ ∀ i (hi : i + 1 < (Wp.timesL z u).length), (Wp.timesL z u)[i]'(by omega) < (Wp.timesL z u)[i + 1] := by
  have key : ∀ l, Wp.timesL z u = l → l.length ≤ 2 ∧ ∀ i (hi : i + 1 < l.length), l[i]'(by omega) < l[i + 1] := by
    intro l hl
    unfold Wp.timesL Cv.two at hl
    split at hl
    · simp only [List.flatMap_cons, List.flatMap_nil, List.append_nil] at hl
      have h1 := Wp.timeOne_len z u (z.base + z.save)
      rw [hl] at h1
      exact ⟨by omega, fun i hi => by omega⟩
    · next hne =>
      simp only [List.flatMap_cons, List.flatMap_nil, List.append_nil] at hl
      have h1 := Wp.timeOne_len z u (z.base + z.save)
      have h2 := Wp.timeOne_len z u z.base
      have m1 := fun x => Wp.timeOne_mem (z := z) (u := u) (m := z.base + z.save) (x := x)
      have m2 := fun x => Wp.timeOne_mem (z := z) (u := u) (m := z.base) (x := x)
      generalize Wp.timeOne z u (z.base + z.save) = A at *
      generalize Wp.timeOne z u z.base = B at *
      subst hl
      refine ⟨by rw [List.length_append]; omega, fun i hi => ?_⟩
      match A, B, h1, h2 with
      | [], [], _, _ => simp at hi
      | [], [b], _, _ => simp at hi
      | [a], [], _, _ => simp at hi
      | [a], [b], _, _ =>
        obtain rfl : i = 0 := by simp at hi; omega
        have e1 := (m1 a (by simp)).1
        have e2 := (m2 b (by simp)).1
        show a < b
        have : z.save ≠ 0 := fun q => hne (by simp [q])
        omega
      | _ :: _ :: _, _, h1, _ => simp at h1
      | _, _ :: _ :: _, _, h2 => simp at h2
  exact key _ rfl
theorem Wp.timesL_own {z : Wp.Zn} {t : Int} (ht : Wp.isT t = true) : t ∈ Wp.timesL z (t + Wp.ofs z t * 60) := by
  unfold Wp.timesL
  refine List.mem_flatMap.2 ⟨Wp.ofs z t, ?_, ?_⟩
  · unfold Cv.two
    rcases Wp.ofs_two z t with h | h
    · rw [h]; split
      · next q => have : z.base + z.save = z.base := by simpa using q
                  rw [this]; simp
      · simp
    · rw [h]; split <;> simp
  · unfold Wp.timeOne
    have e : t + Wp.ofs z t * 60 - Wp.ofs z t * 60 = t := by omega
    rw [e, if_pos ⟨ht, rfl⟩]
    simp
end Go.Proofs.YtkpjkekaedecgaaDoor
