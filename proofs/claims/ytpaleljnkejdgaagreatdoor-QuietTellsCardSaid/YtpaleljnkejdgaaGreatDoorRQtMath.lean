/-
  Plain mathematics of the document's own search of quiet hours: within a minute nothing turns; in four weeks there is a time, or none at all. No condition but those that the theorems state.
-/
import Derived.Test.YtpaleljnkejdgaaGreatDoorQtSoon
namespace Go.Proofs.YtpaleljnkejdgaaGreatDoor.Qt
open Wp

theorem T60 (z : Zn) (k : Bool) (y : Int) : z.T k y % 60 = 0 := by
  unfold Zn.T swT
  omega
theorem minute_at {z : Zn} {l : List (Int × Int)} (hz : ZnOk z) {t u : Int} (h1 : t ≤ u) (h2 : u < t + (60 - t % 60)) : at_ z l u = at_ z l t := by
  have ho : ofs z u = ofs z t := steady_none hz h1 fun _ k y _ hT => by
    have := T60 z k y
    omega
  have e : loc z u = loc z t + (u - t) := by unfold loc; rw [ho]; omega
  have hm : loc z t % 60 = t % 60 := by unfold loc; omega
  unfold at_
  have i1 : isT (loc z u) = isT (loc z t) := by
    apply Wk.bool_ext
    rw [isT_iff, isT_iff]
    omega
  have i2 : weekD (loc z u) = weekD (loc z t) := by
    unfold weekD
    rw [show (loc z u + 62135596800) / 60 = (loc z t + 62135596800) / 60 by omega]
  rw [i1, i2]
theorem within {z : Zn} {l : List (Int × Int)} {b : Bool} (hz : ZnOk z) (hl : Wk.Ok l) (hv : Wk.nextV l b ≠ []) {t f : Int} (_h1 : -62135596800 ≤ t) (_h2 : f ≤ 253402300800) (hb : ∀ u, t ≤ u → u < f → at_ z l u = !b) : f - t ≤ 1400000 := by
  have gs := Wk.gaps_sum (f := 0) (l := l) hl.2 (by omega)
  have s1 := Wk.sum_bd hl.2 (by omega) (by omega)
  have gc : Wk.Ch (-1) (Wk.gaps 0 l) := Wk.gaps_ch (f := 0) hl.2
  have g1 := Wk.sum_bd gc (by omega) (by omega)
  cases b with
  | false =>
    have hS : Wk.sum l < 10080 := by
      by_cases e : Wk.sum l = 10080
      · exact absurd (Wk.sum_zero gc (by omega) (by omega)) hv
      · omega
    have := soon hz hl.2 hS (t := t) (f := f) hb
    omega
  | true =>
    have hS : Wk.sum (Wk.gaps 0 l) < 10080 := by
      by_cases e : Wk.sum l = 0
      · exact absurd (Wk.sum_zero hl.2 (by omega) e) hv
      · omega
    have := soon (z := z) (l := Wk.gaps 0 l) hz gc hS (t := max t (-62135596800 + 66000)) (f := min f (253402300800 - 66000)) (fun u h3 h4 => by
      have ho := ofs_bd hz u
      have hi : isT (loc z u) = true := isT_iff.2 (by unfold loc; omega)
      have h5 := hb u (by omega) (by omega)
      unfold at_ at h5 ⊢
      have hw := weekD_bd (loc z u)
      rw [hi, Bool.true_and] at h5 ⊢
      rw [Wk.gaps_has (f := 0) hl.2, h5, decide_eq_true hw.1, decide_eq_true hw.2]
      rfl)
    omega
/-- What the loop has come to at its i-th minute. -/
structure RQ (z : Zn) (l : List (Int × Int)) (b : Bool) (t : Int) (i : Nat) (s n un : Int) : Prop where
  a1 : t ≤ s
  a2 : s ≤ 253402300800
  a3 : 60 * (i : Int) - 60 ≤ s - t
  a4 : i = 0 ∨ s % 60 = 0
  no : ∀ u, t ≤ u → u < s → at_ z l u = !b
  of : ∀ u, s ≤ u → u < un → ofs z u = n
theorem RQ.start {z : Zn} {l : List (Int × Int)} {b : Bool} {t : Int} (ht : isT t = true) : RQ z l b t 0 t 0 t := by
  have := isT_iff.1 ht
  exact ⟨by omega, by omega, by omega, Or.inl rfl, fun u h1 h2 => by omega, fun u h1 h2 => by omega⟩
theorem RQ.on {z : Zn} {l : List (Int × Int)} {b : Bool} {t : Int} {i : Nat} {s n un : Int} (hz : ZnOk z) (h : RQ z l b t i s n un) (hs : isT s = true) (ha : at_ z l s = !b) : RQ z l b t (i + 1) (s + (60 - s % 60)) n un := by
  have h2 := isT_iff.1 hs
  refine ⟨by have := h.a1; omega, by omega, by have := h.a3; have := h.a4; have := h.a1; omega, Or.inr (by omega), fun u h3 h4 => ?_, fun u h3 h4 => h.of u (by omega) h4⟩
  by_cases h5 : u < s
  · exact h.no u h3 h5
  · rw [minute_at hz (by omega) h4, ha]
theorem RQ.few {z : Zn} {l : List (Int × Int)} {b : Bool} {t : Int} {i : Nat} {s n un : Int} (hz : ZnOk z) (hl : Wk.Ok l) (hv : Wk.nextV l b ≠ []) (ht : isT t = true) (h : RQ z l b t i s n un) : i < 40320 := by
  have := within hz hl hv (isT_iff.1 ht).1 h.a2 h.no
  have := h.a3
  omega
theorem RQ.hit {z : Zn} {l : List (Int × Int)} {b : Bool} {t : Int} {i : Nat} {s n un : Int} (hl : chk2 z l t = 0) (hv : Wk.nextV l b ≠ []) (h : RQ z l b t i s n un) (hs : isT s = true) (ha : at_ z l s = b) : SrQ z l t b s 0 :=
  Or.inr (Or.inr ⟨hl, hv, Or.inl ⟨rfl, h.a1, (isT_iff.1 hs).2, ha, h.no⟩⟩)
theorem RQ.out {z : Zn} {l : List (Int × Int)} {b : Bool} {t : Int} {i : Nat} {s n un : Int} (hl : chk2 z l t = 0) (hv : Wk.nextV l b ≠ []) (h : RQ z l b t i s n un) (ht : isT t = true) (hs : isT s = false) : SrQ z l t b 0 3 := by
  have h1 := isT_iff.1 ht
  have h2 : ¬ (-62135596800 ≤ s ∧ s ≤ 253402300799) := fun q => by rw [isT_iff.2 q] at hs; cases hs
  exact Or.inr (Or.inr ⟨hl, hv, Or.inr ⟨rfl, rfl, fun u h3 h4 => h.no u h3 (by have := h.a1; omega)⟩⟩)
theorem none_iff {l : List (Int × Int)} (hl : Wk.Ok l) (b : Bool) : Wk.nextV l b = [] ↔ (b = true ∧ Wk.sum l = 0) ∨ (b = false ∧ Wk.sum l = 10080) := by
  have gs := Wk.gaps_sum (f := 0) (l := l) hl.2 (by omega)
  have gc : Wk.Ch (-1) (Wk.gaps 0 l) := Wk.gaps_ch (f := 0) hl.2
  cases b with
  | true =>
    constructor
    · intro h
      have e : l = [] := h
      exact Or.inl ⟨rfl, by rw [e]; rfl⟩
    · rintro (⟨_, h⟩ | ⟨h, _⟩)
      · exact Wk.sum_zero hl.2 (by omega) h
      · cases h
  | false =>
    constructor
    · intro h
      have e : Wk.gaps 0 l = [] := h
      rw [e] at gs
      exact Or.inr ⟨rfl, by simp [Wk.sum] at gs; omega⟩
    · rintro (⟨h, _⟩ | ⟨_, h⟩)
      · cases h
      · show Wk.gaps 0 l = []
        exact Wk.sum_zero gc (by omega) (by omega)
end Go.Proofs.YtpaleljnkejdgaaGreatDoor.Qt
