/-
  Plain mathematics of quiet hours: when it is quiet; up to the clocks' next change the minutes of the week go on by one; the first time that is quiet, or is not. No condition but those that the theorems state.
-/
import Derived.Test.YtpaleljnkejdgaaGreatDoorZonSteadyMath
import Derived.Test.YtpaleljnkejdgaaGreatDoorWkNext
namespace Go.Proofs.YtpaleljnkejdgaaGreatDoor.Qt
open Wp

theorem NoNext.steady {z : Zn} (hz : ZnOk z) (hs : z.save ≠ 0) {t u : Int} (h : NoNext z t) (h1 : t ≤ u) : ofs z u = ofs z t := by
  have key : ∀ k' y', z.V k' y' = true → z.T k' y' ≤ t := fun k' y' hv => by have := h k' y' hv; omega
  have up : ∀ o, Off z t o → Off z u o := fun o ho => by
    rcases ho with ⟨k', y', p, q, r, s⟩ | ⟨p, q⟩
    · exact Or.inl ⟨k', y', p, by omega, r, fun k2 y2 hv _ => s k2 y2 hv (key k2 y2 hv)⟩
    · exact Or.inr ⟨fun k2 y2 hv _ => p k2 y2 hv (key k2 y2 hv), q⟩
  have dn : ∀ o, Off z u o → Off z t o := fun o ho => by
    rcases ho with ⟨k', y', p, q, r, s⟩ | ⟨p, q⟩
    · exact Or.inl ⟨k', y', p, key k' y' p, r, fun k2 y2 hv hl => s k2 y2 hv (by omega)⟩
    · exact Or.inr ⟨fun k2 y2 hv hl => p k2 y2 hv (by omega), q⟩
  by_cases e : ∃ o, Off z t o
  · obtain ⟨o, ho⟩ := e
    rw [← ofs_eq hz hs ho, ← ofs_eq hz hs (up o ho)]
  · unfold ofs
    rw [dif_neg (fun q => e (q.2.imp dn)), dif_neg (fun q => e q.2)]

/-- The local time, and whether it is quiet. -/
noncomputable def loc (z : Zn) (t : Int) : Int := t + ofs z t * 60
noncomputable def at_ (z : Zn) (l : List (Int × Int)) (t : Int) : Bool := isT (loc z t) && Wk.has l (weekD (loc z t))
theorem weekD_bd (t : Int) : 0 ≤ weekD t ∧ weekD t < 10080 := by unfold weekD; omega
/-- Up to a time the clocks go on as they do, and tell moments as they do. -/
def End (z : Zn) (t e : Int) : Prop := t < e ∧ e ≤ 253402300800 ∧ ∀ u, t ≤ u → u < e → ofs z u = ofs z t ∧ isT (loc z u) = isT (loc z t)
def stV (nx t o : Int) : Int :=
  let e1 := if t < -62135596800 - o * 60 then min nx (-62135596800 - o * 60) else nx
  if t < 253402300800 - o * 60 then min e1 (253402300800 - o * 60) else e1
theorem isT_iff {t : Int} : isT t = true ↔ -62135596800 ≤ t ∧ t ≤ 253402300799 := by unfold isT; simp
theorem end_of {z : Zn} {t nx : Int} (h1 : t < nx) (h2 : nx ≤ 253402300800) (h3 : ∀ u, t ≤ u → u < nx → ofs z u = ofs z t) : End z t (stV nx t (ofs z t)) := by
  have hb : t < stV nx t (ofs z t) ∧ stV nx t (ofs z t) ≤ nx ∧ (t < -62135596800 - ofs z t * 60 → stV nx t (ofs z t) ≤ -62135596800 - ofs z t * 60) ∧ (t < 253402300800 - ofs z t * 60 → stV nx t (ofs z t) ≤ 253402300800 - ofs z t * 60) := by
    unfold stV
    simp only []
    split <;> split <;> omega
  obtain ⟨b1, b2, b3, b4⟩ := hb
  refine ⟨b1, by omega, fun u hu1 hu2 => ?_⟩
  have ho := h3 u hu1 (by omega)
  refine ⟨ho, ?_⟩
  apply Wk.bool_ext
  rw [isT_iff, isT_iff]
  unfold loc
  rw [ho]
  omega
/-- What the first time is, if the clocks go on as they do. -/
noncomputable def firV (z : Zn) (l : List (Int × Int)) (t : Int) (b : Bool) : Int :=
  if isT (loc z t) = true then (if Wk.nextN l (weekD (loc z t)) b = 0 then t else t - (t + 62135596800) % 60 + Wk.nextN l (weekD (loc z t)) b * 60) else if b = true then 253402300800 else t
theorem first_spec {z : Zn} {l : List (Int × Int)} {t e : Int} {b : Bool} (hl : Wk.Ok l) (hv : Wk.nextV l b ≠ []) (_ht : -62135596800 ≤ t) (he : End z t e) :
    (firV z l t b < e → t ≤ firV z l t b ∧ at_ z l (firV z l t b) = b ∧ ∀ u, t ≤ u → u < firV z l t b → at_ z l u = !b) ∧
    (¬ firV z l t b < e → ∀ u, t ≤ u → u < e → at_ z l u = !b) := by
  obtain ⟨e1, e2, e3⟩ := he
  unfold firV
  by_cases hok : isT (loc z t) = true
  · rw [if_pos hok]
    have hk := weekD_bd (loc z t)
    obtain ⟨s1, s2, s3, s4⟩ := Wk.nx_spec (Wk.nextV_ch hl.2 b) hv hk.1 hk.2
    have hN : Wk.nextN l (weekD (loc z t)) b = Wk.nx (Wk.nextV l b) (weekD (loc z t)) := by
      unfold Wk.nextN
      rw [if_pos (Wk.chk2_mk hl hk), if_neg hv]
    rw [hN]
    -- a time in between is so many minutes on
    have step : ∀ u, t ≤ u → u < e → at_ z l u = (Wk.has (Wk.nextV l b) ((weekD (loc z t) + ((u + 62135596800) / 60 - (t + 62135596800) / 60)) % 10080) == b) := fun u h1 h2 => by
      obtain ⟨f1, f2⟩ := e3 u h1 h2
      have hw : weekD (loc z u) = (weekD (loc z t) + ((u + 62135596800) / 60 - (t + 62135596800) / 60)) % 10080 := by
        unfold weekD loc
        rw [f1]
        omega
      rw [← hw, Wk.nextV_has hl b (weekD_bd _)]
      unfold at_
      rw [f2, hok, Bool.true_and]
      cases b <;> cases Wk.has l (weekD (loc z u)) <;> rfl
    have no : ∀ u, t ≤ u → u < e → (u + 62135596800) / 60 - (t + 62135596800) / 60 < Wk.nx (Wk.nextV l b) (weekD (loc z t)) → at_ z l u = !b := fun u h1 h2 h3 => by
      rw [step u h1 h2, s4 _ (by omega) h3]
      cases b <;> rfl
    by_cases h0 : Wk.nx (Wk.nextV l b) (weekD (loc z t)) = 0
    · rw [if_pos h0]
      rw [h0] at s3
      refine ⟨fun _ => ⟨Int.le_refl _, ?_, fun u h1 h2 => by omega⟩, fun h => absurd e1 h⟩
      rw [step t (Int.le_refl _) e1, show (t + 62135596800) / 60 - (t + 62135596800) / 60 = 0 by omega, s3]
      cases b <;> rfl
    · rw [if_neg h0]
      refine ⟨fun h => ⟨by omega, ?_, fun u h1 h2 => no u h1 (by omega) (by omega)⟩, fun h u h1 h2 => no u h1 h2 (by omega)⟩
      rw [step _ (by omega) h, show (t - (t + 62135596800) % 60 + Wk.nx (Wk.nextV l b) (weekD (loc z t)) * 60 + 62135596800) / 60 - (t + 62135596800) / 60 = Wk.nx (Wk.nextV l b) (weekD (loc z t)) by omega, s3]
      cases b <;> rfl
  · rw [if_neg hok]
    have hf : isT (loc z t) = false := by simpa using hok
    have none : ∀ u, t ≤ u → u < e → at_ z l u = false := fun u h1 h2 => by
      unfold at_
      rw [(e3 u h1 h2).2, hf]
      rfl
    cases b with
    | true =>
      rw [if_pos rfl]
      exact ⟨fun h => by omega, fun _ u h1 h2 => none u h1 h2⟩
    | false =>
      rw [if_neg (by simp)]
      exact ⟨fun h => ⟨Int.le_refl _, none t (Int.le_refl _) e1, fun u h1 h2 => by omega⟩, fun h => absurd e1 h⟩
/-- What a search tells: the first time, or none. -/
def Sr (z : Zn) (l : List (Int × Int)) (t : Int) (b : Bool) (r c : Int) : Prop :=
  (c = 0 ∧ t ≤ r ∧ r ≤ 253402300799 ∧ at_ z l r = b ∧ ∀ u, t ≤ u → u < r → at_ z l u = !b) ∨ (c = 3 ∧ r = 0 ∧ ∀ u, t ≤ u → u ≤ 253402300799 → at_ z l u = !b)
theorem Sr.one {z : Zn} {l : List (Int × Int)} {t : Int} {b : Bool} {r c r' c' : Int} (h : Sr z l t b r c) (h' : Sr z l t b r' c') : r = r' ∧ c = c' := by
  rcases h with ⟨a1, a2, a3, a4, a5⟩ | ⟨a1, a2, a3⟩ <;> rcases h' with ⟨b1, b2, b3, b4, b5⟩ | ⟨b1, b2, b3⟩
  · refine ⟨?_, by omega⟩
    rcases Int.lt_trichotomy r r' with h | h | h
    · have := b5 r a2 h; rw [a4] at this; cases b <;> cases this
    · exact h
    · have := a5 r' b2 h; rw [b4] at this; cases b <;> cases this
  · have := b3 r a2 a3; rw [a4] at this; cases b <;> cases this
  · have := a3 r' b2 b3; rw [b4] at this; cases b <;> cases this
  · omega
end Go.Proofs.YtpaleljnkejdgaaGreatDoor.Qt
