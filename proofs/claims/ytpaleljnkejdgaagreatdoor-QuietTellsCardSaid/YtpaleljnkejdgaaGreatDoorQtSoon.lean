/-
  Plain mathematics: it is free no further away than twice a week's quiet minutes: switches are four weeks apart, so at most one comes in a stretch of quiet; while the clocks go on by one, a stretch is no longer than the week's minutes. No condition but those that the theorems state.
-/
import Derived.Test.YtpaleljnkejdgaaGreatDoorQtAsk
namespace Go.Proofs.YtpaleljnkejdgaaGreatDoor.Qt
open Wp

theorem steady_none {z : Zn} (hz : ZnOk z) {a u : Int} (h1 : a ≤ u) (h : z.save ≠ 0 → ∀ k y, z.V k y = true → z.T k y ≤ u → z.T k y ≤ a) : ofs z u = ofs z a := by
  by_cases hs : z.save = 0
  · rw [ofs_plain hs, ofs_plain hs]
  · have key := h hs
    have up : ∀ o, Off z a o → Off z u o := fun o ho => by
      rcases ho with ⟨k', y', p, q, r, s⟩ | ⟨p, q⟩
      · exact Or.inl ⟨k', y', p, by omega, r, fun k2 y2 hv hl => s k2 y2 hv (key k2 y2 hv hl)⟩
      · exact Or.inr ⟨fun k2 y2 hv hl => p k2 y2 hv (key k2 y2 hv hl), q⟩
    have dn : ∀ o, Off z u o → Off z a o := fun o ho => by
      rcases ho with ⟨k', y', p, q, r, s⟩ | ⟨p, q⟩
      · exact Or.inl ⟨k', y', p, key k' y' p q, r, fun k2 y2 hv hl => s k2 y2 hv (by omega)⟩
      · exact Or.inr ⟨fun k2 y2 hv hl => p k2 y2 hv (by omega), q⟩
    by_cases e : ∃ o, Off z a o
    · obtain ⟨o, ho⟩ := e
      rw [← ofs_eq hz hs ho, ← ofs_eq hz hs (up o ho)]
    · unfold ofs
      rw [dif_neg (fun q => e (q.2.imp dn)), dif_neg (fun q => e q.2)]
theorem gap {z : Zn} (hz : ZnOk z) (hs : z.save ≠ 0) {k k' : Bool} {y y' : Int} (h : z.T k y < z.T k' y') : z.T k y + 2000000 ≤ z.T k' y' := by
  have same : ∀ k, z.T k y < z.T k y' → z.T k y + 2000000 ≤ z.T k y' := fun k e => by
    rcases Int.lt_trichotomy y y' with c | c | c
    · exact hz.far hs (k := k) (k' := k) (y := y) (y' := y') (by omega)
    · subst c; omega
    · have := hz.far hs (k := k) (k' := k) (y := y') (y' := y) (by omega); omega
  cases k <;> cases k'
  · exact same _ h
  · rcases hz.months hs y y' with c | c
    · exact hz.far hs (k := false) (k' := true) (y := y) (y' := y') c
    · have := hz.far hs (k := true) (k' := false) (y := y') (y' := y) c; omega
  · rcases hz.months hs y' y with c | c
    · have := hz.far hs (k := false) (k' := true) (y := y') (y' := y) c; omega
    · exact hz.far hs (k := true) (k' := false) (y := y) (y' := y') c
  · exact same _ h
/-- How many of the first minutes are had. -/
def cnt (f : Int → Bool) : Nat → Int
  | 0 => 0
  | k + 1 => cnt f k + if f (k : Int) = true then 1 else 0
def upTo : List (Int × Int) → Int → Int
  | [], _ => 0
  | r :: l, i => (if i ≤ r.1 then 0 else if i ≤ r.2 then i - r.1 else r.2 - r.1) + upTo l i
theorem upTo_succ {a : Int} {l : List (Int × Int)} (h : Wk.Ch a l) (i : Int) : upTo l (i + 1) = upTo l i + if Wk.has l i = true then 1 else 0 := by
  induction l generalizing a with
  | nil => simp [upTo, Wk.has_nil]
  | cons r l ih =>
    obtain ⟨h1, h2, h3, h4⟩ := h
    rw [upTo, upTo, ih h4, Wk.has_cons]
    by_cases hr : r.1 ≤ i ∧ i < r.2
    · rw [h4.below (show i ≤ r.2 by omega), show Wk.inR r i = true from Wk.inR_iff.2 hr]
      simp
      split <;> split <;> (try split) <;> (try split) <;> omega
    · rw [show Wk.inR r i = false from Bool.eq_false_iff.2 fun e => hr (Wk.inR_iff.1 e), Bool.false_or]
      split <;> split <;> (try split) <;> (try split) <;> omega
theorem upTo_zero {a : Int} {l : List (Int × Int)} (h : Wk.Ch a l) (ha : -1 ≤ a) : upTo l 0 = 0 := by
  induction l generalizing a with
  | nil => rfl
  | cons r l ih =>
    obtain ⟨h1, h2, h3, h4⟩ := h
    rw [upTo, ih h4 (by omega), if_pos (by omega)]; rfl
theorem upTo_all {a : Int} {l : List (Int × Int)} (h : Wk.Ch a l) : upTo l 10080 = Wk.sum l := by
  induction l generalizing a with
  | nil => rfl
  | cons r l ih =>
    obtain ⟨h1, h2, h3, h4⟩ := h
    rw [upTo, ih h4, Wk.sum, if_neg (by omega)]
    split <;> omega
theorem cnt_sum {l : List (Int × Int)} (h : Wk.Ch (-1) l) {N : Nat} (hN : (N : Int) = 10080) : cnt (Wk.has l) N = Wk.sum l := by
  have hk : ∀ k : Nat, cnt (Wk.has l) k = upTo l (k : Int) := fun k => by
    induction k with
    | zero =>
      have e : ((0 : Nat) : Int) = 0 := rfl
      rw [e, upTo_zero h (by omega)]; rfl
    | succ k ih => rw [cnt, ih, show ((k + 1 : Nat) : Int) = (k : Int) + 1 by omega, upTo_succ h]
  rw [hk, hN]
  exact upTo_all h
theorem cnt_mono {f g : Int → Bool} (N : Nat) (h : ∀ m : Int, 0 ≤ m → m < N → f m = true → g m = true) : cnt f N ≤ cnt g N := by
  induction N with
  | zero => exact Int.le_refl _
  | succ N ih =>
    have i := ih fun m h1 h2 => h m h1 (by omega)
    have e := h (N : Int) (by omega) (by omega)
    rw [cnt, cnt]
    by_cases hf : f (N : Int) = true
    · rw [if_pos hf, if_pos (e hf)]; omega
    · rw [if_neg hf]; split <;> omega
theorem cnt_in (q r : Int) (h0 : 0 ≤ q) (h1 : q ≤ r) (k : Nat) : cnt (fun m => decide (q ≤ m ∧ m < r)) k = if (k : Int) ≤ q then 0 else if (k : Int) ≤ r then (k : Int) - q else r - q := by
  induction k with
  | zero => rw [cnt, if_pos (by omega)]
  | succ k ih =>
    rw [cnt, ih]
    simp only [decide_eq_true_eq]
    split <;> split <;> (try split) <;> (try split) <;> omega
theorem cnt_out (q r : Int) (h0 : 0 ≤ q) (h1 : q ≤ r) (k : Nat) : cnt (fun m => decide (m < q ∨ r ≤ m)) k = if (k : Int) ≤ q then (k : Int) else if (k : Int) ≤ r then q else q + k - r := by
  induction k with
  | zero => rw [cnt, if_pos (by omega)]; rfl
  | succ k ih =>
    rw [cnt, ih]
    simp only [decide_eq_true_eq]
    split <;> split <;> (try split) <;> (try split) <;> omega
theorem run {l : List (Int × Int)} (hl : Wk.Ch (-1) l) (hS : Wk.sum l < 10080) {k : Int} (k0 : 0 ≤ k) (k1 : k < 10080) : ¬ ∀ j, 0 ≤ j → j ≤ Wk.sum l → Wk.has l ((k + j) % 10080) = true := by
  intro h
  have s0 := (Wk.sum_bd hl (by omega) (by omega)).1
  obtain ⟨N, hN⟩ : ∃ N : Nat, (N : Int) = 10080 := ⟨10080, rfl⟩
  have hc := cnt_sum hl hN
  generalize Wk.sum l = S at *
  by_cases hw : k + S < 10080
  · have hm := cnt_mono (f := fun m => decide (k ≤ m ∧ m < k + S + 1)) (g := Wk.has l) N fun m a1 a2 a3 => by
      simp only [decide_eq_true_eq] at a3
      have := h (m - k) (by omega) (by omega)
      rwa [show (k + (m - k)) % 10080 = m by omega] at this
    rw [cnt_in k (k + S + 1) k0 (by omega) N, hc, hN, if_neg (by omega)] at hm
    split at hm <;> omega
  · have hm := cnt_mono (f := fun m => decide (m < k + S + 1 - 10080 ∨ k ≤ m)) (g := Wk.has l) N fun m a1 a2 a3 => by
      simp only [decide_eq_true_eq] at a3
      by_cases hm : k ≤ m
      · have := h (m - k) (by omega) (by omega)
        rwa [show (k + (m - k)) % 10080 = m by omega] at this
      · have := h (m + 10080 - k) (by omega) (by omega)
        rwa [show (k + (m + 10080 - k)) % 10080 = m by omega] at this
    rw [cnt_out (k + S + 1 - 10080) k (by omega) (by omega) N, hc, hN, if_neg (by omega), if_neg (by omega)] at hm
    omega
/-- While the clocks go on, it is quiet no longer than the week's minutes. -/
theorem seg {z : Zn} {l : List (Int × Int)} (hl : Wk.Ch (-1) l) (hS : Wk.sum l < 10080) {a b : Int} (hc : ∀ u, a ≤ u → u < b → ofs z u = ofs z a) (hb : ∀ u, a ≤ u → u < b → at_ z l u = true) : b - a ≤ Wk.sum l * 60 := by
  by_cases hn : b - a ≤ Wk.sum l * 60
  · exact hn
  · refine absurd (fun j j0 j1 => ?_) (run hl hS (weekD_bd (loc z a)).1 (weekD_bd (loc z a)).2)
    have h1 := hb (a + j * 60) (by omega) (by omega)
    have h2 := hc (a + j * 60) (by omega) (by omega)
    unfold at_ at h1
    rw [Bool.and_eq_true] at h1
    have h3 := h1.2
    rwa [show weekD (loc z (a + j * 60)) = (weekD (loc z a) + j) % 10080 by
      unfold weekD loc
      rw [h2]
      omega] at h3
theorem soon {z : Zn} {l : List (Int × Int)} (hz : ZnOk z) (hl : Wk.Ch (-1) l) (hS : Wk.sum l < 10080) {t f : Int} (hb : ∀ u, t ≤ u → u < f → at_ z l u = true) : f - t ≤ 2 * Wk.sum l * 60 := by
  have s0 := (Wk.sum_bd hl (by omega) (by omega)).1
  by_cases hs : z.save = 0
  · have := seg hl hS (a := t) (b := f) (fun u h1 h2 => by rw [ofs_plain hs, ofs_plain hs]) hb
    omega
  · have lone : ∀ k y, t ≤ z.T k y → z.T k y + 604800 ≤ f → False := fun k y h1 h2 => by
      have := seg (z := z) hl hS (a := z.T k y) (b := z.T k y + 604800) (fun u a1 a2 => steady_none hz a1 fun _ k' y' _ c => by
        by_cases q : z.T k' y' ≤ z.T k y
        · exact q
        · have := gap hz hs (k := k) (y := y) (k' := k') (y' := y') (by omega)
          omega) (fun u a1 a2 => hb u (by omega) (by omega))
      omega
    by_cases hx : ∃ k y, z.V k y = true ∧ t < z.T k y ∧ z.T k y < f
    · obtain ⟨k, y, hv, h1, h2⟩ := hx
      have one : ∀ k' y', t < z.T k' y' → z.T k' y' < f → z.T k' y' = z.T k y := fun k' y' a1 a2 => by
        rcases Int.lt_trichotomy (z.T k' y') (z.T k y) with c | c | c
        · have := gap hz hs c
          exact (lone k' y' (by omega) (by omega)).elim
        · exact c
        · have := gap hz hs c
          exact (lone k y (by omega) (by omega)).elim
      have p1 := seg (z := z) hl hS (a := t) (b := z.T k y) (fun u a1 a2 => steady_none hz a1 fun _ k' y' _ c => by
        by_cases q : z.T k' y' ≤ t
        · exact q
        · have := one k' y' (by omega) (by omega)
          omega) (fun u a1 a2 => hb u a1 (by omega))
      have p2 := seg (z := z) hl hS (a := z.T k y) (b := f) (fun u a1 a2 => steady_none hz a1 fun _ k' y' _ c => by
        by_cases q : z.T k' y' ≤ z.T k y
        · exact q
        · have := one k' y' (by omega) (by omega)
          omega) (fun u a1 a2 => hb u (by omega) a2)
      omega
    · have p := seg (z := z) hl hS (a := t) (b := f) (fun u a1 a2 => steady_none hz a1 fun _ k' y' hv c => by
        by_cases q : z.T k' y' ≤ t
        · exact q
        · exact absurd ⟨k', y', hv, by omega, by omega⟩ hx) hb
      omega
/-- What the law asks of what Free and Longest tell. -/
theorem SrQ.soon {z : Zn} {l : List (Int × Int)} {t f c : Int} (h : SrQ z l t false f c) (hc : c = 0) : lonC z l = 0 ∧ -62135596800 ≤ t ∧ t ≤ f ∧ f ≤ 253402300799 ∧ f - t ≤ lonN z l := by
  subst hc
  rcases h with ⟨h1, _, h2⟩ | ⟨_, _, _, h⟩ | ⟨h0, hv, h⟩
  · exact absurd h2.symm h1
  · cases h
  · obtain ⟨hz, ho, ht⟩ := chk2_ok h0
    obtain ⟨t1, t2⟩ := isT_iff.1 ht
    have hS : Wk.sum l ≠ 10080 := fun e => hv (by
      have g := Wk.gaps_sum (f := 0) (l := l) ho.2 (by omega)
      rw [show Wk.nextV l false = Wk.gaps 0 l from rfl]
      exact Wk.sum_zero (Wk.gaps_ch (f := 0) ho.2) (by omega) (by omega))
    have s1 := (Wk.sum_bd ho.2 (by omega) (by omega)).2
    have hS2 : Wk.sum l < 10080 := by
      have g := Wk.gaps_sum (f := 0) (l := l) ho.2 (by omega)
      have g2 := (Wk.sum_bd (Wk.gaps_ch (f := 0) ho.2) (by omega) (by omega)).1
      omega
    have hk := chk_ok hz ho
    rcases h with ⟨_, a1, a2, a3, a4⟩ | ⟨h, _⟩
    · refine ⟨by unfold lonC; rw [if_pos hk, if_neg hS], t1, a1, a2, ?_⟩
      unfold lonN
      rw [if_pos hk, if_neg hS]
      exact Qt.soon hz ho.2 hS2 a4
    · cases h
end Go.Proofs.YtpaleljnkejdgaaGreatDoor.Qt
