
/-
  What reading a value does, as plain data. No condition.
-/
import Derived.Test.YtckcbdnlligndaaDoorVlRead
namespace Go.Proofs.YtckcbdnlligndaaDoor.Vl

/-- What is there yet, whether it could not be read, and the room. -/
structure St where
  l : List UInt8
  b : Bool
  r : Int
/-- Items, one behind the other. -/
def loopP (pv : St → V × St) (k : Nat) : Nat → List ByteArray → List V → St → List ByteArray × List V × St
  | 0, ns, is, st => (ns, is, st)
  | m + 1, ns, is, st => if st.b then (ns, is, st) else
      if k = 5 then loopP pv k m (ns ++ [Wp.B (textP st.l st.b).1]) (is ++ [(pv ⟨(textP st.l st.b).2.1, (textP st.l st.b).2.2, st.r⟩).1]) (pv ⟨(textP st.l st.b).2.1, (textP st.l st.b).2.2, st.r⟩).2
      else loopP pv k m ns (is ++ [(pv st).1]) (pv st).2
def itemsP (pv : St → V × St) (k : Nat) (st : St) : List ByteArray × List V × St :=
  loopP pv k (numP st.l st.b).1.toNat [] [] ⟨(numP st.l st.b).2.1, (numP st.l st.b).2.2 || decide ((numP st.l st.b).1 < 0), st.r⟩
/-- Behind a kind. -/
def bodyP (pv : St → V × St) (k : Nat) (st : St) : V × St :=
  if k = 1 then (.mk 1 (Wp.B (textP st.l st.b).1) 0 [] [], ⟨(textP st.l st.b).2.1, (textP st.l st.b).2.2, st.r⟩)
  else if k = 2 ∨ k = 3 then (.mk k ⟨#[]⟩ (numP st.l st.b).1 [] [], ⟨(numP st.l st.b).2.1, (numP st.l st.b).2.2, st.r⟩)
  else if k = 4 ∨ k = 5 then (.mk k ⟨#[]⟩ 0 (itemsP pv k st).2.1 (itemsP pv k st).1, (itemsP pv k st).2.2)
  else (.mk k ⟨#[]⟩ 0 [] [], st)
def pv : Nat → St → V × St
  | 0, st => (zero, st)
  | f + 1, st => bodyP (pv f) (kindP st.l (st.b || decide (st.r - 1 < 0))).1 ⟨(kindP st.l (st.b || decide (st.r - 1 < 0))).2.1, (kindP st.l (st.b || decide (st.r - 1 < 0))).2.2, st.r - 1⟩

theorem kindP_len (l : List UInt8) (b : Bool) : (kindP l b).2.1.length ≤ l.length ∧ ((kindP l b).2.2 = true → (kindP l b).1 = 0) ∧ (b = true → (kindP l b).2.2 = true) ∧ (kindP l b).1 ≤ 255 := by
  unfold kindP
  cases b with
  | true => simp
  | false =>
    cases l with
    | nil => simp
    | cons a t => have := a.toNat_lt; simp; omega
theorem numP_len (l : List UInt8) (b : Bool) : (numP l b).2.1.length ≤ l.length ∧ Wp.I64 (numP l b).1 ∧ (b = true → (numP l b).2.2 = true) := by
  unfold numP
  have h0 : Wp.I64 0 := ⟨by omega, by omega⟩
  split
  · rename_i h
    refine ⟨by rw [List.length_drop]; omega, (Wp.getNum_ok _ h).2, fun hb => ?_⟩
    exact hb
  · rename_i h
    refine ⟨Nat.le_refl _, ?_, fun _ => rfl⟩
    rw [(Wp.getNum_bad _ h).1]
    exact h0
theorem textP_len (l : List UInt8) (b : Bool) : (textP l b).2.1.length ≤ l.length ∧ (textP l b).1.length ≤ 4105 ∧ (b = true → (textP l b).2.2 = true) := by
  have h1 := (first_len l b 4105).1
  have h2 : (Wp.getText (firstP l b 4105)).1.length ≤ (firstP l b 4105).length := by
    have := (Wp.gt_rest (Wp.B (firstP l b 4105)) (Wp.getText (firstP l b 4105)).1 (Wp.getText (firstP l b 4105)).2.1 (Wp.getText (firstP l b 4105)).2.2 (by unfold Wp.gt; rw [Wp.B_data])).2
    rwa [Wp.B_size] at this
  unfold textP
  split
  · exact ⟨by rw [List.length_drop]; omega, by show (Wp.getText (firstP l b 4105)).1.length ≤ 4105; omega, fun hb => hb⟩
  · exact ⟨Nat.le_refl _, by show (Wp.getText (firstP l b 4105)).1.length ≤ 4105; omega, fun _ => rfl⟩
/-- What reading keeps: what is there yet is no longer; the room goes down, and is there while all could be read. -/
structure Keeps (a c : St) : Prop where
  len : c.l.length ≤ a.l.length
  room : c.r + 1 ≤ a.r
  low : -1 ≤ c.r
  good : c.b = false → 0 ≤ c.r
theorem loopP_keeps {pv : St → V × St} {R : Int} (hpv : ∀ st, 0 ≤ st.r → st.r + 1 ≤ R → Keeps st (pv st).2) (k : Nat) : ∀ (m : Nat) (ns : List ByteArray) (is : List V) (st : St), (st.b = false → 0 ≤ st.r) → -1 ≤ st.r → st.r + 1 ≤ R →
    (loopP pv k m ns is st).2.2.l.length ≤ st.l.length ∧ (loopP pv k m ns is st).2.2.r ≤ st.r ∧ -1 ≤ (loopP pv k m ns is st).2.2.r ∧ ((loopP pv k m ns is st).2.2.b = false → 0 ≤ (loopP pv k m ns is st).2.2.r)
  | 0, ns, is, st, h, hl, _ => ⟨Nat.le_refl _, Int.le_refl _, hl, h⟩
  | m + 1, ns, is, st, h, hl, hR => by
    rw [loopP]
    cases hb : st.b with
    | true => rw [if_pos rfl]; exact ⟨Nat.le_refl _, Int.le_refl _, hl, fun h => by rw [hb] at h; cases h⟩
    | false =>
      rw [if_neg (by simp)]
      have h0 := h hb
      split
      · have h1 := hpv ⟨(textP st.l false).2.1, (textP st.l false).2.2, st.r⟩ h0 hR
        obtain ⟨i1, i2, i3, i4⟩ := loopP_keeps hpv k m (ns ++ [Wp.B (textP st.l false).1]) (is ++ [(pv ⟨(textP st.l false).2.1, (textP st.l false).2.2, st.r⟩).1]) _ h1.good h1.low (by have := h1.room; simp only at this; omega)
        have h2 := (textP_len st.l false).1
        have h3 := h1.len
        have h4 := h1.room
        simp only at h3 h4
        exact ⟨by omega, by omega, i3, i4⟩
      · have h1 := hpv st h0 hR
        obtain ⟨i1, i2, i3, i4⟩ := loopP_keeps hpv k m ns (is ++ [(pv st).1]) _ h1.good h1.low (by have := h1.room; omega)
        have h3 := h1.len
        have h4 := h1.room
        exact ⟨by omega, by omega, i3, i4⟩
theorem bodyP_keeps {pv : St → V × St} {R : Int} (hpv : ∀ st, 0 ≤ st.r → st.r + 1 ≤ R → Keeps st (pv st).2) (k : Nat) (st : St) (h : st.b = false → 0 ≤ st.r) (hl : -1 ≤ st.r) (hR : st.r + 1 ≤ R) (hk : st.b = true → k = 0) :
    (bodyP pv k st).2.l.length ≤ st.l.length ∧ (bodyP pv k st).2.r ≤ st.r ∧ -1 ≤ (bodyP pv k st).2.r ∧ ((bodyP pv k st).2.b = false → 0 ≤ (bodyP pv k st).2.r) := by
  by_cases hb : st.b = true
  · rw [hk hb]
    exact ⟨Nat.le_refl _, Int.le_refl _, hl, h⟩
  · have h0 := h (by simpa using hb)
    unfold bodyP
    split
    · exact ⟨(textP_len _ _).1, Int.le_refl _, hl, fun _ => h0⟩
    · split
      · exact ⟨(numP_len _ _).1, Int.le_refl _, hl, fun _ => h0⟩
      · split
        · have hn := (numP_len st.l st.b).1
          obtain ⟨i1, i2, i3, i4⟩ := loopP_keeps hpv k (numP st.l st.b).1.toNat [] [] ⟨(numP st.l st.b).2.1, (numP st.l st.b).2.2 || decide ((numP st.l st.b).1 < 0), st.r⟩ (fun _ => h0) hl hR
          exact ⟨Nat.le_trans i1 hn, i2, i3, i4⟩
        · exact ⟨Nat.le_refl _, Int.le_refl _, hl, h⟩
theorem pv_keeps : ∀ (f : Nat) (st : St), 0 ≤ st.r → st.r + 1 ≤ f → Keeps st (pv f st).2
  | 0, st, h, hf => by omega
  | f + 1, st, h, hf => by
    obtain ⟨k1, k2, k3, _⟩ := kindP_len st.l (st.b || decide (st.r - 1 < 0))
    have hb := bodyP_keeps (R := st.r) (fun s h0 h1 => pv_keeps f s h0 (by omega)) (kindP st.l (st.b || decide (st.r - 1 < 0))).1 ⟨(kindP st.l (st.b || decide (st.r - 1 < 0))).2.1, (kindP st.l (st.b || decide (st.r - 1 < 0))).2.2, st.r - 1⟩
      (fun hb => by
        show 0 ≤ st.r - 1
        by_cases hr : st.r - 1 < 0
        · rw [k3 (by rw [decide_eq_true hr, Bool.or_true])] at hb; cases hb
        · omega)
      (by show -1 ≤ st.r - 1; omega) (by show st.r - 1 + 1 ≤ st.r; omega) k2
    rw [pv]
    obtain ⟨h1, h2, h3, h4⟩ := hb
    exact ⟨Nat.le_trans h1 k1, by simp only at h2; omega, h3, h4⟩
end Go.Proofs.YtckcbdnlligndaaDoor.Vl
