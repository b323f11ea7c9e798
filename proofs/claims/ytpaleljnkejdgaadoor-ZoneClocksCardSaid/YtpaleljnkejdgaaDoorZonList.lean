/-
  Plain mathematics of zones: the list of the switches of a year and of those beside it; of a sorted one the last up to a time tells the offset, the first behind it is the next. No condition but those that the theorems state.
-/
import Derived.Test.YtpaleljnkejdgaaDoorZonPlain
namespace Go.Proofs.YtpaleljnkejdgaaDoor.Wp

def Zn.items (z : Zn) (y : Int) : List (Int × Int) := (if z.V false y = true then [(z.T false y, z.then_ false)] else []) ++ (if z.V true y = true then [(z.T true y, z.then_ true)] else [])
def Zn.rawTo (z : Zn) (Y : Int) : Nat → List (Int × Int)
  | 0 => []
  | j + 1 => z.rawTo Y j ++ z.items (Y - 1 + j)
theorem Zn.mem_items {z : Zn} {y : Int} {x : Int × Int} : x ∈ z.items y ↔ ∃ k, z.V k y = true ∧ x = (z.T k y, z.then_ k) := by
  unfold Zn.items
  rw [List.mem_append]
  constructor
  · rintro (h | h)
    · split at h
      · next hv => exact ⟨false, hv, by simpa using h⟩
      · cases h
    · split at h
      · next hv => exact ⟨true, hv, by simpa using h⟩
      · cases h
  · rintro ⟨k, hv, rfl⟩
    cases k
    · left; rw [if_pos hv]; simp
    · right; rw [if_pos hv]; simp
theorem Zn.mem_rawTo {z : Zn} {Y : Int} {j : Nat} {x : Int × Int} : x ∈ z.rawTo Y j ↔ ∃ k y, Y - 1 ≤ y ∧ y < Y - 1 + j ∧ z.V k y = true ∧ x = (z.T k y, z.then_ k) := by
  induction j with
  | zero =>
    constructor
    · intro h; cases h
    · rintro ⟨k, y, a, b, _⟩; omega
  | succ j ih =>
    simp only [Zn.rawTo, List.mem_append, ih, Zn.mem_items]
    constructor
    · rintro (⟨k, y, a, b, c, d⟩ | ⟨k, c, d⟩)
      · exact ⟨k, y, a, by omega, c, d⟩
      · exact ⟨k, Y - 1 + j, by omega, by omega, c, d⟩
    · rintro ⟨k, y, a, b, c, d⟩
      by_cases h : y < Y - 1 + j
      · exact Or.inl ⟨k, y, a, h, c, d⟩
      · obtain rfl : y = Y - 1 + j := by omega
        exact Or.inr ⟨k, c, d⟩
theorem Zn.items_len (z : Zn) (y : Int) : (z.items y).length ≤ 2 := by
  unfold Zn.items; rw [List.length_append]; split <;> split <;> simp
theorem Zn.rawTo_len (z : Zn) (Y : Int) (j : Nat) : (z.rawTo Y j).length ≤ 2 * j := by
  induction j with
  | zero => simp [Zn.rawTo]
  | succ j ih => have := z.items_len (Y - 1 + j); simp only [Zn.rawTo, List.length_append]; omega
/-- The list as the program has it: all switches of the three years, rising. -/
structure Turns (z : Zn) (Y : Int) (l : List (Int × Int)) : Prop where
  perm : l.Perm (z.rawTo Y 3)
  rise : l.Pairwise (fun a b => a.1 ≤ b.1)
theorem Turns.mem {z : Zn} {Y : Int} {l : List (Int × Int)} (h : Turns z Y l) {x : Int × Int} : x ∈ l ↔ ∃ k y, InW Y 1 y ∧ z.V k y = true ∧ x = (z.T k y, z.then_ k) := by
  rw [h.perm.mem_iff, Zn.mem_rawTo]
  unfold InW
  constructor
  · rintro ⟨k, y, a, b, c⟩; exact ⟨k, y, ⟨by omega, by omega⟩, c⟩
  · rintro ⟨k, y, ⟨a, b⟩, c⟩; exact ⟨k, y, by omega, by omega, c⟩
def lastUp (l : List (Int × Int)) (t b : Int) : Int := l.foldl (fun m x => if x.1 ≤ t then x.2 else m) b
theorem lastUp_take (l : List (Int × Int)) (t b : Int) (k : Nat) (hk : k < l.length) : lastUp (l.take (k + 1)) t b = if l[k].1 ≤ t then l[k].2 else lastUp (l.take k) t b := by
  unfold lastUp
  rw [List.take_succ_eq_append_getElem hk, List.foldl_append]
  rfl
/-- In a rising list it is that of the last one up to the time. -/
theorem lastUp_spec (t b : Int) : ∀ (l : List (Int × Int)), l.Pairwise (fun a b => a.1 ≤ b.1) →
    (∃ x ∈ l, x.1 ≤ t ∧ lastUp l t b = x.2 ∧ ∀ x' ∈ l, x'.1 ≤ t → x'.1 ≤ x.1) ∨ ((∀ x ∈ l, ¬ x.1 ≤ t) ∧ lastUp l t b = b) := by
  intro l
  induction l generalizing b with
  | nil => intro _; exact Or.inr ⟨by simp, rfl⟩
  | cons a l ih =>
    intro hp
    obtain ⟨h1, h2⟩ := List.pairwise_cons.1 hp
    have e : lastUp (a :: l) t b = lastUp l t (if a.1 ≤ t then a.2 else b) := rfl
    rcases ih (if a.1 ≤ t then a.2 else b) h2 with ⟨x, hx, hxt, hl, hall⟩ | ⟨hall, hl⟩
    · refine Or.inl ⟨x, List.mem_cons_of_mem _ hx, hxt, by rw [e, hl], fun x' hx' hx't => ?_⟩
      rcases List.mem_cons.1 hx' with rfl | hx'
      · exact h1 x hx
      · exact hall x' hx' hx't
    · by_cases ha : a.1 ≤ t
      · refine Or.inl ⟨a, List.mem_cons_self, ha, by rw [e, hl, if_pos ha], fun x' hx' hx't => ?_⟩
        rcases List.mem_cons.1 hx' with rfl | hx'
        · exact Int.le_refl _
        · exact absurd hx't (hall x' hx')
      · refine Or.inr ⟨fun x' hx' => ?_, by rw [e, hl, if_neg ha]⟩
        rcases List.mem_cons.1 hx' with rfl | hx'
        · exact ha
        · exact hall x' hx'
theorem Turns.off {z : Zn} (hz : ZnOk z) (hs : z.save ≠ 0) {t Y : Int} {l : List (Int × Int)} (hY : YearOf t Y) (h : Turns z Y l) : Off z t (lastUp l t z.base) := by
  refine Off.of_window hz hs (r := 1) (by omega) hY ?_
  rcases lastUp_spec t z.base l h.rise with ⟨x, hx, hxt, hl, hall⟩ | ⟨hall, hl⟩
  · obtain ⟨k, y, hin, hv, rfl⟩ := h.mem.1 hx
    refine Or.inl ⟨k, y, hin, hv, hxt, hl, fun k' y' hin' hv' hle => ?_⟩
    exact hall _ (h.mem.2 ⟨k', y', hin', hv', rfl⟩) hle
  · refine Or.inr ⟨fun k y hin hv hle => ?_, hl⟩
    exact hall _ (h.mem.2 ⟨k, y, hin, hv, rfl⟩) hle

/-- The offset of a time. -/
noncomputable def ofs (z : Zn) (t : Int) : Int := by
  classical
  exact if h : z.save ≠ 0 ∧ ∃ o, Off z t o then h.2.choose else z.base
theorem ofs_off {z : Zn} {t o : Int} (hs : z.save ≠ 0) (h : Off z t o) : Off z t (ofs z t) := by
  unfold ofs
  rw [dif_pos ⟨hs, o, h⟩]
  exact Exists.choose_spec (⟨o, h⟩ : ∃ o, Off z t o)
theorem ofs_eq {z : Zn} (hz : ZnOk z) (hs : z.save ≠ 0) {t o : Int} (h : Off z t o) : o = ofs z t := h.one hz hs (ofs_off hs h)
theorem ofs_plain {z : Zn} (hs : z.save = 0) (t : Int) : ofs z t = z.base := by
  unfold ofs
  rw [dif_neg (fun h => h.1 hs)]

/-- The next switch behind a time. -/
def IsNext (z : Zn) (t n : Int) : Prop := ∃ k y, z.V k y = true ∧ t < z.T k y ∧ n = z.T k y ∧ ∀ k' y', z.V k' y' = true → t < z.T k' y' → z.T k y ≤ z.T k' y'
def NoNext (z : Zn) (t : Int) : Prop := ∀ k y, z.V k y = true → ¬ t < z.T k y
theorem ZnOk.shadow_up {z : Zn} (h : ZnOk z) (hs : z.save ≠ 0) {t Y : Int} (hY : YearOf t Y) {k : Bool} {y : Int} (hv : z.V k y = true) (hy : Y + 2 ≤ y) : ∃ k', z.V k' (Y + 1) = true ∧ t < z.T k' (Y + 1) ∧ z.T k' (Y + 1) < z.T k y := by
  obtain ⟨h1, h2, h3, h4⟩ := hY
  obtain ⟨⟨v1, v2⟩, v3⟩ := swV_iff.1 hv
  obtain ⟨a, b, c, d⟩ := h.sws hs
  have hmo : ∃ k', 3 ≤ (z.sw k').mo := by
    by_cases e : 3 ≤ z.fr.mo
    · exact ⟨false, e⟩
    · refine ⟨true, ?_⟩
      have a1 := a.m1
      have b1 := b.m1
      unfold apart at c d
      show 3 ≤ z.to.mo
      by_cases q : z.fr.mo - z.to.mo < 0
      · rw [if_pos q] at c d; omega
      · rw [if_neg q] at c d; omega
  obtain ⟨k', hk'⟩ := hmo
  have e := h.sw hs k'
  have f1 := (swT_in e (h.ah_bd k').1 (h.ah_bd k').2 (Y + 1)).1
  have f4 := ah_mono (y := Y + 1) (a := 3) (b := (z.sw k').mo) (by omega) hk' (by have := e.m2; omega)
  have f5 := (Wp.ah_bd (y := Y + 1) (m := 3) (by omega) (by omega)).1
  have g := h.sw hs k
  have lt : z.T k' (Y + 1) < z.T k y := by
    by_cases q : 12 * (Y + 1) + (z.sw k').mo + 2 ≤ 12 * y + (z.sw k).mo
    · have := h.far hs q; omega
    · cases k <;> cases k'
      · have : 12 * (Y + 1) + z.fr.mo + 2 ≤ 12 * y + z.fr.mo := by omega
        exact absurd this q
      · rcases h.months hs y (Y + 1) with r | r
        · have a1 := a.m1; have b2 := b.m2
          omega
        · exact absurd r q
      · rcases h.months hs (Y + 1) y with r | r
        · exact absurd r q
        · have b1 := b.m1; have a2 := a.m2
          omega
      · have : 12 * (Y + 1) + z.to.mo + 2 ≤ 12 * y + z.to.mo := by omega
        exact absurd this q
  have gt : t < z.T k' (Y + 1) := by unfold Zn.T; omega
  refine ⟨k', swV_iff.2 ⟨by omega, ?_⟩, gt, lt⟩
  obtain ⟨t1, t2⟩ := isT_yes v3
  have q1 : z.T k y ≤ 253402300799 := t2
  have hbg := bg_mono (show 1 ≤ Y by omega)
  rw [bg_one] at hbg
  exact isT_mk (show -62135596800 ≤ z.T k' (Y + 1) by omega) (show z.T k' (Y + 1) ≤ 253402300799 by omega)
theorem ZnOk.earlier {z : Zn} (h : ZnOk z) (hs : z.save ≠ 0) {t Y : Int} (hY : YearOf t Y) {k : Bool} {y : Int} (hv : z.V k y = true) (hy : y ≤ Y - 2) : z.T k y ≤ t := by
  obtain ⟨k', _, a, b⟩ := h.shadow hs hY hv hy
  omega
theorem IsNext.of_window {z : Zn} (h : ZnOk z) (hs : z.save ≠ 0) {t Y r n : Int} (hr : 1 ≤ r) (hY : YearOf t Y)
    (hn : ∃ k y, InW Y r y ∧ z.V k y = true ∧ t < z.T k y ∧ n = z.T k y ∧ ∀ k' y', InW Y r y' → z.V k' y' = true → t < z.T k' y' → z.T k y ≤ z.T k' y') : IsNext z t n := by
  obtain ⟨k, y, a, b, c, d, e⟩ := hn
  refine ⟨k, y, b, c, d, fun k' y' hv hl => ?_⟩
  by_cases h1 : Y + 2 ≤ y'
  · obtain ⟨q, q1, q2, q3⟩ := h.shadow_up hs hY hv h1
    have := e q (Y + 1) ⟨by omega, by omega⟩ q1 q2
    omega
  · by_cases h2 : y' ≤ Y - 2
    · have := h.earlier hs hY hv h2; omega
    · exact e k' y' ⟨by omega, by omega⟩ hv hl
theorem NoNext.of_window {z : Zn} (h : ZnOk z) (hs : z.save ≠ 0) {t Y r : Int} (hr : 1 ≤ r) (hY : YearOf t Y) (hn : ∀ k y, InW Y r y → z.V k y = true → ¬ t < z.T k y) : NoNext z t := by
  intro k y hv hl
  by_cases h1 : Y + 2 ≤ y
  · obtain ⟨q, q1, q2, _⟩ := h.shadow_up hs hY hv h1
    exact hn q (Y + 1) ⟨by omega, by omega⟩ q1 q2
  · by_cases h2 : y ≤ Y - 2
    · have := h.earlier hs hY hv h2; omega
    · exact hn k y ⟨by omega, by omega⟩ hv hl
theorem IsNext.one {z : Zn} {t n n' : Int} (h : IsNext z t n) (h' : IsNext z t n') : n = n' := by
  obtain ⟨k, y, a, b, rfl, c⟩ := h
  obtain ⟨k', y', a', b', rfl, c'⟩ := h'
  have := c k' y' a' b'
  have := c' k y a b
  omega
theorem IsNext.not {z : Zn} {t n : Int} (h : IsNext z t n) (h' : NoNext z t) : False := by
  obtain ⟨k, y, a, b, _⟩ := h
  exact h' k y a b
/-- In a rising list the first behind the time is the next. -/
theorem Turns.next {z : Zn} (hz : ZnOk z) (hs : z.save ≠ 0) {t Y : Int} {l : List (Int × Int)} (hY : YearOf t Y) (h : Turns z Y l) (k : Nat) (hk : k < l.length) (h1 : t < l[k].1) (h2 : ∀ i (hi : i < l.length), i < k → l[i].1 ≤ t) : IsNext z t l[k].1 := by
  refine IsNext.of_window hz hs (r := 1) (by omega) hY ?_
  obtain ⟨q, y, hin, hv, he⟩ := h.mem.1 (List.getElem_mem hk)
  have he1 : l[k].1 = z.T q y := by rw [he]
  refine ⟨q, y, hin, hv, by rw [← he1]; exact h1, he1, fun q' y' hin' hv' hlt => ?_⟩
  obtain ⟨i, hi, hie⟩ := List.getElem_of_mem (h.mem.2 ⟨q', y', hin', hv', rfl⟩)
  have hi1 : l[i].1 = z.T q' y' := by rw [hie]
  rw [← he1, ← hi1]
  rcases Nat.lt_trichotomy i k with c | c | c
  · have := h2 i hi c; rw [hi1] at this; omega
  · subst c; exact Int.le_refl _
  · exact List.pairwise_iff_getElem.1 h.rise k i hk hi c
theorem Turns.noNext {z : Zn} (hz : ZnOk z) (hs : z.save ≠ 0) {t Y : Int} {l : List (Int × Int)} (hY : YearOf t Y) (h : Turns z Y l) (h2 : ∀ i (hi : i < l.length), l[i].1 ≤ t) : NoNext z t := by
  refine NoNext.of_window hz hs (r := 1) (by omega) hY fun q y hin hv hlt => ?_
  obtain ⟨i, hi, hie⟩ := List.getElem_of_mem (h.mem.2 ⟨q, y, hin, hv, rfl⟩)
  have := h2 i hi
  rw [hie] at this
  simp only [] at this
  omega
/-- A switch of a year that has neighbours is a time. -/
theorem ZnOk.valid {z : Zn} (h : ZnOk z) (hs : z.save ≠ 0) {y : Int} (h1 : 2 ≤ y) (h2 : y ≤ 9998) (k : Bool) : z.V k y = true := by
  have e := h.sw hs k
  have f := swT_in e (h.ah_bd k).1 (h.ah_bd k).2 y
  have g1 := bg_lt (show 1 < y by omega)
  have g2 := bg_mono (show y + 1 ≤ 9999 by omega)
  have g3 : bg 9999 = 3651694 := by decide
  have g4 := bg_succ y
  have g5 := ah_mono (y := y) (a := (z.sw k).mo + 1) (b := 13) (by have := e.m1; omega) (by have := e.m2; omega) (by omega)
  have g6 := ah_end y
  have g7 := (Wp.ah_bd (y := y) e.m1 (by have := e.m2; omega)).1
  have g8 := e.m1
  rw [bg_one] at g1
  exact swV_iff.2 ⟨by omega, isT_mk (by omega) (by omega)⟩
theorem Zn.rawTo_pos {z : Zn} (h : ZnOk z) (hs : z.save ≠ 0) {Y : Int} (h1 : 1 ≤ Y) (h2 : Y ≤ 9999) : 0 < (z.rawTo Y 3).length := by
  have : ∃ x, x ∈ z.rawTo Y 3 := by
    by_cases c : Y + 1 ≤ 9998
    · exact ⟨_, Zn.mem_rawTo.2 ⟨false, Y + 1, by omega, by omega, h.valid hs (by omega) c false, rfl⟩⟩
    · exact ⟨_, Zn.mem_rawTo.2 ⟨false, Y - 1, by omega, by omega, h.valid hs (by omega) (by omega) false, rfl⟩⟩
  obtain ⟨x, hx⟩ := this
  exact List.length_pos_of_mem hx
end Go.Proofs.YtpaleljnkejdgaaDoor.Wp
