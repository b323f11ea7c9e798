/-
  Plain mathematics of zones: which are right, when their switches are, that those are at least four weeks apart, which offset a time has, and which switch is next. No condition but those that the theorems state.
-/
import Derived.Test.YtpaleljnkejdgaaDoorCivCalls
namespace Go.Proofs.YtpaleljnkejdgaaDoor.Wp

/-- When a summer begins, or ends. -/
structure Sw where
  mo : Int
  nth : Int
  wd : Int
  mi : Int
structure Zn where
  base : Int
  save : Int
  fr : Sw
  to : Sw
def Sw.zero : Sw := ⟨0, 0, 0, 0⟩
def Zn.zero : Zn := ⟨0, 0, Sw.zero, Sw.zero⟩
def swC (s : Sw) : Array Value := #[.int .i64 s.mo, .int .i64 s.nth, .int .i64 s.wd, .int .i64 s.mi]
def zoneC (z : Zn) : Array Value := #[.int .i64 z.base, .int .i64 z.save, .int .i64 z.fr.mo, .int .i64 z.fr.nth, .int .i64 z.fr.wd, .int .i64 z.fr.mi, .int .i64 z.to.mo, .int .i64 z.to.nth, .int .i64 z.to.wd, .int .i64 z.to.mi]

structure SwOk (s : Sw) : Prop where
  m1 : 1 ≤ s.mo
  m2 : s.mo ≤ 12
  n1 : 1 ≤ s.nth
  n2 : s.nth ≤ 5
  w1 : 0 ≤ s.wd
  w2 : s.wd ≤ 6
  i1 : 0 ≤ s.mi
  i2 : s.mi < 1440
def apart (z : Zn) : Int := if z.fr.mo - z.to.mo < 0 then z.fr.mo - z.to.mo + 12 else z.fr.mo - z.to.mo
structure ClkOk (z : Zn) : Prop where
  b1 : -900 ≤ z.base
  b2 : z.base ≤ 900
  s1 : 0 ≤ z.save
  s2 : z.save ≤ 120
def SwsOk (z : Zn) : Prop := (z.save = 0 ∧ z.fr = Sw.zero ∧ z.to = Sw.zero) ∨ (z.save ≠ 0 ∧ SwOk z.fr ∧ SwOk z.to ∧ 2 ≤ apart z ∧ apart z ≤ 10)
def ZnOk (z : Zn) : Prop := ClkOk z ∧ SwsOk z

/-- The time of a year's switch, by clocks that are so far ahead; and whether it is one. -/
def swT (s : Sw) (y a : Int) : Int := -62135596800 + num y s.mo (nthD y s.mo s.wd s.nth) * 86400 + s.mi * 60 - a * 60
def swV (s : Sw) (y a : Int) : Bool := decide (1 ≤ y ∧ y ≤ 9999) && isT (swT s y a)
theorem swV_iff {s : Sw} {y a : Int} : swV s y a = true ↔ (1 ≤ y ∧ y ≤ 9999) ∧ isT (swT s y a) = true := by
  unfold swV; rw [Bool.and_eq_true, decide_eq_true_iff]
/-- One of a year's two: false: its summer begins. -/
def Zn.sw (z : Zn) (k : Bool) : Sw := if k then z.to else z.fr
def Zn.ah (z : Zn) (k : Bool) : Int := if k then z.base + z.save else z.base
def Zn.then_ (z : Zn) (k : Bool) : Int := if k then z.base else z.base + z.save
def Zn.T (z : Zn) (k : Bool) (y : Int) : Int := swT (z.sw k) y (z.ah k)
def Zn.V (z : Zn) (k : Bool) (y : Int) : Bool := swV (z.sw k) y (z.ah k)
theorem nthD_bd {y m k n : Int} (hm : 1 ≤ m ∧ m ≤ 12) (n1 : 1 ≤ n) (n2 : n ≤ 5) : 1 ≤ nthD y m k n ∧ nthD y m k n ≤ dy y m := by
  have hf : 1 ≤ firstOf y m k ∧ firstOf y m k ≤ 7 := by unfold firstOf; omega
  have hb := dy_bd (y := y) hm.1 hm.2
  unfold nthD
  split <;> omega
/-- A switch lies in its month, but for the hours that clocks are ahead. -/
theorem swT_in {s : Sw} (h : SwOk s) {a : Int} (a1 : -900 ≤ a) (a2 : a ≤ 1020) (y : Int) :
    -62135596800 + (bg y + Wp.ah y s.mo) * 86400 - 61200 ≤ swT s y a ∧ swT s y a < -62135596800 + (bg y + Wp.ah y (s.mo + 1)) * 86400 + 54000 := by
  have hd := nthD_bd (y := y) (k := s.wd) ⟨h.m1, h.m2⟩ h.n1 h.n2
  have h3 := ah_succ y s.mo
  have h4 := h.i1
  have h5 := h.i2
  unfold swT num
  generalize nthD y s.mo s.wd s.nth = d at *
  omega
theorem months_far {y m y' m' : Int} (hm : 1 ≤ m ∧ m ≤ 12) (hm' : 1 ≤ m' ∧ m' ≤ 12) (h : 12 * y + m + 2 ≤ 12 * y' + m') : bg y + Wp.ah y (m + 1) + 28 ≤ bg y' + Wp.ah y' m' := by
  have hy : y ≤ y' := by omega
  have p1 := ah_bd (y := y') hm'.1 (by omega)
  by_cases he : y = y'
  · subst he
    have h1 := ah_succ y (m + 1)
    have h2 := dy_bd (y := y) (m := m + 1) (by omega) (by omega)
    have h3 := ah_mono (y := y) (a := m + 1 + 1) (b := m') (by omega) (by omega) (by omega)
    omega
  · have h1 := bg_succ y
    have h2 := bg_mono (show y + 1 ≤ y' by omega)
    have h3 := ah_end y
    by_cases h12 : m = 12
    · subst h12
      have h4 : Wp.ah y (12 + 1) = Wp.ah y 13 := rfl
      by_cases h5 : y' = y + 1
      · omega
      · have h6 := bg_mono (show y + 1 + 1 ≤ y' by omega)
        have h7 := bg_succ (y + 1)
        have h8 := lp_01 (y + 1)
        omega
    · have h4 := ah_mono (y := y) (a := m + 1 + 1) (b := 13) (by omega) (by omega) (by omega)
      have h5 := ah_succ y (m + 1)
      have h6 := dy_bd (y := y) (m := m + 1) (by omega) (by omega)
      omega
theorem ZnOk.ah_bd {z : Zn} (h : ZnOk z) (k : Bool) : -900 ≤ z.ah k ∧ z.ah k ≤ 1020 := by
  have h1 := h.1.b1; have h2 := h.1.b2; have h3 := h.1.s1; have h4 := h.1.s2
  unfold Zn.ah; split <;> omega
theorem ZnOk.sws {z : Zn} (h : ZnOk z) (hs : z.save ≠ 0) : SwOk z.fr ∧ SwOk z.to ∧ 2 ≤ apart z ∧ apart z ≤ 10 := by
  rcases h.2 with h | h
  · exact absurd h.1 hs
  · exact h.2
theorem ZnOk.sw {z : Zn} (h : ZnOk z) (hs : z.save ≠ 0) (k : Bool) : SwOk (z.sw k) := by
  have := h.sws hs
  cases k
  · exact this.1
  · exact this.2.1
/-- Two switches are a month apart: the one of the later month is the later. -/
theorem ZnOk.far {z : Zn} (h : ZnOk z) (hs : z.save ≠ 0) {k k' : Bool} {y y' : Int} (hm : 12 * y + (z.sw k).mo + 2 ≤ 12 * y' + (z.sw k').mo) : z.T k y + 2000000 ≤ z.T k' y' := by
  have a := h.sw hs k
  have b := h.sw hs k'
  have h1 := (swT_in a (h.ah_bd k).1 (h.ah_bd k).2 y).2
  have h2 := (swT_in b (h.ah_bd k').1 (h.ah_bd k').2 y').1
  have h3 := months_far ⟨a.m1, a.m2⟩ ⟨b.m1, b.m2⟩ hm
  unfold Zn.T
  omega
theorem ZnOk.months {z : Zn} (h : ZnOk z) (hs : z.save ≠ 0) (y y' : Int) : 12 * y + z.fr.mo + 2 ≤ 12 * y' + z.to.mo ∨ 12 * y' + z.to.mo + 2 ≤ 12 * y + z.fr.mo := by
  obtain ⟨a, b, c, d⟩ := h.sws hs
  have a1 := a.m1; have a2 := a.m2; have b1 := b.m1; have b2 := b.m2
  unfold apart at c d
  split at c <;> omega
/-- No two switches are at one time. -/
theorem ZnOk.inj {z : Zn} (h : ZnOk z) (hs : z.save ≠ 0) {k k' : Bool} {y y' : Int} (he : z.T k y = z.T k' y') : k = k' ∧ y = y' := by
  have same : ∀ k, z.T k y = z.T k y' → y = y' := fun k e => by
    rcases Int.lt_trichotomy y y' with c | c | c
    · have := h.far hs (k := k) (k' := k) (y := y) (y' := y') (by omega); omega
    · exact c
    · have := h.far hs (k := k) (k' := k) (y := y') (y' := y) (by omega); omega
  have other : z.T false y ≠ z.T true y' := fun e => by
    rcases h.months hs y y' with c | c
    · have := h.far hs (k := false) (k' := true) (y := y) (y' := y') c; omega
    · have := h.far hs (k := true) (k' := false) (y := y') (y' := y) c; omega
  have other2 : z.T true y ≠ z.T false y' := fun e => by
    rcases h.months hs y' y with c | c
    · have := h.far hs (k := false) (k' := true) (y := y') (y' := y) c; omega
    · have := h.far hs (k := true) (k' := false) (y := y) (y' := y') c; omega
  cases k <;> cases k'
  · exact ⟨rfl, same _ he⟩
  · exact absurd he other
  · exact absurd he other2
  · exact ⟨rfl, same _ he⟩

/-- The offset of a time: that of the last switch up to it, or else the base. -/
def Off (z : Zn) (t o : Int) : Prop :=
  (∃ k y, z.V k y = true ∧ z.T k y ≤ t ∧ o = z.then_ k ∧ ∀ k' y', z.V k' y' = true → z.T k' y' ≤ t → z.T k' y' ≤ z.T k y) ∨ ((∀ k y, z.V k y = true → ¬ z.T k y ≤ t) ∧ o = z.base)
theorem Off.one {z : Zn} {t o o' : Int} (hz : ZnOk z) (hs : z.save ≠ 0) (h : Off z t o) (h' : Off z t o') : o = o' := by
  rcases h with ⟨k, y, a, b, rfl, c⟩ | ⟨a, rfl⟩
  · rcases h' with ⟨k', y', a', b', rfl, c'⟩ | ⟨a', rfl⟩
    · have := c k' y' a' b'
      have := c' k y a b
      rw [(hz.inj hs (show z.T k y = z.T k' y' by omega)).1]
    · exact absurd b (a' k y a)
  · rcases h' with ⟨k', y', a', b', rfl, c'⟩ | ⟨a', rfl⟩
    · exact absurd b' (a k' y' a')
    · rfl
/-- The switches of a year and of those beside it. -/
def InW (Y r : Int) (y : Int) : Prop := Y - r ≤ y ∧ y ≤ Y + r
/-- The year of a time. -/
def YearOf (t Y : Int) : Prop := 1 ≤ Y ∧ Y ≤ 9999 ∧ bg Y * 86400 ≤ t + 62135596800 ∧ t + 62135596800 < bg (Y + 1) * 86400
theorem IsOf.year {t : Int} {m : Mom} (h : IsOf t m) : YearOf t m.y := by
  have hd := (momOk_iff.1 h.ok).1
  obtain ⟨n1, _, _, _⟩ := h.parts
  have h1 := hd.lo
  have h2 := hd.hi
  refine ⟨hd.y1, hd.y2, ?_, ?_⟩
  · omega
  · omega
theorem ZnOk.later {z : Zn} (h : ZnOk z) (hs : z.save ≠ 0) {t Y : Int} (hY : YearOf t Y) {k : Bool} {y : Int} (hy : Y + 2 ≤ y) : t < z.T k y := by
  obtain ⟨_, _, _, h4⟩ := hY
  have a := h.sw hs k
  have h1 := (swT_in a (h.ah_bd k).1 (h.ah_bd k).2 y).1
  have h2 := bg_mono (show Y + 1 + 1 ≤ y by omega)
  have h3 := bg_lt (show Y + 1 < Y + 1 + 1 by omega)
  have h5 := (Wp.ah_bd (y := y) a.m1 (by have := a.m2; omega)).1
  have h6 := a.m1
  unfold Zn.T
  omega
/-- Of what is two years back one of the year ahead is later. -/
theorem ZnOk.shadow {z : Zn} (h : ZnOk z) (hs : z.save ≠ 0) {t Y : Int} (hY : YearOf t Y) {k : Bool} {y : Int} (hv : z.V k y = true) (hy : y ≤ Y - 2) : ∃ k', z.V k' (Y - 1) = true ∧ z.T k y < z.T k' (Y - 1) ∧ z.T k' (Y - 1) ≤ t := by
  obtain ⟨h1, h2, h3, h4⟩ := hY
  obtain ⟨⟨v1, v2⟩, v3⟩ := swV_iff.1 hv
  obtain ⟨a, b, c, d⟩ := h.sws hs
  have hmo : ∃ k', (z.sw k').mo ≤ 10 := by
    by_cases e : z.fr.mo ≤ 10
    · exact ⟨false, e⟩
    · refine ⟨true, ?_⟩
      have a2 := a.m2
      unfold apart at c d
      have b2 := b.m2
      show z.to.mo ≤ 10
      by_cases q : z.fr.mo - z.to.mo < 0
      · rw [if_pos q] at c d; omega
      · rw [if_neg q] at c d; omega
  obtain ⟨k', hk'⟩ := hmo
  have e := h.sw hs k'
  have f1 := (swT_in e (h.ah_bd k').1 (h.ah_bd k').2 (Y - 1)).2
  have f2 := bg_succ (Y - 1)
  have f3 : bg (Y - 1 + 1) = bg Y := by congr 1; omega
  have f4 := ah_mono (y := Y - 1) (a := (z.sw k').mo + 1) (b := 11) (by have := e.m1; omega) (by omega) (by omega)
  have f5 : Wp.ah (Y - 1) 11 + 61 = Wp.ah (Y - 1) 13 := by simp [Wp.ah, cum]; omega
  have f6 := ah_end (Y - 1)
  have g := h.sw hs k
  have lt : z.T k y < z.T k' (Y - 1) := by
    have g1 := (swT_in g (h.ah_bd k).1 (h.ah_bd k).2 y).2
    have g2 := (swT_in e (h.ah_bd k').1 (h.ah_bd k').2 (Y - 1)).1
    by_cases q : 12 * y + (z.sw k).mo + 2 ≤ 12 * (Y - 1) + (z.sw k').mo
    · have := h.far hs q; omega
    · -- a switch of the year beside: of two kinds, or of one
      cases k <;> cases k'
      · have : 12 * y + z.fr.mo + 2 ≤ 12 * (Y - 1) + z.fr.mo := by omega
        exact absurd this q
      · rcases h.months hs y (Y - 1) with r | r
        · exact absurd r q
        · have b1 := b.m1; have a2 := a.m2
          omega
      · rcases h.months hs (Y - 1) y with r | r
        · have a1 := a.m1; have b2 := b.m2
          omega
        · exact absurd r q
      · have : 12 * y + z.to.mo + 2 ≤ 12 * (Y - 1) + z.to.mo := by omega
        exact absurd this q
  have le : z.T k' (Y - 1) ≤ t := by unfold Zn.T; omega
  refine ⟨k', swV_iff.2 ⟨by omega, ?_⟩, lt, le⟩
  obtain ⟨t1, t2⟩ := isT_yes v3
  have hbg := bg_mono (show Y + 1 ≤ 10000 by omega)
  rw [bg_end] at hbg
  have q1 : -62135596800 ≤ z.T k y := t1
  exact isT_mk (show -62135596800 ≤ z.T k' (Y - 1) by omega) (show z.T k' (Y - 1) ≤ 253402300799 by omega)
/-- The last switch up to the time, among those of the years around. -/
theorem Off.of_window {z : Zn} (h : ZnOk z) (hs : z.save ≠ 0) {t Y r : Int} (hr : 1 ≤ r) (hY : YearOf t Y) {o : Int}
    (ho : (∃ k y, InW Y r y ∧ z.V k y = true ∧ z.T k y ≤ t ∧ o = z.then_ k ∧ ∀ k' y', InW Y r y' → z.V k' y' = true → z.T k' y' ≤ t → z.T k' y' ≤ z.T k y) ∨ ((∀ k y, InW Y r y → z.V k y = true → ¬ z.T k y ≤ t) ∧ o = z.base)) : Off z t o := by
  rcases ho with ⟨k, y, a, b, c, d, e⟩ | ⟨a, b⟩
  · refine Or.inl ⟨k, y, b, c, d, fun k' y' hv hl => ?_⟩
    by_cases h1 : Y + 2 ≤ y'
    · have := h.later hs hY (k := k') h1; omega
    · by_cases h2 : y' ≤ Y - 2
      · obtain ⟨q, q1, q2, q3⟩ := h.shadow hs hY hv h2
        have := e q (Y - 1) ⟨by omega, by omega⟩ q1 q3
        omega
      · exact e k' y' ⟨by omega, by omega⟩ hv hl
  · refine Or.inr ⟨fun k y hv hl => ?_, b⟩
    by_cases h1 : Y + 2 ≤ y
    · have := h.later hs hY (k := k) h1; omega
    · by_cases h2 : y ≤ Y - 2
      · obtain ⟨q, q1, _, q3⟩ := h.shadow hs hY hv h2
        exact a q (Y - 1) ⟨by omega, by omega⟩ q1 q3
      · exact a k y ⟨by omega, by omega⟩ hv hl
end Go.Proofs.YtpaleljnkejdgaaDoor.Wp
