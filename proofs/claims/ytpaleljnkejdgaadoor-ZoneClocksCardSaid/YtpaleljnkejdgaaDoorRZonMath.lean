/-
  Plain mathematics of the document's own zone answer: the switches of the five years around a time, put in one behind the other where they belong; the last one up to the time, and the first one behind it. No condition but those that the theorems state.
-/
import Derived.Test.YtpaleljnkejdgaaDoorZonList
namespace Go.Proofs.YtpaleljnkejdgaaDoor.Wp

def kN (k : Bool) : Nat := if k then 1 else 0
/-- What there is behind j years and kk switches of the next one. -/
structure Rd (z : Zn) (Y : Int) (j kk : Nat) (L : List (Int × Bool)) : Prop where
  rise : L.Pairwise (fun a b => a.1 ≤ b.1)
  len : L.length ≤ 2 * j + kk
  mem : ∀ x, x ∈ L ↔ ∃ k y, ((Y - 2 ≤ y ∧ y < Y - 2 + j) ∨ (y = Y - 2 + j ∧ kN k < kk)) ∧ z.V k y = true ∧ x = (z.T k y, !k)
theorem Rd.start (z : Zn) (Y : Int) : Rd z Y 0 0 [] := ⟨List.Pairwise.nil, by simp, fun x => by
  constructor
  · intro h; cases h
  · rintro ⟨k, y, h, _⟩; omega⟩
theorem Rd.next {z : Zn} {Y : Int} {j : Nat} {L : List (Int × Bool)} (h : Rd z Y j 2 L) : Rd z Y (j + 1) 0 L := ⟨h.rise, by have := h.len; omega, fun x => by
  rw [h.mem]
  constructor
  · rintro ⟨k, y, hy, r⟩
    exact ⟨k, y, by omega, r⟩
  · rintro ⟨k, y, hy, r⟩
    have hk : kN k < 2 := by cases k <;> decide
    exact ⟨k, y, by omega, r⟩⟩
theorem kN_lt {k : Bool} {kk : Nat} (h : kN k < kk + 1) : kN k < kk ∨ kN k = kk := by omega
theorem kN_inj {a b : Bool} (h : kN a = kN b) : a = b := by cases a <;> cases b <;> simp [kN] at h ⊢
theorem Rd.skip {z : Zn} {Y : Int} {j : Nat} {q : Bool} {L : List (Int × Bool)} (h : Rd z Y j (kN q) L) (hv : z.V q (Y - 2 + j) = false) : Rd z Y j (kN q + 1) L := ⟨h.rise, by have := h.len; omega, fun x => by
  rw [h.mem]
  constructor
  · rintro ⟨k, y, hy, r⟩
    exact ⟨k, y, by omega, r⟩
  · rintro ⟨k, y, hy, r⟩
    refine ⟨k, y, ?_, r⟩
    rcases hy with hy | ⟨rfl, hk⟩
    · exact Or.inl hy
    · rcases kN_lt hk with hk | hk
      · exact Or.inr ⟨rfl, hk⟩
      · rw [kN_inj hk] at r
        rw [hv] at r
        cases r.1⟩
theorem rise_put {L : List (Int × Bool)} (h : L.Pairwise (fun a b => a.1 ≤ b.1)) (x : Int × Bool) (i : Nat) (hi : i ≤ L.length) (h1 : ∀ q (hq : q < L.length), q < i → L[q].1 < x.1) (h2 : ∀ hq : i < L.length, x.1 ≤ L[i].1) : (L.take i ++ [x] ++ L.drop i).Pairwise (fun a b => a.1 ≤ b.1) := by
  rw [List.append_assoc, List.pairwise_append]
  have hdrop : ∀ b ∈ L.drop i, x.1 ≤ b.1 := fun b hb => by
    obtain ⟨q, hq, rfl⟩ := List.getElem_of_mem hb
    rw [List.length_drop] at hq
    rw [List.getElem_drop]
    have h3 := h2 (by omega)
    by_cases hq0 : q = 0
    · subst hq0; exact h3
    · have := List.pairwise_iff_getElem.1 h i (i + q) (by omega) (by omega) (by omega)
      omega
  have htake : ∀ a ∈ L.take i, a.1 < x.1 := fun a ha => by
    obtain ⟨q, hq, rfl⟩ := List.getElem_of_mem ha
    rw [List.length_take] at hq
    rw [List.getElem_take]
    exact h1 q (by omega) (by omega)
  refine ⟨h.sublist (List.take_sublist _ _), ?_, fun a ha b hb => ?_⟩
  · rw [List.singleton_append, List.pairwise_cons]
    exact ⟨hdrop, h.sublist (List.drop_sublist _ _)⟩
  · have := htake a ha
    rcases List.mem_append.1 hb with hb | hb
    · obtain rfl := List.mem_singleton.1 hb
      omega
    · have := hdrop b hb; omega
theorem Rd.add {z : Zn} {Y : Int} {j : Nat} {q : Bool} {L : List (Int × Bool)} (h : Rd z Y j (kN q) L) (hv : z.V q (Y - 2 + j) = true) (i : Nat) (hi : i ≤ L.length) (h1 : ∀ p (hp : p < L.length), p < i → L[p].1 < z.T q (Y - 2 + j)) (h2 : ∀ hp : i < L.length, z.T q (Y - 2 + j) ≤ L[i].1) : Rd z Y j (kN q + 1) (L.take i ++ [(z.T q (Y - 2 + j), !q)] ++ L.drop i) := by
  refine ⟨rise_put h.rise _ i hi h1 h2, ?_, fun x => ?_⟩
  · have := h.len
    rw [List.length_append, List.length_append, List.length_take, List.length_drop, List.length_singleton]
    omega
  · have e : x ∈ L.take i ++ [(z.T q (Y - 2 + j), !q)] ++ L.drop i ↔ x ∈ L ∨ x = (z.T q (Y - 2 + j), !q) := by
      rw [List.mem_append, List.mem_append, List.mem_singleton]
      have e2 : x ∈ L ↔ x ∈ L.take i ∨ x ∈ L.drop i := by rw [← List.mem_append, List.take_append_drop]
      rw [e2]
      constructor
      · rintro ((a | a) | a)
        · exact Or.inl (Or.inl a)
        · exact Or.inr a
        · exact Or.inl (Or.inr a)
      · rintro ((a | a) | a)
        · exact Or.inl (Or.inl a)
        · exact Or.inr a
        · exact Or.inl (Or.inr a)
    rw [e, h.mem]
    constructor
    · rintro (⟨k, y, hy, r⟩ | rfl)
      · exact ⟨k, y, by omega, r⟩
      · exact ⟨q, Y - 2 + j, Or.inr ⟨rfl, by omega⟩, hv, rfl⟩
    · rintro ⟨k, y, hy, r⟩
      rcases hy with hy | ⟨rfl, hk⟩
      · exact Or.inl ⟨k, y, Or.inl hy, r⟩
      · rcases kN_lt hk with hk | hk
        · exact Or.inl ⟨k, _, Or.inr ⟨rfl, hk⟩, r⟩
        · obtain rfl := kN_inj hk
          exact Or.inr r.2
/-- The switches of the five years around, in order. -/
structure Arnd (z : Zn) (Y : Int) (L : List (Int × Bool)) : Prop where
  rise : L.Pairwise (fun a b => a.1 ≤ b.1)
  len : L.length ≤ 10
  mem : ∀ x, x ∈ L ↔ ∃ k y, InW Y 2 y ∧ z.V k y = true ∧ x = (z.T k y, !k)
theorem Rd.done {z : Zn} {Y : Int} {L : List (Int × Bool)} (h : Rd z Y 5 0 L) : Arnd z Y L := ⟨h.rise, by have := h.len; omega, fun x => by
  rw [h.mem]
  unfold InW
  constructor
  · rintro ⟨k, y, hy, r⟩
    exact ⟨k, y, by omega, r⟩
  · rintro ⟨k, y, hy, r⟩
    exact ⟨k, y, by omega, r⟩⟩
/-- Whether the last switch up to the time begins a summer. -/
def lastB (L : List (Int × Bool)) (t : Int) (b : Bool) : Bool := L.foldl (fun m x => if x.1 ≤ t then x.2 else m) b
theorem lastB_take (l : List (Int × Bool)) (t : Int) (b : Bool) (k : Nat) (hk : k < l.length) : lastB (l.take (k + 1)) t b = if l[k].1 ≤ t then l[k].2 else lastB (l.take k) t b := by
  unfold lastB
  rw [List.take_succ_eq_append_getElem hk, List.foldl_append]
  rfl
theorem lastB_spec (t : Int) : ∀ (l : List (Int × Bool)) (b : Bool), l.Pairwise (fun a b => a.1 ≤ b.1) →
    (∃ x ∈ l, x.1 ≤ t ∧ lastB l t b = x.2 ∧ ∀ x' ∈ l, x'.1 ≤ t → x'.1 ≤ x.1) ∨ ((∀ x ∈ l, ¬ x.1 ≤ t) ∧ lastB l t b = b) := by
  intro l
  induction l with
  | nil => intro b _; exact Or.inr ⟨by simp, rfl⟩
  | cons a l ih =>
    intro b hp
    obtain ⟨h1, h2⟩ := List.pairwise_cons.1 hp
    have e : lastB (a :: l) t b = lastB l t (if a.1 ≤ t then a.2 else b) := rfl
    rcases ih (if a.1 ≤ t then a.2 else b) h2 with ⟨x, hx, hxt, hl, hall⟩ | ⟨hall, hl⟩
    · refine Or.inl ⟨x, List.mem_cons_of_mem _ hx, hxt, by rw [e, hl], fun x' hx' hx't => ?_⟩
      rcases List.mem_cons.1 hx' with rfl | hx'
      · exact h1 x hx
      · exact hall x' hx' hx't
    · by_cases ha : a.1 ≤ t
      · refine Or.inl ⟨a, List.mem_cons_self, ha, by rw [e, hl, if_pos ha], fun x' hx' hx't => ?_⟩
        rcases List.mem_cons.1 hx' with rfl | hx'
        · exact Int.le_refl _
        · exact absurd hx't (hall x' hx')
      · refine Or.inr ⟨fun x' hx' => ?_, by rw [e, hl, if_neg ha]⟩
        rcases List.mem_cons.1 hx' with rfl | hx'
        · exact ha
        · exact hall x' hx'
theorem Arnd.off {z : Zn} (hz : ZnOk z) (hs : z.save ≠ 0) {t Y : Int} {L : List (Int × Bool)} (hY : YearOf t Y) (h : Arnd z Y L) : Off z t (if lastB L t false = true then z.base + z.save else z.base) := by
  refine Off.of_window hz hs (r := 2) (by omega) hY ?_
  rcases lastB_spec t L false h.rise with ⟨x, hx, hxt, hl, hall⟩ | ⟨hall, hl⟩
  · obtain ⟨k, y, hin, hv, rfl⟩ := (h.mem _).1 hx
    refine Or.inl ⟨k, y, hin, hv, hxt, ?_, fun k' y' hin' hv' hle => ?_⟩
    · rw [hl]
      cases k <;> rfl
    · exact hall _ ((h.mem _).2 ⟨k', y', hin', hv', rfl⟩) hle
  · refine Or.inr ⟨fun k y hin hv hle => ?_, by rw [hl]; rfl⟩
    exact hall _ ((h.mem _).2 ⟨k, y, hin, hv, rfl⟩) hle
theorem Arnd.next {z : Zn} (hz : ZnOk z) (hs : z.save ≠ 0) {t Y : Int} {l : List (Int × Bool)} (hY : YearOf t Y) (h : Arnd z Y l) (k : Nat) (hk : k < l.length) (h1 : t < l[k].1) (h2 : ∀ i (hi : i < l.length), i < k → l[i].1 ≤ t) : IsNext z t l[k].1 := by
  refine IsNext.of_window hz hs (r := 2) (by omega) hY ?_
  obtain ⟨q, y, hin, hv, he⟩ := (h.mem _).1 (List.getElem_mem hk)
  have he1 : l[k].1 = z.T q y := by rw [he]
  refine ⟨q, y, hin, hv, by rw [← he1]; exact h1, he1, fun q' y' hin' hv' hlt => ?_⟩
  obtain ⟨i, hi, hie⟩ := List.getElem_of_mem ((h.mem _).2 ⟨q', y', hin', hv', rfl⟩)
  have hi1 : l[i].1 = z.T q' y' := by rw [hie]
  rw [← he1, ← hi1]
  rcases Nat.lt_trichotomy i k with c | c | c
  · have := h2 i hi c; rw [hi1] at this; omega
  · subst c; exact Int.le_refl _
  · exact List.pairwise_iff_getElem.1 h.rise k i hk hi c
theorem Arnd.noNext {z : Zn} (hz : ZnOk z) (hs : z.save ≠ 0) {t Y : Int} {l : List (Int × Bool)} (hY : YearOf t Y) (h : Arnd z Y l) (h2 : ∀ i (hi : i < l.length), l[i].1 ≤ t) : NoNext z t := by
  refine NoNext.of_window hz hs (r := 2) (by omega) hY fun q y hin hv hlt => ?_
  obtain ⟨i, hi, hie⟩ := List.getElem_of_mem ((h.mem _).2 ⟨q, y, hin, hv, rfl⟩)
  have := h2 i hi
  rw [hie] at this
  simp only [] at this
  omega
end Go.Proofs.YtpaleljnkejdgaaDoor.Wp
