
/-
  What is read of a value's bytes is that value; what is read has its bytes. Conditions: as the theorems state.
-/
import Derived.Test.YtckcbdnlligndaaDoorVlDec
import Derived.Test.YtckcbdnlligndaaDoorVlEnc
import Derived.Test.YtckcbdnlligndaaDoorPlX
namespace Go.Proofs.YtckcbdnlligndaaDoor.Vl

theorem numP_put (n : Int) (hn : Wp.I64 n) (s : List UInt8) : numP (Wp.numB n ++ s) false = (n, s, false) := by
  have hl := Wp.numB_len n
  have hf : firstP (Wp.numB n ++ s) false 9 = Wp.numB n ++ s.take (9 - (Wp.numB n).length) := by
    show (Wp.numB n ++ s).take 9 = _
    rw [List.take_append, List.take_of_length_le hl]
  unfold numP
  rw [hf, Wp.getNum_numB n hn, if_pos rfl, List.length_append, Nat.add_sub_cancel, List.drop_left]
theorem textP_put (t : List UInt8) (ht : t.length ≤ 4096) (s : List UInt8) : textP (Wp.textB t ++ s) false = (t, s, false) := by
  have hl : (Wp.textB t).length ≤ 4105 := by have := Wp.textB_len t; omega
  have hf : firstP (Wp.textB t ++ s) false 4105 = Wp.textB t ++ s.take (4105 - (Wp.textB t).length) := by
    show (Wp.textB t ++ s).take 4105 = _
    rw [List.take_append, List.take_of_length_le hl]
  unfold textP
  rw [hf, Wp.getText_put t _ ht, if_pos rfl, List.length_append, Nat.add_sub_cancel, List.drop_left]
theorem cut_eq (l a r : List UInt8) (n : Nat) (h : a ++ r = l.take n) : l = a ++ l.drop ((l.take n).length - r.length) := by
  have h2 : (l.take n).length - r.length = a.length := by rw [← h, List.length_append]; omega
  rw [h2]
  have h3 : l = a ++ (r ++ l.drop n) := by rw [← List.append_assoc, h, List.take_append_drop]
  have h4 : l.drop a.length = r ++ l.drop n := by
    conv => lhs; rw [h3]
    rw [List.drop_left]
  rw [h4]
  exact h3
theorem numP_ok {l : List UInt8} {b : Bool} (h : (numP l b).2.2 = false) : b = false ∧ l = Wp.numB (numP l b).1 ++ (numP l b).2.1 ∧ Wp.I64 (numP l b).1 := by
  unfold numP at h ⊢
  split at h
  · rename_i he
    have hb : b = false := h
    subst hb
    rw [if_pos he]
    obtain ⟨h1, h2⟩ := Wp.getNum_ok _ he
    exact ⟨rfl, cut_eq l _ _ 9 h1, h2⟩
  · cases h
theorem textP_ok {l : List UInt8} {b : Bool} (h : (textP l b).2.2 = false) : b = false ∧ l = Wp.textB (textP l b).1 ++ (textP l b).2.1 ∧ (textP l b).1.length ≤ 4096 := by
  unfold textP at h ⊢
  split at h
  · rename_i he
    have hb : b = false := h
    subst hb
    rw [if_pos he]
    obtain ⟨h1, h2⟩ := Wp.getText_ok (firstP l false 4105) (Wp.getText (firstP l false 4105)).1 (Wp.getText (firstP l false 4105)).2.1 (by rw [← he])
    exact ⟨rfl, cut_eq l _ _ 4105 h1, h2⟩
  · cases h
theorem kindP_ok {l : List UInt8} {b : Bool} (h : (kindP l b).2.2 = false) : b = false ∧ l = UInt8.ofNat (kindP l b).1 :: (kindP l b).2.1 := by
  unfold kindP at h ⊢
  cases b with
  | true => cases h
  | false =>
    cases l with
    | nil => cases h
    | cons a t => simp
/-- Each number within is one that a machine holds. -/
def fits : Nat → V → Prop
  | 0, _ => True
  | d + 1, x => Wp.I64 x.num ∧ ∀ y ∈ x.items, fits d y
theorem fits_le : ∀ {d e : Nat} {x : V}, e ≤ d → fits d x → fits e x
  | _, 0, _, _, _ => trivial
  | 0, e + 1, _, h, _ => absurd h (by omega)
  | d + 1, e + 1, x, h, ⟨h1, h2⟩ => ⟨h1, fun y hy => fits_le (by omega) (h2 y hy)⟩
theorem loopP_put {pv : St → V × St} {L : Nat} {R : Int} (hpv : ∀ (x : V) (s : List UInt8) (r : Int), okV L x = true → fits L x → (x.cnt : Int) ≤ r → r ≤ R → pv ⟨x.enc ++ s, false, r⟩ = (x, ⟨s, false, r - x.cnt⟩)) (b : Bool) :
    ∀ (items : List V) (names ns : List ByteArray) (is : List V) (s : List UInt8) (r : Int), (∀ y ∈ items, okV L y = true ∧ fits L y) → (cntL items : Int) ≤ r → r ≤ R → (b = true → names.length = items.length ∧ ∀ x ∈ names, x.size ≤ 4096) → (b = false → names = []) →
    loopP pv (if b then 5 else 4) items.length ns is ⟨encL b items names ++ s, false, r⟩ = (ns ++ names, is ++ items, ⟨s, false, r - cntL items⟩)
  | [], names, ns, is, s, r, _, _, _, h5, h4 => by
    have hn : names = [] := by
      cases b with
      | false => exact h4 rfl
      | true => exact List.length_eq_zero_iff.1 (h5 rfl).1
    rw [hn, encL_nil, cntL_nil, List.length_nil, loopP]
    simp
  | x :: items, names, ns, is, s, r, hi, hc, hR, h5, h4 => by
    rw [cntL_cons] at hc
    have hx := hi x (by simp)
    have hcl := cntL_len items
    rw [List.length_cons, loopP, if_neg (by simp), encL_cons, cntL_cons]
    cases b with
    | true =>
      obtain ⟨hl, hs⟩ := h5 rfl
      cases names with
      | nil => simp at hl
      | cons t names =>
        have ht : t.size ≤ 4096 := hs t (by simp)
        have e1 : (if true = true then Wp.textB ((t :: names).headD ⟨#[]⟩).data.toList else []) ++ (x.enc ++ encL true items (t :: names).tail) ++ s = Wp.textB t.data.toList ++ (x.enc ++ (encL true items names ++ s)) := by
          rw [if_pos rfl]
          simp
        rw [e1, if_pos rfl, if_pos rfl, textP_put _ (by rw [← Wp.size_len]; exact ht)]
        simp only []
        rw [hpv x _ r hx.1 hx.2 (by omega) hR]
        simp only []
        have := loopP_put hpv true items names (ns ++ [Wp.B t.data.toList]) (is ++ [x]) s (r - x.cnt) (fun y hy => hi y (by simp [hy])) (by omega) (by omega) (fun _ => ⟨by simpa using hl, fun y hy => hs y (by simp [hy])⟩) (fun h => by cases h)
        simp only [if_true] at this
        rw [this, Wp.B_of]
        simp
        omega
    | false =>
      obtain rfl := h4 rfl
      have e1 : (if false = true then Wp.textB (([] : List ByteArray).headD ⟨#[]⟩).data.toList else []) ++ (x.enc ++ encL false items ([] : List ByteArray).tail) ++ s = x.enc ++ (encL false items [] ++ s) := by simp
      rw [e1, if_neg (by simp), if_neg (by simp), hpv x _ r hx.1 hx.2 (by omega) hR]
      simp only []
      have := loopP_put hpv false items [] ns (is ++ [x]) s (r - x.cnt) (fun y hy => hi y (by simp [hy])) (by omega) (by omega) (fun h => by cases h) (fun _ => rfl)
      simp only [Bool.false_eq_true, if_false] at this
      rw [this]
      simp
      omega
theorem ba_nil {t : ByteArray} (h : t.size = 0) : t = ⟨#[]⟩ := by
  have : t.data.toList = [] := List.length_eq_zero_iff.1 (by rw [← Wp.size_len]; exact h)
  rw [← Wp.B_of t, this]
  rfl
theorem pv_put : ∀ (F L : Nat) (x : V) (s : List UInt8) (r : Int), L ≤ F → okV L x = true → fits L x → (x.cnt : Int) ≤ r → r ≤ 256 → pv F ⟨x.enc ++ s, false, r⟩ = (x, ⟨s, false, r - x.cnt⟩)
  | _, 0, _, _, _, _, h, _, _, _ => by cases h
  | 0, L + 1, _, _, _, h, _, _, _, _ => by omega
  | F + 1, L + 1, .mk k t n items names, s, r, hL, hok, hfit, hc, hr => by
    change (leafC k t n items.length names && items.all (okV L)) = true at hok
    rw [Bool.and_eq_true] at hok
    have hall := List.all_eq_true.1 hok.2
    have hlf := hok.1
    obtain ⟨hf1, hf2⟩ := hfit
    change Wp.I64 n at hf1
    change ∀ y ∈ items, fits L y at hf2
    have hcnt : (V.mk k t n items names).cnt = cntL items + 1 := by rw [V.cnt]
    rw [hcnt] at hc ⊢
    have hd : decide (r - 1 < 0) = false := decide_eq_false (by omega)
    have hk255 : k ≤ 5 := by
      unfold leafC at hlf
      split at hlf <;> first | omega | cases hlf
    have hkp : ∀ t, kindP (UInt8.ofNat k :: t) false = (k, t, false) := fun t => by
      unfold kindP
      simp
      omega
    rw [V.enc, List.cons_append, pv]
    simp only [Bool.false_or, hd]
    rw [hkp]
    simp only []
    unfold bodyP
    have hih := fun (y : V) (s : List UInt8) (r : Int) (h1 : okV L y = true) (h2 : fits L y) (h3 : (y.cnt : Int) ≤ r) (h4 : r ≤ 256) => pv_put F L y s r (by omega) h1 h2 h3 h4
    unfold leafC at hlf
    split at hlf
    · simp only [Bool.and_eq_true, decide_eq_true_eq] at hlf
      obtain ⟨⟨⟨h1, h2⟩, h3⟩, h4⟩ := hlf
      obtain rfl := List.length_eq_zero_iff.1 h3
      obtain rfl := List.length_eq_zero_iff.1 h4
      subst h2
      have e := textP_put t.data.toList (by rw [← Wp.size_len]; exact h1) s
      simp +decide only [if_true, if_false]
      rw [e, Wp.B_of, cntL_nil]
      simp
    · simp only [Bool.and_eq_true, decide_eq_true_eq] at hlf
      obtain ⟨⟨h1, h3⟩, h4⟩ := hlf
      obtain rfl := List.length_eq_zero_iff.1 h3
      obtain rfl := List.length_eq_zero_iff.1 h4
      have e := numP_put n hf1 s
      simp +decide only [if_true, if_false]
      rw [e, ba_nil h1, cntL_nil]
      simp
    · simp only [Bool.and_eq_true, decide_eq_true_eq] at hlf
      obtain ⟨_, ⟨h1, h3⟩, h4⟩ := hlf
      obtain rfl := List.length_eq_zero_iff.1 h3
      obtain rfl := List.length_eq_zero_iff.1 h4
      have e := numP_put n hf1 s
      simp +decide only [if_true, if_false]
      rw [e, ba_nil h1, cntL_nil]
      simp
    · simp only [Bool.and_eq_true, decide_eq_true_eq] at hlf
      obtain ⟨⟨h1, h2⟩, h4⟩ := hlf
      obtain rfl := List.length_eq_zero_iff.1 h4
      subst h2
      have hcl := cntL_len items
      simp +decide only [if_true, if_false]
      rw [ba_nil h1, List.append_assoc]
      unfold itemsP
      rw [numP_put _ ⟨by omega, by omega⟩]
      simp only []
      have hz : (false || decide ((items.length : Int) < 0)) = false := by rw [decide_eq_false (by omega)]; rfl
      have := loopP_put hih false items [] [] [] s (r - 1) (fun y hy => ⟨hall y hy, hf2 y hy⟩) (by omega) (by omega) (fun h => by cases h) (fun _ => rfl)
      simp only [Bool.false_eq_true, if_false] at this
      rw [hz, Int.toNat_natCast, this]
      simp
      omega
    · simp only [Bool.and_eq_true, decide_eq_true_eq] at hlf
      obtain ⟨⟨⟨h1, h2⟩, h3⟩, h4⟩ := hlf
      subst h2
      have hcl := cntL_len items
      simp +decide only [if_true, if_false]
      rw [ba_nil h1, List.append_assoc]
      unfold itemsP
      rw [numP_put _ ⟨by omega, by omega⟩]
      simp only []
      have hz : (false || decide ((items.length : Int) < 0)) = false := by rw [decide_eq_false (by omega)]; rfl
      have := loopP_put hih true items names [] [] s (r - 1) (fun y hy => ⟨hall y hy, hf2 y hy⟩) (by omega) (by omega) (fun _ => ⟨h3, fun y hy => by have := riseS h4 y hy; omega⟩) (fun h => by cases h)
      simp only [if_true] at this
      rw [hz, Int.toNat_natCast, this]
      simp
      omega
    · cases hlf
where
  riseS : ∀ {a : ByteArray} {l : List ByteArray}, rise a l = true → ∀ s ∈ l, s.size ≤ 32
    | _, [], _, s, hs => by simp at hs
    | a, x :: l, h, s, hs => by
      rw [rise, Bool.and_eq_true, Bool.and_eq_true] at h
      rcases List.mem_cons.1 hs with rfl | hs
      · have h1 := h.1.1
        unfold named nameL at h1
        rw [Bool.and_eq_true, Bool.and_eq_true, decide_eq_true_eq] at h1
        rw [Wp.size_len]
        exact h1.1.1
      · exact riseS h.2 s hs
theorem loopP_ok {pv : St → V × St} {R : Int} (hk : ∀ st, 0 ≤ st.r → st.r + 1 ≤ R → Keeps st (pv st).2) (hpv : ∀ st, 0 ≤ st.r → st.r + 1 ≤ R → (pv st).2.b = false → st.b = false ∧ st.l = (pv st).1.enc ++ (pv st).2.l) (b : Bool) :
    ∀ (m : Nat) (ns : List ByteArray) (is : List V) (st : St), (st.b = false → 0 ≤ st.r) → st.r + 1 ≤ R → (loopP pv (if b then 5 else 4) m ns is st).2.2.b = false →
    st.b = false ∧ ∃ names items, (loopP pv (if b then 5 else 4) m ns is st).1 = ns ++ names ∧ (loopP pv (if b then 5 else 4) m ns is st).2.1 = is ++ items ∧ items.length = m ∧ (b = true → names.length = m) ∧ st.l = encL b items names ++ (loopP pv (if b then 5 else 4) m ns is st).2.2.l
  | 0, ns, is, st, _, _, h => by
    rw [loopP] at h ⊢
    exact ⟨h, [], [], by simp, by simp, rfl, fun _ => rfl, by rw [encL_nil]; rfl⟩
  | m + 1, ns, is, st, h0, hR, h => by
    rw [loopP] at h ⊢
    cases hb : st.b with
    | true => rw [if_pos hb] at h; rw [hb] at h; cases h
    | false =>
      have hr := h0 hb
      rw [if_neg (by rw [hb]; simp)] at h
      rw [if_neg (by simp)]
      refine ⟨rfl, ?_⟩
      cases b with
      | true =>
        simp only [if_true] at h ⊢
        rw [hb] at h
        have hK := hk ⟨(textP st.l false).2.1, (textP st.l false).2.2, st.r⟩ hr hR
        obtain ⟨i1, names, items, i2, i3, i4, i5, i6⟩ := loopP_ok hk hpv true m (ns ++ [Wp.B (textP st.l false).1]) (is ++ [(pv ⟨(textP st.l false).2.1, (textP st.l false).2.2, st.r⟩).1]) _ hK.good (by have := hK.room; simp only at this; omega) h
        obtain ⟨j1, j2⟩ := hpv ⟨(textP st.l false).2.1, (textP st.l false).2.2, st.r⟩ hr hR i1
        obtain ⟨_, k1, _⟩ := textP_ok j1
        simp only at j2
        simp only [if_true] at i2 i3 i6
        refine ⟨Wp.B (textP st.l false).1 :: names, (pv ⟨(textP st.l false).2.1, (textP st.l false).2.2, st.r⟩).1 :: items, ?_, ?_, by simp [i4], fun _ => by simp [i5 rfl], ?_⟩
        · rw [i2]; simp
        · rw [i3]; simp
        · rw [encL_cons, if_pos rfl, List.headD_cons, List.tail_cons, Wp.B_data, List.append_assoc, List.append_assoc, ← i6, ← j2]
          exact k1
      | false =>
        simp only [Bool.false_eq_true, if_false, show ¬ (4 : Nat) = 5 by decide] at h ⊢
        have hK := hk st hr hR
        obtain ⟨i1, names, items, i2, i3, i4, i5, i6⟩ := loopP_ok hk hpv false m ns (is ++ [(pv st).1]) _ hK.good (by have := hK.room; omega) h
        obtain ⟨j1, j2⟩ := hpv st hr hR i1
        simp only [Bool.false_eq_true, if_false] at i2 i3 i6
        refine ⟨names, (pv st).1 :: items, i2, ?_, by simp [i4], (fun h => by cases h), ?_⟩
        · rw [i3]; simp
        · rw [encL_cons]
          simp only [Bool.false_eq_true, if_false, List.nil_append]
          have e : encL false items names.tail = encL false items names := encF items _ _
          rw [e, List.append_assoc, ← i6]
          exact j2
where
  encF : ∀ (l : List V) (a c : List ByteArray), encL false l a = encL false l c
    | [], a, c => by rw [encL_nil, encL_nil]
    | x :: l, a, c => by rw [encL_cons, encL_cons, encF l a.tail c.tail]; rfl
theorem pv_ok : ∀ (F : Nat) (st : St), 0 ≤ st.r → st.r + 1 ≤ F → (pv F st).2.b = false → st.b = false ∧ st.l = (pv F st).1.enc ++ (pv F st).2.l
  | 0, st, h, hf, _ => by omega
  | F + 1, st, h, hf, hb => by
    rw [pv] at hb ⊢
    obtain ⟨_, k2, k3, _⟩ := kindP_len st.l (st.b || decide (st.r - 1 < 0))
    have hko := @kindP_ok st.l (st.b || decide (st.r - 1 < 0))
    generalize kindP st.l (st.b || decide (st.r - 1 < 0)) = kp at *
    obtain ⟨k, t, kb⟩ := kp
    simp only at *
    have hkb : kb = false := by
      cases kb with
      | false => rfl
      | true =>
        rw [k2 rfl] at hb
        unfold bodyP at hb
        simp at hb
    obtain ⟨e1, e2⟩ := hko hkb
    subst hkb
    rw [Bool.or_eq_false_iff] at e1
    have hr : ¬ st.r - 1 < 0 := by simpa using e1.2
    refine ⟨e1.1, ?_⟩
    rw [e2]
    unfold bodyP at hb ⊢
    by_cases h1 : k = 1
    · subst h1
      rw [if_pos rfl] at hb ⊢
      simp only [] at hb ⊢
      rw [V.enc, List.cons_append]
      simp +decide only [if_true, if_false]
      obtain ⟨_, t2, _⟩ := textP_ok hb
      rw [Wp.B_data, ← t2]
    · rw [if_neg h1] at hb ⊢
      by_cases h23 : k = 2 ∨ k = 3
      · rw [if_pos h23] at hb ⊢
        simp only [] at hb ⊢
        rw [V.enc, List.cons_append, if_neg h1, if_pos h23]
        obtain ⟨_, t2, _⟩ := numP_ok hb
        rw [← t2]
      · rw [if_neg h23] at hb ⊢
        by_cases h45 : k = 4 ∨ k = 5
        · rw [if_pos h45] at hb ⊢
          simp only [] at hb ⊢
          unfold itemsP at hb ⊢
          simp only [] at hb ⊢
          rw [V.enc, List.cons_append, if_neg h1, if_neg h23]
          have hl := fun b => loopP_ok (R := st.r) (fun s h0 h1 => pv_keeps F s h0 (by omega)) (fun s h0 h1 h2 => pv_ok F s h0 (by omega) h2) b (numP t false).1.toNat [] [] ⟨(numP t false).2.1, (numP t false).2.2 || decide ((numP t false).1 < 0), st.r - 1⟩ (fun _ => by show 0 ≤ st.r - 1; omega) (by show st.r - 1 + 1 ≤ st.r; omega)
          rcases h45 with rfl | rfl
          · obtain ⟨i1, names, items, i2, i3, i4, _, i6⟩ := hl false hb
            simp only [Bool.false_eq_true, if_false, List.nil_append] at i2 i3 i6
            simp only [Bool.or_eq_false_iff] at i1
            obtain ⟨_, t2, _⟩ := numP_ok i1.1
            have hn : ¬ (numP t false).1 < 0 := by simpa using i1.2
            rw [if_pos rfl, i2, i3, i4, List.append_assoc, ← i6, Int.toNat_of_nonneg (by omega), ← t2]
          · obtain ⟨i1, names, items, i2, i3, i4, _, i6⟩ := hl true hb
            simp only [if_true, List.nil_append] at i2 i3 i6
            simp only [Bool.or_eq_false_iff] at i1
            obtain ⟨_, t2, _⟩ := numP_ok i1.1
            have hn : ¬ (numP t false).1 < 0 := by simpa using i1.2
            rw [if_neg (by decide), if_pos rfl, i2, i3, i4, List.append_assoc, ← i6, Int.toNat_of_nonneg (by omega), ← t2]
        · rw [if_neg h45] at hb ⊢
          simp only [] at hb ⊢
          rw [V.enc, if_neg h1, if_neg h23, if_neg (fun e => h45 (Or.inl e)), if_neg (fun e => h45 (Or.inr e))]
          rfl
/-- What Decode tells: a value, what is behind it, and why there is none. -/
def decR (l : List UInt8) : V × List UInt8 × Int := if (pv 257 ⟨l, false, 256⟩).2.b || !good (pv 257 ⟨l, false, 256⟩).1 then (zero, [], 7) else ((pv 257 ⟨l, false, 256⟩).1, (pv 257 ⟨l, false, 256⟩).2.l, 0)
theorem decR_put {x : V} (hg : good x = true) (hf : fits 8 x) (s : List UInt8) : decR (x.enc ++ s) = (x, s, 0) := by
  have h := hg
  unfold good at h
  rw [Bool.and_eq_true, decide_eq_true_eq] at h
  unfold decR
  rw [pv_put 257 8 x s 256 (by omega) h.1 hf (by omega) (by omega)]
  simp [hg]
theorem decR_ok {l : List UInt8} (h : (decR l).2.2 = 0) : good (decR l).1 = true ∧ l = (decR l).1.enc ++ (decR l).2.1 := by
  unfold decR at h ⊢
  have hp := pv_ok 257 ⟨l, false, 256⟩ (by show (0 : Int) ≤ 256; omega) (by show (256 : Int) + 1 ≤ _; omega)
  generalize pv 257 ⟨l, false, 256⟩ = p at *
  split at h
  · cases h
  · rename_i hc
    rw [if_neg hc]
    rw [Bool.or_eq_true, not_or] at hc
    refine ⟨by simpa using hc.2, (hp (by simpa using hc.1)).2⟩
theorem decR_bad {l : List UInt8} (h : (decR l).2.2 ≠ 0) : (decR l).1 = zero ∧ (decR l).2.1 = [] := by
  unfold decR at h ⊢
  split
  · exact ⟨rfl, rfl⟩
  · rename_i hc
    rw [if_neg hc] at h
    exact absurd rfl h
end Go.Proofs.YtckcbdnlligndaaDoor.Vl
