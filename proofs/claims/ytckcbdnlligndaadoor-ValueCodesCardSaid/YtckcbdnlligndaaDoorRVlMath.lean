/-
  What the document's own reading of a value, and its own With, come to, as plain data: the same as what Decode and With tell. No condition but those that the theorems state.
-/
import Derived.Test.YtckcbdnlligndaaDoorVlDecMath
import Derived.Test.YtckcbdnlligndaaDoorVlWi
namespace Go.Proofs.YtckcbdnlligndaaDoor.Vl

/-- Items, one behind the other, as far as they can be read. -/
def gLoop (gv : List UInt8 → V × List UInt8 × Bool) (k : Nat) : Nat → List ByteArray → List V → List UInt8 → List ByteArray × List V × List UInt8 × Bool
  | 0, ns, is, l => (ns, is, l, true)
  | m + 1, ns, is, l =>
    if k = 5 then
      if (Wp.getText l).2.2 = 0 then
        if (gv (Wp.getText l).2.1).2.2 = true then gLoop gv k m (ns ++ [Wp.B (Wp.getText l).1]) (is ++ [(gv (Wp.getText l).2.1).1]) (gv (Wp.getText l).2.1).2.1 else ([], [], [], false)
      else ([], [], [], false)
    else if (gv l).2.2 = true then gLoop gv k m ns (is ++ [(gv l).1]) (gv l).2.1 else ([], [], [], false)
/-- A value of so many levels, as far as it can be read. -/
def guessP : Nat → List UInt8 → V × List UInt8 × Bool
  | _, [] => (zero, [], false)
  | 0, _ :: _ => (zero, [], false)
  | L + 1, a :: t =>
    if a.toNat = 1 then (.mk 1 (Wp.B (Wp.getText t).1) 0 [] [], (Wp.getText t).2.1, decide ((Wp.getText t).2.2 = 0))
    else if a.toNat = 2 ∨ a.toNat = 3 then (.mk a.toNat ⟨#[]⟩ (Wp.getNum t).1 [] [], (Wp.getNum t).2.1, decide ((Wp.getNum t).2.2 = 0))
    else if (Wp.getNum t).2.2 = 0 ∧ 0 ≤ (Wp.getNum t).1 ∧ (Wp.getNum t).1 ≤ 256 then
      (if (gLoop (guessP L) a.toNat (Wp.getNum t).1.toNat [] [] (Wp.getNum t).2.1).2.2.2 = true then
        (.mk a.toNat ⟨#[]⟩ 0 (gLoop (guessP L) a.toNat (Wp.getNum t).1.toNat [] [] (Wp.getNum t).2.1).2.1 (gLoop (guessP L) a.toNat (Wp.getNum t).1.toNat [] [] (Wp.getNum t).2.1).1, (gLoop (guessP L) a.toNat (Wp.getNum t).1.toNat [] [] (Wp.getNum t).2.1).2.2.1, true)
      else (zero, [], false))
    else (zero, [], false)
theorem gLoop_put {gv : List UInt8 → V × List UInt8 × Bool} {L : Nat} (hgv : ∀ (x : V) (s : List UInt8), okV L x = true → fits L x → x.cnt ≤ 256 → gv (x.enc ++ s) = (x, s, true)) (b : Bool) :
    ∀ (items : List V) (names ns : List ByteArray) (is : List V) (s : List UInt8), (∀ y ∈ items, okV L y = true ∧ fits L y ∧ y.cnt ≤ 256) → (b = true → names.length = items.length ∧ ∀ x ∈ names, x.size ≤ 4096) → (b = false → names = []) →
    gLoop gv (if b then 5 else 4) items.length ns is (encL b items names ++ s) = (ns ++ names, is ++ items, s, true)
  | [], names, ns, is, s, _, h5, h4 => by
    have hn : names = [] := by
      cases b with
      | false => exact h4 rfl
      | true => exact List.length_eq_zero_iff.1 (h5 rfl).1
    rw [hn, encL_nil, List.length_nil, gLoop]
    simp
  | x :: items, names, ns, is, s, hi, h5, h4 => by
    have hx := hi x (by simp)
    rw [List.length_cons, gLoop, encL_cons]
    cases b with
    | true =>
      obtain ⟨hl, hs⟩ := h5 rfl
      cases names with
      | nil => simp at hl
      | cons t names =>
        have ht : t.size ≤ 4096 := hs t (by simp)
        have e1 : (if true = true then Wp.textB ((t :: names).headD ⟨#[]⟩).data.toList else []) ++ (x.enc ++ encL true items (t :: names).tail) ++ s = Wp.textB t.data.toList ++ (x.enc ++ (encL true items names ++ s)) := by
          rw [if_pos rfl]
          simp
        rw [e1, if_pos rfl, if_pos rfl, Wp.getText_put _ _ (by rw [← Wp.size_len]; exact ht)]
        simp only []
        rw [hgv x _ hx.1 hx.2.1 hx.2.2]
        simp only []
        have := gLoop_put hgv true items names (ns ++ [Wp.B t.data.toList]) (is ++ [x]) s (fun y hy => hi y (by simp [hy])) (fun _ => ⟨by simpa using hl, fun y hy => hs y (by simp [hy])⟩) (fun h => by cases h)
        simp only [if_true] at this
        simp only [if_true]
        rw [this, Wp.B_of]
        simp
    | false =>
      obtain rfl := h4 rfl
      have e1 : (if false = true then Wp.textB (([] : List ByteArray).headD ⟨#[]⟩).data.toList else []) ++ (x.enc ++ encL false items ([] : List ByteArray).tail) ++ s = x.enc ++ (encL false items [] ++ s) := by simp
      rw [e1, if_neg (by simp), hgv x _ hx.1 hx.2.1 hx.2.2]
      simp only []
      have := gLoop_put hgv false items [] ns (is ++ [x]) s (fun y hy => hi y (by simp [hy])) (fun h => by cases h) (fun _ => rfl)
      simp only [Bool.false_eq_true, if_false] at this
      simp only [Bool.false_eq_true, if_false, if_true]
      rw [this]
      simp
theorem guessP_put : ∀ (L : Nat) (x : V) (s : List UInt8), okV L x = true → fits L x → x.cnt ≤ 256 → guessP L (x.enc ++ s) = (x, s, true)
  | 0, _, _, h, _, _ => by cases h
  | L + 1, .mk k t n items names, s, hok, hfit, hc => by
    change (leafC k t n items.length names && items.all (okV L)) = true at hok
    rw [Bool.and_eq_true] at hok
    have hall := List.all_eq_true.1 hok.2
    have hlf := hok.1
    obtain ⟨hf1, hf2⟩ := hfit
    change Wp.I64 n at hf1
    change ∀ y ∈ items, fits L y at hf2
    have hcnt : (V.mk k t n items names).cnt = cntL items + 1 := by rw [V.cnt]
    rw [hcnt] at hc
    have hk255 : k ≤ 5 := by
      unfold leafC at hlf
      split at hlf <;> first | omega | cases hlf
    have hkn : (UInt8.ofNat k).toNat = k := by rw [UInt8.toNat_ofNat']; omega
    have hits : ∀ y ∈ items, okV L y = true ∧ fits L y ∧ y.cnt ≤ 256 := fun y hy => ⟨hall y hy, hf2 y hy, by have := cntL_mem hy; omega⟩
    rw [V.enc, List.cons_append, guessP, hkn]
    have hih := guessP_put L
    have hcl := cntL_len items
    have hI : Wp.I64 (items.length : Int) := ⟨by omega, by omega⟩
    unfold leafC at hlf
    split at hlf
    · simp only [Bool.and_eq_true, decide_eq_true_eq] at hlf
      obtain ⟨⟨⟨h1, h2⟩, h3⟩, h4⟩ := hlf
      obtain rfl := List.length_eq_zero_iff.1 h3
      obtain rfl := List.length_eq_zero_iff.1 h4
      subst h2
      simp +decide only [if_true]
      rw [Wp.getText_put _ _ (by rw [← Wp.size_len]; exact h1), Wp.B_of]
      simp
    · simp only [Bool.and_eq_true, decide_eq_true_eq] at hlf
      obtain ⟨⟨h1, h3⟩, h4⟩ := hlf
      obtain rfl := List.length_eq_zero_iff.1 h3
      obtain rfl := List.length_eq_zero_iff.1 h4
      simp +decide only [if_true, if_false]
      rw [Wp.getNum_numB n hf1 s, ba_nil h1]
      simp
    · simp only [Bool.and_eq_true, decide_eq_true_eq] at hlf
      obtain ⟨_, ⟨h1, h3⟩, h4⟩ := hlf
      obtain rfl := List.length_eq_zero_iff.1 h3
      obtain rfl := List.length_eq_zero_iff.1 h4
      simp +decide only [if_true, if_false]
      rw [Wp.getNum_numB n hf1 s, ba_nil h1]
      simp
    · simp only [Bool.and_eq_true, decide_eq_true_eq] at hlf
      obtain ⟨⟨h1, h2⟩, h4⟩ := hlf
      obtain rfl := List.length_eq_zero_iff.1 h4
      subst h2
      simp +decide only [if_true, if_false]
      rw [ba_nil h1, List.append_assoc, Wp.getNum_numB _ hI]
      simp only []
      have := gLoop_put hih false items [] [] [] s hits (fun h => by cases h) (fun _ => rfl)
      simp only [Bool.false_eq_true, if_false] at this
      rw [if_pos ⟨trivial, by omega, by omega⟩, Int.toNat_natCast, this]
      simp
    · simp only [Bool.and_eq_true, decide_eq_true_eq] at hlf
      obtain ⟨⟨⟨h1, h2⟩, h3⟩, h4⟩ := hlf
      subst h2
      simp +decide only [if_true, if_false]
      rw [ba_nil h1, List.append_assoc, Wp.getNum_numB _ hI]
      simp only []
      have := gLoop_put hih true items names [] [] s hits (fun _ => ⟨h3, fun y hy => by have := riseS h4 y hy; omega⟩) (fun h => by cases h)
      simp only [if_true] at this
      rw [if_pos ⟨trivial, by omega, by omega⟩, Int.toNat_natCast, this]
      simp
    · cases hlf
where
  riseS : ∀ {a : ByteArray} {l : List ByteArray}, rise a l = true → ∀ s ∈ l, s.size ≤ 32
    | _, [], _, s, hs => by simp at hs
    | a, x :: l, h, s, hs => by
      rw [rise, Bool.and_eq_true, Bool.and_eq_true] at h
      rcases List.mem_cons.1 hs with rfl | hs
      · have h1 := h.1.1
        unfold named nameL at h1
        rw [Bool.and_eq_true, Bool.and_eq_true, decide_eq_true_eq] at h1
        rw [Wp.size_len]
        exact h1.1.1
      · exact riseS h.2 s hs
theorem encF : ∀ (l : List V) (a c : List ByteArray), encL false l a = encL false l c
  | [], a, c => by rw [encL_nil, encL_nil]
  | x :: l, a, c => by rw [encL_cons, encL_cons, encF l a.tail c.tail]; rfl
theorem gLoop_ok {gv : List UInt8 → V × List UInt8 × Bool} {M : Nat} (hgv : ∀ l, (gv l).2.2 = true → okV M (gv l).1 = true → l = (gv l).1.enc ++ (gv l).2.1) (b : Bool) :
    ∀ (m : Nat) (ns : List ByteArray) (is : List V) (l : List UInt8), (gLoop gv (if b then 5 else 4) m ns is l).2.2.2 = true → (∀ y ∈ (gLoop gv (if b then 5 else 4) m ns is l).2.1, okV M y = true) →
    ∃ names items, (gLoop gv (if b then 5 else 4) m ns is l).1 = ns ++ names ∧ (gLoop gv (if b then 5 else 4) m ns is l).2.1 = is ++ items ∧ items.length = m ∧ (b = true → names.length = m) ∧ l = encL b items names ++ (gLoop gv (if b then 5 else 4) m ns is l).2.2.1
  | 0, ns, is, l, h, hy => by
    rw [gLoop] at h ⊢
    exact ⟨[], [], by simp, by simp, rfl, fun _ => rfl, by rw [encL_nil]; rfl⟩
  | m + 1, ns, is, l, h, hy => by
    rw [gLoop] at h hy ⊢
    cases b with
    | true =>
      simp only [if_true] at h hy ⊢
      split at h
      · rename_i ht
        simp only [ht, if_true] at hy ⊢
        split at h
        · rename_i hg
          simp only [hg, if_true] at hy ⊢
          obtain ⟨names, items, i2, i3, i4, i5, i6⟩ := gLoop_ok hgv true m (ns ++ [Wp.B (Wp.getText l).1]) (is ++ [(gv (Wp.getText l).2.1).1]) _ h hy
          simp only [if_true] at i2 i3 i6
          have hok : okV M (gv (Wp.getText l).2.1).1 = true := hy _ (by rw [i3]; simp)
          have j2 := hgv _ hg hok
          obtain ⟨k1, _⟩ := Wp.getText_ok l (Wp.getText l).1 (Wp.getText l).2.1 (by rw [← ht])
          refine ⟨Wp.B (Wp.getText l).1 :: names, (gv (Wp.getText l).2.1).1 :: items, ?_, ?_, by simp [i4], fun _ => by simp [i5 rfl], ?_⟩
          · rw [i2]; simp
          · rw [i3]; simp
          · rw [encL_cons, if_pos rfl, List.headD_cons, List.tail_cons, Wp.B_data, List.append_assoc, List.append_assoc, ← i6, ← j2]
            exact k1.symm
        · cases h
      · cases h
    | false =>
      simp only [Bool.false_eq_true, if_false, show ¬ (4 : Nat) = 5 by decide] at h hy ⊢
      split at h
      · rename_i hg
        simp only [hg, if_true] at hy ⊢
        obtain ⟨names, items, i2, i3, i4, i5, i6⟩ := gLoop_ok hgv false m ns (is ++ [(gv l).1]) _ h hy
        simp only [Bool.false_eq_true, if_false] at i2 i3 i6
        have hok : okV M (gv l).1 = true := hy _ (by rw [i3]; simp)
        have j2 := hgv _ hg hok
        refine ⟨names, (gv l).1 :: items, i2, ?_, by simp [i4], (fun h => by cases h), ?_⟩
        · rw [i3]; simp
        · rw [encL_cons]
          simp only [Bool.false_eq_true, if_false, List.nil_append]
          rw [encF items names.tail names, List.append_assoc, ← i6]
          exact j2
      · cases h
theorem guessP_ok : ∀ (L M : Nat) (l : List UInt8), (guessP L l).2.2 = true → okV M (guessP L l).1 = true → l = (guessP L l).1.enc ++ (guessP L l).2.1
  | 0, _, [], h, _ => by rw [guessP] at h; cases h
  | L + 1, _, [], h, _ => by rw [guessP] at h; cases h
  | 0, _, _ :: _, h, _ => by rw [guessP] at h; cases h
  | _ + 1, 0, _ :: _, _, h => by rw [okV] at h; cases h
  | L + 1, M + 1, a :: t, h, hok => by
    have ha : UInt8.ofNat a.toNat = a := UInt8.ofNat_toNat
    rw [guessP] at h hok ⊢
    split at h
    · rename_i h1
      rw [if_pos h1] at hok ⊢
      simp only [decide_eq_true_eq] at h
      obtain ⟨k1, _⟩ := Wp.getText_ok t (Wp.getText t).1 (Wp.getText t).2.1 (by rw [← h])
      rw [V.enc, List.cons_append]
      simp +decide only [if_true]
      rw [Wp.B_data, k1, ← h1, ha]
    · rename_i h1
      rw [if_neg h1] at hok ⊢
      split at h
      · rename_i h23
        rw [if_pos h23] at hok ⊢
        simp only [decide_eq_true_eq] at h
        obtain ⟨k1, _⟩ := Wp.getNum_ok t h
        rw [V.enc, List.cons_append, if_neg h1, if_pos h23, k1, ha]
      · rename_i h23
        rw [if_neg h23] at hok ⊢
        split at h
        · rename_i hn
          rw [if_pos hn] at hok ⊢
          split at h
          · rename_i hl
            rw [if_pos hl] at hok ⊢
            change (leafC a.toNat ⟨#[]⟩ 0 _ _ && (gLoop (guessP L) a.toNat (Wp.getNum t).1.toNat [] [] (Wp.getNum t).2.1).2.1.all (okV M)) = true at hok
            rw [Bool.and_eq_true] at hok
            have hall := List.all_eq_true.1 hok.2
            have hk : a.toNat = 4 ∨ a.toNat = 5 := by
              have hlf := hok.1
              unfold leafC at hlf
              split at hlf <;> first | omega | cases hlf
            obtain ⟨k1, _⟩ := Wp.getNum_ok t hn.1
            have hg := fun b => gLoop_ok (fun l => guessP_ok L M l) b (Wp.getNum t).1.toNat [] [] (Wp.getNum t).2.1
            rw [V.enc, List.cons_append, if_neg h1, if_neg h23, ha]
            rcases hk with hk | hk
            · have hg := hg false
              simp only [Bool.false_eq_true, if_false] at hg
              rw [hk] at hl hall ⊢
              obtain ⟨names, items, i2, i3, i4, _, i6⟩ := hg hl hall
              simp only [List.nil_append] at i2 i3
              rw [if_pos rfl, i2, i3, i4, List.append_assoc, ← i6, Int.toNat_of_nonneg hn.2.1, k1]
            · have hg := hg true
              simp only [if_true] at hg
              rw [hk] at hl hall ⊢
              obtain ⟨names, items, i2, i3, i4, _, i6⟩ := hg hl hall
              simp only [List.nil_append] at i2 i3
              rw [if_neg (by decide), if_pos rfl, i2, i3, i4, List.append_assoc, ← i6, Int.toNat_of_nonneg hn.2.1, k1]
          · cases h
        · cases h
/-- What the document's Decode tells. -/
def guessR (l : List UInt8) : V × List UInt8 × Int := if (guessP 8 l).2.2 = true ∧ good (guessP 8 l).1 = true then ((guessP 8 l).1, (guessP 8 l).2.1, 0) else (zero, [], 7)
theorem guessR_eq {l : List UInt8} (hf : ∀ e, fits e (decR l).1) (hf2 : ∀ e, fits e (guessP 8 l).1) : guessR l = decR l := by
  unfold guessR
  split
  · rename_i h
    have hg := h.2
    unfold good at hg
    rw [Bool.and_eq_true] at hg
    have e := guessP_ok 8 8 l h.1 hg.1
    conv => rhs; rw [e]
    rw [decR_put h.2 (hf2 8)]
  · rename_i h
    by_cases hd : (decR l).2.2 = 0
    · exfalso
      obtain ⟨h1, h2⟩ := decR_ok hd
      have hg := h1
      unfold good at hg
      rw [Bool.and_eq_true, decide_eq_true_eq] at hg
      have e := guessP_put 8 (decR l).1 (decR l).2.1 hg.1 (hf 8) hg.2
      rw [← h2] at e
      apply h
      rw [e]
      exact ⟨rfl, h1⟩
    · have h7 : (decR l).2.2 = 7 := by
        unfold decR at hd ⊢
        split
        · rfl
        · rename_i hc
          rw [if_neg hc] at hd
          exact absurd rfl hd
      obtain ⟨h1, h2⟩ := decR_bad hd
      rw [← h1, ← h2, ← h7]
/-- One name of the document's With. -/
def wStep (s : ByteArray) (x : V) (acc : Bool × List ByteArray × List V) (p : ByteArray × V) : Bool × List ByteArray × List V :=
  if p.1 = s then (true, (if acc.1 || ltB p.1 s then acc.2.1 else acc.2.1 ++ [s]), (if acc.1 || ltB p.1 s then acc.2.2 else acc.2.2 ++ [x]))
  else (acc.1 || !ltB p.1 s, (if acc.1 || ltB p.1 s then acc.2.1 else acc.2.1 ++ [s]) ++ [p.1], (if acc.1 || ltB p.1 s then acc.2.2 else acc.2.2 ++ [x]) ++ [p.2])
def wFold (s : ByteArray) (x : V) (acc : Bool × List ByteArray × List V) (ns : List ByteArray) (is : List V) : Bool × List ByteArray × List V := (ns.zip is).foldl (wStep s x) acc
/-- What it makes. -/
def wEnd (s : ByteArray) (x : V) (acc : Bool × List ByteArray × List V) : List ByteArray × List V := if acc.1 then acc.2 else (acc.2.1 ++ [s], acc.2.2 ++ [x])
theorem ltB_ne {a b : ByteArray} (h : ltB a b = true) : a ≠ b := fun e => by subst e; unfold ltB at h; rw [bl_irrefl] at h; cases h
theorem ltB_gt {a b : ByteArray} (h : ltB a b = true) : ltB b a = false := by
  cases h2 : ltB b a with
  | false => rfl
  | true => have := bl_trans h h2; rw [bl_irrefl] at this; cases this
theorem wFold_low (s : ByteArray) (x : V) : ∀ (ns : List ByteArray) (is : List V) (N : List ByteArray) (I : List V), ns.length = is.length → (∀ n ∈ ns, ltB n s = true) → wFold s x (false, N, I) ns is = (false, N ++ ns, I ++ is)
  | [], [], N, I, _, _ => by simp [wFold]
  | n :: ns, y :: is, N, I, hl, h => by
    have h1 := h n (by simp)
    have ih := wFold_low s x ns is (N ++ [n]) (I ++ [y]) (by simpa using hl) (fun m hm => h m (by simp [hm]))
    unfold wFold at ih ⊢
    rw [List.zip_cons_cons, List.foldl_cons]
    have e : wStep s x (false, N, I) (n, y) = (false, N ++ [n], I ++ [y]) := by
      unfold wStep
      simp [ltB_ne h1, h1]
    rw [e, ih]
    simp
  | [], _ :: _, _, _, hl, _ => by simp at hl
  | _ :: _, [], _, _, hl, _ => by simp at hl
theorem wFold_high (s : ByteArray) (x : V) : ∀ (ns : List ByteArray) (is : List V) (N : List ByteArray) (I : List V), ns.length = is.length → (∀ n ∈ ns, n ≠ s) → wFold s x (true, N, I) ns is = (true, N ++ ns, I ++ is)
  | [], [], N, I, _, _ => by simp [wFold]
  | n :: ns, y :: is, N, I, hl, h => by
    have h1 := h n (by simp)
    have ih := wFold_high s x ns is (N ++ [n]) (I ++ [y]) (by simpa using hl) (fun m hm => h m (by simp [hm]))
    unfold wFold at ih ⊢
    rw [List.zip_cons_cons, List.foldl_cons]
    have e : wStep s x (true, N, I) (n, y) = (true, N ++ [n], I ++ [y]) := by
      unfold wStep
      simp [h1]
    rw [e, ih]
    simp
  | [], _ :: _, _, _, hl, _ => by simp at hl
  | _ :: _, [], _, _, hl, _ => by simp at hl
theorem wFold_eq (s : ByteArray) (x : V) (ns : List ByteArray) (is : List V) (hl : ns.length = is.length) (hr : namesOk ns = true) :
    wEnd s x (wFold s x (false, [], []) ns is) = if hasAt ns (posN s ns) s then (ns, is.set (posN s ns) x) else (ns.take (posN s ns) ++ s :: ns.drop (posN s ns), is.take (posN s ns) ++ x :: is.drop (posN s ns)) := by
  have hp := posN_le s ns
  have hsp := posN_spec s (a := ⟨#[]⟩) (l := ns) hr
  obtain ⟨p, hpe⟩ : ∃ p, p = posN s ns := ⟨_, rfl⟩
  rw [← hpe] at hp hsp ⊢
  have hlow : ∀ n ∈ ns.take p, ltB n s = true := fun n hn => by
    obtain ⟨i, hi, rfl⟩ := List.mem_iff_getElem.1 hn
    rw [List.length_take] at hi
    rw [List.getElem_take, hsp i (by omega)]
    exact decide_eq_true (by omega)
  have hsplit : wFold s x (false, [], []) ns is = wFold s x (false, ns.take p, is.take p) (ns.drop p) (is.drop p) := by
    have h1 := wFold_low s x (ns.take p) (is.take p) [] [] (by simp [hl]) hlow
    unfold wFold at h1 ⊢
    simp only [List.nil_append] at h1
    rw [← h1, ← List.foldl_append]
    congr 1
    rw [List.zip_eq_zipWith, List.zip_eq_zipWith, List.zip_eq_zipWith, ← List.take_zipWith, ← List.drop_zipWith, List.take_append_drop]
  rw [hsplit]
  by_cases hpl : p = ns.length
  · have hd1 : ns.drop p = [] := by rw [hpl]; exact List.drop_length
    have hd2 : is.drop p = [] := by rw [hpl, hl]; exact List.drop_length
    have ha : hasAt ns p s = false := by
      unfold hasAt
      rw [List.getElem?_eq_none (by omega)]
    rw [hd1, hd2, ha]
    simp [wFold, wEnd]
  · have hlt : p < ns.length := by omega
    have hli : p < is.length := by omega
    have hhi : ltB ns[p] s = false := by rw [hsp p hlt]; exact decide_eq_false (by omega)
    rw [List.drop_eq_getElem_cons hlt, List.drop_eq_getElem_cons hli]
    have hafter : ∀ n ∈ ns.drop (p + 1), n ≠ s := fun n hn => by
      obtain ⟨i, hi, rfl⟩ := List.mem_iff_getElem.1 hn
      rw [List.length_drop] at hi
      rw [List.getElem_drop]
      intro e
      have hgt := rise_after hr p (p + 1 + i) (by omega) (by omega)
      rw [e] at hgt
      rw [hgt] at hhi
      cases hhi
    have hlen : (ns.drop (p + 1)).length = (is.drop (p + 1)).length := by simp [hl]
    have hstep : wFold s x (false, ns.take p, is.take p) (ns[p] :: ns.drop (p + 1)) (is[p] :: is.drop (p + 1)) = wFold s x (wStep s x (false, ns.take p, is.take p) (ns[p], is[p])) (ns.drop (p + 1)) (is.drop (p + 1)) := by
      unfold wFold
      rw [List.zip_cons_cons, List.foldl_cons]
    rw [hstep]
    have hget : hasAt ns p s = decide (ns[p] = s) := by
      unfold hasAt
      rw [List.getElem?_eq_getElem hlt]
    rw [hget]
    by_cases he : ns[p] = s
    · rw [decide_eq_true he, if_pos rfl]
      have e1 : wStep s x (false, ns.take p, is.take p) (ns[p], is[p]) = (true, ns.take p ++ [s], is.take p ++ [x]) := by
        unfold wStep
        simp only [he, if_true]
        rw [he] at hhi
        simp [hhi]
      rw [e1, wFold_high s x _ _ _ _ hlen hafter]
      unfold wEnd
      simp only [if_true]
      refine Prod.ext ?_ ?_
      · show ns.take p ++ [s] ++ ns.drop (p + 1) = ns
        rw [← he, List.append_assoc, List.singleton_append, ← List.drop_eq_getElem_cons hlt, List.take_append_drop]
      · show is.take p ++ [x] ++ is.drop (p + 1) = is.set p x
        rw [List.set_eq_take_append_cons_drop, if_pos hli]
        simp
    · rw [decide_eq_false he, if_neg (by simp)]
      have e1 : wStep s x (false, ns.take p, is.take p) (ns[p], is[p]) = (true, ns.take p ++ [s] ++ [ns[p]], is.take p ++ [x] ++ [is[p]]) := by
        unfold wStep
        simp [he, hhi]
      rw [e1, wFold_high s x _ _ _ _ hlen hafter]
      unfold wEnd
      simp
where
  rise_after : ∀ {a : ByteArray} {l : List ByteArray}, rise a l = true → ∀ i j (hi : i < j) (hj : j < l.length), ltB (l[i]'(by omega)) l[j] = true
    | _, [], _, i, j, _, hj => by simp at hj
    | a, n :: l, h, i, j, hi, hj => by
      have hr := h
      rw [rise, Bool.and_eq_true, Bool.and_eq_true] at h
      cases j with
      | zero => omega
      | succ j =>
        cases i with
        | zero => exact rise_all h.2 _ (List.getElem_mem _)
        | succ i => exact rise_after h.2 i j (by omega) (by simpa using hj)
theorem wFold_step (s : ByteArray) (x : V) (ns : List ByteArray) (is : List V) (k : Nat) (n : ByteArray) (y : V) (hn : ns[k]? = some n) (hy : is[k]? = some y) :
    wFold s x (false, [], []) (ns.take (k + 1)) (is.take (k + 1)) = wStep s x (wFold s x (false, [], []) (ns.take k) (is.take k)) (n, y) := by
  unfold wFold
  rw [List.zip_eq_zipWith, List.zip_eq_zipWith, ← List.take_zipWith, ← List.take_zipWith, List.take_add_one, List.foldl_append]
  have : (List.zipWith Prod.mk ns is)[k]? = some (n, y) := by rw [List.getElem?_zipWith, hn, hy]
  rw [this]
  rfl
theorem wFold_len (s : ByteArray) (x : V) (ns : List ByteArray) (is : List V) (hl : ns.length = is.length) : ∀ k, k ≤ ns.length →
    (wFold s x (false, [], []) (ns.take k) (is.take k)).2.1.length ≤ k + 1 ∧ (wFold s x (false, [], []) (ns.take k) (is.take k)).2.1.length = (wFold s x (false, [], []) (ns.take k) (is.take k)).2.2.length ∧ ((wFold s x (false, [], []) (ns.take k) (is.take k)).1 = false → (wFold s x (false, [], []) (ns.take k) (is.take k)).2.1.length ≤ k)
  | 0, _ => by simp [wFold]
  | k + 1, hk => by
    obtain ⟨h1, h2, h3⟩ := wFold_len s x ns is hl k (by omega)
    rw [wFold_step s x ns is k ns[k] (is[k]'(by omega)) (List.getElem?_eq_getElem (by omega)) (List.getElem?_eq_getElem (by omega))]
    generalize wFold s x (false, [], []) (ns.take k) (is.take k) = A at *
    obtain ⟨p, N, I⟩ := A
    simp only at h1 h2 h3
    unfold wStep
    split
    · simp only
      cases p <;> cases hlt : ltB ns[k] s <;> simp [h2] <;> simp at h3 <;> omega
    · simp only
      cases p <;> cases hlt : ltB ns[k] s <;> simp [h2] <;> simp at h3 <;> omega
end Go.Proofs.YtckcbdnlligndaaDoor.Vl
