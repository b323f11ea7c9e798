
/-
  Tokens that were written are the text's; a text's tokens are right, and are written no longer; spaces within a tag change nothing. No condition but those that the theorems state.
-/
import Derived.Test.YteiccjakaabfnaaGreatDoorScPlain
namespace Go.Proofs.YteiccjakaabfnaaGreatDoor.Sc
open Go.Lib

theorem ba_nil {t : ByteArray} (h : t.size = 0) : t = ⟨#[]⟩ := by
  have : t.data.toList = [] := List.length_eq_zero_iff.1 (by rw [← Wp.size_len]; exact h)
  rw [← Wp.B_of t, this]
  rfl
theorem cut_none {l s : List UInt8} (h : ∀ j, j ≤ l.length → occAt l s j = false) : cut l s = (l, [], false) := by
  have := index_none h
  unfold cut
  rw [if_neg (by omega)]
theorem cut_at {a s b : List UInt8} (h : ∀ j, j < a.length → occAt (a ++ (s ++ b)) s j = false) : cut (a ++ (s ++ b)) s = (a, b, true) := by
  have hi : index (a ++ (s ++ b)) s = (a.length : Nat) := index_first (by simp) (by
    unfold occAt
    rw [List.drop_left]
    exact List.isPrefixOf_iff_prefix.2 (List.prefix_append s b)) h
  unfold cut
  rw [if_pos (by omega), hi]
  simp only [Int.toNat_natCast]
  rw [List.take_left, ← List.drop_drop, List.drop_left, List.drop_left]
theorem cut_spec (l s : List UInt8) : ((cut l s).2.2 = false ∧ cut l s = (l, [], false) ∧ ∀ j, j ≤ l.length → occAt l s j = false) ∨ ((cut l s).2.2 = true ∧ l = (cut l s).1 ++ (s ++ (cut l s).2.1) ∧ ∀ j, j < (cut l s).1.length → occAt l s j = false) := by
  rcases index_spec l s with ⟨h1, h2⟩ | ⟨i, h1, h2, h3, h4⟩
  · left
    have := cut_none h2
    rw [this]
    exact ⟨rfl, rfl, h2⟩
  · right
    have e : cut l s = (l.take i, l.drop (i + s.length), true) := by
      unfold cut
      rw [if_pos (by omega), h1]
      simp
    rw [e]
    refine ⟨rfl, ?_, fun j hj => ?_⟩
    · unfold occAt at h3
      obtain ⟨r, hr⟩ := List.isPrefixOf_iff_prefix.1 h3
      have h5 : l.drop (i + s.length) = r := by
        rw [← List.drop_drop, ← hr, List.drop_left]
      show l = l.take i ++ (s ++ l.drop (i + s.length))
      rw [h5, hr, List.take_append_drop]
    · simp only [List.length_take] at hj
      exact h4 j (by omega)
theorem occ_no {c : UInt8} {a b t : List UInt8} (h : ∀ x ∈ a, x ≠ c) : ∀ j, j < a.length → occAt (a ++ b) (c :: t) j = false := by
  intro j hj
  cases ho : occAt (a ++ b) (c :: t) j with
  | false => rfl
  | true =>
    have h1 := occAt_head rfl ho
    rw [List.getElem?_append_left hj, List.getElem?_eq_getElem hj] at h1
    exact absurd (Option.some.inj h1) (h _ (List.getElem_mem hj))
/-- Names' bytes. -/
theorem fol_ne {b : UInt8} (h : Vl.fol b = true) : b ≠ 32 ∧ b ≠ 46 ∧ b ≠ 125 ∧ b ≠ 123 := by
  unfold Vl.fol Vl.low Vl.dig at h
  refine ⟨?_, ?_, ?_, ?_⟩ <;> (rintro rfl; revert h; decide)
theorem nameL_ne {l : List UInt8} (h : Vl.nameL l = true) : l ≠ [] ∧ ∀ x ∈ l, x ≠ 32 ∧ x ≠ 46 ∧ x ≠ 125 ∧ x ≠ 123 := by
  unfold Vl.nameL at h
  rw [Bool.and_eq_true, Bool.and_eq_true] at h
  refine ⟨?_, fun x hx => fol_ne (List.all_eq_true.1 h.2 x hx)⟩
  rintro rfl
  have := h.1.2
  cases this
theorem splitP_no (c : UInt8) : ∀ l : List UInt8, (∀ x ∈ l, x ≠ c) → splitP c l = [l]
  | [], _ => rfl
  | a :: t, h => by rw [splitP, if_neg (h a (by simp)), splitP_no c t (fun x hx => h x (by simp [hx]))]
theorem splitP_cons (c : UInt8) : ∀ (l r : List UInt8), (∀ x ∈ l, x ≠ c) → splitP c (l ++ c :: r) = l :: splitP c r
  | [], r, _ => by rw [List.nil_append, splitP, if_pos rfl]
  | a :: t, r, h => by rw [List.cons_append, splitP, if_neg (h a (by simp)), splitP_cons c t r (fun x hx => h x (by simp [hx]))]
theorem split_join : ∀ (p : List ByteArray), p ≠ [] → (∀ n ∈ p, Vl.nameL n.data.toList = true) → splitP 46 (joinP p) = p.map (·.data.toList)
  | [], h, _ => absurd rfl h
  | [a], _, h => by rw [joinP, splitP_no 46 _ (fun x hx => ((nameL_ne (h a (by simp))).2 x hx).2.1)]; rfl
  | a :: b :: r, _, h => by
    rw [joinP, splitP_cons 46 _ _ (fun x hx => ((nameL_ne (h a (by simp))).2 x hx).2.1), split_join (b :: r) (by simp) (fun n hn => h n (by simp [hn]))]
    rfl
theorem join_split : ∀ (l : List UInt8), joinP ((splitP 46 l).map Wp.B) = l
  | [] => by simp [splitP, joinP, Wp.B_data]
  | a :: t => by
    have ih := join_split t
    have hne := splitP_ne 46 t
    rw [splitP]
    cases hs : splitP 46 t with
    | nil => exact absurd hs hne
    | cons h r =>
      rw [hs] at ih
      split
      · rename_i ha
        subst ha
        rw [List.map_cons, List.map_cons, joinP, Wp.B_data, ← List.map_cons, ih]
        rfl
      · cases r with
        | nil =>
          simp only [List.map_cons, List.map_nil, joinP, Wp.B_data] at ih ⊢
          rw [ih]
        | cons h2 r2 =>
          simp only [List.map_cons, joinP, Wp.B_data] at ih ⊢
          rw [List.cons_append, ih]
theorem pathOk_facts {p : List ByteArray} (h : pathOk (p.map (·.data.toList)) = true) : p ≠ [] ∧ p.length ≤ 4 ∧ (∀ n ∈ p, Vl.nameL n.data.toList = true) ∧ (p.length = 1 → kindW ((p.map (·.data.toList)).headD []) = 2) := by
  unfold pathOk at h
  simp only [Bool.and_eq_true, decide_eq_true_eq, Bool.or_eq_true, List.length_map] at h
  obtain ⟨⟨⟨h1, h2⟩, h3⟩, h4⟩ := h
  refine ⟨fun e => by subst e; simp at h1, h2, fun n hn => ?_, fun h => h4.resolve_left (by omega)⟩
  exact List.all_eq_true.1 h3 _ (List.mem_map.2 ⟨n, hn, rfl⟩)
theorem join_ne : ∀ {p : List ByteArray}, p ≠ [] → (∀ n ∈ p, Vl.nameL n.data.toList = true) → joinP p ≠ [] ∧ ∀ x ∈ joinP p, x ≠ 32 ∧ x ≠ 125
  | [], h, _ => absurd rfl h
  | [a], _, h => by
    obtain ⟨h1, h2⟩ := nameL_ne (h a (by simp))
    rw [joinP]
    exact ⟨h1, fun x hx => ⟨(h2 x hx).1, (h2 x hx).2.2.1⟩⟩
  | a :: b :: r, _, h => by
    obtain ⟨h1, h2⟩ := nameL_ne (h a (by simp))
    obtain ⟨h3, h4⟩ := join_ne (p := b :: r) (by simp) (fun n hn => h n (by simp [hn]))
    rw [joinP]
    refine ⟨by simp, fun x hx => ?_⟩
    rcases List.mem_append.1 hx with hx | hx
    · exact ⟨(h2 x hx).1, (h2 x hx).2.2.1⟩
    · rcases List.mem_cons.1 hx with rfl | hx
      · decide
      · exact h4 x hx
theorem path_join {p : List ByteArray} (h : pathOk (p.map (·.data.toList)) = true) : pathP (joinP p) = some p := by
  obtain ⟨h1, _, h3, _⟩ := pathOk_facts h
  unfold pathP
  rw [split_join p h1 h3, if_pos h, List.map_map]
  congr 1
  conv => rhs; rw [← List.map_id p]
  refine List.map_congr_left fun x _ => ?_
  exact Wp.B_of x
/-! ### words with spaces -/
theorem wordsGo_gap (l : List UInt8) : ∀ n, wordsGo [] (List.replicate n 32 ++ l) = wordsGo [] l
  | 0 => by simp
  | n + 1 => by rw [List.replicate_succ, List.cons_append, wordsGo, if_pos rfl, if_pos rfl, wordsGo_gap l n]
theorem wordsGo_end (cur : List UInt8) (h : cur ≠ []) : ∀ n, wordsGo cur (List.replicate n 32) = [cur]
  | 0 => by rw [List.replicate_zero, wordsGo, if_neg h]
  | n + 1 => by
    rw [List.replicate_succ, wordsGo, if_pos rfl, if_neg h]
    have := wordsGo_gap [] n
    rw [List.append_nil] at this
    rw [this, wordsGo, if_pos rfl]
theorem words_one (a c : Nat) (w : List UInt8) (h : w ≠ []) (hw : ∀ x ∈ w, x ≠ 32) : wordsP (List.replicate a 32 ++ (w ++ List.replicate c 32)) = [w] := by
  unfold wordsP
  rw [wordsGo_gap, wordsGo_run [] w _ hw, List.nil_append, wordsGo_end w h]
theorem words_two (a b c : Nat) (k w : List UInt8) (hk0 : k ≠ []) (hk : ∀ x ∈ k, x ≠ 32) (h : w ≠ []) (hw : ∀ x ∈ w, x ≠ 32) : wordsP (List.replicate a 32 ++ (k ++ 32 :: (List.replicate b 32 ++ (w ++ List.replicate c 32)))) = [k, w] := by
  unfold wordsP
  rw [wordsGo_gap, wordsGo_run [] k _ hk, List.nil_append, wordsGo, if_pos rfl, if_neg hk0]
  have := words_one b c w h hw
  unfold wordsP at this
  rw [this]
theorem join_kind {p : List ByteArray} (h : pathOk (p.map (·.data.toList)) = true) : joinP p ≠ wElse ∧ joinP p ≠ wEnd := by
  obtain ⟨h1, _, h3, h4⟩ := pathOk_facts h
  have key : ∀ w : List UInt8, splitP 46 w = [w] → kindW w ≠ 2 → joinP p ≠ w := fun w hs hk e => by
    have hs2 := split_join p h1 h3
    rw [e, hs] at hs2
    have hl : p.length = 1 := by have := congrArg List.length hs2; simpa using this.symm
    have := h4 hl
    rw [← hs2] at this
    exact hk this
  exact ⟨key _ (by decide) (by decide), key _ (by decide) (by decide)⟩
/-- A tag's token, wherever spaces stand. -/
theorem tag_var (a c : Nat) {p : List ByteArray} (h : pathOk (p.map (·.data.toList)) = true) : tagP (List.replicate a 32 ++ (joinP p ++ List.replicate c 32)) = some ⟨2, ⟨#[]⟩, p⟩ := by
  obtain ⟨h1, _, h3, _⟩ := pathOk_facts h
  obtain ⟨j1, j2⟩ := join_ne h1 h3
  obtain ⟨k1, k2⟩ := join_kind h
  unfold tagP
  rw [words_one a c _ j1 (fun x hx => (j2 x hx).1), tagW, if_neg k1, if_neg k2, path_join h]
  rfl
theorem tag_if (a b c : Nat) {p : List ByteArray} (h : pathOk (p.map (·.data.toList)) = true) : tagP (List.replicate a 32 ++ (wIf ++ 32 :: (List.replicate b 32 ++ (joinP p ++ List.replicate c 32)))) = some ⟨3, ⟨#[]⟩, p⟩ := by
  obtain ⟨h1, _, h3, _⟩ := pathOk_facts h
  obtain ⟨j1, j2⟩ := join_ne h1 h3
  unfold tagP
  rw [words_two a b c _ _ (by decide) (by decide) j1 (fun x hx => (j2 x hx).1), tagW, if_pos rfl, path_join h]
  rfl
theorem tag_each (a b c : Nat) {p : List ByteArray} (h : pathOk (p.map (·.data.toList)) = true) : tagP (List.replicate a 32 ++ (wEach ++ 32 :: (List.replicate b 32 ++ (joinP p ++ List.replicate c 32)))) = some ⟨5, ⟨#[]⟩, p⟩ := by
  obtain ⟨h1, _, h3, _⟩ := pathOk_facts h
  obtain ⟨j1, j2⟩ := join_ne h1 h3
  unfold tagP
  rw [words_two a b c _ _ (by decide) (by decide) j1 (fun x hx => (j2 x hx).1), tagW, if_neg (by decide), if_pos rfl, path_join h]
  rfl
/-- What a token that is no text is. -/
theorem okT_tag {t : T} (h : okT t = true) (h1 : t.kind ≠ 1) : (t = ⟨t.kind, ⟨#[]⟩, t.path⟩) ∧ (((t.kind = 2 ∨ t.kind = 3 ∨ t.kind = 5) ∧ pathOk (t.path.map (·.data.toList)) = true) ∨ ((t.kind = 4 ∨ t.kind = 6) ∧ t.path = [])) := by
  obtain ⟨k, x, p⟩ := t
  unfold okT at h
  simp only at h h1 ⊢
  split at h
  · exact absurd rfl h1
  all_goals first
    | cases h
    | (simp only [Bool.and_eq_true, decide_eq_true_eq] at h
       have hx := ba_nil h.1
       subst hx
       first
         | exact ⟨rfl, Or.inl ⟨by omega, h.2⟩⟩
         | exact ⟨rfl, Or.inr ⟨by omega, List.length_eq_zero_iff.1 h.2⟩⟩)
theorem okT_text {t : T} (h : okT t = true) (h1 : t.kind = 1) : t = ⟨1, t.text, []⟩ ∧ t.text.data.toList ≠ [] ∧ ∀ j, j ≤ t.text.data.toList.length → occAt t.text.data.toList oo j = false := by
  obtain ⟨k, x, p⟩ := t
  simp only at h1
  subst h1
  unfold okT at h
  simp only [Bool.and_eq_true, decide_eq_true_eq, Bool.not_eq_true'] at h
  obtain ⟨⟨h2, h3⟩, h4⟩ := h
  obtain rfl := List.length_eq_zero_iff.1 h4
  refine ⟨rfl, fun e => h2 (by rw [Wp.size_len]; show x.data.toList.length = 0; rw [e]; rfl), ?_⟩
  unfold contains at h3
  rcases index_spec x.data.toList oo with ⟨_, h6⟩ | ⟨i, h5, _⟩
  · exact h6
  · rw [h5] at h3
    simp at h3
theorem tag_word {t : T} (h : okT t = true) (h1 : t.kind ≠ 1) : tagP (wordT t) = some t ∧ ∀ x ∈ wordT t, x ≠ 125 := by
  obtain ⟨e, hc⟩ := okT_tag h h1
  obtain ⟨k, x, p⟩ := t
  simp only at e hc h1
  injection e with _ ex _
  subst ex
  rcases hc with ⟨hk, hp⟩ | ⟨hk, rfl⟩
  · obtain ⟨g1, _, g3, _⟩ := pathOk_facts hp
    have hj := (join_ne g1 g3).2
    rcases hk with rfl | rfl | rfl
    · refine ⟨?_, fun x hx => (hj x hx).2⟩
      have := tag_var 0 0 hp
      simpa [wordT] using this
    · refine ⟨?_, fun x hx => ?_⟩
      · have := tag_if 0 0 0 hp
        simpa [wordT] using this
      · simp only [wordT, if_true, List.mem_append, List.mem_cons] at hx
        rcases hx with hx | rfl | hx
        · revert hx; simp only [wIf, List.mem_cons, List.mem_nil_iff, or_false]; rintro (rfl | rfl) <;> decide
        · decide
        · exact (hj x hx).2
    · refine ⟨?_, fun x hx => ?_⟩
      · have := tag_each 0 0 0 hp
        simpa [wordT] using this
      · simp only [wordT, show ¬ (5 : Nat) = 3 by decide, if_false, if_true, List.mem_append, List.mem_cons] at hx
        rcases hx with hx | rfl | hx
        · revert hx; simp only [wEach, List.mem_cons, List.mem_nil_iff, or_false]; rintro (rfl | rfl | rfl | rfl) <;> decide
        · decide
        · exact (hj x hx).2
  · rcases hk with rfl | rfl
    · exact ⟨rfl, by decide⟩
    · exact ⟨rfl, by decide⟩
theorem cut_tag {t : T} (h : okT t = true) (h1 : t.kind ≠ 1) (r : List UInt8) : cut (wordT t ++ (cc ++ r)) cc = (wordT t, r, true) :=
  cut_at (occ_no (t := [125]) (tag_word h h1).2)
/-- Tokens that were written are the text's. -/
theorem toks_write : ∀ (l : List T), okTs l = true → ∀ f, (srcs l).length < f → toksP f (srcs l) = some l
  | [], _, f, hf => by
    cases f with
    | zero => omega
    | succ f =>
      have e : cut [] oo = ([], [], false) := by decide
      rw [toksP]
      show (if (cut [] oo).2.2 = true then _ else _) = _
      rw [if_neg (by rw [e]; simp)]
      show some (pre (cut [] oo).1) = _
      rw [e]
      rfl
  | t :: l, h, f, hf => by
    unfold okTs at h
    rw [Bool.and_eq_true, List.all_cons, Bool.and_eq_true] at h
    obtain ⟨⟨h1, h2⟩, h3⟩ := h
    have hrest : okTs l = true := by
      unfold okTs
      rw [h2, Bool.true_and]
      cases l with
      | nil => rfl
      | cons u l => rw [chain, Bool.and_eq_true] at h3; exact h3.2
    cases f with
    | zero => omega
    | succ f =>
      by_cases hk : t.kind = 1
      · obtain ⟨e, hne, hno⟩ := okT_text h1 hk
        have hs : srcs (t :: l) = t.text.data.toList ++ srcs l := by unfold srcs; rw [List.map_cons, List.flatten_cons, srcT, if_pos hk]
        have hpre : pre t.text.data.toList = [t] := by unfold pre; rw [if_neg hne, Wp.B_of, ← e]
        cases l with
        | nil =>
          have e2 : srcs [t] = t.text.data.toList := by rw [hs]; simp [srcs]
          rw [e2, toksP, cut_none hno, if_neg (by simp), hpre]
        | cons u l =>
          rw [chain, Bool.and_eq_true] at h3
          have hb := h3.1
          unfold behind at hb
          simp only [hk, ne_eq, not_true_eq_false, decide_false, Bool.false_or, Bool.and_eq_true, decide_eq_true_eq, Bool.not_eq_true'] at hb
          obtain ⟨hu, hsuf⟩ := hb
          rw [List.all_cons, Bool.and_eq_true] at h2
          have hsu : srcs (u :: l) = oo ++ (wordT u ++ (cc ++ srcs l)) := by unfold srcs; rw [List.map_cons, List.flatten_cons, srcT, if_neg hu]; simp
          have ho : ∀ j, j < t.text.data.toList.length → occAt (t.text.data.toList ++ (oo ++ (wordT u ++ (cc ++ srcs l)))) oo j = false := by
            intro j hj
            cases ho : occAt (t.text.data.toList ++ (oo ++ (wordT u ++ (cc ++ srcs l)))) oo j with
            | false => rfl
            | true =>
              have g1 := occAt_head (c := 123) (t := [123]) rfl ho
              have g2 := occAt_second (c0 := 123) (c1 := 123) (t := []) rfl ho
              rw [List.getElem?_append_left hj] at g1
              by_cases hj2 : j + 1 < t.text.data.toList.length
              · rw [List.getElem?_append_left hj2] at g2
                have hn := hno j (by omega)
                obtain ⟨q1, q2⟩ := List.getElem?_eq_some_iff.1 g1
                obtain ⟨q3, q4⟩ := List.getElem?_eq_some_iff.1 g2
                have : occAt t.text.data.toList oo j = true := by
                  unfold occAt
                  rw [List.drop_eq_getElem_cons q1, List.drop_eq_getElem_cons q3, q2, q4]
                  simp [oo, List.isPrefixOf]
                rw [this] at hn
                cases hn
              · have hjl : j = t.text.data.toList.length - 1 := by omega
                exfalso
                have : hasSuffix t.text.data.toList [123] = true := by
                  unfold hasSuffix
                  rw [List.isSuffixOf_iff_suffix]
                  obtain ⟨q1, q2⟩ := List.getElem?_eq_some_iff.1 g1
                  refine ⟨t.text.data.toList.take j, ?_⟩
                  have hd := List.drop_eq_getElem_cons q1
                  rw [q2, List.drop_eq_nil_of_le (show t.text.data.toList.length ≤ j + 1 by omega)] at hd
                  rw [← hd, List.take_append_drop]
                rw [this] at hsuf
                cases hsuf
          have hl2 : (srcs l).length < f := by
            have hpos := List.length_pos_iff.2 hne
            rw [hs, hsu] at hf
            simp only [List.length_append] at hf
            omega
          unfold okTs at hrest
          rw [List.all_cons, h2.1, h2.2] at hrest
          have hrest2 : okTs l = true := by
            unfold okTs
            rw [h2.2, Bool.true_and]
            have h4 := h3.2
            cases l with
            | nil => rfl
            | cons v l => rw [chain, Bool.and_eq_true] at h4; exact h4.2
          have ih := toks_write l hrest2 f hl2
          rw [hs, hsu, toksP, cut_at ho]
          simp only [if_true]
          rw [cut_tag h2.1 hu]
          simp only [if_true]
          rw [(tag_word h2.1 hu).1]
          simp only []
          rw [ih, hpre]
          rfl
      · have hs : srcs (t :: l) = oo ++ (wordT t ++ (cc ++ srcs l)) := by unfold srcs; rw [List.map_cons, List.flatten_cons, srcT, if_neg hk]; simp
        have hl2 : (srcs l).length < f := by
          rw [hs] at hf
          simp [oo, cc] at hf
          omega
        have ih := toks_write l hrest f hl2
        have hc : cut (oo ++ (wordT t ++ (cc ++ srcs l))) oo = ([], wordT t ++ (cc ++ srcs l), true) := by
          have := cut_at (a := []) (s := oo) (b := wordT t ++ (cc ++ srcs l)) (fun j hj => by simp at hj)
          rwa [List.nil_append] at this
        rw [hs, toksP, hc]
        simp only [if_true]
        rw [cut_tag h1 hk]
        simp only [if_true]
        rw [(tag_word h1 hk).1]
        simp only []
        rw [ih]
        rfl
/-! ### a text's tokens are right -/
theorem words_len : ∀ (l cur : List UInt8), ((wordsGo cur l).map List.length).sum + (wordsGo cur l).length ≤ cur.length + l.length + 1
  | [], cur => by
    rw [wordsGo]
    split <;> simp
  | a :: t, cur => by
    rw [wordsGo]
    split
    · have h1 := words_len t []
      split
      · simp at h1 ⊢; omega
      · simp at h1 ⊢; omega
    · have h1 := words_len t (cur ++ [a])
      simp at h1 ⊢
      omega
theorem pathP_ok {w : List UInt8} {p : List ByteArray} (h : pathP w = some p) : pathOk (p.map (·.data.toList)) = true ∧ joinP p = w := by
  unfold pathP at h
  split at h
  · rename_i hp
    cases h
    refine ⟨?_, join_split w⟩
    rw [List.map_map]
    have : (List.map ((fun x => x.data.toList) ∘ Wp.B) (splitP 46 w)) = splitP 46 w := by
      conv => rhs; rw [← List.map_id (splitP 46 w)]
      refine List.map_congr_left fun x _ => rfl
    rw [this]
    exact hp
  · cases h
theorem tagP_ok {l : List UInt8} {t : T} (h : tagP l = some t) : okT t = true ∧ t.kind ≠ 1 ∧ (wordT t).length ≤ l.length := by
  have hl := words_len l []
  unfold tagP wordsP at h
  generalize wordsGo [] l = ws at h hl
  unfold tagW at h
  split at h
  · rename_i w
    simp only [List.map_cons, List.map_nil, List.sum_cons, List.sum_nil, List.length_cons, List.length_nil] at hl
    split at h
    · rename_i e
      cases h
      subst e
      exact ⟨by decide, by decide, by simp [wordT]; simp at hl; omega⟩
    · split at h
      · rename_i e
        cases h
        subst e
        exact ⟨by decide, by decide, by simp [wordT]; simp at hl; omega⟩
      · cases hp : pathP w with
        | none => rw [hp] at h; cases h
        | some p =>
          rw [hp] at h
          cases h
          obtain ⟨h1, h2⟩ := pathP_ok hp
          refine ⟨?_, by simp, ?_⟩
          · unfold okT
            simp only [h1, Bool.and_true]
            rfl
          · simp [wordT, h2]; simp at hl; omega
  · rename_i k w
    simp only [List.map_cons, List.map_nil, List.sum_cons, List.sum_nil, List.length_cons, List.length_nil] at hl
    split at h
    · rename_i e
      subst e
      cases hp : pathP w with
      | none => rw [hp] at h; cases h
      | some p =>
        rw [hp] at h
        cases h
        obtain ⟨h1, h2⟩ := pathP_ok hp
        refine ⟨?_, by simp, ?_⟩
        · unfold okT
          simp only [h1, Bool.and_true]
          rfl
        · simp [wordT, h2]; simp at hl; omega
    · split at h
      · rename_i e
        subst e
        cases hp : pathP w with
        | none => rw [hp] at h; cases h
        | some p =>
          rw [hp] at h
          cases h
          obtain ⟨h1, h2⟩ := pathP_ok hp
          refine ⟨?_, by simp, ?_⟩
          · unfold okT
            simp only [h1, Bool.and_true]
            rfl
          · simp [wordT, h2]; simp at hl; omega
      · cases h
  · cases h
theorem pre_ok {x r : List UInt8} (h : ∀ j, j < x.length → occAt (x ++ r) oo j = false) : (pre x).all okT = true ∧ (srcs (pre x)).length = x.length ∧ chain (pre x) = true := by
  unfold pre
  by_cases hx : x = []
  · subst hx
    simp [srcs, chain]
  · rw [if_neg hx]
    have hno : contains x oo = false := by
      unfold contains
      rcases index_spec x oo with ⟨h5, _⟩ | ⟨i, h5, h6, h7, _⟩
      · rw [h5]; rfl
      · exfalso
        have hroom := occAt_room h7
        have hi : i < x.length := by
          rcases hroom with hroom | hroom
          · simp [oo] at hroom; omega
          · cases hroom
        have := h i hi
        unfold occAt at this h7
        rw [List.drop_append_of_le_length h6] at this
        have hp := List.isPrefixOf_iff_prefix.1 h7
        rw [List.isPrefixOf_iff_prefix.2 (hp.trans (List.prefix_append _ _))] at this
        cases this
    refine ⟨?_, by simp [srcs, srcT, Wp.B_data], rfl⟩
    simp only [List.all_cons, List.all_nil, Bool.and_true]
    unfold okT
    simp only [Wp.B_data, hno, Wp.B_size, List.length_nil, decide_true, Bool.and_true, Bool.not_false]
    exact decide_eq_true (fun e => hx (List.length_eq_zero_iff.1 e))
theorem pre_chain {x q : List UInt8} (h : ∀ j, j < x.length → occAt (x ++ (oo ++ q)) oo j = false) (t : T) (l : List T) (ht : t.kind ≠ 1) (hc : chain (t :: l) = true) : chain (pre x ++ t :: l) = true := by
  unfold pre
  by_cases hx : x = []
  · subst hx
    simpa using hc
  · rw [if_neg hx, List.singleton_append, chain, hc, Bool.and_true]
    unfold behind
    simp only [ne_eq, not_true_eq_false, decide_false, Bool.false_or, Wp.B_data]
    rw [decide_eq_true ht, Bool.true_and, Bool.not_eq_true']
    cases hs : hasSuffix x [123] with
    | false => rfl
    | true =>
      exfalso
      unfold hasSuffix at hs
      obtain ⟨y, hy⟩ := List.isSuffixOf_iff_suffix.1 hs
      subst hy
      have := h y.length (by simp)
      unfold occAt at this
      rw [List.append_assoc, List.drop_left] at this
      simp [oo, List.isPrefixOf] at this
theorem chain_tag (t : T) (l : List T) (ht : t.kind ≠ 1) (h : chain l = true) : chain (t :: l) = true := by
  cases l with
  | nil => rfl
  | cons u l =>
    rw [chain, h, Bool.and_true]
    unfold behind
    rw [decide_eq_true ht]
    rfl
/-- A text's tokens are right, and are written no longer. -/
theorem toks_ok : ∀ (f : Nat) (l : List UInt8) (r : List T), toksP f l = some r → okTs r = true ∧ (srcs r).length ≤ l.length
  | 0, _, _, h => by cases h
  | f + 1, l, r, h => by
    rw [toksP] at h
    rcases cut_spec l oo with ⟨h1, h2, h3⟩ | ⟨h1, h2, h3⟩
    · rw [h1, if_neg (by simp)] at h
      rw [h2] at h
      cases h
      obtain ⟨p1, p2, p3⟩ := pre_ok (x := l) (r := []) (fun j hj => by rw [List.append_nil]; exact h3 j (by omega))
      exact ⟨by unfold okTs; rw [p1, p3]; rfl, by rw [p2]; exact Nat.le_refl _⟩
    · rw [h1, if_pos rfl] at h
      generalize cut l oo = c at *
      obtain ⟨x, y, b⟩ := c
      simp only at h h1 h2 h3
      rcases cut_spec y cc with ⟨g1, g2, g3⟩ | ⟨g1, g2, g3⟩
      · rw [g1, if_neg (by simp)] at h
        cases h
      · rw [g1, if_pos rfl] at h
        generalize cut y cc = d at *
        obtain ⟨y1, y2, b2⟩ := d
        simp only at h g1 g2 g3
        cases ht : tagP y1 with
        | none => rw [ht] at h; cases h
        | some t =>
          rw [ht] at h
          simp only at h
          cases hr : toksP f y2 with
          | none => rw [hr] at h; cases h
          | some r' =>
            rw [hr] at h
            cases h
            obtain ⟨i1, i2⟩ := toks_ok f y2 r' hr
            obtain ⟨t1, t2, t3⟩ := tagP_ok ht
            rw [h2] at h3
            obtain ⟨p1, p2, _⟩ := pre_ok h3
            unfold okTs at i1
            rw [Bool.and_eq_true] at i1
            constructor
            · unfold okTs
              rw [List.all_append, p1, List.all_cons, t1, i1.1, pre_chain h3 t r' t2 (chain_tag t r' t2 i1.2)]
              rfl
            · have e : srcs (pre x ++ t :: r') = srcs (pre x) ++ (srcT t ++ srcs r') := by unfold srcs; rw [List.map_append, List.map_cons, List.flatten_append, List.flatten_cons]
              rw [e, List.length_append, p2, List.length_append, h2, g2]
              unfold srcT
              rw [if_neg t2]
              simp [oo, cc] at i2 ⊢
              omega
end Go.Proofs.YteiccjakaabfnaaGreatDoor.Sc
