/-
  The walk of the reference's of: the week that has just the minutes of a row. Condition: the row is one of the call's own.
-/
import Derived.Test.YtmfbplemelodcaaWkBits
namespace Go.Proofs.Ytmfbplemelodcaa
open Go.RowKit Go.Lib Go.Shelf

theorem Wk.fit_short {l : List (Int × Int)} (h : l.length ≤ 64) : Wk.fitL l = l ∧ Wk.fitC l = 0 := ⟨if_pos h, if_pos h⟩
theorem Wk.fit_long {l : List (Int × Int)} (h : ¬ l.length ≤ 64) : Wk.fitL l = [] ∧ Wk.fitC l = 12 := ⟨if_neg h, if_neg h⟩
/-- What the loop of of has put together of the first minutes. -/
def Wk.OfInv (f : Int → Bool) (i : Nat) (O : List (Int × Int)) : Prop := Wk.Ch (-1) O ∧ (∀ x ∈ O, x.2 ≤ (i : Int)) ∧ (∀ j, Wk.has O j = (decide (0 ≤ j) && decide (j < (i : Int)) && f j)) ∧ O.length ≤ i
theorem Wk.OfInv.zero (f : Int → Bool) : Wk.OfInv f 0 [] := by
  refine ⟨trivial, by simp, fun j => ?_, by simp⟩
  rw [Wk.has_nil]
  by_cases h : 0 ≤ j
  · rw [decide_eq_false (show ¬ j < ((0 : Nat) : Int) by omega)]; simp
  · rw [decide_eq_false h]; rfl
theorem Wk.OfInv.skip {f : Int → Bool} {i : Nat} {O : List (Int × Int)} (h : Wk.OfInv f i O) (hf : f (i : Int) = false) : Wk.OfInv f (i + 1) O := by
  obtain ⟨h1, h2, h3, h4⟩ := h
  refine ⟨h1, fun x hx => by have := h2 x hx; omega, fun j => ?_, by omega⟩
  rw [h3]
  by_cases e : j = (i : Int)
  · subst e; rw [hf]; simp
  · rw [show decide (j < ((i + 1 : Nat) : Int)) = decide (j < (i : Int)) from decide_eq_decide.2 ⟨fun h => by omega, fun h => by omega⟩]
theorem Wk.OfInv.new {f : Int → Bool} {i : Nat} {O : List (Int × Int)} (h : Wk.OfInv f i O) (hf : f (i : Int) = true) (hi : i < 10080) (hl : ∀ x ∈ O, x.2 < (i : Int)) : Wk.OfInv f (i + 1) (O ++ [((i : Int), (i : Int) + 1)]) := by
  obtain ⟨h1, h2, h3, h4⟩ := h
  refine ⟨Wk.Ch.append (b := (i : Int) - 1) h1 (fun x hx => by have := hl x hx; omega) ⟨by simp only []; omega, by simp only []; omega, by simp only []; omega, trivial⟩ (by omega), fun x hx => ?_, fun j => ?_, by rw [List.length_append]; simp only [List.length_singleton]; omega⟩
  · rcases List.mem_append.1 hx with hx | hx
    · have := h2 x hx; omega
    · obtain rfl := List.mem_singleton.1 hx; simp only []; omega
  · rw [Wk.has_append, h3, Wk.has_cons, Wk.has_nil, Bool.or_false]
    by_cases e : j = (i : Int)
    · subst e
      rw [hf]
      simp [Wk.inR] <;> omega
    · have e1 : Wk.inR ((i : Int), (i : Int) + 1) j = false := Bool.eq_false_iff.2 fun h => by have := Wk.inR_iff.1 h; simp only [] at this; omega
      rw [e1, Bool.or_false, show decide (j < ((i + 1 : Nat) : Int)) = decide (j < (i : Int)) from decide_eq_decide.2 ⟨fun h => by omega, fun h => by omega⟩]
theorem Wk.OfInv.ext {f : Int → Bool} {i : Nat} {d : List (Int × Int)} {c : Int} (h : Wk.OfInv f i (d ++ [(c, (i : Int))])) (hf : f (i : Int) = true) (hi : i < 10080) : Wk.OfInv f (i + 1) (d ++ [(c, (i : Int) + 1)]) := by
  obtain ⟨h1, h2, h3, h4⟩ := h
  obtain ⟨_, t2, t3, t4⟩ := h1.tail
  simp only [] at t2 t3 t4
  have hc1 : Wk.Ch (-1) d := by
    have h := Wk.Ch.take h1 d.length
    rwa [List.take_left' rfl] at h
  have hc : Wk.Ch (-1) d ∧ -1 < c := ⟨hc1, (h1.all (c, (i : Int)) (by simp)).1⟩
  refine ⟨Wk.Ch.append (b := c - 1) hc.1 (fun x hx => by have := t4 x hx; omega) ⟨by simp only []; omega, by simp only []; omega, by simp only []; omega, trivial⟩ (by omega), fun x hx => ?_, fun j => ?_, by rw [List.length_append] at h4 ⊢; simp only [List.length_singleton] at h4 ⊢; omega⟩
  · rcases List.mem_append.1 hx with hx | hx
    · have := h2 x (List.mem_append_left _ hx); omega
    · obtain rfl := List.mem_singleton.1 hx; simp only []; omega
  · have h3j := h3 j
    rw [Wk.has_append, Wk.has_cons, Wk.has_nil, Bool.or_false] at h3j ⊢
    by_cases e : j = (i : Int)
    · subst e
      rw [hf]
      rw [show Wk.inR (c, (i : Int) + 1) (i : Int) = true from Wk.inR_iff.2 ⟨by simp only []; omega, by simp only []; omega⟩]
      simp <;> omega
    · rw [show decide (j < ((i + 1 : Nat) : Int)) = decide (j < (i : Int)) from decide_eq_decide.2 ⟨fun h => by omega, fun h => by omega⟩, ← h3j]
      congr 1
      unfold Wk.inR
      simp only []
      congr 1
      exact decide_eq_decide.2 ⟨fun h => by omega, fun h => by omega⟩
theorem Wk.OfInv.one {f : Int → Bool} {O X : List (Int × Int)} (h : Wk.OfInv f 10080 O) (hX : Wk.Ch (-1) X) (hf : ∀ j, 0 ≤ j → j < 10080 → Wk.has X j = f j) : O = X := by
  obtain ⟨h1, _, h3, _⟩ := h
  refine h1.ext hX fun j => ?_
  rw [h3]
  by_cases c : 0 ≤ j
  · by_cases d : j < 10080
    · rw [decide_eq_true c, decide_eq_true (show j < ((10080 : Nat) : Int) by omega), hf j c d]; rfl
    · rw [hX.above (by omega), decide_eq_false (show ¬ j < ((10080 : Nat) : Int) by omega)]; simp
  · rw [hX.below (by omega), decide_eq_false c]; rfl
theorem Wk.last_lt {a : Int} {d : List (Int × Int)} {c : Int × Int} {i : Int} (h : Wk.Ch a (d ++ [c])) (hc : c.2 < i) : ∀ x ∈ d ++ [c], x.2 < i := by
  obtain ⟨_, t2, _, t4⟩ := h.tail
  intro x hx
  rcases List.mem_append.1 hx with hx | hx
  · have := t4 x hx; omega
  · obtain rfl := List.mem_singleton.1 hx; exact hc
set_option maxHeartbeats 4000000 in
theorem ref_of (f : Int → Bool) (v : Value) (base : Nat) (X : List (Int × Int)) (w : World) (hB : Wk.Bits w base v f) (hX : Wk.Ch (-1) X) (hf : ∀ j, 0 ≤ j → j < 10080 → Wk.has X j = f j) :
    Calls Try.prog 32 #[v] w (Wk.WeekPost (Wk.fitL X) (Wk.fitC X) w) := by
  obtain ⟨g, cap, rfl, hg1, hg2⟩ := hB.form
  have HB := Lib.hid hB
  have HO := Lib.hid (fun O (h : Wk.OfInv f 10080 O) => h.one hX hf)
  obtain ⟨i0, hi, hz0, hz1, hz2⟩ := infoRange
  have HI := Lib.hid (And.intro hi (And.intro hz0 (And.intro hz1 hz2)))
  clear hi hz0 hz1 hz2 hB hX hf
  go_enter Try.func32, Try.ntmps32
  go_wp2_with fail
  go_loopw [4, 10] (fun v i wr => ∃ (k : Nat) (O : List (Int × Int)), k ≤ 10080 ∧ i = .int .i64 (k : Int) ∧ Wk.OfInv f k O ∧ Wk.Own wr w.heap.size v O ∧ Below w.heap.size w wr) (fun _ i _ => 10080 - (RowKit.intOf i).toNat)
  case atStart => exact ⟨0, [], Nat.zero_le _, rfl, Wk.OfInv.zero f, Wk.Own.nil _ _, Below.refl _ _⟩
  case round =>
    obtain ⟨k, O, hk, rfl, hI, hOw, hBw⟩ := hrel
    have HInv := Lib.hid hI
    have OW := Lib.hid hOw
    have BW := Lib.hid hBw
    have hz := hBw.size
    have hol := hI.2.2.2
    obtain ⟨i0, hi⟩ : ∃ i0, Try.prog.info? 38 = some i0 ∧ i0.zero = some (.agg #[.int .i64 0, .int .i64 0]) ∧ i0.size = 2 ∧ i0.bytes = 16 := ⟨_, HI.out⟩
    have HI0 := Lib.hid hi
    clear hI hOw hBw hi
    by_cases hlt : k < 10080
    · obtain ⟨c1, c2⟩ := (HB.out.below BW.out).cell k hlt
      have hltz : (k : Int) < 10080 := by omega
      have hk0 : (0 : Int) ≤ (k : Int) := by omega
      cases hfk : f (k : Int) with
      | false =>
        rw [hfk] at c1
        have I2 := Lib.hid (HInv.out.skip hfk)
        clear hfk
        go_wp2_with fail
        exact ⟨⟨k + 1, O, by omega, by go_num, I2.out, OW.out, BW.out⟩, by simp [RowKit.intOf]; omega⟩
      | true =>
        rw [hfk] at c1
        have Hfk := Lib.hid hfk
        clear hfk
        rcases Wk.cases_last O with rfl | ⟨d, c, rfl⟩
        · have I2 := Lib.hid (HInv.out.new Hfk.out hlt (by simp))
          obtain ⟨p', c', rfl, _⟩ := OW.out.at
          rw [List.nil_append] at I2
          rw [List.length_nil]
          obtain ⟨hi, hz0, hz1, hz2⟩ := HI0.out
          go_wp2_with (at_builtin; refine wpList_append_own_at _ rfl _ _ 22 rfl w.heap.size 38 i0 _ 2 16 Try.underlying22 hi hz0 hz1 hz2 rfl (by decide) _ _ _ rfl (World.ownsRow.alloc OW.out _) _ 1 1 [.int .i64 (k : Int), .int .i64 ((k : Int) + 1)] rfl rfl ?a1 ?a2 ?a3 ?a4 ?a5 ?_)
          case a1 => exact wk_two_at _ _ (by simp) _ _ _
          case a2 => simp [Value.oneCell']
          case a3 => unfold maxLen; simp
          case a4 => simp
          case a5 => rw [World.size_alloc]; omega
          intro v9 w9 hown9 hgrow9 _ _
          have O9 := Lib.hid hown9
          have B9 := Lib.hid (BW.out.trans (wk_grown_below (wk_grown_alloc hgrow9) OW.out hz))
          clear hown9 hgrow9 hi hz0 hz1 hz2
          go_wp2_with fail
          exact ⟨⟨k + 1, _, by omega, by go_num, I2.out, O9.out, B9.out⟩, by simp [RowKit.intOf]; omega⟩
        · have hdl : (d ++ [c]).length = d.length + 1 := by simp
          obtain ⟨g', cap', rfl, hg0, hg3, hgc, hgf, _⟩ := OW.out.last
          obtain ⟨d1, d2⟩ := c
          have hle := HInv.out.2.1 (d1, d2) (by simp)
          have hd1 : ((d.length + 1 : Nat) : Int) - 1 = (d.length : Int) := by omega
          rw [hdl] at hol
          have Hdl := Lib.hid hdl
          clear hdl
          obtain ⟨dn, hdn⟩ : ∃ dn, dn = d.length := ⟨_, rfl⟩
          have Hdn := Lib.hid hdn
          rw [← hdn] at hol hgc hgf hd1 Hdl OW ⊢
          simp only [] at hgc hle
          clear hdn
          have hd0 : (0 : Int) ≤ (dn : Int) := by omega
          obtain ⟨N1, hN1⟩ : ∃ N1, N1 = dn + 1 := ⟨_, rfl⟩
          have HN1 := Lib.hid hN1
          rw [← hN1] at hd1 Hdl hol OW ⊢
          have hN0 : 0 < N1 := by omega
          have hN0z : (0 : Int) < (N1 : Int) := by omega
          have hd2 : (dn : Int) < (N1 : Int) := by omega
          clear hN1
          by_cases he : d2 = (k : Int)
          · subst he
            have I2 := Lib.hid (HInv.out.ext Hfk.out hlt)
            rw [HN1.out, Hdn.out] at OW
            have OE := Lib.hid (OW.out.store ((k : Int) + 1))
            rw [← Hdn.out, ← HN1.out] at OE
            have BF := Lib.hid (BW.out.setCell (p := ⟨g', dn * 2 + 1, none⟩) hg0 (.int .i64 ((k : Int) + 1)))
            go_wp2_with fail
            exact ⟨⟨k + 1, _, by omega, by go_num, I2.out, OE.out, BF.out⟩, by simp [RowKit.intOf]; omega⟩
          · have he2 : (d2 == (k : Int)) = false := by simpa using he
            have I2 := Lib.hid (HInv.out.new Hfk.out hlt (Wk.last_lt HInv.out.1 (show d2 < (k : Int) by omega)))
            clear he
            obtain ⟨hi, hz0, hz1, hz2⟩ := HI0.out
            go_wp2_with (at_builtin; refine wpList_append_own_at _ rfl _ _ 22 rfl w.heap.size 38 i0 _ 2 16 Try.underlying22 hi hz0 hz1 hz2 rfl (by decide) _ _ _ rfl (World.ownsRow.alloc OW.out _) _ 1 1 [.int .i64 (k : Int), .int .i64 ((k : Int) + 1)] rfl rfl ?b1 ?b2 ?b3 ?b4 ?b5 ?_)
            case b2 => simp [Value.oneCell']
            case b3 => unfold maxLen; (have := HN1.out; have := Hdn.out; omega)
            case b4 => (have := HN1.out; have := Hdn.out; omega)
            case b5 => omega
            intro v9 w9 hown9 hgrow9 _ _
            have O9 := Lib.hid hown9
            have B9 := Lib.hid (BW.out.trans (wk_grown_below (wk_grown_alloc hgrow9) OW.out hz))
            clear hown9 hgrow9 hi hz0 hz1 hz2
            go_wp2_with fail
            exact ⟨⟨k + 1, _, by omega, by go_num, I2.out, by unfold Wk.Own; rw [Wk.rcs_append, show (d ++ [(d1, d2)] ++ [((k : Int), (k : Int) + 1)]).length = d.length + 1 + 1 by simp]; exact O9.out, B9.out⟩, by simp [RowKit.intOf]; omega⟩
    · obtain rfl : k = 10080 := by omega
      obtain rfl := HO.out O HInv.out
      obtain ⟨p2, c2, rfl, hA2⟩ := OW.out.at
      have A2 := Lib.hid hA2
      clear hA2
      obtain ⟨n, hn⟩ : ∃ n, n = O.length := ⟨_, rfl⟩
      have Hn := Lib.hid hn
      by_cases h64 : O.length ≤ 64
      · have HF := Lib.hid (Wk.fit_short h64)
        rw [← hn] at h64 hol ⊢
        clear hn
        go_wp2_with fail
        go_ret2
        refine ⟨p2, c2, ?_, ?_, BW.out⟩
        · rw [HF.out.1, HF.out.2, ← Hn.out]; rfl
        · rw [HF.out.1]; exact A2.out
      · have HF := Lib.hid (Wk.fit_long h64)
        have h65 : 64 < O.length := by omega
        rw [← hn] at h65 hol ⊢
        have h65z : (64 : Int) < (n : Int) := by omega
        clear hn h64
        go_wp2_with fail
        go_ret2
        refine ⟨none, 0, ?_, ?_, BW.out⟩
        · rw [HF.out.1, HF.out.2]; rfl
        · rw [HF.out.1]; exact Wk.At.nil _ _
end Go.Proofs.Ytmfbplemelodcaa
