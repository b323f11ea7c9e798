
/-
  The walks of the document's twice, Check, Find and Make for timers. Condition: the list is of a size that a machine holds.
-/
import Derived.Test.YtaaodbljdpchhaaHpSame
import Derived.IntWalk
namespace Go.Proofs.Ytaaodbljdpchhaa
open Go.RowKit Go.Lib Go.Sort Go.Shelf

theorem Hp.tw_yes {l : List (Int × Int × Int × Int)} {a b : Nat} (ha : a < l.length) (hb : b < l.length) (hab : a < b) (h : l[a].2.1 = l[b].2.1) : Hp.tw l = true := by
  rw [Hp.tw_true]
  intro hn
  have := List.pairwise_iff_getElem.1 (List.pairwise_map.1 hn) a b ha hb hab
  exact this h
theorem Hp.tw_no {l : List (Int × Int × Int × Int)} (h : ∀ a b (ha : a < l.length) (hb : b < l.length), a < b → l[a].2.1 ≠ l[b].2.1) : Hp.tw l = false := by
  rw [Hp.tw_false]
  exact List.pairwise_map.2 (List.pairwise_iff_getElem.2 fun a b ha hb hab => h a b ha hb hab)
set_option maxHeartbeats 4000000 in
theorem ref_twice15 (l : List (Int × Int × Int × Int)) (p : Option Addr) (c : Nat) (w : World) (hA : Hp.At w p l) (hn : l.length ≤ 140737488351232) :
    Calls Try.prog 45 #[.slice p l.length c] w fun e w' => e = .returned (.bool (Hp.tw l)) ∧ Below w.heap.size w w' := by
  have AL := Lib.hid hA
  have HY := Lib.hid (fun a b (ha : a < l.length) (hb : b < l.length) (hab : a < b) (h : l[a].2.1 = l[b].2.1) => Hp.tw_yes ha hb hab h)
  have HN := Lib.hid (fun (h : ∀ a b (ha : a < l.length) (hb : b < l.length), a < b → l[a].2.1 ≠ l[b].2.1) => Hp.tw_no h)
  generalize Hp.tw l = r at *
  obtain ⟨n, hnl⟩ : ∃ n, n = l.length := ⟨_, rfl⟩
  have Hn := Lib.hid hnl
  rw [← hnl] at hn
  rw [← hnl]
  clear hnl hA
  go_enter Try.func45, Try.ntmps45
  go_wp2_with fail
  go_loopw [7] (fun i wr => ∃ k : Nat, k ≤ n ∧ i = .int .i64 k ∧ Aside (∀ a b (ha : a < l.length) (hb : b < l.length), a < b → b < k → l[a].2.1 ≠ l[b].2.1) ∧ Below w.heap.size w wr) (fun i _ => n - (RowKit.intOf i).toNat)
  case atStart => exact ⟨0, Nat.zero_le _, rfl, fun a b ha hb hab h => absurd h (Nat.not_lt_zero _), Below.refl _ _⟩
  case round =>
    obtain ⟨k, hk, rfl, hE, hBw⟩ := hrel
    have BW := Lib.hid hBw
    have HE := Lib.hid hE.out
    clear hBw hE
    by_cases hlt : k < n
    · have hkl : k < l.length := by rw [← Hn.out]; exact hlt
      have hltz : (k : Int) < (n : Int) := by omega
      have hk0 : (0 : Int) ≤ (k : Int) := by omega
      go_wp2_with fail
      go_loopw [4] (fun i wi => ∃ j : Nat, j ≤ k ∧ i = .int .i64 j ∧ Aside (∀ a (ha : a < l.length), a < j → l[a].2.1 ≠ l[k].2.1) ∧ Below w.heap.size w wi) (fun i _ => k - (RowKit.intOf i).toNat)
      case atStart => exact ⟨0, Nat.zero_le _, rfl, fun a ha h => absurd h (Nat.not_lt_zero _), BW.out⟩
      case round =>
        obtain ⟨j, hj, rfl, hF, hBi⟩ := hrel
        have BI := Lib.hid hBi
        have HF := Lib.hid hF.out
        clear hBi hF
        by_cases hlt2 : j < k
        · have hjl : j < l.length := by omega
          have hjz : (j : Int) < (k : Int) := by omega
          have hj0 : (0 : Int) ≤ (j : Int) := by omega
          have hjn : (j : Int) < (n : Int) := by omega
          obtain ⟨b1, o1, rfl, e1, e2, e3, e4⟩ := (AL.out.below BI.out).get k hkl
          obtain ⟨b2, o2, hpe, d1, d2, d3, d4⟩ := (AL.out.below BI.out).get j hjl
          cases hpe
          by_cases hs : l[j].2.1 = l[k].2.1
          · have E := Lib.hid (HY.out j k hjl hkl hlt2 hs)
            rw [hs] at d2
            generalize l[k].2.1 = s at e2 d2
            clear e1 e3 e4 d1 d3 d4 hs
            go_wp2_with fail
            go_quiet (fail)
            go_wp2_with fail
            go_ret
            exact ⟨by rw [E.out]; rfl, below_drewN BI.out _⟩
          · have HF2 : Aside (∀ a (ha : a < l.length), a < j + 1 → l[a].2.1 ≠ l[k].2.1) := fun a ha h => by
              by_cases e : a = j
              · subst e; exact hs
              · exact HF.out a ha (by omega)
            have q1 : (l[j].2.1 == l[k].2.1) = false := by simpa using hs
            generalize l[k].2.1 = s at *
            generalize l[j].2.1 = s' at *
            clear e1 e3 e4 d1 d3 d4 hs
            go_wp2_with fail
            go_quiet (fail)
            go_wp2_with fail
            exact ⟨⟨j + 1, by omega, by go_num, HF2, below_drewN BI.out _⟩, by simp [RowKit.intOf]; omega⟩
        · obtain rfl : j = k := by omega
          have HE2 : Aside (∀ a b (ha : a < l.length) (hb : b < l.length), a < b → b < j + 1 → l[a].2.1 ≠ l[b].2.1) := fun a b ha hb hab h => by
            by_cases e : b = j
            · subst e; exact HF.out a ha hab
            · exact HE.out a b ha hb hab (by omega)
          go_wp2_with fail
          exact ⟨⟨j + 1, by omega, by go_num, HE2, BI.out⟩, by simp [RowKit.intOf]; omega⟩
    · obtain rfl : k = n := by omega
      have E := Lib.hid (HN.out fun a b ha hb hab => HE.out a b ha hb hab (by rw [Hn.out]; exact hb))
      go_wp2_with fail
      go_ret
      exact ⟨by rw [E.out]; rfl, BW.out⟩
set_option maxHeartbeats 4000000 in
theorem ref_Check15 (l : List (Int × Int × Int × Int)) (p : Option Addr) (c : Nat) (w : World) (hA : Hp.At w p l) (hn : l.length ≤ 140737488351232) :
    Calls Try.prog 49 #[.slice p l.length c] w fun e w' => e = .returned (.int .i64 (Hp.chk l)) ∧ Below w.heap.size w w' := by
  have AL := Lib.hid hA
  have H0 := Lib.hid (@Hp.chk_ok l)
  have H2 := Lib.hid (@Hp.chk_bad l)
  generalize Hp.chk l = r at H0 H2 ⊢
  by_cases hsz : l.length ≤ 4096
  · have CT := Lib.hid (ref_twice15 l p c w hA hn)
    have HZ := Lib.hid hsz
    obtain ⟨n, hnl⟩ : ∃ n, n = l.length := ⟨_, rfl⟩
    have Hn := Lib.hid hnl
    rw [← hnl] at hn hsz CT
    rw [← hnl]
    clear hnl hA
    have q1 : decide ((4096 : Int) < (n : Int)) = false := by simp; omega
    cases ht : Hp.tw l with
    | true =>
      have E := Lib.hid (H2.out fun h => Hp.tw_true.1 ht h.2.1)
      rw [ht] at CT
      clear ht
      go_enter Try.func49, Try.ntmps49
      go_wp2_with fail
      refine CT.out.mono ?_
      rintro e w2 ⟨rfl, hb⟩
      have B2 := Lib.hid hb
      clear hb
      go_wp2_with fail
      go_ret
      exact ⟨by rw [E.out]; rfl, B2.out⟩
    | false =>
      have HN := Lib.hid (Hp.tw_false.1 ht)
      rw [ht] at CT
      clear ht
      go_enter Try.func49, Try.ntmps49
      go_wp2_with fail
      refine CT.out.mono ?_
      rintro e w2 ⟨rfl, hb⟩
      have B2 := Lib.hid hb
      clear hb
      go_wp2_with fail
      go_loopw [13] (fun i wr => ∃ k : Nat, k ≤ n ∧ i = .int .i64 k ∧ Aside (∀ j, j < k → Hp.edge l j) ∧ Below w.heap.size w wr) (fun i _ => n - (RowKit.intOf i).toNat)
      case atStart => exact ⟨0, Nat.zero_le _, rfl, fun j h => absurd h (Nat.not_lt_zero _), B2.out⟩
      case round =>
        obtain ⟨k, hk, rfl, hE, hBw⟩ := hrel
        have BW := Lib.hid hBw
        have hz := hBw.size
        clear hBw
        have mixed : Try.prog.follows .mixedOrders = true := by kernel_rfl
        by_cases hlt : k < n
        · have hkl : k < l.length := by rw [← Hn.out]; exact hlt
          have hltz : (k : Int) < (n : Int) := by omega
          have hk0 : (0 : Int) ≤ (k : Int) := by omega
          by_cases hkz : k = 0
          · subst hkz
            have hE2 : Aside (∀ j, j < 0 + 1 → Hp.edge l j) := fun j h => by
              obtain rfl : j = 0 := by omega
              exact Hp.irrefl _
            clear hE hkl
            have q0 : decide ((0 : Int) < 0) = false := by simp
            go_wp2_with fail
            go_quiet (fail)
            go_wp2_with fail
            exact ⟨⟨0 + 1, by omega, by go_num, hE2, below_drewN BW.out _⟩, by simp [RowKit.intOf]; omega⟩
          · obtain ⟨k, rfl⟩ : ∃ k', k = k' + 1 := ⟨k - 1, by omega⟩
            have hql : k / 2 < l.length := by omega
            obtain ⟨b1, o1, rfl, hx⟩ := (AL.out.below BW.out).get (k + 1) hkl
            obtain ⟨b2, o2, hpe, hy⟩ := (AL.out.below BW.out).get _ hql
            cases hpe
            have HE := Lib.hid (show Hp.lt l[k + 1] l[k / 2] = false ↔ Hp.edge l (k + 1) by unfold Hp.edge; rw [Hp.g_eq _ _ hkl, show (k + 1 - 1) / 2 = k / 2 by omega, Hp.g_eq _ _ hql])
            have CA := Lib.hid (fun W => hp_Ahead l[k + 1] l[k / 2] W)
            have hqn : k / 2 < n := by omega
            generalize l[k + 1] = x at hx HE CA
            generalize l[k / 2] = y at hy HE CA
            have w1 : IntKind.i64.wrap ((k : Int) + 1 - 1) = (k : Int) := by rw [IntWalk.i64_in _ (by omega)]; omega
            have w2' : IntKind.i64.wrap (k : Int) = (k : Int) := IntWalk.i64_in _ (by omega)
            have w3 : (k : Int).tdiv 2 = ((k / 2 : Nat) : Int) := by rw [Int.tdiv_eq_ediv_of_nonneg (by omega)]; omega
            have w4 : (k : Int) / 2 = ((k / 2 : Nat) : Int) := by omega
            generalize k / 2 = q at *
            have w5 : IntKind.i64.wrap (q : Int) = (q : Int) := IntWalk.i64_in _ (by omega)
            obtain ⟨x1, x2, x3, x4⟩ := x
            obtain ⟨y1, y2, y3, y4⟩ := y
            have hqz : (q : Int) < (n : Int) := by omega
            have hq0 : (0 : Int) ≤ (q : Int) := by omega
            simp only [] at CA
            clear hkl hql hkz
            generalize Hp.lt (x1, x2, x3, x4) (y1, y2, y3, y4) = b at HE CA
            have X1 := fun n os => (hx.grown n os).1
            have X2 := fun n os => (hx.grown n os).2.1
            have X3 := fun n os => (hx.grown n os).2.2.1
            have X4 := fun n os => (hx.grown n os).2.2.2
            have Y1 := fun n os => (hy.grown n os).1
            have Y2 := fun n os => (hy.grown n os).2.1
            have Y3 := fun n os => (hy.grown n os).2.2.1
            have Y4 := fun n os => (hy.grown n os).2.2.2
            simp only [] at X1 X2 X3 X4 Y1 Y2 Y3 Y4
            clear hx hy
            have k6 : ((k : Int) + 1).toNat = k + 1 := by omega
            have K6 := Lib.hid k6
            clear k6
            have k7 : (k : Int) + 1 < (n : Int) := by omega
            have k8 : (0 : Int) ≤ (k : Int) + 1 := by omega
            have W1 := Lib.hid (And.intro w1 (And.intro w2' (And.intro w3 (And.intro w4 w5))))
            clear w1 w2' w3 w4 w5
            go_wp2_with fail
            obtain ⟨w1, w2', w3, w4, w5⟩ := W1.out
            have k6 := K6.out
            go_quiet_grown (first | (go_at_call 23; refine Calls.grown_of (CA.out _)))
            clear w1 w2' w3 w4 w5 k6 X1 X2 X3 X4 Y1 Y2 Y3 Y4
            have B3 := Lib.hid (BW.out.trans ((hp_grown_below ⟨nq, osq, rfl⟩).mono hz))
            cases b with
            | true =>
              have E := Lib.hid (H2.out fun h => by have := h.2.2 (k + 1) (by rw [← Hn.out]; exact hlt); exact absurd (HE.out.2 this) (by simp))
              go_wp2_with fail
              go_ret
              exact ⟨by rw [E.out]; rfl, B3.out⟩
            | false =>
              have hE2 : Aside (∀ j, j < k + 1 + 1 → Hp.edge l j) := fun j h => by
                by_cases e : j = k + 1
                · subst e; exact HE.out.1 rfl
                · exact hE.out j (by omega)
              clear hE
              go_wp2_with fail
              exact ⟨⟨k + 1 + 1, by omega, by go_num, hE2, B3.out⟩, by simp [RowKit.intOf]; omega⟩
        · obtain rfl : k = n := by omega
          have E := Lib.hid (H0.out ⟨HZ.out, HN.out, fun j hj => hE.out j (by rw [Hn.out]; exact hj)⟩)
          clear hE
          go_wp2_with fail
          go_ret
          exact ⟨by rw [E.out]; rfl, BW.out⟩
  · have E := Lib.hid (H2.out fun h => hsz h.1)
    have hz : ¬ l.length ≤ 4096 := hsz
    generalize l.length = n at *
    have q1 : decide ((4096 : Int) < (n : Int)) = true := by simp; omega
    have q2 : (4096 : Int) < (n : Int) := by omega
    clear hsz hz
    go_enter Try.func49, Try.ntmps49
    go_wp2_with fail
    go_ret
    exact ⟨by rw [E.out]; rfl, Below.refl _ _⟩
/-- A result that is a number. -/
theorem ref_Find15 (l : List (Int × Int × Int × Int)) (s : Int) (p : Option Addr) (c : Nat) (w : World) (hA : Hp.At w p l) (hn : l.length ≤ 140737488351232) :
    Calls Try.prog 24 #[.slice p l.length c, .int .i64 s] w fun e w' => e = .returned (.int .i64 (Hp.plc l s)) ∧ Below w.heap.size w w' := by
  have AL := Lib.hid hA
  have H1 := Lib.hid (show ∀ k (hk : k < l.length), l[k].2.1 = s → (∀ j (hj : j < l.length), j < k → l[j].2.1 ≠ s) → Hp.plc l s = k from fun k hk h hj => by
    have e := Hp.idx_at hk h hj
    unfold Hp.plc
    rw [e, if_pos hk])
  have H2 := Lib.hid (show (∀ j (hj : j < l.length), l[j].2.1 ≠ s) → Hp.plc l s = -1 from fun hj => by
    have e := Hp.idx_none hj
    unfold Hp.plc
    rw [e, if_neg (Nat.lt_irrefl _)])
  generalize Hp.plc l s = r at *
  obtain ⟨n, hnl⟩ : ∃ n, n = l.length := ⟨_, rfl⟩
  have Hn := Lib.hid hnl
  rw [← hnl] at hn
  rw [← hnl]
  clear hnl hA
  go_enter Try.func24, Try.ntmps24
  go_wp2_with fail
  go_loopw [9] (fun i wr => ∃ k : Nat, k ≤ n ∧ i = .int .i64 k ∧ Aside (∀ j (hj : j < l.length), j < k → l[j].2.1 ≠ s) ∧ Below w.heap.size w wr) (fun i _ => n - (RowKit.intOf i).toNat)
  case atStart => exact ⟨0, Nat.zero_le _, rfl, fun j _ h => absurd h (Nat.not_lt_zero _), Below.refl _ _⟩
  case round =>
    obtain ⟨k, hk, rfl, hE, hBw⟩ := hrel
    have BW := Lib.hid hBw
    have hz := hBw.size
    have HE := Lib.hid hE.out
    clear hBw hE
    by_cases hlt : k < n
    · have hkl : k < l.length := by rw [← Hn.out]; exact hlt
      have hltz : (k : Int) < (n : Int) := by omega
      have hk0 : (0 : Int) ≤ (k : Int) := by omega
      obtain ⟨b1, o1, rfl, e1, e2, e3, e4⟩ := (AL.out.below BW.out).get k hkl
      have HH := Lib.hid (H1.out k hkl)
      have HX := Lib.hid (fun (h : l[k].2.1 ≠ s) => show Aside (∀ j (hj : j < l.length), j < k + 1 → l[j].2.1 ≠ s) from fun j hj hjk => by
        by_cases e : j = k
        · subst e; exact h
        · exact HE.out j hj (by omega))
      generalize l[k] = x at e1 e2 e3 e4 HH HX
      obtain ⟨x1, x2, x3, x4⟩ := x
      simp only [] at e1 e2 e3 e4 HH HX
      clear hkl
      have B3 := Lib.hid (BW.out.alloc hz (.cells #[.int .i64 x1, .int .i64 x2, .int .u8 x3, .int .i64 x4] 31))
      by_cases hs : x2 = s
      · subst hs
        have E := Lib.hid (HH.out rfl HE.out)
        go_wp2_with fail
        go_ret
        exact ⟨by rw [E.out]; rfl, B3.out⟩
      · have q1 : (x2 == s) = false := by simpa using hs
        have hF := HX.out hs
        clear hs
        go_wp2_with fail
        exact ⟨⟨k + 1, by omega, by go_num, hF, B3.out⟩, by simp [RowKit.intOf]; omega⟩
    · obtain rfl : k = n := by omega
      have E := Lib.hid (H2.out fun j hj => HE.out j hj (by rw [Hn.out]; exact hj))
      go_wp2_with fail
      go_ret
      exact ⟨by rw [E.out]; rfl, BW.out⟩
end Go.Proofs.Ytaaodbljdpchhaa
