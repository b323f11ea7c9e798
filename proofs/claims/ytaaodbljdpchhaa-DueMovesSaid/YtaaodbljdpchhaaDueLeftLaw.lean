/-
  The walk of DueLeft: whatever timers and a time are, the law answers true. Condition: a list is of a size that a machine holds.
-/
import Derived.Test.YtaaodbljdpchhaaDuePiecesLaw
namespace Go.Proofs.Ytaaodbljdpchhaa
open Go.RowKit Go.Lib Go.Sort Go.Shelf

theorem Du.due_mem {S : List (Int × Int × Int × Int)} {now : Int} {x : Int × Int × Int × Int} (h : x ∈ Du.due S now) : x.1 ≤ now := by
  unfold Du.due at h
  have := List.all_takeWhile (l := S) (p := fun x : Int × Int × Int × Int => decide (x.1 ≤ now))
  rw [List.all_eq_true] at this
  simpa using this x h
theorem Du.left_after {now : Int} : ∀ S : List (Int × Int × Int × Int), Hp.Asc S → ∀ x ∈ S.drop (Du.due S now).length, now < x.1
  | [], _, x, h => by simp at h
  | y :: S, ha, x, h => by
    have hp := List.pairwise_cons.1 ha
    unfold Du.due at h
    by_cases hy : y.1 ≤ now
    · rw [List.takeWhile_cons_of_pos (by simpa using hy), List.length_cons, List.drop_succ_cons] at h
      exact Du.left_after S hp.2 x h
    · rw [List.takeWhile_cons_of_neg (by simpa using hy)] at h
      simp only [List.length_nil, List.drop_zero, List.mem_cons] at h
      rcases h with rfl | h
      · omega
      · have := Hp.lt_iff.1 (hp.1 x h)
        omega
set_option maxHeartbeats 4000000 in
set_option maxRecDepth 100000 in
theorem dueLeft_law (l : List (Int × Int × Int × Int)) (now : Int) (p : Option Addr) (c : Nat) (w : World) (hA : Hp.At w p l) (hn : l.length ≤ 140737488351232) :
    Calls Try.prog 10 #[.slice p l.length c, .int .i64 now] w fun e w' => e = .returned (.bool true) ∧ Below w.heap.size w w' := by
  have CL := Lib.hid du_lives
  have A0 := Lib.hid hA
  have C1 := Lib.hid (fun W (h : Hp.At W p l) => due_Drain l now p c W h hn)
  have C2 := Lib.hid (fun W (h : Hp.At W p l) => due_Count l now p c W h hn)
  by_cases hz : Hp.chk l = 0
  · have hok := Hp.chk_iff.1 hz
    have hS : Hp.soL l = Hp.srt l := if_pos hok
    rw [hz, hS] at C1 C2
    have hasc := Hp.srt_asc hok.2.1
    have hLs : (Du.due (Hp.srt l) now).Sublist (Hp.srt l) := List.takeWhile_sublist _
    have hLa : Hp.Asc (Du.due (Hp.srt l) now) := List.Pairwise.sublist hLs hasc
    obtain ⟨okX, srX⟩ := Du.list_ok hok (List.drop_sublist (Du.due (Hp.srt l) now).length (Hp.srt l))
    have hXa := Du.left_after (now := now) (Hp.srt l) hasc
    have hXl : (List.drop (Du.due (Hp.srt l) now).length (Hp.srt l)).length ≤ 140737488351232 := by have := okX.1; omega
    have CK := Lib.hid (fun W q d (h : Hp.At W q (List.drop (Du.due (Hp.srt l) now).length (Hp.srt l))) => hp_Check _ q d W h hXl)
    rw [Hp.chk_ok okX] at CK
    have hsum : (Du.due (Hp.srt l) now).length + (List.drop (Du.due (Hp.srt l) now).length (Hp.srt l)).length = l.length := by
      have := Du.due_take (Hp.srt l) now
      rw [List.length_drop, Hp.srt_len] at *
      omega
    have hl4 := hok.1
    have hLm : ∀ x ∈ Du.due (Hp.srt l) now, x.1 ≤ now := fun x h => Du.due_mem h
    clear hLs hasc srX hXl
    generalize List.drop (Du.due (Hp.srt l) now).length (Hp.srt l) = X at *
    generalize Du.due (Hp.srt l) now = L at *
    have HL1 : Hid (∀ k (hk : k < L.length), L[k].1 ≤ now) := Lib.hid (fun k hk => hLm _ (List.getElem_mem hk))
    have HL2 : Hid (∀ k (h1 : k < L.length) (h2 : k + 1 < L.length), Hp.lt L[k] L[k + 1] = true) := Lib.hid (fun k h1 h2 => List.pairwise_iff_getElem.1 hLa k (k + 1) h1 h2 (by omega))
    have HX1 : Hid (∀ k (hk : k < X.length), now < X[k].1) := Lib.hid (fun k hk => hXa _ (List.getElem_mem hk))
    clear hz hok hS hLa okX hXa hLm hA hn
    generalize l.length = n at *
    obtain ⟨nL, hnL⟩ : ∃ nL, nL = L.length := ⟨_, rfl⟩
    obtain ⟨nX, hnX⟩ : ∃ nX, nX = X.length := ⟨_, rfl⟩
    have HnL := Lib.hid hnL
    have HnX := Lib.hid hnX
    rw [← hnL, ← hnX] at hsum
    unfold Du.Drained at C1
    rw [← hnL] at C1 C2
    rw [← hnX] at C1 CK
    clear hnL hnX
    have q1 : ((nL : Int) + (nX : Int) == (n : Int)) = true := by simp; omega
    have q2 : (nL : Int) ≤ 4096 := by omega
    have q3 : (nX : Int) ≤ 4096 := by omega
    have q4 : nL ≤ 4096 := by omega
    have q5 : nX ≤ 4096 := by omega
    have mixed : Try.prog.follows .mixedOrders = true := by kernel_rfl
    clear hsum hl4
    go_enter Try.func10, Try.ntmps10
    go_wp2_with fail
    refine (CL.out _).mono ?_
    rintro e w1 ⟨rfl, hb⟩
    have A1 := Lib.hid (A0.out.below hb)
    have B1 := Lib.hid hb
    clear hb
    go_wp2_with fail
    refine (C1.out _ A1.out).mono ?_
    rintro e w2 ⟨p2, c2, q2', d2, rfl, hA, hA2, hb⟩
    have A2 := Lib.hid (A1.out.below hb)
    have X2 := Lib.hid hA
    have L2 := Lib.hid hA2
    have B2 := Lib.hid (hp_then B1.out hb B1.out.size)
    clear hb hA hA2
    go_wp2_with fail
    refine (C2.out _ A2.out).mono ?_
    rintro e w3 ⟨rfl, hb⟩
    have X3 := Lib.hid (X2.out.below hb)
    have L3 := Lib.hid (L2.out.below hb)
    have B3 := Lib.hid (hp_then B2.out hb B2.out.size)
    clear hb
    go_wp2_with fail
    go_loopw [41] (fun i wr => ∃ k : Nat, k ≤ nL ∧ i = .int .i64 k ∧ Below w3.heap.size w3 wr) (fun i _ => nL - (RowKit.intOf i).toNat)
    case atStart => exact ⟨0, Nat.zero_le _, rfl, Below.refl _ _⟩
    case round =>
      obtain ⟨k, hk, rfl, hBw⟩ := hrel
      have BW := Lib.hid hBw
      have hz := hBw.size
      clear hBw
      by_cases hlt : k < nL
      · have hkl : k < L.length := by rw [← HnL.out]; exact hlt
        have hltz : (k : Int) < (nL : Int) := by omega
        have hk0 : (0 : Int) ≤ (k : Int) := by omega
        obtain ⟨b1, o1, rfl, hx⟩ := (L3.out.below BW.out).get k hkl
        have hd := HL1.out k hkl
        by_cases hkz : k = 0
        · subst hkz
          generalize L[0] = x at *
          obtain ⟨x1, x2, x3, x4⟩ := x
          obtain ⟨e1, e2, e3, e4⟩ := hx
          simp only [Nat.zero_mul, Nat.add_zero] at e1 e2 e3 e4 hd
          have q0 : decide ((0 : Int) < 0) = false := by simp
          have q6 : decide (now < x1) = false := by simp; omega
          have BX := Lib.hid (BW.out.trans ((hp_box wr (.cells #[.int .i64 x1, .int .i64 x2, .int .u8 x3, .int .i64 x4] 31)).mono hz))
          obtain ⟨f1, f2, f3, f4⟩ := Hp.box (hp_new wr (.cells #[.int .i64 x1, .int .i64 x2, .int .u8 x3, .int .i64 x4] 31))
          clear hkl hd
          go_wp2_with fail
          go_quiet (fail)
          go_wp2_with fail
          exact ⟨⟨0 + 1, by omega, by go_num, below_drewN BX.out _⟩, by simp [RowKit.intOf]; omega⟩
        · obtain ⟨k, rfl⟩ : ∃ k', k = k' + 1 := ⟨k - 1, by omega⟩
          have hql : k < L.length := by omega
          obtain ⟨b2, o2, hpe, hy⟩ := (L3.out.below BW.out).get k hql
          cases hpe
          have hlt2 := HL2.out k hql hkl
          have CA := Lib.hid (fun W => hp_Ahead L[k] L[k + 1] W)
          have hqn : k < nL := by omega
          generalize L[k + 1] = x at *
          generalize L[k] = y at *
          rw [hlt2] at CA
          obtain ⟨x1, x2, x3, x4⟩ := x
          obtain ⟨y1, y2, y3, y4⟩ := y
          simp only [] at hd CA
          have hqz : (k : Int) < (nL : Int) := by omega
          have hq0 : (0 : Int) ≤ (k : Int) := by omega
          have hbx := hp_box wr (.cells #[.int .i64 x1, .int .i64 x2, .int .u8 x3, .int .i64 x4] 31)
          have BX := Lib.hid (BW.out.trans (hbx.mono hz))
          have hxx : Hp.At1 (wr.alloc (.cells #[.int .i64 x1, .int .i64 x2, .int .u8 x3, .int .i64 x4] 31)) wr.heap.size 0 (x1, x2, x3, x4) := Hp.box (hp_new wr _)
          have hyy := hy.below hbx hy.lt
          have X1 := fun n os => (hxx.grown n os).1
          have X2' := fun n os => (hxx.grown n os).2.1
          have X3' := fun n os => (hxx.grown n os).2.2.1
          have X4' := fun n os => (hxx.grown n os).2.2.2
          have Y1 := fun n os => (hyy.grown n os).1
          have Y2 := fun n os => (hyy.grown n os).2.1
          have Y3 := fun n os => (hyy.grown n os).2.2.1
          have Y4 := fun n os => (hyy.grown n os).2.2.2
          simp only [Nat.zero_add] at X1 X2' X3' X4' Y1 Y2 Y3 Y4
          obtain ⟨e1, e2, e3, e4⟩ := hx
          simp only [] at e1 e2 e3 e4
          have w1' : IntKind.i64.wrap ((k : Int) + 1 - 1) = (k : Int) := by rw [IntWalk.i64_in _ (by omega)]; omega
          have w2' : IntKind.i64.wrap (k : Int) = (k : Int) := IntWalk.i64_in _ (by omega)
          have W1 := Lib.hid (And.intro w1' w2')
          have k6 : ((k : Int) + 1).toNat = k + 1 := by omega
          have K6 := Lib.hid k6
          have k7 : (k : Int) + 1 < (nL : Int) := by omega
          have k8 : (0 : Int) ≤ (k : Int) + 1 := by omega
          have q6 : decide (now < x1) = false := by simp; omega
          have q8 : (0 : Int) < (k : Int) + 1 := by omega
          clear w1' w2' k6 hy hyy hxx hbx hd hlt2 hkl hql hkz
          go_wp2_with fail
          obtain ⟨w1', w2'⟩ := W1.out
          have k6 := K6.out
          go_quiet_grown (first | (go_at_call 23; refine Calls.grown_of (CA.out _)))
          clear w1' w2' k6 X1 X2' X3' X4' Y1 Y2 Y3 Y4
          have B9 := Lib.hid (BX.out.trans ((hp_grown_below ⟨nq, osq, rfl⟩).mono BX.out.size))
          go_wp2_with fail
          exact ⟨⟨k + 1 + 1, by omega, by go_num, B9.out⟩, by simp [RowKit.intOf]; omega⟩
      · obtain rfl : k = nL := by omega
        go_wp2_with fail
        go_loopw [67] (fun i wi => ∃ j : Nat, j ≤ nX ∧ i = .int .i64 j ∧ Below w3.heap.size w3 wi) (fun i _ => nX - (RowKit.intOf i).toNat)
        case atStart => exact ⟨0, Nat.zero_le _, rfl, BW.out⟩
        case round =>
          obtain ⟨j, hj, rfl, hBi⟩ := hrel
          have BI := Lib.hid hBi
          have hzi := hBi.size
          clear hBi
          by_cases hlt2 : j < nX
          · have hjl : j < X.length := by rw [← HnX.out]; exact hlt2
            have hjz : (j : Int) < (nX : Int) := by omega
            have hj0 : (0 : Int) ≤ (j : Int) := by omega
            obtain ⟨b1, o1, rfl, hx⟩ := (X3.out.below BI.out).get j hjl
            have hd := HX1.out j hjl
            generalize X[j] = x at *
            obtain ⟨x1, x2, x3, x4⟩ := x
            obtain ⟨e1, e2, e3, e4⟩ := hx
            simp only [] at e1 e2 e3 e4 hd
            have q6 : ¬ x1 ≤ now := by omega
            have BX := Lib.hid (fun o => BI.out.trans ((hp_box _ o).mono hzi))
            clear hjl hd
            go_wp2_with fail
            exact ⟨⟨j + 1, by omega, by go_num, BX.out _⟩, by simp [RowKit.intOf]; omega⟩
          · obtain rfl : j = nX := by omega
            have X4 := Lib.hid (X3.out.below BI.out)
            have B4 := Lib.hid (B3.out.trans (BI.out.mono B3.out.size))
            go_wp2_with fail
            refine (CK.out _ _ _ X4.out).mono ?_
            rintro e w5 ⟨rfl, hb⟩
            have B5 := Lib.hid (hp_then B4.out hb B4.out.size)
            clear hb
            go_wp2_with fail
            go_ret
            exact ⟨rfl, B5.out⟩
  · have r1 : (Hp.chk l == 0) = false := by simpa using hz
    have r2 : (Hp.chk l != 0) = true := by simpa using hz
    rw [Du.len0 hz] at C1 C2
    have hd : ∀ t, Du.due ([] : List (Int × Int × Int × Int)) t = [] := fun _ => rfl
    rw [hd] at C1 C2
    generalize Hp.chk l = z at *
    clear hz hd hA hn
    generalize l.length = n at *
    go_enter Try.func10, Try.ntmps10
    go_wp2_with fail
    refine (CL.out _).mono ?_
    rintro e w1 ⟨rfl, hb⟩
    have A1 := Lib.hid (A0.out.below hb)
    have B1 := Lib.hid hb
    clear hb
    go_wp2_with fail
    refine (C1.out _ A1.out).mono ?_
    rintro e w2 ⟨p2, c2, q2, d2, rfl, hA, hA2, hb⟩
    have A2 := Lib.hid (A1.out.below hb)
    have B2 := Lib.hid (hp_then B1.out hb B1.out.size)
    clear hb hA hA2
    go_wp2_with fail
    refine (C2.out _ A2.out).mono ?_
    rintro e w3 ⟨rfl, hb⟩
    have B3 := Lib.hid (hp_then B2.out hb B2.out.size)
    clear hb
    go_wp2_with fail
    go_ret
    exact ⟨rfl, B3.out⟩
end Go.Proofs.Ytaaodbljdpchhaa
