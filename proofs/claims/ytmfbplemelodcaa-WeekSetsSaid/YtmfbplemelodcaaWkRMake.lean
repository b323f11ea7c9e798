/-
  The walk of the reference's Make: the week of any ranges. Condition: a list is of a size that a machine holds.
-/
import Derived.Test.YtmfbplemelodcaaWkRAndOr
namespace Go.Proofs.Ytmfbplemelodcaa
open Go.RowKit Go.Lib Go.Shelf

theorem Wk.any_take2 (l : List (Int × Int)) (m : Int) (k : Nat) (h : k < l.length) : ((l.take (k + 1)).any fun r => Wk.inW r m) = (((l.take k).any fun r => Wk.inW r m) || Wk.inW l[k] m) := by
  rw [List.take_succ_eq_append_getElem h, List.any_append]
  simp
def Wk.prt (l : List (Int × Int)) (k : Nat) (r : Int × Int) (c : Nat) (j : Int) : Bool := ((l.take k).any fun r => Wk.inW r j) || (decide (j < (c : Int)) && Wk.inW r j)
theorem Wk.prt_yes (l : List (Int × Int)) (k : Nat) (r : Int × Int) (c : Nat) (j : Int) (h : Wk.inW r (c : Int) = true) : Wk.upd (Wk.prt l k r c) (c : Int) true j = Wk.prt l k r (c + 1) j := by
  unfold Wk.upd Wk.prt
  by_cases e : j = (c : Int)
  · subst e
    rw [if_pos rfl, h, decide_eq_true (show (c : Int) < ((c + 1 : Nat) : Int) by omega)]
    simp
  · rw [if_neg e, show decide (j < ((c + 1 : Nat) : Int)) = decide (j < (c : Int)) from decide_eq_decide.2 ⟨fun h => by omega, fun h => by omega⟩]
theorem Wk.prt_no (l : List (Int × Int)) (k : Nat) (r : Int × Int) (c : Nat) (j : Int) (h : Wk.inW r (c : Int) = false) : Wk.prt l k r c j = Wk.prt l k r (c + 1) j := by
  unfold Wk.prt
  by_cases e : j = (c : Int)
  · subst e
    rw [h]
    simp
  · rw [show decide (j < ((c + 1 : Nat) : Int)) = decide (j < (c : Int)) from decide_eq_decide.2 ⟨fun h => by omega, fun h => by omega⟩]
theorem Wk.prt_zero (l : List (Int × Int)) (k : Nat) (r : Int × Int) (j : Int) (h : 0 ≤ j) : ((l.take k).any fun r => Wk.inW r j) = Wk.prt l k r 0 j := by
  unfold Wk.prt
  rw [decide_eq_false (show ¬ j < ((0 : Nat) : Int) by omega)]
  simp
theorem Wk.prt_all (l : List (Int × Int)) (k : Nat) (hk : k < l.length) (j : Int) (h : j < 10080) : Wk.prt l k l[k] 10080 j = ((l.take (k + 1)).any fun r => Wk.inW r j) := by
  unfold Wk.prt
  rw [decide_eq_true (show j < ((10080 : Nat) : Int) by omega), Wk.any_take2 l j k hk]
  simp
theorem Wk.fitL_len (l : List (Int × Int)) : (Wk.fitL l).length ≤ 64 := by
  unfold Wk.fitL
  split
  · assumption
  · simp
theorem Wk.makeL_len (l : List (Int × Int)) : (Wk.makeL l).length ≤ 140737488351232 := by
  unfold Wk.makeL
  split
  · split
    · have := Wk.fitL_len (Wk.jnd (Wk.wraps l)); omega
    · simp
  · simp
theorem Wk.sets_len (a b : List (Int × Int)) : (Wk.notL a).length ≤ 140737488351232 ∧ (Wk.andL a b).length ≤ 140737488351232 ∧ (Wk.orL a b).length ≤ 140737488351232 := by
  unfold Wk.notL Wk.andL Wk.orL
  refine ⟨?_, ?_, ?_⟩
  · split
    · have := Wk.fitL_len (Wk.gaps 0 a); omega
    · simp
  · split
    · have := Wk.fitL_len (Wk.both a b); omega
    · simp
  · split
    · have := Wk.fitL_len (Wk.jnd (a ++ b)); omega
    · simp
theorem Wk.none_eq {l : List (Int × Int)} {x r : Int} (h1 : l = []) (h2 : r = x) : Ending.returned (Value.tuple #[.slice none 0 0, .int .i64 x]) = Ending.returned (Value.tuple #[.slice none l.length 0, .int .i64 r]) := by rw [h1, h2]; rfl
set_option maxHeartbeats 8000000 in
set_option maxRecDepth 100000 in
theorem ref_Make (l : List (Int × Int)) (p : Option Addr) (c : Nat) (w : World) (hA : Wk.At w p l) (hn : l.length ≤ 140737488351232) :
    Calls Try.prog 9 #[.slice p l.length c] w (Wk.WeekPost (Wk.makeL l) (Wk.makeC l) w) := by
  have AL := Lib.hid hA
  clear hA
  have HBad := Lib.hid (show ¬ Wk.Edges l → Wk.makeL l = [] ∧ Wk.makeC l = 1 from fun h => ⟨if_neg h, if_neg h⟩)
  have HLong := Lib.hid (show Wk.Edges l → ¬ l.length ≤ 64 → Wk.makeL l = [] ∧ Wk.makeC l = 12 from fun h h2 => ⟨by unfold Wk.makeL; rw [if_pos h, if_neg h2], by unfold Wk.makeC; rw [if_pos h, if_neg h2]⟩)
  have HOf := Lib.hid (show Wk.Edges l → l.length ≤ 64 → ∀ v base w, Wk.Bits w base v (fun j => l.any fun r => Wk.inW r j) → Calls Try.prog 32 #[v] w (Wk.WeekPost (Wk.makeL l) (Wk.makeC l) w) from fun h h2 v base w hB => by
    obtain ⟨j1, j2, _⟩ := Wk.jnd_joined (Wk.fit_wraps h)
    have := ref_of (fun j => l.any fun r => Wk.inW r j) v base (Wk.jnd (Wk.wraps l)) w hB j1 (fun j h1 h2 => by rw [j2, Wk.has_wraps l h1 h2])
    rw [show Wk.makeL l = Wk.fitL (Wk.jnd (Wk.wraps l)) by unfold Wk.makeL; rw [if_pos h, if_pos h2], show Wk.makeC l = Wk.fitC (Wk.jnd (Wk.wraps l)) by unfold Wk.makeC; rw [if_pos h, if_pos h2]]
    exact this)
  obtain ⟨n, hnl⟩ : ∃ n, n = l.length := ⟨_, rfl⟩
  have Hn := Lib.hid hnl
  rw [← hnl] at hn
  rw [← hnl]
  clear hnl
  go_enter Try.func9, Try.ntmps9
  go_wp2_with fail
  go_loopw [12] (fun i wr => ∃ k : Nat, k ≤ n ∧ i = .int .i64 k ∧ Aside (∀ j (h : j < l.length), j < k → Wk.Edge l[j].1 ∧ Wk.Edge l[j].2) ∧ Below w.heap.size w wr) (fun i _ => n - (RowKit.intOf i).toNat)
  case atStart => exact ⟨0, Nat.zero_le _, rfl, fun j _ h => absurd h (Nat.not_lt_zero _), Below.refl _ _⟩
  case round =>
    obtain ⟨k, hk, rfl, hE, hBw⟩ := hrel
    have BW := Lib.hid hBw
    have hz := hBw.size
    clear hBw
    by_cases hlt : k < n
    · have hkl : k < l.length := by rw [← Hn.out]; exact hlt
      obtain ⟨b1, o1, rfl, e1, e2⟩ := (AL.out.below BW.out).get k hkl
      have HB1 := Lib.hid (show ¬ (Wk.Edge l[k].1 ∧ Wk.Edge l[k].2) → Wk.makeL l = [] ∧ Wk.makeC l = 1 from fun h => HBad.out fun he => h (he _ (List.getElem_mem hkl)))
      have HE2 := Lib.hid (show (Wk.Edge l[k].1 ∧ Wk.Edge l[k].2) → ∀ j (h : j < l.length), j < k + 1 → Wk.Edge l[j].1 ∧ Wk.Edge l[j].2 from fun he j hj hjk => by
        by_cases e : j = k
        · subst e; exact he
        · exact hE.out j hj (by omega))
      generalize l[k] = y at e1 e2 HB1 HE2
      obtain ⟨f, t⟩ := y
      simp only [] at e1 e2 HB1 HE2
      have BX := Lib.hid (BW.out.alloc hz (.cells #[.int .i64 f, .int .i64 t] 38))
      have hltz : (k : Int) < (n : Int) := by omega
      clear hkl hE
      by_cases h1 : f < 0
      · have HR := Lib.hid (HB1.out (fun h => by have := h.1.1; omega))
        go_wp2_with fail
        go_ret2
        exact ⟨none, 0, Wk.none_eq HR.out.1 HR.out.2, by rw [HR.out.1]; exact Wk.At.nil _ _, BX.out⟩
      · have q1 : decide (f < 0) = false := decide_eq_false h1
        by_cases h2 : t < 0
        · have HR := Lib.hid (HB1.out (fun h => by have := h.2.1; omega))
          clear h1
          go_wp2_with fail
          go_ret2
          exact ⟨none, 0, Wk.none_eq HR.out.1 HR.out.2, by rw [HR.out.1]; exact Wk.At.nil _ _, BX.out⟩
        · have q2 : decide (t < 0) = false := decide_eq_false h2
          by_cases h3 : 10080 < f
          · have HR := Lib.hid (HB1.out (fun h => by have := h.1.2; omega))
            clear h1 h2
            go_wp2_with fail
            go_ret2
            exact ⟨none, 0, Wk.none_eq HR.out.1 HR.out.2, by rw [HR.out.1]; exact Wk.At.nil _ _, BX.out⟩
          · have q3 : decide (10080 < f) = false := decide_eq_false h3
            by_cases h4 : 10080 < t
            · have HR := Lib.hid (HB1.out (fun h => by have := h.2.2; omega))
              clear h1 h2 h3
              go_wp2_with fail
              go_ret2
              exact ⟨none, 0, Wk.none_eq HR.out.1 HR.out.2, by rw [HR.out.1]; exact Wk.At.nil _ _, BX.out⟩
            · have q4 : decide (10080 < t) = false := decide_eq_false h4
              have HE3 := Lib.hid (HE2.out ⟨⟨by omega, by omega⟩, ⟨by omega, by omega⟩⟩)
              clear h1 h2 h3 h4
              go_wp2_with fail
              exact ⟨⟨k + 1, by omega, by go_num, HE3.out, BX.out⟩, by simp [RowKit.intOf]; omega⟩
    · obtain rfl : k = n := by omega
      have HEd := Lib.hid (show Wk.Edges l from fun r hr => by
        obtain ⟨j, hj, rfl⟩ := List.getElem_of_mem hr
        exact hE.out j hj (by rw [Hn.out]; exact hj))
      clear hE hlt hk
      by_cases h64 : k ≤ 64
      · have HOf2 := Lib.hid (HOf.out HEd.out (by rw [← Hn.out]; exact h64))
        clear HOf HLong HBad HEd
        have hk64 : (k : Int) ≤ 64 := by omega
        obtain ⟨i0, hi, hz0, hz1, hz2⟩ := infoBool
        go_wp2_with (at_make; refine wpList_make_full _ rfl _ _ 47 rfl w.heap.size 4 i0 _ 1 Try.underlying47 hi hz0 hz1 _ _ _ _ 10080 rfl rfl rfl rfl ?m1 ?m2 ?m3 ?_)
        case m1 => rw [hz2]; omega
        case m2 => unfold maxLen; omega
        case m3 => exact hz
        intro w1 hown hgrow
        rw [Wk.bits_made] at hown
        obtain ⟨g, hgg⟩ : ∃ g, g = wr.heap.size := ⟨_, rfl⟩
        rw [← hgg] at hown ⊢
        have hg0 : w.heap.size ≤ g := by omega
        have O1 := Lib.hid (show Wk.Bits w1 w.heap.size (.slice (some ⟨g, 0, none⟩) 10080 10080) (fun _ => false) from hown)
        have B1 := Lib.hid (BW.out.grown hgrow hz (fun k hk => by cases hk))
        clear hown hgrow hi hz0 hz1 hz2 hgg
        obtain ⟨n, hkn⟩ : ∃ n, n = k := ⟨_, rfl⟩
        subst hkn
        go_wp2_with fail
        go_loopw [41] (fun i wr => ∃ k : Nat, k ≤ n ∧ i = .int .i64 k ∧ Wk.Bits wr w.heap.size (.slice (some ⟨g, 0, none⟩) 10080 10080) (fun j => (l.take k).any fun r => Wk.inW r j) ∧ Below w.heap.size w wr) (fun i _ => n - (RowKit.intOf i).toNat)
        case atStart => exact ⟨0, Nat.zero_le _, rfl, O1.out.congr (fun j _ _ => rfl), B1.out⟩
        case round =>
          obtain ⟨k, hk, rfl, hO, hBw⟩ := hrel
          obtain ⟨W0, hW0⟩ : ∃ W0, W0 = wr := ⟨_, rfl⟩
          subst hW0
          have HO := Lib.hid hO
          have BW2 := Lib.hid hBw
          have hz2 := hBw.size
          obtain ⟨gg, cc, hv, _, hg⟩ := hO.form
          have hgW : g < W0.heap.size := by cases hv; exact hg
          clear hO hBw hv hg
          by_cases hlt : k < n
          · have hkl : k < l.length := by rw [← Hn.out]; exact hlt
            obtain ⟨b1, o1, rfl, e1, e2⟩ := (AL.out.below BW2.out).get k hkl
            have HS := Lib.hid (fun j h => Wk.prt_all l k hkl j h)
            have HZ := Lib.hid (fun j h => Wk.prt_zero l k l[k] j h)
            generalize l[k] = y at e1 e2 HS HZ
            obtain ⟨f, t⟩ := y
            simp only [] at e1 e2
            have hltz : (k : Int) < (n : Int) := by omega
            have X0 := Lib.hid (wk_new W0 (.cells #[.int .i64 f, .int .i64 t] 38))
            have B0 := Lib.hid (BW2.out.alloc hz2 (.cells #[.int .i64 f, .int .i64 t] 38))
            have O0 := Lib.hid (HO.out.below (wk_box W0 (.cells #[.int .i64 f, .int .i64 t] 38)))
            clear hkl
            go_wp2_with fail
            go_loopw [47] (fun i wi => ∃ j : Nat, j ≤ 10080 ∧ i = .int .i64 j ∧ Wk.Bits wi w.heap.size (.slice (some ⟨g, 0, none⟩) 10080 10080) (Wk.prt l k (f, t) j) ∧ Below w.heap.size w wi ∧ wi.heap[W0.heap.size]? = some (.cells #[.int .i64 f, .int .i64 t] 38 (0, 0))) (fun i _ => 10080 - (RowKit.intOf i).toNat)
            case atStart => exact ⟨0, Nat.zero_le _, rfl, O0.out.congr (fun j h _ => HZ.out j h), B0.out, X0.out⟩
            case round =>
              obtain ⟨j, hj1, rfl, hOi, hBi, hXi⟩ := hrel
              have HOi := Lib.hid hOi
              have BI := Lib.hid hBi
              have XI := Lib.hid hXi
              have hzi := hBi.size
              clear hOi hBi hXi
              obtain ⟨c0, c1, f0, f1⟩ := Wk.two_of XI.out
              by_cases hlt2 : j < 10080
              · obtain ⟨g1, g2⟩ := HOi.out.cell j hlt2
                have hj4 : (0 : Int) ≤ (j : Int) := by omega
                have hj5 : (j : Int) < 10080 := by omega
                by_cases h1 : f ≤ t
                · by_cases h2 : f ≤ (j : Int)
                  · by_cases h3 : (j : Int) < t
                    · have O2 := Lib.hid ((HOi.out.store j true).congr (fun i _ _ => Wk.prt_yes l k (f, t) j i (by unfold Wk.inW; simp; omega)))
                      have B2 := Lib.hid (BI.out.setCell (p := ⟨g, j, none⟩) hg0 (.bool true))
                      have X2 := Lib.hid ((Below.heap_setCell wr ⟨g, j, none⟩ (.bool true) W0.heap.size (by simp only []; omega)).trans XI.out)
                      go_wp2_with fail
                      exact ⟨⟨j + 1, by omega, by go_num, O2.out, B2.out, X2.out⟩, by simp [RowKit.intOf]; omega⟩
                    · have q3 : decide ((j : Int) < t) = false := decide_eq_false h3
                      have q4 : decide (t < f) = false := decide_eq_false (by omega)
                      have O2 := Lib.hid (HOi.out.congr (fun i _ _ => Wk.prt_no l k (f, t) j i (by unfold Wk.inW; simp; omega)))
                      clear h3
                      go_wp2_with fail
                      exact ⟨⟨j + 1, by omega, by go_num, O2.out, BI.out, XI.out⟩, by simp [RowKit.intOf]; omega⟩
                  · have q3 : decide (f ≤ (j : Int)) = false := decide_eq_false h2
                    have q4 : decide (t < f) = false := decide_eq_false (by omega)
                    have O2 := Lib.hid (HOi.out.congr (fun i _ _ => Wk.prt_no l k (f, t) j i (by unfold Wk.inW; simp; omega)))
                    clear h2
                    go_wp2_with fail
                    exact ⟨⟨j + 1, by omega, by go_num, O2.out, BI.out, XI.out⟩, by simp [RowKit.intOf]; omega⟩
                · have q0 : decide (f ≤ t) = false := decide_eq_false h1
                  have h1' : t < f := by omega
                  by_cases h2 : f ≤ (j : Int)
                  · have O2 := Lib.hid ((HOi.out.store j true).congr (fun i _ _ => Wk.prt_yes l k (f, t) j i (by unfold Wk.inW; simp; omega)))
                    have B2 := Lib.hid (BI.out.setCell (p := ⟨g, j, none⟩) hg0 (.bool true))
                    have X2 := Lib.hid ((Below.heap_setCell wr ⟨g, j, none⟩ (.bool true) W0.heap.size (by simp only []; omega)).trans XI.out)
                    clear h1
                    go_wp2_with fail
                    exact ⟨⟨j + 1, by omega, by go_num, O2.out, B2.out, X2.out⟩, by simp [RowKit.intOf]; omega⟩
                  · have q3 : decide (f ≤ (j : Int)) = false := decide_eq_false h2
                    by_cases h3 : (j : Int) < t
                    · have O2 := Lib.hid ((HOi.out.store j true).congr (fun i _ _ => Wk.prt_yes l k (f, t) j i (by unfold Wk.inW; simp; omega)))
                      have B2 := Lib.hid (BI.out.setCell (p := ⟨g, j, none⟩) hg0 (.bool true))
                      have X2 := Lib.hid ((Below.heap_setCell wr ⟨g, j, none⟩ (.bool true) W0.heap.size (by simp only []; omega)).trans XI.out)
                      clear h1 h2
                      go_wp2_with fail
                      exact ⟨⟨j + 1, by omega, by go_num, O2.out, B2.out, X2.out⟩, by simp [RowKit.intOf]; omega⟩
                    · have q5 : decide ((j : Int) < t) = false := decide_eq_false h3
                      have O2 := Lib.hid (HOi.out.congr (fun i _ _ => Wk.prt_no l k (f, t) j i (by unfold Wk.inW; simp; omega)))
                      clear h1 h2 h3
                      go_wp2_with fail
                      exact ⟨⟨j + 1, by omega, by go_num, O2.out, BI.out, XI.out⟩, by simp [RowKit.intOf]; omega⟩
              · obtain rfl : j = 10080 := by omega
                have O2 := Lib.hid (HOi.out.congr (g := fun j => (l.take (k + 1)).any fun r => Wk.inW r j) (fun i _ h => HS.out i h))
                go_wp2_with fail
                exact ⟨⟨k + 1, by omega, by go_num, O2.out, BI.out⟩, by simp [RowKit.intOf]; omega⟩
          · obtain rfl : k = n := by omega
            have hall : l.take k = l := by rw [Hn.out, List.take_length]
            rw [hall] at HO
            clear hall
            go_wp2_with fail
            refine (HOf2.out _ _ _ HO.out).mono ?_
            rintro e w5 ⟨p5, c5, rfl, hA5, hB5⟩
            have A5 := Lib.hid hA5
            have B5 := Lib.hid (wk_then BW2.out hB5 BW2.out.size)
            clear hA5 hB5
            go_wp2_with fail
            go_ret2
            exact ⟨p5, c5, rfl, A5.out, B5.out⟩
      · have HR := Lib.hid (HLong.out HEd.out (by rw [← Hn.out]; exact h64))
        have h65z : (64 : Int) < (k : Int) := by omega
        have h65n : 64 < k := by omega
        clear h64
        go_wp2_with fail
        go_ret2
        exact ⟨none, 0, Wk.none_eq HR.out.1 HR.out.2, by rw [HR.out.1]; exact Wk.At.nil _ _, BW.out⟩
end Go.Proofs.Ytmfbplemelodcaa
