/-
  The walk of the reference's Check of a week. Condition: a list is of a size that a machine holds.
-/
import Derived.Test.YtpaleljnkejdgaaGreatDoorWkBits
import Derived.IntWalk
import Derived.Deep.QuietTactic
import Derived.BigQuiet
namespace Go.Proofs.YtpaleljnkejdgaaGreatDoor
open Go.RowKit Go.Lib Go.Shelf

/-- The ranges ahead of a place are right. -/
def Wk.Good (l : List (Int × Int)) (k : Nat) : Prop := ∀ j (h : j < l.length), j < k → Wk.bad (Wk.ahd (-1) l j) l[j] = false
theorem Wk.Good.ahd {l : List (Int × Int)} {k : Nat} (h : Wk.Good l (k + 1)) (hk : k < l.length) : 0 ≤ l[k].2 ∧ Wk.ahd (-1) l (k + 1) = l[k].2 := by
  have hb := Wk.bad_iff.1 (h k hk (by omega))
  refine ⟨?_, Wk.ahd_succ _ _ _ hk⟩
  cases k with
  | zero => have e : Wk.ahd (-1) l 0 = -1 := rfl
            rw [e] at hb; omega
  | succ k =>
    have h2 := Wk.Good.ahd (k := k) (fun j hj hjk => h j hj (by omega)) (by omega)
    rw [h2.2] at hb
    omega
theorem Wk.Good.step {l : List (Int × Int)} {k : Nat} (h : Wk.Good l k) (hk : k < l.length) (hb : Wk.bad (Wk.ahd (-1) l k) l[k] = false) : Wk.Good l (k + 1) := fun j hj hjk => by
  by_cases e : j = k
  · subst e; exact hb
  · exact h j hj (by omega)
set_option maxHeartbeats 4000000 in
set_option maxRecDepth 100000 in
theorem ref_Check (l : List (Int × Int)) (p : Option Addr) (c : Nat) (w : World) (hA : Wk.At w p l) (hn : l.length ≤ 140737488351232) :
    Calls Tryz.prog 33 #[.slice p l.length c] w fun e w' => e = .returned (.int .i64 (Wk.chk l)) ∧ Below w.heap.size w w' := by
  have AL := Lib.hid hA
  clear hA
  by_cases h64 : l.length ≤ 64
  · have HO := Lib.hid (show Wk.chk l = if Wk.Ch (-1) l then 0 else 2 by unfold Wk.chk Wk.Ok; by_cases h : Wk.Ch (-1) l <;> simp [h64, h])
    have HN := Lib.hid (show ∀ k (h : k < l.length), Wk.bad (Wk.ahd (-1) l k) l[k] = true → Wk.chk l = 2 from fun k h hb => by
      rw [HO.out, if_neg]
      intro hc
      rw [Wk.ch_iff.1 hc k h] at hb
      cases hb)
    have HY := Lib.hid (show Wk.Good l l.length → Wk.chk l = 0 from fun h => by rw [HO.out, if_pos (Wk.ch_iff.2 fun k hk => h k hk hk)])
    clear HO
    obtain ⟨r, hr⟩ : ∃ r, r = Wk.chk l := ⟨_, rfl⟩
    rw [← hr]
    rw [← hr] at HN HY
    clear hr
    obtain ⟨n, hnl⟩ : ∃ n, n = l.length := ⟨_, rfl⟩
    have Hn := Lib.hid hnl
    rw [← hnl] at h64 HY
    rw [← hnl]
    clear hnl hn
    go_enter Tryz.func33, Tryz.ntmps33
    go_wp2_with fail
    go_loopw [10] (fun i wr => ∃ k : Nat, k ≤ n ∧ i = .int .i64 k ∧ Wk.Good l k ∧ Below w.heap.size w wr) (fun i _ => n - (RowKit.intOf i).toNat)
    case atStart => exact ⟨0, Nat.zero_le _, rfl, fun j _ h => absurd h (Nat.not_lt_zero _), Below.refl _ _⟩
    case round =>
      obtain ⟨k, hk, rfl, hG, hBw⟩ := hrel
      have HG := Lib.hid hG
      have BW := Lib.hid hBw
      have hz := hBw.size
      clear hG hBw
      by_cases hlt : k < n
      · have hkl : k < l.length := by rw [← Hn.out]; exact hlt
        obtain ⟨b1, o1, rfl, e1, e2⟩ := (AL.out.below BW.out).get k hkl
        have HBad := Lib.hid (HN.out k hkl)
        have HStep := Lib.hid (HG.out.step hkl)
        have hltz : (k : Int) < (n : Int) := by omega
        have hk0 : (0 : Int) ≤ (k : Int) := by omega
        cases k with
        | zero =>
          have ea : Wk.ahd (-1) l 0 = -1 := rfl
          rw [ea] at HBad HStep
          generalize l[0] = y at e1 e2 HBad HStep
          obtain ⟨f, t⟩ := y
          simp only [Nat.zero_mul, Nat.add_zero] at e1 e2
          have BX := Lib.hid (BW.out.alloc hz (.cells #[.int .i64 f, .int .i64 t] 56))
          clear ea hkl hk0
          have hk0' : ((0 : Nat) : Int) = 0 := rfl
          by_cases h1 : f < 0
          · have HR := Lib.hid (HBad.out (by unfold Wk.bad; simp; omega))
            go_wp2_with fail
            go_quiet (fail)
            go_wp2_with fail
            go_ret
            exact ⟨congrArg (fun x => Ending.returned (Value.int .i64 x)) HR.out.symm, below_drewN BX.out _⟩
          · have q1 : decide (f < 0) = false := decide_eq_false h1
            by_cases h2 : 10080 < t
            · have HR := Lib.hid (HBad.out (by unfold Wk.bad; simp; omega))
              clear h1
              go_wp2_with fail
              go_quiet (fail)
              go_wp2_with fail
              go_ret
              exact ⟨congrArg (fun x => Ending.returned (Value.int .i64 x)) HR.out.symm, below_drewN BX.out _⟩
            · have q2 : decide (10080 < t) = false := decide_eq_false h2
              by_cases h3 : t ≤ f
              · have HR := Lib.hid (HBad.out (by unfold Wk.bad; simp; omega))
                clear h1 h2
                go_wp2_with fail
                go_quiet (fail)
                go_wp2_with fail
                go_ret
                exact ⟨congrArg (fun x => Ending.returned (Value.int .i64 x)) HR.out.symm, below_drewN BX.out _⟩
              · have q3 : decide (t ≤ f) = false := decide_eq_false h3
                have HG2 := Lib.hid (HStep.out (by unfold Wk.bad; simp; omega))
                clear h1 h2 h3
                go_wp2_with fail
                go_quiet (fail)
                go_wp2_with fail
                exact ⟨⟨1, by omega, by go_num, HG2.out, below_drewN BX.out _⟩, by simp [RowKit.intOf]; omega⟩
        | succ k =>
          obtain ⟨ha0, ha⟩ := HG.out.ahd (by omega)
          obtain ⟨b2, o2, hp2, d1, d2⟩ := (AL.out.below BW.out).get k (by omega)
          clear d1
          cases hp2
          rw [ha] at HBad HStep
          generalize l[k + 1] = y at e1 e2 HBad HStep
          obtain ⟨f, t⟩ := y
          generalize (l[k]'(by omega)).2 = a at d2 HBad HStep ha0
          have hcast : ((k + 1 : Nat) : Int) = (k : Int) + 1 := by omega
          rw [hcast] at hltz hk0 ⊢
          have hq0 : decide ((0 : Int) < (k : Int) + 1) = true := decide_eq_true (by omega)
          have hkn : (k : Int) < (n : Int) := by omega
          have hk1 : (0 : Int) ≤ (k : Int) := by omega
          have hkn2 : k < n := by omega
          have htn : ((k : Int) + 1).toNat = k + 1 := by omega
          have hts : (k : Int) + 1 - 1 = (k : Int) := by omega
          clear hcast
          simp only [] at e1 e2
          have BX := Lib.hid (BW.out.alloc hz (.cells #[.int .i64 f, .int .i64 t] 56))
          have d3 := ((wk_box wr (.cells #[.int .i64 f, .int .i64 t] 56)).cell (p := ⟨b1, o1 + k * 2 + 1, none⟩) (World.block_lt_of_cell? wr _ d2)).trans d2
          clear ha hkl HG
          by_cases h1 : f < 0
          · have HR := Lib.hid (HBad.out (by unfold Wk.bad; simp; omega))
            go_wp2_with fail
            go_quiet (fail)
            go_wp2_with fail
            go_ret
            exact ⟨congrArg (fun x => Ending.returned (Value.int .i64 x)) HR.out.symm, below_drewN BX.out _⟩
          · have q1 : decide (f < 0) = false := decide_eq_false h1
            by_cases h2 : 10080 < t
            · have HR := Lib.hid (HBad.out (by unfold Wk.bad; simp; omega))
              clear h1
              go_wp2_with fail
              go_quiet (fail)
              go_wp2_with fail
              go_ret
              exact ⟨congrArg (fun x => Ending.returned (Value.int .i64 x)) HR.out.symm, below_drewN BX.out _⟩
            · have q2 : decide (10080 < t) = false := decide_eq_false h2
              by_cases h3 : t ≤ f
              · have HR := Lib.hid (HBad.out (by unfold Wk.bad; simp; omega))
                clear h1 h2
                go_wp2_with fail
                go_quiet (fail)
                go_wp2_with fail
                go_ret
                exact ⟨congrArg (fun x => Ending.returned (Value.int .i64 x)) HR.out.symm, below_drewN BX.out _⟩
              · have q3 : decide (t ≤ f) = false := decide_eq_false h3
                by_cases h4 : f ≤ a
                · have HR := Lib.hid (HBad.out (by unfold Wk.bad; simp; omega))
                  have q7 : IntKind.i64.wrap (k : Int) = (k : Int) := by rw [IntKind.wrap_i64]; omega
                  clear h1 h2 h3
                  go_wp2_with fail
                  go_quiet (fail)
                  go_wp2_with fail
                  go_ret
                  exact ⟨congrArg (fun x => Ending.returned (Value.int .i64 x)) HR.out.symm, below_drewN BX.out _⟩
                · have q4 : decide (f ≤ a) = false := decide_eq_false h4
                  have HG2 := Lib.hid (HStep.out (by unfold Wk.bad; simp; omega))
                  have q7 : IntKind.i64.wrap (k : Int) = (k : Int) := by rw [IntKind.wrap_i64]; omega
                  clear h1 h2 h3 h4
                  go_wp2_with fail
                  go_quiet (fail)
                  go_wp2_with fail
                  clear q7
                  exact ⟨⟨k + 1 + 1, by omega, by go_num, HG2.out, below_drewN BX.out _⟩, by simp [RowKit.intOf]; omega⟩
      · obtain rfl : k = n := by omega
        have HR := Lib.hid (HY.out HG.out)
        go_wp2_with fail
        go_ret
        exact ⟨congrArg (fun x => Ending.returned (Value.int .i64 x)) HR.out.symm, BW.out⟩
  · have HO := Lib.hid (show Wk.chk l = 2 from if_neg fun h => h64 h.1)
    have h65 : 64 < l.length := by omega
    clear h64
    generalize l.length = n at *
    have h65z : (64 : Int) < (n : Int) := by omega
    go_enter Tryz.func33, Tryz.ntmps33
    go_wp2_with fail
    go_ret
    rw [HO.out]
    exact ⟨rfl, Below.refl _ _⟩
end Go.Proofs.YtpaleljnkejdgaaGreatDoor
