/-
  The walks of the reference's Next, Not, And and Or of weeks. Condition: a list is of a size that a machine holds.
-/
import Derived.Test.YtmfbplemelodcaaWkRAsk
namespace Go.Proofs.Ytmfbplemelodcaa
open Go.RowKit Go.Lib Go.Shelf

theorem Wk.two_eq {a b c d : Int} (h1 : a = b) (h2 : c = d) : Ending.returned (Value.tuple #[.int .i64 a, .int .i64 c]) = Ending.returned (Value.tuple #[.int .i64 b, .int .i64 d]) := by rw [h1, h2]
theorem Wk.next_at {l : List (Int × Int)} {m : Int} {b : Bool} (ho : Wk.Ok l) (hm : Wk.Min m) {k : Nat} (hk : k < 10080) (h1 : Wk.has l ((m + k) % 10080) = b) (h2 : ∀ j : Nat, j < k → Wk.has l ((m + j) % 10080) = !b) : Wk.nextN l m b = (k : Int) ∧ Wk.nextC l m b = 0 := by
  have hc := Wk.chk2_mk ho hm
  have hmod : ∀ j : Int, 0 ≤ j → Wk.Min ((m + j) % 10080) := fun j hj => ⟨by omega, by omega⟩
  have hv : Wk.nextV l b ≠ [] := by
    intro h
    have := Wk.nextV_has ho b (hmod k (by omega))
    rw [h, Wk.has_nil, h1] at this
    simp at this
  obtain ⟨s1, s2, s3, s4⟩ := Wk.nx_spec (Wk.nextV_ch ho.2 b) hv hm.1 hm.2
  have e1 : Wk.nextN l m b = Wk.nx (Wk.nextV l b) m := by unfold Wk.nextN; rw [if_pos hc, if_neg hv]
  have e2 : Wk.nextC l m b = 0 := by unfold Wk.nextC; rw [if_pos hc, if_neg hv]
  refine ⟨?_, e2⟩
  rw [e1]
  rcases Int.lt_trichotomy (Wk.nx (Wk.nextV l b) m) (k : Int) with h | h | h
  · have h3 := h2 (Wk.nx (Wk.nextV l b) m).toNat (by omega)
    rw [show ((Wk.nx (Wk.nextV l b) m).toNat : Int) = Wk.nx (Wk.nextV l b) m by omega] at h3
    rw [Wk.nextV_has ho b (hmod _ s1), h3] at s3
    cases b <;> simp at s3
  · exact h
  · have h3 := s4 (k : Int) (by omega) h
    rw [Wk.nextV_has ho b (hmod _ (by omega)), h1] at h3
    simp at h3
theorem Wk.next_none {l : List (Int × Int)} {m : Int} {b : Bool} (ho : Wk.Ok l) (hm : Wk.Min m) (h2 : ∀ j : Nat, j < 10080 → Wk.has l ((m + j) % 10080) = !b) : Wk.nextN l m b = 0 ∧ Wk.nextC l m b = 3 := by
  have hc := Wk.chk2_mk ho hm
  have hmod : ∀ j : Int, 0 ≤ j → Wk.Min ((m + j) % 10080) := fun j hj => ⟨by omega, by omega⟩
  have hv : Wk.nextV l b = [] := by
    by_cases hv : Wk.nextV l b = []
    · exact hv
    · obtain ⟨s1, s2, s3, s4⟩ := Wk.nx_spec (Wk.nextV_ch ho.2 b) hv hm.1 hm.2
      have h3 := h2 (Wk.nx (Wk.nextV l b) m).toNat (by omega)
      rw [show ((Wk.nx (Wk.nextV l b) m).toNat : Int) = Wk.nx (Wk.nextV l b) m by omega] at h3
      rw [Wk.nextV_has ho b (hmod _ s1), h3] at s3
      cases b <;> simp at s3
  exact ⟨by unfold Wk.nextN; rw [if_pos hc, if_pos hv], by unfold Wk.nextC; rw [if_pos hc, if_pos hv]⟩
set_option maxHeartbeats 4000000 in
theorem ref_Next (l : List (Int × Int)) (p : Option Addr) (c : Nat) (m : Int) (b : Bool) (w : World) (hA : Wk.At w p l) (hn : l.length ≤ 140737488351232) :
    Calls Try.prog 15 #[.slice p l.length c, .int .i64 m, .bool b] w fun e w' => e = .returned (.tuple #[.int .i64 (Wk.nextN l m b), .int .i64 (Wk.nextC l m b)]) ∧ Below w.heap.size w w' := by
  have CC := Lib.hid (fun w hA => ref_Check l p c w hA hn)
  have CI := Lib.hid (fun w => ref_is m w)
  have AL := Lib.hid hA
  clear hA
  by_cases ho : Wk.Ok l
  · rw [show Wk.chk l = 0 from if_pos ho] at CC
    by_cases hm : Wk.Min m
    · have CM := Lib.hid (fun w hA => ref_Minutes l p c w hA ho)
      rw [decide_eq_true hm] at CI
      have HA := Lib.hid (fun (k : Nat) => Wk.next_at (l := l) (m := m) (b := b) ho hm (k := k))
      have HN := Lib.hid (Wk.next_none (l := l) (m := m) (b := b) ho hm)
      obtain ⟨m1, m2⟩ := hm
      clear ho hn
      generalize Wk.nextN l m b = N at *
      generalize Wk.nextC l m b = C at *
      generalize Wk.has l = f at *
      generalize l.length = n at *
      go_enter Try.func15, Try.ntmps15
      go_wp2_with fail
      refine (CC.out _ AL.out).mono ?_
      rintro e w1 ⟨rfl, hB⟩
      have A1 := Lib.hid (AL.out.below hB)
      have B1 := Lib.hid hB
      clear hB
      go_wp2_with fail
      refine (CI.out _).mono ?_
      rintro e w2 ⟨rfl, rfl⟩
      go_wp2_with fail
      refine (CM.out _ A1.out).mono ?_
      rintro e w3 ⟨v3, rfl, hb, hB⟩
      obtain ⟨g, cap, rfl, _, _⟩ := hb.form
      have HB := Lib.hid hb
      have B3 := Lib.hid (wk_then B1.out hB B1.out.size)
      clear hB hb
      go_wp2_with fail
      go_loopw [9] (fun i wr => ∃ k : Nat, k ≤ 10080 ∧ i = .int .i64 (k : Int) ∧ Aside (∀ j : Nat, j < k → f ((m + j) % 10080) = !b) ∧ Wk.SameW wr w3) (fun i _ => 10080 - (RowKit.intOf i).toNat)
      case atStart => exact ⟨0, Nat.zero_le _, rfl, fun j h => absurd h (Nat.not_lt_zero _), Wk.sameW _⟩
      case round =>
        obtain ⟨k, hk, rfl, hE, hw⟩ := hrel
        obtain rfl : w3 = wr := Eq.symm hw
        by_cases hlt : k < 10080
        · obtain ⟨x, hx⟩ : ∃ x : Nat, (m + (k : Int)) % 10080 = (x : Int) := ⟨((m + (k : Int)) % 10080).toNat, by omega⟩
          have hx1 : x < 10080 := by omega
          obtain ⟨c1, c2⟩ := HB.out.cell x hx1
          have hltz : (k : Int) < 10080 := by omega
          have hk0 : (0 : Int) ≤ (k : Int) := by omega
          have hxz : (x : Int) < 10080 := by omega
          have hx0 : (0 : Int) ≤ (x : Int) := by omega
          have Hx := Lib.hid hx
          by_cases hf : f (x : Int) = b
          · have HR := Lib.hid (HA.out k hlt (by rw [hx]; exact hf) hE.out)
            rw [hf] at c1
            clear hf
            cases b with
            | true =>
              go_wp2_with fail
              go_ret2
              exact ⟨Wk.two_eq HR.out.1.symm HR.out.2.symm, B3.out⟩
            | false =>
              go_wp2_with fail
              go_ret2
              exact ⟨Wk.two_eq HR.out.1.symm HR.out.2.symm, B3.out⟩
          · have hf2 : f (x : Int) = !b := by cases h : f (x : Int) <;> cases b <;> simp_all
            have hE2 : Aside (∀ j : Nat, j < k + 1 → f ((m + j) % 10080) = !b) := fun j hj => by
              by_cases e : j = k
              · subst e; rw [Hx.out]; exact hf2
              · exact hE.out j (by omega)
            rw [hf2] at c1
            clear hf hf2 hE
            cases b with
            | true =>
              rw [Bool.not_true] at c1
              go_wp2_with fail
              exact ⟨⟨k + 1, by omega, by go_num, hE2, Wk.sameW _⟩, by simp [RowKit.intOf]; omega⟩
            | false =>
              rw [Bool.not_false] at c1
              go_wp2_with fail
              exact ⟨⟨k + 1, by omega, by go_num, hE2, Wk.sameW _⟩, by simp [RowKit.intOf]; omega⟩
        · obtain rfl : k = 10080 := by omega
          have HR := Lib.hid (HN.out hE.out)
          clear hE
          go_wp2_with fail
          go_ret2
          exact ⟨Wk.two_eq HR.out.1.symm HR.out.2.symm, B3.out⟩
    · have e1 : Wk.chk2 l m = 1 := by unfold Wk.chk2; rw [if_pos ho, if_neg hm]
      rw [show Wk.nextN l m b = 0 by unfold Wk.nextN; rw [e1]; rfl, show Wk.nextC l m b = 1 by unfold Wk.nextC; rw [e1]; rfl]
      rw [decide_eq_false hm] at CI
      clear ho hn hm e1
      generalize l.length = n at *
      go_enter Try.func15, Try.ntmps15
      go_wp2_with fail
      refine (CC.out _ AL.out).mono ?_
      rintro e w1 ⟨rfl, hB⟩
      have B1 := Lib.hid hB
      clear hB
      go_wp2_with fail
      refine (CI.out _).mono ?_
      rintro e w2 ⟨rfl, rfl⟩
      go_wp2_with fail
      go_ret2
      exact ⟨rfl, B1.out⟩
  · have e1 : Wk.chk2 l m = 2 := by unfold Wk.chk2; rw [if_neg ho]
    rw [show Wk.nextN l m b = 0 by unfold Wk.nextN; rw [e1]; rfl, show Wk.nextC l m b = 2 by unfold Wk.nextC; rw [e1]; rfl]
    rw [show Wk.chk l = 2 from if_neg ho] at CC
    clear ho hn e1
    generalize l.length = n at *
    go_enter Try.func15, Try.ntmps15
    go_wp2_with fail
    refine (CC.out _ AL.out).mono ?_
    rintro e w1 ⟨rfl, hB⟩
    have B1 := Lib.hid hB
    clear hB
    go_wp2_with fail
    go_ret2
    exact ⟨rfl, B1.out⟩
/-- A row of which the first minutes are turned. -/
def Wk.mix (f g : Int → Bool) (k : Nat) (j : Int) : Bool := if j < (k : Int) then g j else f j
theorem Wk.mix_step (f g : Int → Bool) (k : Nat) (j : Int) : Wk.upd (Wk.mix f g k) (k : Int) (g (k : Int)) j = Wk.mix f g (k + 1) j := by
  unfold Wk.upd Wk.mix
  by_cases e : j = (k : Int)
  · subst e; rw [if_pos rfl, if_pos (by omega)]
  · rw [if_neg e]
    by_cases h : j < (k : Int)
    · rw [if_pos h, if_pos (by omega)]
    · rw [if_neg h, if_neg (by omega)]
theorem Wk.mix_at (f g : Int → Bool) (k : Nat) : Wk.mix f g k (k : Int) = f (k : Int) := if_neg (by omega)
theorem Wk.mix_zero (f g : Int → Bool) (j : Int) (h : 0 ≤ j) : f j = Wk.mix f g 0 j := (if_neg (by omega)).symm
theorem Wk.mix_all (f g : Int → Bool) (j : Int) (h : j < 10080) : Wk.mix f g 10080 j = g j := if_pos (by omega)
set_option maxHeartbeats 4000000 in
theorem ref_Not (l : List (Int × Int)) (p : Option Addr) (c : Nat) (w : World) (hA : Wk.At w p l) (hn : l.length ≤ 140737488351232) :
    Calls Try.prog 21 #[.slice p l.length c] w (Wk.WeekPost (Wk.notL l) (Wk.notC l) w) := by
  have CC := Lib.hid (fun w hA => ref_Check l p c w hA hn)
  have AL := Lib.hid hA
  clear hA
  by_cases ho : Wk.Ok l
  · rw [show Wk.chk l = 0 from if_pos ho] at CC
    rw [show Wk.notL l = Wk.fitL (Wk.gaps 0 l) from if_pos ho, show Wk.notC l = Wk.fitC (Wk.gaps 0 l) from if_pos ho]
    have CM := Lib.hid (fun w hA => ref_Minutes l p c w hA ho)
    have CO := Lib.hid (fun v base w hB => ref_of (fun j => !Wk.has l j) v base (Wk.gaps 0 l) w hB (Wk.gaps_ch (f := 0) ho.2) (fun j h1 h2 => by rw [Wk.gaps_has (f := 0) ho.2, decide_eq_true h1, decide_eq_true h2]; rfl))
    clear ho hn
    generalize Wk.gaps 0 l = G at *
    generalize Wk.has l = f at *
    generalize l.length = n at *
    go_enter Try.func21, Try.ntmps21
    go_wp2_with fail
    refine (CC.out _ AL.out).mono ?_
    rintro e w1 ⟨rfl, hB⟩
    have A1 := Lib.hid (AL.out.below hB)
    have B1 := Lib.hid hB
    clear hB
    go_wp2_with fail
    refine (CM.out _ A1.out).mono ?_
    rintro e w3 ⟨v3, rfl, hb, hB⟩
    obtain ⟨g, cap, rfl, hg1, hg2⟩ := hb.form
    have HB := Lib.hid hb
    have B3 := Lib.hid (wk_then B1.out hB B1.out.size)
    have hg3 : w.heap.size ≤ g := Nat.le_trans B1.out.size hg1
    clear hB hb
    go_wp2_with fail
    go_loopw [13] (fun i wr => ∃ k : Nat, k ≤ 10080 ∧ i = .int .i64 (k : Int) ∧ Wk.Bits wr w1.heap.size (.slice (some ⟨g, 0, none⟩) 10080 cap) (Wk.mix f (fun j => !f j) k) ∧ Below w.heap.size w wr) (fun i _ => 10080 - (RowKit.intOf i).toNat)
    case atStart => exact ⟨0, Nat.zero_le _, rfl, HB.out.congr (fun j h _ => Wk.mix_zero _ _ j h), B3.out⟩
    case round =>
      obtain ⟨k, hk, rfl, hO, hBw⟩ := hrel
      have HO := Lib.hid hO
      have BW := Lib.hid hBw
      clear hO hBw
      by_cases hlt : k < 10080
      · obtain ⟨c1, c2⟩ := HO.out.cell k hlt
        rw [Wk.mix_at] at c1
        have hltz : (k : Int) < 10080 := by omega
        have hk0 : (0 : Int) ≤ (k : Int) := by omega
        have O2 := Lib.hid ((HO.out.store k (!f (k : Int))).congr (fun j _ _ => Wk.mix_step f (fun j => !f j) k j))
        have B2 := Lib.hid (BW.out.setCell (p := ⟨g, k, none⟩) hg3 (.bool (!f (k : Int))))
        generalize f (k : Int) = v at c1 O2 B2
        go_wp2_with fail
        exact ⟨⟨k + 1, by omega, by go_num, O2.out, B2.out⟩, by simp [RowKit.intOf]; omega⟩
      · obtain rfl : k = 10080 := by omega
        have HO2 := Lib.hid (HO.out.congr (g := fun j => !f j) (fun j _ h => Wk.mix_all _ _ j h))
        clear HO
        go_wp2_with fail
        refine (CO.out _ _ _ HO2.out).mono ?_
        rintro e w5 ⟨p5, c5, rfl, hA5, hB5⟩
        have A5 := Lib.hid hA5
        have B5 := Lib.hid (wk_then BW.out hB5 BW.out.size)
        clear hA5 hB5
        go_wp2_with fail
        go_ret2
        exact ⟨p5, c5, rfl, A5.out, B5.out⟩
  · rw [show Wk.notL l = [] from if_neg ho, show Wk.notC l = 2 from if_neg ho]
    rw [show Wk.chk l = 2 from if_neg ho] at CC
    clear ho hn
    generalize l.length = n at *
    go_enter Try.func21, Try.ntmps21
    go_wp2_with fail
    refine (CC.out _ AL.out).mono ?_
    rintro e w1 ⟨rfl, hB⟩
    have B1 := Lib.hid hB
    clear hB
    go_wp2_with fail
    go_ret2
    exact ⟨none, 0, rfl, Wk.At.nil _ _, B1.out⟩
end Go.Proofs.Ytmfbplemelodcaa
