/-
  The walks of the reference's And and Or of two weeks. Condition: a list is of a size that a machine holds.
-/
import Derived.Test.YtmfbplemelodcaaWkRSets
namespace Go.Proofs.Ytmfbplemelodcaa
open Go.RowKit Go.Lib Go.Shelf

/-- A store into another block leaves a row of minutes as it is. -/
theorem Wk.Bits.elsewhere {w : World} {base : Nat} {g4 cap4 : Nat} {f : Int → Bool} (h : Wk.Bits w base (.slice (some ⟨g4, 0, none⟩) 10080 cap4) f) {g j : Nat} (hg : g4 ≠ g) (x : Value) : Wk.Bits (w.setCell ⟨g, j, none⟩ x) base (.slice (some ⟨g4, 0, none⟩) 10080 cap4) f :=
  World.ownsRow.kept (row := some g) h ⟨rfl, rfl, rfl, by simp [World.setCell], fun k _ hne => Below.heap_setCell _ _ _ _ (fun e => hne (by rw [e]))⟩ (Or.inr fun e => hg (by simpa [Value.ownBlock] using e))
set_option maxHeartbeats 4000000 in
theorem ref_And (a b : List (Int × Int)) (p q : Option Addr) (c d : Nat) (w : World) (hA : Wk.At w p a) (hB : Wk.At w q b) (hn : a.length ≤ 140737488351232) (hm : b.length ≤ 140737488351232) :
    Calls Try.prog 23 #[.slice p a.length c, .slice q b.length d] w (Wk.WeekPost (Wk.andL a b) (Wk.andC a b) w) := by
  have CC := Lib.hid (fun w hA => ref_Check a p c w hA hn)
  have CD := Lib.hid (fun w hB => ref_Check b q d w hB hm)
  have AA := Lib.hid hA
  have AB := Lib.hid hB
  clear hA hB
  by_cases hoa : Wk.Ok a
  · rw [show Wk.chk a = 0 from if_pos hoa] at CC
    by_cases hob : Wk.Ok b
    · rw [show Wk.chk b = 0 from if_pos hob] at CD
      rw [show Wk.andL a b = Wk.fitL (Wk.both a b) from if_pos ⟨hoa, hob⟩, show Wk.andC a b = Wk.fitC (Wk.both a b) from if_pos ⟨hoa, hob⟩]
      have CM := Lib.hid (fun w hA => ref_Minutes a p c w hA hoa)
      have CN := Lib.hid (fun w hA => ref_Minutes b q d w hA hob)
      have CO := Lib.hid (fun v base w hB => ref_of (fun j => Wk.has a j && Wk.has b j) v base (Wk.both a b) w hB (Wk.both_ch hoa.2 hob.2) (fun j _ _ => Wk.both_has a b j))
      clear hoa hob hn hm
      generalize Wk.both a b = G at *
      generalize Wk.has a = f at *
      generalize Wk.has b = f2 at *
      obtain ⟨na, hna⟩ : ∃ x, x = a.length := ⟨_, rfl⟩
      obtain ⟨nb, hnb⟩ : ∃ x, x = b.length := ⟨_, rfl⟩
      rw [← hna] at CC CM
      rw [← hnb] at CD CN
      rw [← hna, ← hnb]
      clear hna hnb
      go_enter Try.func23, Try.ntmps23
      go_wp2_with fail
      refine (CC.out _ AA.out).mono ?_
      rintro e w1 ⟨rfl, hB⟩
      have A1 := Lib.hid (AA.out.below hB)
      have D1 := Lib.hid (AB.out.below hB)
      have B1 := Lib.hid hB
      clear hB
      go_wp2_with fail
      refine (CD.out _ D1.out).mono ?_
      rintro e w2 ⟨rfl, hB⟩
      have A2 := Lib.hid (A1.out.below hB)
      have D2 := Lib.hid (D1.out.below hB)
      have B2 := Lib.hid (wk_then B1.out hB B1.out.size)
      clear hB
      go_wp2_with fail
      refine (CM.out _ A2.out).mono ?_
      rintro e w3 ⟨v3, rfl, hb, hB⟩
      obtain ⟨g, cap, rfl, hg1, hg2⟩ := hb.form
      have HB := Lib.hid hb
      have D3 := Lib.hid (D2.out.below hB)
      have B3 := Lib.hid (wk_then B2.out hB B2.out.size)
      have hg3 : w.heap.size ≤ g := Nat.le_trans B2.out.size hg1
      clear hB hb
      go_wp2_with fail
      refine (CN.out _ D3.out).mono ?_
      rintro e w4 ⟨v4, rfl, hb, hB⟩
      obtain ⟨g4, cap4, rfl, hg5, hg6⟩ := hb.form
      have HB4 := Lib.hid (HB.out.below hB)
      have HD := Lib.hid hb
      have B4 := Lib.hid (wk_then B3.out hB B3.out.size)
      have hne : g4 ≠ g := by omega
      clear hB hb HB
      go_wp2_with fail
      go_loopw [23] (fun i wr => ∃ k : Nat, k ≤ 10080 ∧ i = .int .i64 (k : Int) ∧ Wk.Bits wr w2.heap.size (.slice (some ⟨g, 0, none⟩) 10080 cap) (Wk.mix f (fun j => f j && f2 j) k) ∧ Wk.Bits wr w3.heap.size (.slice (some ⟨g4, 0, none⟩) 10080 cap4) f2 ∧ Below w.heap.size w wr) (fun i _ => 10080 - (RowKit.intOf i).toNat)
      case atStart => exact ⟨0, Nat.zero_le _, rfl, HB4.out.congr (fun j h _ => Wk.mix_zero _ _ j h), HD.out, B4.out⟩
      case round =>
        obtain ⟨k, hk, rfl, hO, hD, hBw⟩ := hrel
        have HO := Lib.hid hO
        have HE := Lib.hid hD
        have BW := Lib.hid hBw
        clear hO hD hBw
        by_cases hlt : k < 10080
        · obtain ⟨c1, c2⟩ := HO.out.cell k hlt
          obtain ⟨d1, d2⟩ := HE.out.cell k hlt
          rw [Wk.mix_at] at c1
          have hltz : (k : Int) < 10080 := by omega
          have hk0 : (0 : Int) ≤ (k : Int) := by omega
          have O2 := Lib.hid ((HO.out.store k (f (k : Int) && f2 (k : Int))).congr (fun j _ _ => Wk.mix_step f (fun j => f j && f2 j) k j))
          have E2 := Lib.hid (HE.out.elsewhere (g := g) (j := k) hne (.bool (f (k : Int) && f2 (k : Int))))
          have B2 := Lib.hid (BW.out.setCell (p := ⟨g, k, none⟩) hg3 (.bool (f (k : Int) && f2 (k : Int))))
          generalize f (k : Int) = v at c1 O2 B2 E2
          generalize f2 (k : Int) = v2 at d1 O2 B2 E2
          cases v with
          | true =>
            rw [Bool.true_and] at O2 B2 E2
            go_wp2_with fail
            exact ⟨⟨k + 1, by omega, by go_num, O2.out, E2.out, B2.out⟩, by simp [RowKit.intOf]; omega⟩
          | false =>
            rw [Bool.false_and] at O2 B2 E2
            go_wp2_with fail
            exact ⟨⟨k + 1, by omega, by go_num, O2.out, E2.out, B2.out⟩, by simp [RowKit.intOf]; omega⟩
        · obtain rfl : k = 10080 := by omega
          have HO2 := Lib.hid (HO.out.congr (g := fun j => f j && f2 j) (fun j _ h => Wk.mix_all _ _ j h))
          clear HO
          go_wp2_with fail
          refine (CO.out _ _ _ HO2.out).mono ?_
          rintro e w5 ⟨p5, c5, rfl, hA5, hB5⟩
          have A5 := Lib.hid hA5
          have B5 := Lib.hid (wk_then BW.out hB5 BW.out.size)
          clear hA5 hB5
          go_wp2_with fail
          go_ret2
          exact ⟨p5, c5, rfl, A5.out, B5.out⟩
    · rw [show Wk.andL a b = [] from if_neg (fun h => hob h.2), show Wk.andC a b = 2 from if_neg (fun h => hob h.2)]
      rw [show Wk.chk b = 2 from if_neg hob] at CD
      clear hoa hob hn hm
      generalize a.length = n at *
      generalize b.length = m at *
      go_enter Try.func23, Try.ntmps23
      go_wp2_with fail
      refine (CC.out _ AA.out).mono ?_
      rintro e w1 ⟨rfl, hB⟩
      have D1 := Lib.hid (AB.out.below hB)
      have B1 := Lib.hid hB
      clear hB
      go_wp2_with fail
      refine (CD.out _ D1.out).mono ?_
      rintro e w2 ⟨rfl, hB⟩
      have B2 := Lib.hid (wk_then B1.out hB B1.out.size)
      clear hB
      go_wp2_with fail
      go_ret2
      exact ⟨none, 0, rfl, Wk.At.nil _ _, B2.out⟩
  · rw [show Wk.andL a b = [] from if_neg (fun h => hoa h.1), show Wk.andC a b = 2 from if_neg (fun h => hoa h.1)]
    rw [show Wk.chk a = 2 from if_neg hoa] at CC
    clear hoa hn hm
    generalize a.length = n at *
    generalize b.length = m at *
    go_enter Try.func23, Try.ntmps23
    go_wp2_with fail
    refine (CC.out _ AA.out).mono ?_
    rintro e w1 ⟨rfl, hB⟩
    have B1 := Lib.hid hB
    clear hB
    go_wp2_with fail
    go_ret2
    exact ⟨none, 0, rfl, Wk.At.nil _ _, B1.out⟩
set_option maxHeartbeats 4000000 in
theorem ref_Or (a b : List (Int × Int)) (p q : Option Addr) (c d : Nat) (w : World) (hA : Wk.At w p a) (hB : Wk.At w q b) (hn : a.length ≤ 140737488351232) (hm : b.length ≤ 140737488351232) :
    Calls Try.prog 25 #[.slice p a.length c, .slice q b.length d] w (Wk.WeekPost (Wk.orL a b) (Wk.orC a b) w) := by
  have CC := Lib.hid (fun w hA => ref_Check a p c w hA hn)
  have CD := Lib.hid (fun w hB => ref_Check b q d w hB hm)
  have AA := Lib.hid hA
  have AB := Lib.hid hB
  clear hA hB
  by_cases hoa : Wk.Ok a
  · rw [show Wk.chk a = 0 from if_pos hoa] at CC
    by_cases hob : Wk.Ok b
    · rw [show Wk.chk b = 0 from if_pos hob] at CD
      rw [show Wk.orL a b = Wk.fitL (Wk.jnd (a ++ b)) from if_pos ⟨hoa, hob⟩, show Wk.orC a b = Wk.fitC (Wk.jnd (a ++ b)) from if_pos ⟨hoa, hob⟩]
      have CM := Lib.hid (fun w hA => ref_Minutes a p c w hA hoa)
      have CN := Lib.hid (fun w hA => ref_Minutes b q d w hA hob)
      have CO := Lib.hid (fun v base w hB => ref_of (fun j => Wk.has a j || Wk.has b j) v base (Wk.jnd (a ++ b)) w hB ((Wk.jnd_joined ((Wk.Ch.fit hoa.2).append (Wk.Ch.fit hob.2))).1) (fun j _ _ => by rw [(Wk.jnd_joined ((Wk.Ch.fit hoa.2).append (Wk.Ch.fit hob.2))).2.1, Wk.has_append]))
      clear hoa hob hn hm
      generalize Wk.jnd (a ++ b) = G at *
      generalize Wk.has a = f at *
      generalize Wk.has b = f2 at *
      obtain ⟨na, hna⟩ : ∃ x, x = a.length := ⟨_, rfl⟩
      obtain ⟨nb, hnb⟩ : ∃ x, x = b.length := ⟨_, rfl⟩
      rw [← hna] at CC CM
      rw [← hnb] at CD CN
      rw [← hna, ← hnb]
      clear hna hnb
      go_enter Try.func25, Try.ntmps25
      go_wp2_with fail
      refine (CC.out _ AA.out).mono ?_
      rintro e w1 ⟨rfl, hB⟩
      have A1 := Lib.hid (AA.out.below hB)
      have D1 := Lib.hid (AB.out.below hB)
      have B1 := Lib.hid hB
      clear hB
      go_wp2_with fail
      refine (CD.out _ D1.out).mono ?_
      rintro e w2 ⟨rfl, hB⟩
      have A2 := Lib.hid (A1.out.below hB)
      have D2 := Lib.hid (D1.out.below hB)
      have B2 := Lib.hid (wk_then B1.out hB B1.out.size)
      clear hB
      go_wp2_with fail
      refine (CM.out _ A2.out).mono ?_
      rintro e w3 ⟨v3, rfl, hb, hB⟩
      obtain ⟨g, cap, rfl, hg1, hg2⟩ := hb.form
      have HB := Lib.hid hb
      have D3 := Lib.hid (D2.out.below hB)
      have B3 := Lib.hid (wk_then B2.out hB B2.out.size)
      have hg3 : w.heap.size ≤ g := Nat.le_trans B2.out.size hg1
      clear hB hb
      go_wp2_with fail
      refine (CN.out _ D3.out).mono ?_
      rintro e w4 ⟨v4, rfl, hb, hB⟩
      obtain ⟨g4, cap4, rfl, hg5, hg6⟩ := hb.form
      have HB4 := Lib.hid (HB.out.below hB)
      have HD := Lib.hid hb
      have B4 := Lib.hid (wk_then B3.out hB B3.out.size)
      have hne : g4 ≠ g := by omega
      clear hB hb HB
      go_wp2_with fail
      go_loopw [23] (fun i wr => ∃ k : Nat, k ≤ 10080 ∧ i = .int .i64 (k : Int) ∧ Wk.Bits wr w2.heap.size (.slice (some ⟨g, 0, none⟩) 10080 cap) (Wk.mix f (fun j => f j || f2 j) k) ∧ Wk.Bits wr w3.heap.size (.slice (some ⟨g4, 0, none⟩) 10080 cap4) f2 ∧ Below w.heap.size w wr) (fun i _ => 10080 - (RowKit.intOf i).toNat)
      case atStart => exact ⟨0, Nat.zero_le _, rfl, HB4.out.congr (fun j h _ => Wk.mix_zero _ _ j h), HD.out, B4.out⟩
      case round =>
        obtain ⟨k, hk, rfl, hO, hD, hBw⟩ := hrel
        have HO := Lib.hid hO
        have HE := Lib.hid hD
        have BW := Lib.hid hBw
        clear hO hD hBw
        by_cases hlt : k < 10080
        · obtain ⟨c1, c2⟩ := HO.out.cell k hlt
          obtain ⟨d1, d2⟩ := HE.out.cell k hlt
          rw [Wk.mix_at] at c1
          have hltz : (k : Int) < 10080 := by omega
          have hk0 : (0 : Int) ≤ (k : Int) := by omega
          have O2 := Lib.hid ((HO.out.store k (f (k : Int) || f2 (k : Int))).congr (fun j _ _ => Wk.mix_step f (fun j => f j || f2 j) k j))
          have E2 := Lib.hid (HE.out.elsewhere (g := g) (j := k) hne (.bool (f (k : Int) || f2 (k : Int))))
          have B2 := Lib.hid (BW.out.setCell (p := ⟨g, k, none⟩) hg3 (.bool (f (k : Int) || f2 (k : Int))))
          generalize f (k : Int) = v at c1 O2 B2 E2
          generalize f2 (k : Int) = v2 at d1 O2 B2 E2
          cases v with
          | true =>
            rw [Bool.true_or] at O2 B2 E2
            go_wp2_with fail
            exact ⟨⟨k + 1, by omega, by go_num, O2.out, E2.out, B2.out⟩, by simp [RowKit.intOf]; omega⟩
          | false =>
            rw [Bool.false_or] at O2 B2 E2
            go_wp2_with fail
            exact ⟨⟨k + 1, by omega, by go_num, O2.out, E2.out, B2.out⟩, by simp [RowKit.intOf]; omega⟩
        · obtain rfl : k = 10080 := by omega
          have HO2 := Lib.hid (HO.out.congr (g := fun j => f j || f2 j) (fun j _ h => Wk.mix_all _ _ j h))
          clear HO
          go_wp2_with fail
          refine (CO.out _ _ _ HO2.out).mono ?_
          rintro e w5 ⟨p5, c5, rfl, hA5, hB5⟩
          have A5 := Lib.hid hA5
          have B5 := Lib.hid (wk_then BW.out hB5 BW.out.size)
          clear hA5 hB5
          go_wp2_with fail
          go_ret2
          exact ⟨p5, c5, rfl, A5.out, B5.out⟩
    · rw [show Wk.orL a b = [] from if_neg (fun h => hob h.2), show Wk.orC a b = 2 from if_neg (fun h => hob h.2)]
      rw [show Wk.chk b = 2 from if_neg hob] at CD
      clear hoa hob hn hm
      generalize a.length = n at *
      generalize b.length = m at *
      go_enter Try.func25, Try.ntmps25
      go_wp2_with fail
      refine (CC.out _ AA.out).mono ?_
      rintro e w1 ⟨rfl, hB⟩
      have D1 := Lib.hid (AB.out.below hB)
      have B1 := Lib.hid hB
      clear hB
      go_wp2_with fail
      refine (CD.out _ D1.out).mono ?_
      rintro e w2 ⟨rfl, hB⟩
      have B2 := Lib.hid (wk_then B1.out hB B1.out.size)
      clear hB
      go_wp2_with fail
      go_ret2
      exact ⟨none, 0, rfl, Wk.At.nil _ _, B2.out⟩
  · rw [show Wk.orL a b = [] from if_neg (fun h => hoa h.1), show Wk.orC a b = 2 from if_neg (fun h => hoa h.1)]
    rw [show Wk.chk a = 2 from if_neg hoa] at CC
    clear hoa hn hm
    generalize a.length = n at *
    generalize b.length = m at *
    go_enter Try.func25, Try.ntmps25
    go_wp2_with fail
    refine (CC.out _ AA.out).mono ?_
    rintro e w1 ⟨rfl, hB⟩
    have B1 := Lib.hid hB
    clear hB
    go_wp2_with fail
    go_ret2
    exact ⟨none, 0, rfl, Wk.At.nil _ _, B1.out⟩
end Go.Proofs.Ytmfbplemelodcaa
