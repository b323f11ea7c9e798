
/-
  The walk of the document's own names (bellmanref09.Named, Name). Condition: a text is of a size that a machine holds.
-/
import Derived.Test.YteajjlilpikdeaaGreatDoorVlAt
namespace Go.Proofs.YteajjlilpikdeaaGreatDoor
open Go.RowKit

theorem Vl.all_fol (s : ByteArray) (k : Nat) (h : k < s.size) (hf : Vl.fol s[k] = false) : Vl.named s = false := by
  unfold Vl.named Vl.nameL
  have : s.data.toList.all Vl.fol = false := by
    rw [List.all_eq_false]
    refine ⟨s[k], ?_, by rw [hf]; simp⟩
    have hl := Wp.size_len s
    have e : s.data.toList[k]? = some s[k] := by
      rw [Array.getElem?_toList, Array.getElem?_eq_getElem (by exact h)]
      rfl
    exact List.mem_of_getElem? e
  rw [this, Bool.and_false]
set_option maxHeartbeats 1000000 in
set_option maxRecDepth 100000 in
theorem refNamed_any (s : ByteArray) (w : World) (hb : s.size ≤ 9223372036854775807) :
    Calls Tryz.prog 122 #[.string s] w fun e w' => e = .returned (.bool (Vl.named s)) ∧ w' = w := by
  have hlen := Wp.size_len s
  have Hfol := Lib.hid (fun k (h : k < s.size) => Vl.all_fol s k h)
  have Hbad0 := Lib.hid (fun (h : 0 < s.size) (h2 : Vl.low s[0] = false) => (show Vl.named s = false by
    unfold Vl.named Vl.nameL
    rw [Vl.head_get s h, h2, Bool.and_false, Bool.false_and]))
  have Hnil := Lib.hid (fun (h : s.size = 0) => (show Vl.named s = false by
    have : s.data.toList = [] := List.length_eq_zero_iff.1 (by omega)
    unfold Vl.named Vl.nameL
    rw [this]
    rfl))
  have Hlong := Lib.hid (fun (h : 32 < s.size) => (show Vl.named s = false by
    unfold Vl.named Vl.nameL
    rw [decide_eq_false (show ¬ s.data.toList.length ≤ 32 by omega)]
    rfl))
  have Hok := Lib.hid (fun (h : s.size ≤ 32) (h1 : Vl.headLow s.data.toList = true) (h2 : s.data.toList.all Vl.fol = true) => (show Vl.named s = true by
    unfold Vl.named Vl.nameL
    rw [h1, h2, decide_eq_true (by omega)]
    rfl))
  have Hlen := Lib.hid hlen
  generalize Vl.named s = r at *
  clear hlen
  go_enter Tryz.func122, Tryz.ntmps122
  go_wp2_with fail
  go_loop [3] (fun i => ∃ k : Nat, k ≤ s.size ∧ i = .int .i64 k ∧ (s.data.toList.take k).all Vl.fol = true ∧ (0 < k → Vl.headLow s.data.toList = true)) (fun i => s.size - (intOf i).toNat)
  case atStart => exact ⟨0, Nat.zero_le _, rfl, rfl, fun h => absurd h (Nat.lt_irrefl 0)⟩
  case round =>
    obtain ⟨k, hk, rfl, hall, hhd⟩ := hrel
    by_cases hlt : k < s.size
    · have hsn := Vl.all_snoc s k hlt hall
      have Hsn := Lib.hid hsn
      have hbl := s[k].toNat_lt
      have Hhd := Lib.hid (fun (h : Vl.low s[k] = true ∨ 0 < k) => (show Vl.headLow s.data.toList = true by
        by_cases h0 : 0 < k
        · exact hhd h0
        · obtain rfl : k = 0 := by omega
          rw [Vl.head_get s hlt]
          exact h.resolve_right h0))
      have Hf := Lib.hid (show Vl.fol s[k] = ((decide (97 ≤ s[k].toNat) && decide (s[k].toNat ≤ 122)) || (decide (48 ≤ s[k].toNat) && decide (s[k].toNat ≤ 57)) || s[k] == 95) from rfl)
      have Hl := Lib.hid (Vl.low_eq s[k])
      have H0 := Lib.hid (fun (h : k = 0) (h2 : Vl.low s[k] = false) => (show r = false by subst h; exact Hbad0.out hlt h2))
      have HB := Lib.hid (Hfol.out k hlt)
      have Heq : Hid ((s[k] == 95) = decide (s[k].toNat = 95)) := Lib.hid (by
        rw [Bool.eq_iff_iff, beq_iff_eq, decide_eq_true_eq]
        exact ⟨fun h => by rw [h]; rfl, fun h => UInt8.toNat_inj.1 h⟩)
      clear hsn hall hhd Hfol Hbad0 Hnil Hlong Hok Hlen
      generalize Vl.low s[k] = lw at *
      generalize Vl.fol s[k] = fl at *
      generalize (s[k] == 95) = ninefive at *
      generalize hc : s[k].toNat = c at *
      have Hc := Lib.hid hc
      clear hc
      by_cases ha : 97 ≤ c
      · by_cases hz : c ≤ 122
        · have hfl : fl = true := by rw [Hf.out, decide_eq_true ha, decide_eq_true hz]; rfl
          have hlw : lw = true := by rw [Hl.out, decide_eq_true ha, decide_eq_true hz]; rfl
          have Hs2 := Lib.hid (Hsn.out.trans hfl)
          have Hh2 := Lib.hid (Hhd.out (Or.inl hlw))
          clear hfl hlw Hsn Hhd Hf Hl H0 HB Heq
          have hcv := Hc.out
          by_cases hk0 : k = 0
          · subst hk0
            go_wp2_with fail
            refine ⟨⟨0 + 1, by omega, by go_num, Hs2.out, fun _ => Hh2.out⟩, by simp [intOf]; omega⟩
          · have hkn : ((k : Int) == 0) = false := beq_eq_false_iff_ne.2 (by omega)
            go_wp2_with fail
            refine ⟨⟨k + 1, by omega, by go_num, Hs2.out, fun _ => Hh2.out⟩, by simp [intOf]; omega⟩
        · have hfl : fl = false := by rw [Hf.out, decide_eq_false hz, decide_eq_false (show ¬ c ≤ 57 by omega), Heq.out, decide_eq_false (show ¬ c = 95 by omega)]; simp
          obtain rfl := HB.out hfl
          have hne : ((c : Int) != 95) = true := by rw [bne_iff_ne]; omega
          have hdz : decide ((c : Int) ≤ 122) = false := decide_eq_false (by omega)
          clear hfl Hsn Hhd Hf Hl H0 HB Heq
          have hcv := Hc.out
          by_cases hk0 : k = 0
          · subst hk0
            go_wp2_with fail
            go_ret
            exact ⟨rfl, rfl⟩
          · have hkn : ((k : Int) == 0) = false := beq_eq_false_iff_ne.2 (by omega)
            go_wp2_with fail
            go_ret
            exact ⟨rfl, rfl⟩
      · have hlw : lw = false := by rw [Hl.out, decide_eq_false ha]; rfl
        by_cases hk0 : k = 0
        · obtain rfl := H0.out hk0 hlw
          subst hk0
          clear hlw Hsn Hhd Hf Hl H0 HB Heq
          have hcv := Hc.out
          go_wp2_with fail
          go_ret
          exact ⟨rfl, rfl⟩
        · have hkn : ((k : Int) == 0) = false := beq_eq_false_iff_ne.2 (by omega)
          have Hh2 := Lib.hid (Hhd.out (Or.inr (by omega)))
          by_cases h95 : c = 95
          · have hfl : fl = true := by rw [Hf.out, Heq.out, decide_eq_true h95]; simp
            have hne : ((c : Int) != 95) = false := by rw [h95]; rfl
            have Hs2 := Lib.hid (Hsn.out.trans hfl)
            clear hfl hlw Hsn Hhd Hf Hl H0 HB Heq
            have hcv := Hc.out
            go_wp2_with fail
            refine ⟨⟨k + 1, by omega, by go_num, Hs2.out, fun _ => Hh2.out⟩, by simp [intOf]; omega⟩
          · have hne : ((c : Int) != 95) = true := by rw [bne_iff_ne]; omega
            by_cases h48 : 48 ≤ c
            · by_cases h57 : c ≤ 57
              · have hfl : fl = true := by rw [Hf.out, decide_eq_true h48, decide_eq_true h57]; simp
                have Hs2 := Lib.hid (Hsn.out.trans hfl)
                clear hfl hlw Hsn Hhd Hf Hl H0 HB Heq
                have hcv := Hc.out
                go_wp2_with fail
                refine ⟨⟨k + 1, by omega, by go_num, Hs2.out, fun _ => Hh2.out⟩, by simp [intOf]; omega⟩
              · have hfl : fl = false := by rw [Hf.out, decide_eq_false ha, decide_eq_false h57, Heq.out, decide_eq_false h95]; simp
                obtain rfl := HB.out hfl
                clear hfl hlw Hsn Hhd Hf Hl H0 HB Heq Hh2
                have hcv := Hc.out
                go_wp2_with fail
                go_ret
                exact ⟨rfl, rfl⟩
            · have hfl : fl = false := by rw [Hf.out, decide_eq_false ha, decide_eq_false h48, Heq.out, decide_eq_false h95]; simp
              obtain rfl := HB.out hfl
              clear hfl hlw Hsn Hhd Hf Hl H0 HB Heq Hh2
              have hcv := Hc.out
              go_wp2_with fail
              go_ret
              exact ⟨rfl, rfl⟩
    · obtain rfl : k = s.size := by omega
      rw [show s.size = s.data.toList.length from Hlen.out, List.take_length] at hall
      by_cases h0 : s.size = 0
      · obtain rfl := Hnil.out h0
        have he : (s.toList == []) = true := by rw [Vl.empty_eq, decide_eq_true h0]
        have hn : (s.toList != []) = false := by rw [bne, he]; rfl
        clear hall hhd Hfol Hbad0 Hnil Hlong Hok h0
        go_wp2_with fail
        go_ret
        exact ⟨rfl, rfl⟩
      · have he : (s.toList == []) = false := by rw [Vl.empty_eq, decide_eq_false h0]
        have hn : (s.toList != []) = true := by rw [bne, he]; rfl
        by_cases h32 : 32 < s.size
        · obtain rfl := Hlong.out h32
          clear hall hhd Hfol Hbad0 Hnil Hlong Hok
          go_wp2_with fail
          go_ret
          refine ⟨?_, rfl⟩
          simp
          omega
        · obtain rfl := Hok.out (by omega) (hhd (by omega)) hall
          clear hall hhd Hfol Hbad0 Hnil Hlong Hok
          go_wp2_with fail
          go_ret
          refine ⟨?_, rfl⟩
          simp
          omega
end Go.Proofs.YteajjlilpikdeaaGreatDoor
