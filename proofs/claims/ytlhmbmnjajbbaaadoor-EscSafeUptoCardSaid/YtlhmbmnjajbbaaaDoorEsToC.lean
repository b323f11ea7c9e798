
/-
  The walks of esc's toSms and To. Condition: a text of at most 2^24 bytes.
-/
import Derived.Test.YtlhmbmnjajbbaaaDoorEsTo
namespace Go.Proofs.YtlhmbmnjajbbaaaDoor
open Go.RowKit

set_option maxRecDepth 100000 in
set_option maxHeartbeats 2000000 in
theorem esToSms (s : ByteArray) (w : World) (hs : s.size ≤ 16777216) :
    Calls Tryd.prog 21 #[.string s] w fun e w' => e = .returned (.string (Wp.B (Es.sms false s.data.toList))) ∧ Below w.heap.size w w' := by
  have HL := Lib.hid (show s.data.toList.drop s.size = [] by rw [Wp.size_len, List.drop_length])
  have HN := Lib.hid (Es.sms_len false s.data.toList)
  have HZ := Lib.hid (Wp.size_len s)
  have HB0 := Lib.hid ((Below.refl w.heap.size w).alloc (Nat.le_refl _) (.cells #[.pointer none, .slice none 0 0] 45))
  have HNB := Lib.hid (Es.newBuilder w)
  obtain ⟨T, hT⟩ : ∃ T, T = Es.sms false s.data.toList := ⟨_, rfl⟩
  rw [← hT] at HN ⊢
  have HT := Lib.hid hT
  clear hT
  go_enter Tryd.func21, Tryd.ntmps21
  go_wp2_with fail
  go_loopw [4, 10] (fun t4 t wr => ∃ (k : Nat) (o : List UInt8) (run : Bool), k ≤ s.size ∧ t4 = .bool run ∧ t = .int .i64 k ∧ T = o ++ Es.sms run (s.data.toList.drop k) ∧ Lib.IsBuilderF 45 5 w.heap.size w.heap.size (Lib.byteCells o) wr ∧ Below w.heap.size w wr) (fun _ t _ => s.size - (intOf t).toNat)
  case atStart => exact ⟨0, [], false, Nat.zero_le _, rfl, rfl, HT.out, HNB.out, HB0.out⟩
  case round =>
    obtain ⟨k, o, run, hk, rfl, rfl, ho, hbd, hB⟩ := hrel
    have Hbd := Lib.hid hbd
    have HB := Lib.hid hB
    have hsw : w.heap.size ≤ wr.heap.size := hB.size
    clear hbd hB
    by_cases hlt : k < s.size
    · have hd := Es.drop_cons s k hlt
      rw [hd, Es.sms_step] at ho
      have hol : o.length ≤ 16777216 := by
        have h1 := HN.out
        have h2 := HZ.out
        rw [ho, List.length_append] at h1
        omega
      have HO := Lib.hid ho
      clear ho hd
      have hbk := s[k].toNat_lt
      by_cases hn : s[k].toNat = 10 ∨ s[k].toNat = 9
      · have hz := Es.smsB_nat s[k] hn
        have HO2 := Lib.hid (show T = (o ++ [UInt8.ofNat 32]) ++ Es.sms false (s.data.toList.drop (k + 1)) by rw [HO.out, hz]; exact (List.append_assoc _ _ _).symm)
        have HP := Lib.hid (Es.putByte 32 (by omega) wr Hbd.out (by omega) hsw)
        clear hz HO
        rcases (show ((s[k].toNat : Int) == 10) = true ∨ (((s[k].toNat : Int) == 10) = false ∧ ((s[k].toNat : Int) == 9) = true) from by
          rcases hn with h | h
          · exact Or.inl (by rw [h]; rfl)
          · exact Or.inr ⟨by rw [h]; rfl, by rw [h]; rfl⟩) with e1 | ⟨e1, e2⟩
        all_goals
          clear hn
          go_wp2_with fail
          refine HP.out.mono ?_
          rintro e v1 ⟨rfl, hp⟩
          have Hp := Lib.hid hp
          clear hp HP
          go_wp2_with fail
          exact ⟨⟨k + 1, o ++ [UInt8.ofNat 32], false, by omega, rfl, by go_num, HO2.out, Hp.out.bld, HB.out.trans Hp.out.below⟩, by simp [intOf]; omega⟩
      · have e1 : ((s[k].toNat : Int) == 10) = false := beq_eq_false_iff_ne.2 (by omega)
        have e2 : ((s[k].toNat : Int) == 9) = false := beq_eq_false_iff_ne.2 (by omega)
        have hz := Es.smsB_oth s[k] (by omega) (by omega)
        have hpl : Es.plainB s[k] = (decide (32 ≤ s[k].toNat) && decide (s[k].toNat ≤ 126)) := rfl
        clear hn
        by_cases h32 : 32 ≤ s[k].toNat
        · by_cases h126 : s[k].toNat ≤ 126
          · have hp : Es.plainB s[k] = true := by rw [hpl, decide_eq_true h32, decide_eq_true h126]; rfl
            have HO2 := Lib.hid (show T = (o ++ [UInt8.ofNat s[k].toNat]) ++ Es.sms false (s.data.toList.drop (k + 1)) by rw [HO.out, hz, hp, UInt8.ofNat_toNat]; exact (List.append_assoc _ _ _).symm)
            have HP := Lib.hid (Es.putByte s[k].toNat (by omega) wr Hbd.out (by omega) hsw)
            clear hz HO hpl hp
            go_wp2_with fail
            refine HP.out.mono ?_
            rintro e v1 ⟨rfl, hp⟩
            have Hp := Lib.hid hp
            clear hp HP
            go_wp2_with fail
            exact ⟨⟨k + 1, o ++ [UInt8.ofNat s[k].toNat], false, by omega, rfl, by go_num, HO2.out, Hp.out.bld, HB.out.trans Hp.out.below⟩, by simp [intOf]; omega⟩
          · have hp : Es.plainB s[k] = false := by rw [hpl, decide_eq_false h126, Bool.and_false]
            cases run with
            | true =>
              have HO2 := Lib.hid (show T = o ++ Es.sms true (s.data.toList.drop (k + 1)) by rw [HO.out, hz, hp]; rfl)
              clear hz HO hpl hp
              go_wp2_with fail
              exact ⟨⟨k + 1, o, true, by omega, by first | rfl | (rw [decide_eq_false (by omega)]; rfl), by go_num, HO2.out, Hbd.out, HB.out⟩, by simp [intOf]; omega⟩
            | false =>
              have HO2 := Lib.hid (show T = (o ++ [UInt8.ofNat 63]) ++ Es.sms true (s.data.toList.drop (k + 1)) by rw [HO.out, hz, hp]; exact (List.append_assoc _ _ _).symm)
              have HP := Lib.hid (Es.putByte 63 (by omega) wr Hbd.out (by omega) hsw)
              clear hz HO hpl hp
              go_wp2_with fail
              refine HP.out.mono ?_
              rintro e v1 ⟨rfl, hp⟩
              have Hp := Lib.hid hp
              clear hp HP
              go_wp2_with fail
              exact ⟨⟨k + 1, o ++ [UInt8.ofNat 63], true, by omega, by first | rfl | (rw [decide_eq_false (by omega)]; rfl), by go_num, HO2.out, Hp.out.bld, HB.out.trans Hp.out.below⟩, by simp [intOf]; omega⟩
        · have hp : Es.plainB s[k] = false := by rw [hpl, decide_eq_false h32, Bool.false_and]
          cases run with
          | true =>
            have HO2 := Lib.hid (show T = o ++ Es.sms true (s.data.toList.drop (k + 1)) by rw [HO.out, hz, hp]; rfl)
            clear hz HO hpl hp
            go_wp2_with fail
            exact ⟨⟨k + 1, o, true, by omega, by first | rfl | (rw [decide_eq_false (by omega)]; rfl), by go_num, HO2.out, Hbd.out, HB.out⟩, by simp [intOf]; omega⟩
          | false =>
            have HO2 := Lib.hid (show T = (o ++ [UInt8.ofNat 63]) ++ Es.sms true (s.data.toList.drop (k + 1)) by rw [HO.out, hz, hp]; exact (List.append_assoc _ _ _).symm)
            have HP := Lib.hid (Es.putByte 63 (by omega) wr Hbd.out (by omega) hsw)
            clear hz HO hpl hp
            go_wp2_with fail
            refine HP.out.mono ?_
            rintro e v1 ⟨rfl, hp⟩
            have Hp := Lib.hid hp
            clear hp HP
            go_wp2_with fail
            exact ⟨⟨k + 1, o ++ [UInt8.ofNat 63], true, by omega, by first | rfl | (rw [decide_eq_false (by omega)]; rfl), by go_num, HO2.out, Hp.out.bld, HB.out.trans Hp.out.below⟩, by simp [intOf]; omega⟩
    · obtain rfl : k = s.size := by omega
      rw [HL.out] at ho
      obtain rfl : o = T := by rw [ho]; exact (List.append_nil _).symm
      clear ho HT HN
      have HS := Lib.hid (Tryd.Builder_String_any_k w.heap.size w.heap.size o wr Hbd.out hsw)
      clear Hbd
      go_wp2_with fail
      refine HS.out.mono ?_
      rintro e w3 ⟨rfl, -, hb3, -⟩
      go_wp2_with fail
      go_ret
      exact ⟨rfl, HB.out.trans hb3⟩
set_option maxRecDepth 100000 in
theorem esTo_any (c : Nat) (s : ByteArray) (w : World) (hs : s.size ≤ 16777216) :
    Calls Tryd.prog 8 #[.int .u8 c, .string s] w fun e w' => e = .returned (.tuple #[.string (Wp.B (Es.toR c s.data.toList).1), .int .i64 (Es.toR c s.data.toList).2]) ∧ Below w.heap.size w w' := by
  by_cases h1 : c = 1
  · subst h1
    have HC := Lib.hid (fun W => esToPush s W hs)
    rw [show Es.toR 1 s.data.toList = (Es.enc false s.data.toList, 0) from rfl]
    go_enter Tryd.func8, Tryd.ntmps8
    go_wp2_with fail
    refine (HC.out _).mono ?_
    rintro e w1 ⟨rfl, hb⟩
    go_wp2_with fail
    go_ret2
    exact ⟨rfl, hb⟩
  by_cases h2 : c = 2
  · subst h2
    have HC := Lib.hid (fun W => esToMail s W hs)
    rw [show Es.toR 2 s.data.toList = (Es.enc true s.data.toList, 0) from rfl]
    go_enter Tryd.func8, Tryd.ntmps8
    go_wp2_with fail
    refine (HC.out _).mono ?_
    rintro e w1 ⟨rfl, hb⟩
    go_wp2_with fail
    go_ret2
    exact ⟨rfl, hb⟩
  by_cases h3 : c = 3
  · subst h3
    have HC := Lib.hid (fun W => esToSms s W hs)
    rw [show Es.toR 3 s.data.toList = (Es.sms false s.data.toList, 0) from rfl]
    go_enter Tryd.func8, Tryd.ntmps8
    go_wp2_with fail
    refine (HC.out _).mono ?_
    rintro e w1 ⟨rfl, hb⟩
    go_wp2_with fail
    go_ret2
    exact ⟨rfl, hb⟩
  rw [show Es.toR c s.data.toList = ([], 1) by unfold Es.toR; rw [if_neg h1, if_neg h2, if_neg h3]]
  have e1 : ((c : Int) == 1) = false := beq_eq_false_iff_ne.2 (by omega)
  have e2 : ((c : Int) == 2) = false := beq_eq_false_iff_ne.2 (by omega)
  have e3 : ((c : Int) == 3) = false := beq_eq_false_iff_ne.2 (by omega)
  go_enter Tryd.func8, Tryd.ntmps8
  go_wp2_with fail
  go_ret2
  exact ⟨rfl, Below.refl _ _⟩
end Go.Proofs.YtlhmbmnjajbbaaaDoor
