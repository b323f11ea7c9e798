
/-
  The walk of the document's own To of layer 13. Condition: a text of at most 2^24 bytes.
-/
import Derived.Test.YtlhmbmnjajbbaaaDoorEsRef
namespace Go.Proofs.YtlhmbmnjajbbaaaDoor
open Go.RowKit

def Es.toR (c : Nat) (l : List UInt8) : List UInt8 × Int := if c = 1 then (Es.enc false l, 0) else if c = 2 then (Es.enc true l, 0) else if c = 3 then (Es.sms false l, 0) else ([], 1)
theorem Es.enc_snoc (m : Bool) (s : ByteArray) (k : Nat) (h : k < s.size) : Es.enc m (s.data.toList.take (k + 1)) = Es.enc m (s.data.toList.take k) ++ Es.code m s[k] := by
  rw [Wp.take_snoc s k h, Es.enc_append]
  simp [Es.enc]
theorem Es.enc_size (m : Bool) (s : ByteArray) (k : Nat) (h : s.size ≤ 16777216) : (Wp.B (Es.enc m (s.data.toList.take k))).size ≤ 100663296 := by
  have h1 := (Es.enc_len m (s.data.toList.take k)).2
  rw [List.length_take, ← Wp.size_len] at h1
  rw [Wp.B_size]
  omega
set_option maxRecDepth 100000 in
set_option maxHeartbeats 1000000 in
theorem esRefToPush (s : ByteArray) (w : World) (hs : s.size ≤ 16777216) :
    Calls Tryd.prog 9 #[.int .u8 1, .string s] w fun e w' => e = .returned (.tuple #[.string (Wp.B (Es.enc false s.data.toList)), .int .i64 0]) ∧ Below w.heap.size w w' := by
  have HL := Lib.hid (show s.data.toList.take s.size = s.data.toList by rw [Wp.size_len, List.take_length])
  have HI := Lib.hid (show ∀ W, Calls Tryd.prog 22 #[.int .u8 1] W fun e w' => e = .returned (.bool true) ∧ w' = W from fun W => esRefIs_any 1 W)
  have HS := Lib.hid (fun k => Es.enc_size false s k hs)
  rw [← HL.out]
  go_enter Tryd.func9, Tryd.ntmps9
  go_wp2_with fail
  refine (HI.out _).mono ?_
  rintro e w0 ⟨rfl, hw0⟩
  rw [hw0]
  clear hw0 w0
  go_wp2_with fail
  go_loopw [6, 8] (fun t6 t8 wr => ∃ k : Nat, k ≤ s.size ∧ t6 = .string (Wp.B (Es.enc false (s.data.toList.take k))) ∧ t8 = .int .i64 k ∧ Below w.heap.size w wr) (fun _ t8 _ => s.size - (intOf t8).toNat)
  case atStart => exact ⟨0, Nat.zero_le _, rfl, rfl, Below.refl _ _⟩
  case round =>
    obtain ⟨k, hk, rfl, rfl, hb⟩ := hrel
    by_cases hlt : k < s.size
    · have HC := Lib.hid (fun W => esRefPush_any s[k] W)
      have HE := Lib.hid (show Wp.B (Es.enc false (s.data.toList.take k)) ++ Wp.B (Es.code false s[k]) = Wp.B (Es.enc false (s.data.toList.take (k + 1))) by rw [Wp.B_append, Wp.B_data, Es.enc_snoc _ _ _ hlt])
      have s1 : (Wp.B (Es.code false s[k])).size ≤ 6 := by rw [Wp.B_size]; exact (Es.code_len _ _).2
      have s2 := HS.out k
      have hbk := s[k].toNat_lt
      generalize Wp.B (Es.enc false (s.data.toList.take k)) = x1 at *
      generalize Wp.B (Es.code false s[k]) = x2 at *
      go_wp2_with fail
      refine (HC.out _).mono ?_
      rintro e w1 ⟨rfl, hb1⟩
      go_wp2_with fail
      refine ⟨⟨k + 1, by omega, by rw [HE.out], by go_num, hb.trans (hb1.mono hb.size)⟩, by simp [intOf]; omega⟩
    · obtain rfl : k = s.size := by omega
      go_wp2_with fail
      go_ret2
      exact ⟨rfl, hb⟩
set_option maxRecDepth 100000 in
set_option maxHeartbeats 1000000 in
theorem esRefToMail (s : ByteArray) (w : World) (hs : s.size ≤ 16777216) :
    Calls Tryd.prog 9 #[.int .u8 2, .string s] w fun e w' => e = .returned (.tuple #[.string (Wp.B (Es.enc true s.data.toList)), .int .i64 0]) ∧ Below w.heap.size w w' := by
  have HL := Lib.hid (show s.data.toList.take s.size = s.data.toList by rw [Wp.size_len, List.take_length])
  have HI := Lib.hid (show ∀ W, Calls Tryd.prog 22 #[.int .u8 2] W fun e w' => e = .returned (.bool true) ∧ w' = W from fun W => esRefIs_any 2 W)
  have HS := Lib.hid (fun k => Es.enc_size true s k hs)
  rw [← HL.out]
  go_enter Tryd.func9, Tryd.ntmps9
  go_wp2_with fail
  refine (HI.out _).mono ?_
  rintro e w0 ⟨rfl, hw0⟩
  rw [hw0]
  clear hw0 w0
  go_wp2_with fail
  go_loopw [6, 8] (fun t6 t8 wr => ∃ k : Nat, k ≤ s.size ∧ t6 = .string (Wp.B (Es.enc true (s.data.toList.take k))) ∧ t8 = .int .i64 k ∧ Below w.heap.size w wr) (fun _ t8 _ => s.size - (intOf t8).toNat)
  case atStart => exact ⟨0, Nat.zero_le _, rfl, rfl, Below.refl _ _⟩
  case round =>
    obtain ⟨k, hk, rfl, rfl, hb⟩ := hrel
    by_cases hlt : k < s.size
    · have HC := Lib.hid (fun W => esRefMail_any s[k] W)
      have HE := Lib.hid (show Wp.B (Es.enc true (s.data.toList.take k)) ++ Wp.B (Es.code true s[k]) = Wp.B (Es.enc true (s.data.toList.take (k + 1))) by rw [Wp.B_append, Wp.B_data, Es.enc_snoc _ _ _ hlt])
      have s1 : (Wp.B (Es.code true s[k])).size ≤ 6 := by rw [Wp.B_size]; exact (Es.code_len _ _).2
      have s2 := HS.out k
      have hbk := s[k].toNat_lt
      generalize Wp.B (Es.enc true (s.data.toList.take k)) = x1 at *
      generalize Wp.B (Es.code true s[k]) = x2 at *
      go_wp2_with fail
      refine (HC.out _).mono ?_
      rintro e w1 ⟨rfl, hb1⟩
      go_wp2_with fail
      refine ⟨⟨k + 1, by omega, by rw [HE.out], by go_num, hb.trans (hb1.mono hb.size)⟩, by simp [intOf]; omega⟩
    · obtain rfl : k = s.size := by omega
      go_wp2_with fail
      go_ret2
      exact ⟨rfl, hb⟩
/-- A short text, byte by byte: what is behind the first bytes, and whether a run stands open. -/
theorem Es.sms_step (run : Bool) (b : UInt8) (l : List UInt8) : Es.sms run (b :: l) = (if Es.plainB (Es.smsB b) then [Es.smsB b] else if run then [] else [63]) ++ Es.sms (!Es.plainB (Es.smsB b)) l := rfl
theorem Es.sms_len (run : Bool) (l : List UInt8) : (Es.sms run l).length ≤ l.length := by
  induction l generalizing run with
  | nil => simp [Es.sms]
  | cons b l ih =>
    rw [Es.sms_step, List.length_append, List.length_cons]
    have h := ih (!Es.plainB (Es.smsB b))
    have : (if Es.plainB (Es.smsB b) then [Es.smsB b] else if run then [] else [63] : List UInt8).length ≤ 1 := by
      split
      · simp
      · split <;> simp
    omega
theorem Es.drop_cons (s : ByteArray) (k : Nat) (h : k < s.size) : s.data.toList.drop k = s[k] :: s.data.toList.drop (k + 1) := by
  rw [← Wp.getElem_data s k h]
  exact List.drop_eq_getElem_cons (by rw [← Wp.size_len]; exact h)
theorem Es.smsB_nat (b : UInt8) (h : b.toNat = 10 ∨ b.toNat = 9) : Es.smsB b = 32 := by
  unfold Es.smsB
  rw [if_pos]
  rcases h with h | h
  · exact Or.inl (UInt8.toNat_inj.1 (by rw [h]; rfl))
  · exact Or.inr (UInt8.toNat_inj.1 (by rw [h]; rfl))
theorem Es.smsB_oth (b : UInt8) (h1 : b.toNat ≠ 10) (h2 : b.toNat ≠ 9) : Es.smsB b = b := by
  unfold Es.smsB
  rw [if_neg]
  rintro (h | h)
  · exact h1 (by rw [h]; rfl)
  · exact h2 (by rw [h]; rfl)
set_option maxRecDepth 100000 in
set_option maxHeartbeats 1000000 in
theorem esRefToSms (s : ByteArray) (w : World) (hs : s.size ≤ 16777216) :
    Calls Tryd.prog 9 #[.int .u8 3, .string s] w fun e w' => e = .returned (.tuple #[.string (Wp.B (Es.sms false s.data.toList)), .int .i64 0]) ∧ Below w.heap.size w w' := by
  have HL := Lib.hid (show s.data.toList.drop s.size = [] by rw [Wp.size_len, List.drop_length])
  have HN := Lib.hid (Es.sms_len false s.data.toList)
  have HZ := Lib.hid (Wp.size_len s)
  have HI := Lib.hid (show ∀ W, Calls Tryd.prog 22 #[.int .u8 3] W fun e w' => e = .returned (.bool true) ∧ w' = W from fun W => esRefIs_any 3 W)
  obtain ⟨T, hT⟩ : ∃ T, T = Es.sms false s.data.toList := ⟨_, rfl⟩
  rw [← hT] at HN ⊢
  have HT := Lib.hid hT
  clear hT
  go_enter Tryd.func9, Tryd.ntmps9
  go_wp2_with fail
  refine (HI.out _).mono ?_
  rintro e w0 ⟨rfl, hw0⟩
  rw [hw0]
  clear hw0 w0
  go_wp2_with fail
  go_loopw [6, 7, 8] (fun t6 t7 t8 wr => ∃ (k : Nat) (o : List UInt8) (run : Bool), k ≤ s.size ∧ t6 = .string (Wp.B o) ∧ t7 = .bool run ∧ t8 = .int .i64 k ∧ T = o ++ Es.sms run (s.data.toList.drop k) ∧ Below w.heap.size w wr) (fun _ _ t8 _ => s.size - (intOf t8).toNat)
  case atStart => exact ⟨0, [], false, Nat.zero_le _, rfl, rfl, rfl, HT.out, Below.refl _ _⟩
  case round =>
    obtain ⟨k, o, run, hk, rfl, rfl, rfl, ho, hb⟩ := hrel
    by_cases hlt : k < s.size
    · have hd := Es.drop_cons s k hlt
      rw [hd, Es.sms_step] at ho
      have hsz : (Wp.B o).size ≤ 16777216 := by
        have h1 := HN.out
        have h2 := HZ.out
        rw [ho, List.length_append] at h1
        rw [Wp.B_size]
        omega
      have HO := Lib.hid ho
      have HB := Lib.hid hb
      clear ho hd hb
      have hbk := s[k].toNat_lt
      by_cases hn : s[k].toNat = 10 ∨ s[k].toNat = 9
      · have hz := Es.smsB_nat s[k] hn
        have HC := Lib.hid (fun W => esRefPlain_any 32 W)
        have HO2 := Lib.hid (show T = (o ++ [32]) ++ Es.sms false (s.data.toList.drop (k + 1)) by rw [HO.out, hz]; exact (List.append_assoc _ _ _).symm)
        have HA := Lib.hid (show Wp.B o ++ Wp.B [32] = Wp.B (o ++ [32]) by rw [Wp.B_append, Wp.B_data])
        have hcv := fun W => Es.conv_one W 32 32 rfl
        have s1 : (Wp.B [32]).size ≤ 1 := by rw [Wp.B_size]; simp
        rw [show Es.plainB 32 = true from rfl] at HC
        clear hz HO
        generalize Wp.B o = x1 at *
        generalize Wp.B [32] = x2 at *
        have key : ∀ (h10 : ((s[k].toNat : Int) == 10) = true ∨ (((s[k].toNat : Int) == 10) = false ∧ ((s[k].toNat : Int) == 9) = true)), True := fun _ => trivial
        clear key
        rcases (show ((s[k].toNat : Int) == 10) = true ∨ (((s[k].toNat : Int) == 10) = false ∧ ((s[k].toNat : Int) == 9) = true) from by
          rcases hn with h | h
          · exact Or.inl (by rw [h]; rfl)
          · exact Or.inr ⟨by rw [h]; rfl, by rw [h]; rfl⟩) with e1 | ⟨e1, e2⟩
        all_goals
          clear hn
          go_wp2_with fail
          refine (HC.out _).mono ?_
          rintro e w1 ⟨rfl, rfl⟩
          go_wp2_with fail
          refine (HC.out _).mono ?_
          rintro e w2 ⟨rfl, rfl⟩
          go_wp2_with fail
          refine ⟨⟨k + 1, o ++ [32], false, by omega, by rw [HA.out], rfl, by go_num, HO2.out, HB.out.alloc HB.out.size _⟩, by simp [intOf]; omega⟩
      · have e1 : ((s[k].toNat : Int) == 10) = false := beq_eq_false_iff_ne.2 (by omega)
        have e2 : ((s[k].toNat : Int) == 9) = false := beq_eq_false_iff_ne.2 (by omega)
        have hz := Es.smsB_oth s[k] (by omega) (by omega)
        have HC := Lib.hid (fun W => esRefPlain_any s[k] W)
        have hcv := fun W => Es.conv_one W (s[k].toNat : Int) s[k] rfl
        have s1 : (Wp.B [s[k]]).size ≤ 1 := by rw [Wp.B_size]; simp
        have HA := Lib.hid (show Wp.B o ++ Wp.B [s[k]] = Wp.B (o ++ [s[k]]) by rw [Wp.B_append, Wp.B_data])
        have HQ := Lib.hid (show Wp.B o ++ Wp.B [63] = Wp.B (o ++ [63]) by rw [Wp.B_append, Wp.B_data])
        have s3 : (Wp.B [63]).size ≤ 1 := by rw [Wp.B_size]; simp
        clear hn
        cases hp : Es.plainB s[k] with
        | true =>
          have HO2 := Lib.hid (show T = (o ++ [s[k]]) ++ Es.sms false (s.data.toList.drop (k + 1)) by rw [HO.out, hz, hp]; exact (List.append_assoc _ _ _).symm)
          rw [hp] at HC
          clear hz hp HO HQ
          generalize Wp.B o = x1 at *
          generalize Wp.B [s[k]] = x2 at *
          go_wp2_with fail
          refine (HC.out _).mono ?_
          rintro e w1 ⟨rfl, rfl⟩
          go_wp2_with fail
          refine (HC.out _).mono ?_
          rintro e w2 ⟨rfl, rfl⟩
          go_wp2_with fail
          refine ⟨⟨k + 1, o ++ [s[k]], false, by omega, by rw [HA.out], rfl, by go_num, HO2.out, HB.out.alloc HB.out.size _⟩, by simp [intOf]; omega⟩
        | false =>
          rw [hp] at HC
          cases run with
          | true =>
            have HO2 := Lib.hid (show T = o ++ Es.sms true (s.data.toList.drop (k + 1)) by rw [HO.out, hz, hp]; rfl)
            clear hz hp HO HQ HA hcv
            go_wp2_with fail
            refine (HC.out _).mono ?_
            rintro e w1 ⟨rfl, rfl⟩
            go_wp2_with fail
            refine (HC.out _).mono ?_
            rintro e w2 ⟨rfl, rfl⟩
            go_wp2_with fail
            refine ⟨⟨k + 1, o, true, by omega, rfl, rfl, by go_num, HO2.out, HB.out⟩, by simp [intOf]; omega⟩
          | false =>
            have HO2 := Lib.hid (show T = (o ++ [63]) ++ Es.sms true (s.data.toList.drop (k + 1)) by rw [HO.out, hz, hp]; exact (List.append_assoc _ _ _).symm)
            have HQ2 := Lib.hid (show Wp.B o ++ (⟨#[63]⟩ : ByteArray) = Wp.B (o ++ [63]) from HQ.out)
            clear hz hp HO HQ HA hcv
            generalize Wp.B o = x1 at *
            go_wp2_with fail
            refine (HC.out _).mono ?_
            rintro e w1 ⟨rfl, rfl⟩
            go_wp2_with fail
            refine (HC.out _).mono ?_
            rintro e w2 ⟨rfl, rfl⟩
            go_wp2_with fail
            refine ⟨⟨k + 1, o ++ [63], true, by omega, by rw [HQ2.out], rfl, by go_num, HO2.out, HB.out⟩, by simp [intOf]; omega⟩
    · obtain rfl : k = s.size := by omega
      rw [HL.out] at ho
      obtain rfl : o = T := by rw [ho]; exact (List.append_nil _).symm
      clear ho HT HN
      go_wp2_with fail
      go_ret2
      exact ⟨rfl, hb⟩
set_option maxRecDepth 100000 in
theorem esRefTo_any (c : Nat) (s : ByteArray) (w : World) (hs : s.size ≤ 16777216) :
    Calls Tryd.prog 9 #[.int .u8 c, .string s] w fun e w' => e = .returned (.tuple #[.string (Wp.B (Es.toR c s.data.toList).1), .int .i64 (Es.toR c s.data.toList).2]) ∧ Below w.heap.size w w' := by
  by_cases h1 : c = 1
  · subst h1; exact esRefToPush s w hs
  by_cases h2 : c = 2
  · subst h2; exact esRefToMail s w hs
  by_cases h3 : c = 3
  · subst h3; exact esRefToSms s w hs
  rw [show Es.toR c s.data.toList = ([], 1) by unfold Es.toR; rw [if_neg h1, if_neg h2, if_neg h3]]
  have HI := Lib.hid (fun W => esRefIs_any c W)
  rw [decide_eq_false h1, decide_eq_false h2, decide_eq_false h3] at HI
  go_enter Tryd.func9, Tryd.ntmps9
  go_wp2_with fail
  refine (HI.out _).mono ?_
  rintro e w0 ⟨rfl, rfl⟩
  go_wp2_with fail
  go_ret2
  exact ⟨rfl, Below.refl _ _⟩
end Go.Proofs.YtlhmbmnjajbbaaaDoor
