
/-
  The walks of esc's toPush, toEmail, toSms and To. Condition: a text of at most 2^24 bytes.
-/
import Derived.Test.YtlhmbmnjajbbaaaDoorEsRefTo
import Derived.Test.YtlhmbmnjajbbaaaDoorEsKit
import Derived.Test.YtlhmbmnjajbbaaaDoorShelf
namespace Go.Proofs.YtlhmbmnjajbbaaaDoor
open Go.RowKit

theorem Es.enc_size2 (m : Bool) (s : ByteArray) (k : Nat) (h : s.size ≤ 16777216) : (Es.enc m (s.data.toList.take k)).length ≤ 100663296 := by
  have := Es.enc_size m s k h
  rwa [Wp.B_size] at this
set_option maxRecDepth 100000 in
theorem esNameOf_any (n : Nat) (w : World) : Calls Tryd.prog 32 #[.int .u8 (n : Int)] w fun e w' => e = .returned (.string (Wp.B (Es.nameN n))) ∧ w' = w := by
  by_cases h0 : n = 38
  · subst h0
    go_enter Tryd.func32, Tryd.ntmps32
    go_wp2_with fail
    go_ret
    exact ⟨rfl, rfl⟩
  by_cases h1 : n = 60
  · subst h1
    go_enter Tryd.func32, Tryd.ntmps32
    go_wp2_with fail
    go_ret
    exact ⟨rfl, rfl⟩
  by_cases h2 : n = 62
  · subst h2
    go_enter Tryd.func32, Tryd.ntmps32
    go_wp2_with fail
    go_ret
    exact ⟨rfl, rfl⟩
  by_cases h3 : n = 34
  · subst h3
    go_enter Tryd.func32, Tryd.ntmps32
    go_wp2_with fail
    go_ret
    exact ⟨rfl, rfl⟩
  by_cases h4 : n = 39
  · subst h4
    go_enter Tryd.func32, Tryd.ntmps32
    go_wp2_with fail
    go_ret
    exact ⟨rfl, rfl⟩
  have e : Es.nameN n = [] := by simp [Es.nameN, h0, h1, h2, h3, h4]
  have e0 : ((n : Int) == 38) = false := beq_eq_false_iff_ne.2 (by omega)
  have e1 : ((n : Int) == 60) = false := beq_eq_false_iff_ne.2 (by omega)
  have e2 : ((n : Int) == 62) = false := beq_eq_false_iff_ne.2 (by omega)
  have e3 : ((n : Int) == 34) = false := beq_eq_false_iff_ne.2 (by omega)
  have e4 : ((n : Int) == 39) = false := beq_eq_false_iff_ne.2 (by omega)
  rw [e]
  go_enter Tryd.func32, Tryd.ntmps32
  go_wp2_with fail
  go_ret
  exact ⟨rfl, rfl⟩
theorem Es.hex_nat : ∀ k, k < 16 → (⟨#[48, 49, 50, 51, 52, 53, 54, 55, 56, 57, 97, 98, 99, 100, 101, 102]⟩ : ByteArray).data.toList[k]? = some (Es.hexB k) := by decide
theorem Es.hex_get (k : Nat) (hk : k < 16) (h : k < (⟨#[48, 49, 50, 51, 52, 53, 54, 55, 56, 57, 97, 98, 99, 100, 101, 102]⟩ : ByteArray).size) : (⟨#[48, 49, 50, 51, 52, 53, 54, 55, 56, 57, 97, 98, 99, 100, 101, 102]⟩ : ByteArray)[k]'h = Es.hexB k := by
  have h1 := Es.hex_nat k hk
  rw [Array.getElem?_toList, Array.getElem?_eq_getElem (by exact h)] at h1
  exact Option.some.inj h1
set_option maxRecDepth 100000 in
set_option maxHeartbeats 2000000 in
theorem esToPush (s : ByteArray) (w : World) (hs : s.size ≤ 16777216) :
    Calls Tryd.prog 19 #[.string s] w fun e w' => e = .returned (.string (Wp.B (Es.enc false s.data.toList))) ∧ Below w.heap.size w w' := by
  have HL := Lib.hid (show s.data.toList.take s.size = s.data.toList by rw [Wp.size_len, List.take_length])
  have HB0 := Lib.hid ((Below.refl w.heap.size w).alloc (Nat.le_refl _) (.cells #[.pointer none, .slice none 0 0] 45))
  have HN := Lib.hid (Es.newBuilder w)
  have HZ := Lib.hid (fun k => Es.enc_size2 false s k hs)
  go_enter Tryd.func19, Tryd.ntmps19
  go_wp2_with fail
  go_loopw [4, 8] (fun _ t wr => ∃ k : Nat, k ≤ s.size ∧ t = .int .i64 k ∧ Lib.IsBuilderF 45 5 w.heap.size w.heap.size (Lib.byteCells (Es.enc false (s.data.toList.take k))) wr ∧ Below w.heap.size w wr) (fun _ t _ => s.size - (intOf t).toNat)
  case atStart => exact ⟨0, Nat.zero_le _, rfl, HN.out, HB0.out⟩
  case round =>
    obtain ⟨k, hk, rfl, hbd, hB⟩ := hrel
    have Hbd := Lib.hid hbd
    have HB := Lib.hid hB
    have hsw : w.heap.size ≤ wr.heap.size := hB.size
    clear hbd hB
    by_cases hlt : k < s.size
    · have HE := Lib.hid (Es.enc_snoc false s k hlt)
      have hz := HZ.out k
      have Hz := Lib.hid hz
      have hbk := s[k].toNat_lt
      generalize Es.enc false (s.data.toList.take k) = pre at *
      by_cases h10 : s[k].toNat = 10
      · have HC := Lib.hid (show Es.code false s[k] = [92, 110] by show Es.pushN _ = _; rw [h10]; rfl)
        have e1 : ((s[k].toNat : Int) == 10) = true := by rw [h10]; rfl
        clear h10
        have HP1 := Lib.hid (Es.putString (Wp.B [92, 110]) wr Hbd.out (by rw [Wp.B_size]; have := Hz.out; first | omega | (simp; omega) | (simp [Wp.B_data]; omega)) hsw)
        go_wp2_with fail
        refine HP1.out.mono ?_
        rintro e v1 ⟨rfl, hp1⟩
        have Hbd1 := Lib.hid hp1.bld
        have HB1 := Lib.hid ((HB.out).trans hp1.below)
        have hsw1 : w.heap.size ≤ v1.heap.size := Nat.le_trans hsw hp1.size
        clear hp1 HP1
        go_wp2_with fail
        refine ⟨⟨k + 1, by omega, by go_num, by rw [HE.out, HC.out]; exact Hbd1.out, HB1.out⟩, by simp [intOf]; omega⟩
      by_cases h9 : s[k].toNat = 9
      · have HC := Lib.hid (show Es.code false s[k] = [92, 116] by show Es.pushN _ = _; rw [h9]; rfl)
        have e1 : ((s[k].toNat : Int) == 10) = false := by rw [h9]; rfl
        have e2 : ((s[k].toNat : Int) == 9) = true := by rw [h9]; rfl
        clear h9 h10
        have HP1 := Lib.hid (Es.putString (Wp.B [92, 116]) wr Hbd.out (by rw [Wp.B_size]; have := Hz.out; first | omega | (simp; omega) | (simp [Wp.B_data]; omega)) hsw)
        go_wp2_with fail
        refine HP1.out.mono ?_
        rintro e v1 ⟨rfl, hp1⟩
        have Hbd1 := Lib.hid hp1.bld
        have HB1 := Lib.hid ((HB.out).trans hp1.below)
        have hsw1 : w.heap.size ≤ v1.heap.size := Nat.le_trans hsw hp1.size
        clear hp1 HP1
        go_wp2_with fail
        refine ⟨⟨k + 1, by omega, by go_num, by rw [HE.out, HC.out]; exact Hbd1.out, HB1.out⟩, by simp [intOf]; omega⟩
      have e1 : ((s[k].toNat : Int) == 10) = false := beq_eq_false_iff_ne.2 (by omega)
      have e2 : ((s[k].toNat : Int) == 9) = false := beq_eq_false_iff_ne.2 (by omega)
      by_cases hlow : s[k].toNat < 32 ∨ s[k].toNat = 127
      · have HC := Lib.hid (show Es.code false s[k] = ([92, 117, 48, 48] ++ [UInt8.ofNat (Es.hexB (s[k].toNat / 16)).toNat]) ++ [UInt8.ofNat (Es.hexB (s[k].toNat % 16)).toNat] by show Es.pushN _ = _; rw [Es.pushN, if_neg h10, if_neg h9, if_pos hlow, UInt8.ofNat_toNat, UInt8.ofNat_toNat]; rfl)
        have hx1 := Lib.hid (Es.hex_get (s[k].toNat / 16) (by omega))
        have hx2 := Lib.hid (Es.hex_get (s[k].toNat % 16) (by omega))
        have hy1 := (Es.hexB (s[k].toNat / 16)).toNat_lt
        have hy2 := (Es.hexB (s[k].toNat % 16)).toNat_lt
        clear h10 h9
        rcases hlow with hlow | hlow
        · skip
          have HP1 := Lib.hid (Es.putString (Wp.B [92, 117, 48, 48]) wr Hbd.out (by rw [Wp.B_size]; have := Hz.out; first | omega | (simp; omega) | (simp [Wp.B_data]; omega)) hsw)
          go_wp2_with fail
          refine HP1.out.mono ?_
          rintro e v1 ⟨rfl, hp1⟩
          have Hbd1 := Lib.hid hp1.bld
          have HB1 := Lib.hid ((HB.out).trans hp1.below)
          have hsw1 : w.heap.size ≤ v1.heap.size := Nat.le_trans hsw hp1.size
          clear hp1 HP1
          have HP2 := Lib.hid (Es.putByte ((Es.hexB (s[k].toNat / 16)).toNat) (by omega) v1 Hbd1.out (by have := Hz.out; first | omega | (simp; omega) | (simp [Wp.B_data]; omega)) hsw1)
          go_wp2_with fail
          rw [hx1.out]
          refine HP2.out.mono ?_
          rintro e v2 ⟨rfl, hp2⟩
          have Hbd2 := Lib.hid hp2.bld
          have HB2 := Lib.hid ((HB1.out).trans hp2.below)
          have hsw2 : w.heap.size ≤ v2.heap.size := Nat.le_trans hsw1 hp2.size
          clear hp2 HP2
          have HP3 := Lib.hid (Es.putByte ((Es.hexB (s[k].toNat % 16)).toNat) (by omega) v2 Hbd2.out (by have := Hz.out; first | omega | (simp; omega) | (simp [Wp.B_data]; omega)) hsw2)
          go_wp2_with fail
          skip
          rw [hx2.out]
          refine HP3.out.mono ?_
          rintro e v3 ⟨rfl, hp3⟩
          have Hbd3 := Lib.hid hp3.bld
          have HB3 := Lib.hid ((HB2.out).trans hp3.below)
          have hsw3 : w.heap.size ≤ v3.heap.size := Nat.le_trans hsw2 hp3.size
          clear hp3 HP3
          go_wp2_with fail
          refine ⟨⟨k + 1, by omega, by go_num, by rw [HE.out, HC.out]; have h9 := Hbd3.out; simp only [List.append_assoc] at h9; exact h9, HB3.out⟩, by simp [intOf]; omega⟩
        · have e3 : ((s[k].toNat : Int) == 127) = true := by rw [hlow]; rfl
          have h32 : ¬ s[k].toNat < 32 := by omega
          clear hlow
          have HP1 := Lib.hid (Es.putString (Wp.B [92, 117, 48, 48]) wr Hbd.out (by rw [Wp.B_size]; have := Hz.out; first | omega | (simp; omega) | (simp [Wp.B_data]; omega)) hsw)
          go_wp2_with fail
          refine HP1.out.mono ?_
          rintro e v1 ⟨rfl, hp1⟩
          have Hbd1 := Lib.hid hp1.bld
          have HB1 := Lib.hid ((HB.out).trans hp1.below)
          have hsw1 : w.heap.size ≤ v1.heap.size := Nat.le_trans hsw hp1.size
          clear hp1 HP1
          have HP2 := Lib.hid (Es.putByte ((Es.hexB (s[k].toNat / 16)).toNat) (by omega) v1 Hbd1.out (by have := Hz.out; first | omega | (simp; omega) | (simp [Wp.B_data]; omega)) hsw1)
          go_wp2_with fail
          rw [hx1.out]
          refine HP2.out.mono ?_
          rintro e v2 ⟨rfl, hp2⟩
          have Hbd2 := Lib.hid hp2.bld
          have HB2 := Lib.hid ((HB1.out).trans hp2.below)
          have hsw2 : w.heap.size ≤ v2.heap.size := Nat.le_trans hsw1 hp2.size
          clear hp2 HP2
          have HP3 := Lib.hid (Es.putByte ((Es.hexB (s[k].toNat % 16)).toNat) (by omega) v2 Hbd2.out (by have := Hz.out; first | omega | (simp; omega) | (simp [Wp.B_data]; omega)) hsw2)
          go_wp2_with fail
          skip
          rw [hx2.out]
          refine HP3.out.mono ?_
          rintro e v3 ⟨rfl, hp3⟩
          have Hbd3 := Lib.hid hp3.bld
          have HB3 := Lib.hid ((HB2.out).trans hp3.below)
          have hsw3 : w.heap.size ≤ v3.heap.size := Nat.le_trans hsw2 hp3.size
          clear hp3 HP3
          go_wp2_with fail
          refine ⟨⟨k + 1, by omega, by go_num, by rw [HE.out, HC.out]; have h9 := Hbd3.out; simp only [List.append_assoc] at h9; exact h9, HB3.out⟩, by simp [intOf]; omega⟩
      have h32 : ¬ s[k].toNat < 32 := by omega
      have e3 : ((s[k].toNat : Int) == 127) = false := beq_eq_false_iff_ne.2 (by omega)
      by_cases hq : s[k].toNat = 34 ∨ s[k].toNat = 92
      · have HC := Lib.hid (show Es.code false s[k] = [UInt8.ofNat 92] ++ [UInt8.ofNat s[k].toNat] by show Es.pushN _ = _; rw [Es.pushN, if_neg h10, if_neg h9, if_neg hlow, if_pos hq]; rfl)
        clear h10 h9 hlow
        rcases hq with hq | hq
        · have e4 : ((s[k].toNat : Int) == 34) = true := by rw [hq]; rfl
          clear hq
          have HP1 := Lib.hid (Es.putByte (92) (by omega) wr Hbd.out (by have := Hz.out; first | omega | (simp; omega) | (simp [Wp.B_data]; omega)) hsw)
          go_wp2_with fail
          refine HP1.out.mono ?_
          rintro e v1 ⟨rfl, hp1⟩
          have Hbd1 := Lib.hid hp1.bld
          have HB1 := Lib.hid ((HB.out).trans hp1.below)
          have hsw1 : w.heap.size ≤ v1.heap.size := Nat.le_trans hsw hp1.size
          clear hp1 HP1
          have HP2 := Lib.hid (Es.putByte (s[k].toNat) (by omega) v1 Hbd1.out (by have := Hz.out; first | omega | (simp; omega) | (simp [Wp.B_data]; omega)) hsw1)
          go_wp2_with fail
          refine HP2.out.mono ?_
          rintro e v2 ⟨rfl, hp2⟩
          have Hbd2 := Lib.hid hp2.bld
          have HB2 := Lib.hid ((HB1.out).trans hp2.below)
          have hsw2 : w.heap.size ≤ v2.heap.size := Nat.le_trans hsw1 hp2.size
          clear hp2 HP2
          go_wp2_with fail
          refine ⟨⟨k + 1, by omega, by go_num, by rw [HE.out, HC.out]; have h9 := Hbd2.out; simp only [List.append_assoc] at h9; exact h9, HB2.out⟩, by simp [intOf]; omega⟩
        · have e4 : ((s[k].toNat : Int) == 34) = false := by rw [hq]; rfl
          have e5 : ((s[k].toNat : Int) == 92) = true := by rw [hq]; rfl
          clear hq
          have HP1 := Lib.hid (Es.putByte (92) (by omega) wr Hbd.out (by have := Hz.out; first | omega | (simp; omega) | (simp [Wp.B_data]; omega)) hsw)
          go_wp2_with fail
          refine HP1.out.mono ?_
          rintro e v1 ⟨rfl, hp1⟩
          have Hbd1 := Lib.hid hp1.bld
          have HB1 := Lib.hid ((HB.out).trans hp1.below)
          have hsw1 : w.heap.size ≤ v1.heap.size := Nat.le_trans hsw hp1.size
          clear hp1 HP1
          have HP2 := Lib.hid (Es.putByte (s[k].toNat) (by omega) v1 Hbd1.out (by have := Hz.out; first | omega | (simp; omega) | (simp [Wp.B_data]; omega)) hsw1)
          go_wp2_with fail
          refine HP2.out.mono ?_
          rintro e v2 ⟨rfl, hp2⟩
          have Hbd2 := Lib.hid hp2.bld
          have HB2 := Lib.hid ((HB1.out).trans hp2.below)
          have hsw2 : w.heap.size ≤ v2.heap.size := Nat.le_trans hsw1 hp2.size
          clear hp2 HP2
          go_wp2_with fail
          refine ⟨⟨k + 1, by omega, by go_num, by rw [HE.out, HC.out]; have h9 := Hbd2.out; simp only [List.append_assoc] at h9; exact h9, HB2.out⟩, by simp [intOf]; omega⟩
      have HC := Lib.hid (show Es.code false s[k] = [UInt8.ofNat s[k].toNat] by show Es.pushN _ = _; rw [Es.pushN, if_neg h10, if_neg h9, if_neg hlow, if_neg hq])
      have e4 : ((s[k].toNat : Int) == 34) = false := beq_eq_false_iff_ne.2 (by omega)
      have e5 : ((s[k].toNat : Int) == 92) = false := beq_eq_false_iff_ne.2 (by omega)
      clear h10 h9 hlow hq
      have HP1 := Lib.hid (Es.putByte (s[k].toNat) (by omega) wr Hbd.out (by have := Hz.out; first | omega | (simp; omega) | (simp [Wp.B_data]; omega)) hsw)
      go_wp2_with fail
      refine HP1.out.mono ?_
      rintro e v1 ⟨rfl, hp1⟩
      have Hbd1 := Lib.hid hp1.bld
      have HB1 := Lib.hid ((HB.out).trans hp1.below)
      have hsw1 : w.heap.size ≤ v1.heap.size := Nat.le_trans hsw hp1.size
      clear hp1 HP1
      go_wp2_with fail
      refine ⟨⟨k + 1, by omega, by go_num, by rw [HE.out, HC.out]; exact Hbd1.out, HB1.out⟩, by simp [intOf]; omega⟩
    · obtain rfl : k = s.size := by omega
      rw [HL.out] at Hbd
      have HS := Lib.hid (Tryd.Builder_String_any_k w.heap.size w.heap.size (Es.enc false s.data.toList) wr Hbd.out hsw)
      clear Hbd
      go_wp2_with fail
      refine HS.out.mono ?_
      rintro e w3 ⟨rfl, -, hb3, -⟩
      go_wp2_with fail
      go_ret
      exact ⟨rfl, HB.out.trans hb3⟩
theorem Es.name_len (n : Nat) : (Es.nameN n).length ≤ 6 := by
  unfold Es.nameN
  repeat' split
  all_goals simp
set_option maxRecDepth 100000 in
set_option maxHeartbeats 2000000 in
theorem esToMail (s : ByteArray) (w : World) (hs : s.size ≤ 16777216) :
    Calls Tryd.prog 20 #[.string s] w fun e w' => e = .returned (.string (Wp.B (Es.enc true s.data.toList))) ∧ Below w.heap.size w w' := by
  have HL := Lib.hid (show s.data.toList.take s.size = s.data.toList by rw [Wp.size_len, List.take_length])
  have HB0 := Lib.hid ((Below.refl w.heap.size w).alloc (Nat.le_refl _) (.cells #[.pointer none, .slice none 0 0] 45))
  have HN := Lib.hid (Es.newBuilder w)
  have HZ := Lib.hid (fun k => Es.enc_size2 true s k hs)
  go_enter Tryd.func20, Tryd.ntmps20
  go_wp2_with fail
  go_loopw [4, 8] (fun _ t wr => ∃ k : Nat, k ≤ s.size ∧ t = .int .i64 k ∧ Lib.IsBuilderF 45 5 w.heap.size w.heap.size (Lib.byteCells (Es.enc true (s.data.toList.take k))) wr ∧ Below w.heap.size w wr) (fun _ t _ => s.size - (intOf t).toNat)
  case atStart => exact ⟨0, Nat.zero_le _, rfl, HN.out, HB0.out⟩
  case round =>
    obtain ⟨k, hk, rfl, hbd, hB⟩ := hrel
    have Hbd := Lib.hid hbd
    have HB := Lib.hid hB
    have hsw : w.heap.size ≤ wr.heap.size := hB.size
    clear hbd hB
    by_cases hlt : k < s.size
    · have HE := Lib.hid (Es.enc_snoc true s k hlt)
      have hz := HZ.out k
      have Hz := Lib.hid hz
      have hbk := s[k].toNat_lt
      generalize Es.enc true (s.data.toList.take k) = pre at *
      have HC0 := Lib.hid (fun W => esNameOf_any s[k].toNat W)
      by_cases hn : Es.nameN s[k].toNat = []
      · have HC := Lib.hid (show Es.code true s[k] = [UInt8.ofNat s[k].toNat] by show Es.mailN _ = _; rw [Es.mailN, if_pos hn])
        have q1 : ((Wp.B (Es.nameN s[k].toNat)).toList == []) = true := by rw [hn, Lib.toList_data]; rfl
        have q2 : ((Wp.B (Es.nameN s[k].toNat)).toList != []) = false := by rw [hn, Lib.toList_data]; rfl
        clear hn
        generalize Wp.B (Es.nameN s[k].toNat) = nm at *
        go_wp2_with fail
        refine (HC0.out _).mono ?_
        rintro e w1 ⟨rfl, hw1⟩
        rw [hw1]
        clear hw1 w1 HC0
        have HP1 := Lib.hid (Es.putByte (s[k].toNat) (by omega) wr Hbd.out (by have := Hz.out; first | omega | (simp; omega) | (simp [Wp.B_data]; omega)) hsw)
        go_wp2_with fail
        refine HP1.out.mono ?_
        rintro e v1 ⟨rfl, hp1⟩
        have Hbd1 := Lib.hid hp1.bld
        have HB1 := Lib.hid ((HB.out).trans hp1.below)
        have hsw1 : w.heap.size ≤ v1.heap.size := Nat.le_trans hsw hp1.size
        clear hp1 HP1
        go_wp2_with fail
        refine ⟨⟨k + 1, by omega, by go_num, by rw [HE.out, HC.out]; exact Hbd1.out, HB1.out⟩, by simp [intOf]; omega⟩
      · have HC := Lib.hid (show Es.code true s[k] = Es.nameN s[k].toNat by show Es.mailN _ = _; rw [Es.mailN, if_neg hn])
        have q1 : ((Wp.B (Es.nameN s[k].toNat)).toList == []) = false := by rw [beq_eq_false_iff_ne, Lib.toList_data]; exact hn
        have q2 : ((Wp.B (Es.nameN s[k].toNat)).toList != []) = true := by rw [bne_iff_ne, Lib.toList_data]; exact hn
        have hnl := Es.name_len s[k].toNat
        clear hn
        generalize Es.nameN s[k].toNat = nm at *
        go_wp2_with fail
        refine (HC0.out _).mono ?_
        rintro e w1 ⟨rfl, hw1⟩
        rw [hw1]
        clear hw1 w1 HC0
        have HP1 := Lib.hid (Es.putString (Wp.B nm) wr Hbd.out (by rw [Wp.B_size]; have := Hz.out; first | omega | (simp; omega) | (simp [Wp.B_data]; omega)) hsw)
        go_wp2_with fail
        refine HP1.out.mono ?_
        rintro e v1 ⟨rfl, hp1⟩
        have Hbd1 := Lib.hid hp1.bld
        have HB1 := Lib.hid ((HB.out).trans hp1.below)
        have hsw1 : w.heap.size ≤ v1.heap.size := Nat.le_trans hsw hp1.size
        clear hp1 HP1
        go_wp2_with fail
        refine ⟨⟨k + 1, by omega, by go_num, by rw [HE.out, HC.out]; exact Hbd1.out, HB1.out⟩, by simp [intOf]; omega⟩
    · obtain rfl : k = s.size := by omega
      rw [HL.out] at Hbd
      have HS := Lib.hid (Tryd.Builder_String_any_k w.heap.size w.heap.size (Es.enc true s.data.toList) wr Hbd.out hsw)
      clear Hbd
      go_wp2_with fail
      refine HS.out.mono ?_
      rintro e w3 ⟨rfl, -, hb3, -⟩
      go_wp2_with fail
      go_ret
      exact ⟨rfl, HB.out.trans hb3⟩
end Go.Proofs.YtlhmbmnjajbbaaaDoor
