
/-
  The walks of the document's own answers for numbers and texts (bellmanref01): each hands back what Wp's plain functions say, and what was there stays. Conditions: the number fits 64 bits, a text takes at most 2^48 bytes.
-/
import Derived.Test.YtckcbdnlligndaaDoorWire
import Derived.Test.YtckcbdnlligndaaDoorPlX
namespace Go.Proofs.YtckcbdnlligndaaDoor
open Go.RowKit
set_option maxHeartbeats 400000 in
theorem size_pos (n : Int) (w : World) (h1 : 0 ≤ n) (h2 : n ≤ 9223372036854775807) :
    Calls Tryd.prog 105 #[.int .i64 n] w fun e w' => e = .returned (.int .u64 n) ∧ w = w' := by
  go_enter Tryd.func105, Tryd.ntmps105
  go_wp2
  go_ret
  exact ⟨rfl, rfl⟩
set_option maxHeartbeats 400000 in
theorem size_neg (n : Int) (w : World) (h1 : -9223372036854775808 ≤ n) (h2 : n < 0) :
    Calls Tryd.prog 105 #[.int .i64 n] w fun e w' => e = .returned (.int .u64 (-(n + 1) + 1)) ∧ w = w' := by
  go_enter Tryd.func105, Tryd.ntmps105
  go_wp2
  go_ret
  exact ⟨rfl, rfl⟩
theorem size_any (n : Int) (w : World) (h1 : -9223372036854775808 ≤ n) (h2 : n ≤ 9223372036854775807) (m : Nat) (hm : m = n.natAbs) :
    Calls Tryd.prog 105 #[.int .i64 n] w fun e w' => e = .returned (.int .u64 (m : Int)) ∧ w = w' := by
  by_cases h : n < 0
  · have := size_neg n w h1 h
    rw [show -(n + 1) + 1 = (m : Int) by omega] at this
    exact this
  · have := size_pos n w (by omega) h2
    rw [show n = (m : Int) by omega] at this ⊢
    exact this
theorem conv_one (w : World) (x : Int) (b : UInt8) (h : x = b.toNat) :
    (convert 59 9 (.slice (some ⟨w.heap.size, 0, none⟩) 1 1)).run Tryd.prog (w.alloc (.cells #[.int .u8 x] 5)) = .ok (.string (Wp.B [b])) (w.alloc (.cells #[.int .u8 x] 5)) := by
  have := bytes_conv w [b] #[.int .u8 x] 5 (fun j hj => by
    have : j = 0 := by simp at hj; omega
    subst this
    rw [h]; rfl) 1
  exact this
set_option maxHeartbeats 400000 in
theorem rnum_any (n : Int) (w : World) (h1 : -9223372036854775808 ≤ n) (h2 : n ≤ 9223372036854775807) :
    Calls Tryd.prog 69 #[.int .i64 n] w fun e w' => e = .returned (.string (Wp.B (Wp.numB n))) ∧ Below w.heap.size w w' := by
  obtain ⟨M, hM⟩ : ∃ M, M = n.natAbs := ⟨_, rfl⟩
  have hM64 : M < 18446744073709551616 := by omega
  have hsz := fun w => size_any n w h1 h2 M hM
  have hhd := Wp.head_lt n
  have HM := Lib.hid hM
  clear hM
  go_enter Tryd.func69, Tryd.ntmps69
  go_wp2_with fail
  refine (hsz _).mono ?_
  rintro e w1 ⟨rfl, rfl⟩
  go_wp2_with fail
  go_loopw [3, 4] (fun t3 t4 wr => ∃ (m : Nat) (sl : List UInt8), m ≤ M ∧ sl.length ≤ 8 ∧ Wp.be M = Wp.be m ++ sl ∧ t4 = .int .u64 m ∧ t3 = .string (Wp.B sl) ∧ Below w.heap.size w wr) (fun _ t4 _ => (intOf t4).toNat)
  case atStart => exact ⟨M, [], by omega, by simp, by simp, rfl, rfl, Below.refl _ _⟩
  case round =>
    obtain ⟨m, sl, hm, hsl, hbe, rfl, rfl, hb⟩ := hrel
    by_cases h0 : 0 < m
    · have hlen : ([UInt8.ofNat (m % 256)] ++ sl).length ≤ 8 := by
        have h8 := Wp.be_length M
        rw [hbe, Wp.be_step m h0 (by omega)] at h8
        simp only [List.length_append, List.length_singleton] at h8 ⊢
        omega
      have hbe2 : Wp.be M = Wp.be (m / 256) ++ ([UInt8.ofNat (m % 256)] ++ sl) := by
        rw [hbe, Wp.be_step m h0 (by omega), List.append_assoc]
      have hst : Wp.B [UInt8.ofNat (m % 256)] ++ Wp.B sl = Wp.B ([UInt8.ofNat (m % 256)] ++ sl) := by rw [Wp.B_append, Wp.B_data]
      have s1 : (Wp.B [UInt8.ofNat (m % 256)]).size ≤ 1 := by rw [Wp.B_size]; simp
      have hcv := fun W => conv_one W ((m : Int) % 256) (UInt8.ofNat (m % 256)) (by simp only [UInt8.toNat_ofNat']; omega)
      have Hbe := Lib.hid hbe2
      have Hst := Lib.hid hst
      have Hlen := Lib.hid hlen
      clear hbe hbe2 hst hlen
      rw [← Wp.B_size] at hsl
      go_wp2
      refine ⟨⟨m / 256, _, by omega, Hlen.out, Hbe.out, by go_num, by rw [Hst.out], hb.alloc hb.size _⟩, by simp [intOf]; omega⟩
    · obtain rfl : m = 0 := by omega
      have hsl2 : Wp.be M = sl := by rw [hbe]; rfl
      subst hsl2
      rw [HM.out] at hsl ⊢
      rw [← Wp.B_size] at hsl
      by_cases hn : n < 0
      · have hcv := fun W => conv_one W (((Wp.B (Wp.be n.natAbs)).size : Int) + 128) (UInt8.ofNat (Wp.head n)) (by
          rw [UInt8.toNat_ofNat', Wp.B_size]; unfold Wp.head at hhd ⊢; rw [if_pos hn] at hhd ⊢; omega)
        have s1 : (Wp.B [UInt8.ofNat (Wp.head n)]).size ≤ 1 := by rw [Wp.B_size]; simp
        have hst := Lib.hid (show Wp.B [UInt8.ofNat (Wp.head n)] ++ Wp.B (Wp.be n.natAbs) = Wp.B (Wp.numB n) by rw [Wp.B_append, Wp.B_data]; rfl)
        clear hbe
        go_wp2
        go_ret
        exact ⟨by rw [← hst.out]; rfl, hb.alloc hb.size _⟩
      · have hcv := fun W => conv_one W ((Wp.B (Wp.be n.natAbs)).size : Int) (UInt8.ofNat (Wp.head n)) (by
          rw [UInt8.toNat_ofNat', Wp.B_size]; unfold Wp.head at hhd ⊢; rw [if_neg hn] at hhd ⊢; omega)
        have s1 : (Wp.B [UInt8.ofNat (Wp.head n)]).size ≤ 1 := by rw [Wp.B_size]; simp
        have hst := Lib.hid (show Wp.B [UInt8.ofNat (Wp.head n)] ++ Wp.B (Wp.be n.natAbs) = Wp.B (Wp.numB n) by rw [Wp.B_append, Wp.B_data]; rfl)
        clear hbe
        go_wp2
        go_ret
        exact ⟨by rw [← hst.out]; rfl, hb.alloc hb.size _⟩

theorem add_round (s mg : ByteArray) (k j : Nat) (h8 : k ≤ 8) (hs : 1 + k ≤ s.size) (hm : mg = s.extract 1 (1 + k)) (hj : j < k) (h : j + 1 < s.size) :
    IntKind.u64.wrap (IntKind.u64.wrap (256 * (Wp.val (mg.data.toList.take j) : Int)) + IntKind.u64.wrap (s[j + 1].toNat : Int)) = ((Wp.val (mg.data.toList.take (j + 1)) : Nat) : Int) := by
  have hsz : mg.size = k := by rw [hm, ByteArray.size_extract]; omega
  have e : mg[j]'(by omega) = s[j + 1] := by
    subst hm
    rw [ByteArray.getElem_extract]
    congr 1
    omega
  have hv := Wp.val_lt (mg.data.toList.take (j + 1))
  have hp : (256 : Nat) ^ (mg.data.toList.take (j + 1)).length ≤ 256 ^ 8 := Nat.pow_le_pow_right (by omega) (by rw [List.length_take, ← Wp.size_len]; omega)
  have h8 : (256 : Nat) ^ 8 = 18446744073709551616 := by decide
  have w64 : ∀ n : Int, IntKind.u64.wrap n = n % 18446744073709551616 := fun n => by simp [IntKind.wrap, IntKind.bits, IntKind.signed]
  have hvv : Wp.val (mg.data.toList.take (j + 1)) < 18446744073709551616 := by omega
  rw [Wp.take_snoc mg j (by omega), Wp.val_snoc, e] at hvv ⊢
  rw [w64, w64, w64]
  have hb := s[j + 1].toNat_lt
  clear hv hp
  omega

set_option maxHeartbeats 1000000 in
theorem rgetNum_any (s : ByteArray) (w : World) (hl : s.size ≤ 281474976710656) :
    Calls Tryd.prog 76 #[.string s] w fun e w' => e = .returned (.tuple #[.int .i64 (Wp.gn s).1, .string (Wp.B (Wp.gn s).2.1), .int .i64 (Wp.gn s).2.2]) ∧ Below w.heap.size w w' := by
  by_cases h0 : s.size = 0
  · have h1 := isEmpty_yes s h0
    have hg := Lib.hid (Wp.gn_empty s h0)
    clear h0
    go_enter Tryd.func76, Tryd.ntmps76
    go_wp2_with fail
    go_ret3
    exact ⟨by rw [hg.out]; rfl, Below.refl _ _⟩
  have hpos : 0 < s.size := by omega
  have he := isEmpty_no s hpos
  obtain ⟨k, hk⟩ : ∃ k, s[0].toNat % 128 = k := ⟨_, rfl⟩
  obtain ⟨b, hb⟩ : ∃ b, decide (128 ≤ s[0].toNat) = b := ⟨_, rfl⟩
  obtain ⟨mg, hm⟩ : ∃ mg, mg = s.extract 1 (1 + k) := ⟨_, rfl⟩
  have hg := Wp.gn_eq s hpos k hk b hb mg hm
  have hk' : ((s[0].toNat : Int) % 128) = (k : Int) := by omega
  by_cases h8 : 8 < k
  · rw [if_pos h8] at hg
    have Hg := Lib.hid hg
    clear hg hk hb hm h0
    go_enter Tryd.func76, Tryd.ntmps76
    go_wp2_with fail
    go_ret3
    exact ⟨by rw [Hg.out]; rfl, Below.refl _ _⟩
  by_cases hs : s.size < 1 + k
  · rw [if_neg h8, if_pos hs] at hg
    have Hg := Lib.hid hg
    have hs2 : s.size ≤ k := by omega
    clear hg hk hb hm h0 hs
    go_enter Tryd.func76, Tryd.ntmps76
    go_wp2_with fail
    go_ret3
    exact ⟨by rw [Hg.out]; rfl, Below.refl _ _⟩
  rw [if_neg h8, if_neg hs] at hg
  have hsb := Wp.same_bytes b s hpos k hk hb h8 hs mg hm
  have hnn := Wp.nn_I64 b (Wp.val mg.data.toList)
  have hnk := Wp.nn_ok b mg.data.toList
  have hmg : mg.data.toList.take k = mg.data.toList := List.take_of_length_le (by rw [← Wp.size_len, hm, ByteArray.size_extract]; omega)
  have hsk : k < s.size := by omega
  have hd1 : decide ((8 : Int) < (k : Int)) = false := by simp; omega
  have hd2 : decide (s.size ≤ k) = false := by simp; omega
  have Hg := Lib.hid hg
  have Hsb := Lib.hid hsb
  have Hnn := Lib.hid hnn
  have Hnk := Lib.hid hnk
  have Hmg := Lib.hid hmg
  have Hm := Lib.hid hm
  have Hb := Lib.hid hb
  clear hg hsb hnn hnk hmg hk hb hm h0 hs
  go_enter Tryd.func76, Tryd.ntmps76
  go_wp2_with fail
  simp only [hk']
  have Hk := Lib.hid hk'
  clear hk'
  go_loop [6, 7] (fun t6 t7 => ∃ j : Nat, j ≤ k ∧ t7 = .int .i64 ((j : Int) + 1) ∧ t6 = .int .u64 (Wp.val (mg.data.toList.take j) : Nat)) (fun _ t7 => k + 1 - (intOf t7).toNat)
  case atStart => exact ⟨0, Nat.zero_le _, rfl, rfl⟩
  case round =>
    obtain ⟨j, hj, rfl, rfl⟩ := hrel
    by_cases hlt : j < k
    · have r1 := add_round s mg k j (by omega) (by omega) Hm.out hlt (by omega)
      have R1 := Lib.hid r1
      clear r1
      go_wp2_with fail
      refine ⟨⟨j + 1, by omega, by go_num, ?_⟩, by simp [intOf]; omega⟩
      rw [R1.out]
    · obtain rfl : j = k := by omega
      rw [Hmg.out]
      have hbb : decide ((128 : Int) ≤ (s[0].toNat : Int)) = b := by rw [← Hb.out]; exact decide_eq_decide.2 (by omega)
      have hcall : ∀ w, Calls Tryd.prog 69 #[.int .i64 (Wp.nnOf b (Wp.val mg.data.toList))] w fun e w' => e = .returned (.string (Wp.B (Wp.numB (Wp.nnOf b (Wp.val mg.data.toList))))) ∧ Below w.heap.size w w' := fun w => rnum_any _ w Hnn.out.1 Hnn.out.2
      have hln := Wp.numB_len (Wp.nnOf b (Wp.val mg.data.toList))
      rw [← Wp.B_size] at hln
      obtain ⟨nn, hnn⟩ : ∃ nn, nn = Wp.nnOf b (Wp.val mg.data.toList) := ⟨_, rfl⟩
      rw [← hnn] at hcall hln Hsb Hnk
      cases hok : Wp.okMag b mg.data.toList with
      | true =>
        rw [hok] at Hsb Hg
        rw [if_pos rfl, ← Hnk.out hok] at Hg
        clear Hnk Hnn hok
        rw [Wp.nnOf] at hnn
        obtain ⟨v, hv⟩ : ∃ v, v = Wp.val mg.data.toList := ⟨_, rfl⟩
        rw [← hv] at hnn ⊢
        clear hv
        cases b with
        | true =>
          rw [if_pos rfl] at hnn
          go_wp2_with fail
          simp only [← hnn]
          clear hnn
          have q1 : IntKind.i64.wrap ((j : Int) + 1) = (j : Int) + 1 := IntWalk.i64_in _ (by omega)
          have q2 : (0 : Int) ≤ (j : Int) + 1 := by omega
          have q3 : ((j : Int) + 1).toNat = j + 1 := by omega
          have q4 : (j : Int) + 1 ≤ (s.size : Int) := by omega
          go_region_with ((with_reducible refine (hcall _).mono ?_); rintro e w2 ⟨rfl, hb2⟩)
          simp only [Hsb.out]
          go_wp2_with fail
          go_quiet (fail)
          go_wp2_with fail
          go_ret3
          rw [Hg.out, Wp.B_of]
          refine ⟨?_, below_drewN ((Below.refl _ _).drew.trans hb2) _⟩
          rw [Nat.add_comm 1 j]
          rfl
        | false =>
          rw [if_neg (by simp)] at hnn
          go_wp2_with fail
          simp only [← hnn]
          clear hnn
          have q1 : IntKind.i64.wrap ((j : Int) + 1) = (j : Int) + 1 := IntWalk.i64_in _ (by omega)
          have q2 : (0 : Int) ≤ (j : Int) + 1 := by omega
          have q3 : ((j : Int) + 1).toNat = j + 1 := by omega
          have q4 : (j : Int) + 1 ≤ (s.size : Int) := by omega
          go_region_with ((with_reducible refine (hcall _).mono ?_); rintro e w2 ⟨rfl, hb2⟩)
          simp only [Hsb.out]
          go_wp2_with fail
          go_quiet (fail)
          go_wp2_with fail
          go_ret3
          rw [Hg.out, Wp.B_of]
          refine ⟨?_, below_drewN ((Below.refl _ _).drew.trans hb2) _⟩
          rw [Nat.add_comm 1 j]
          rfl
      | false =>
        rw [hok] at Hsb Hg
        rw [if_neg (by simp)] at Hg
        clear Hnk Hnn hok
        rw [Wp.nnOf] at hnn
        obtain ⟨v, hv⟩ : ∃ v, v = Wp.val mg.data.toList := ⟨_, rfl⟩
        rw [← hv] at hnn ⊢
        clear hv
        cases b with
        | true =>
          rw [if_pos rfl] at hnn
          go_wp2_with fail
          simp only [← hnn]
          clear hnn
          have q1 : IntKind.i64.wrap ((j : Int) + 1) = (j : Int) + 1 := IntWalk.i64_in _ (by omega)
          have q2 : (0 : Int) ≤ (j : Int) + 1 := by omega
          have q3 : ((j : Int) + 1).toNat = j + 1 := by omega
          have q4 : (j : Int) + 1 ≤ (s.size : Int) := by omega
          go_region_with ((with_reducible refine (hcall _).mono ?_); rintro e w2 ⟨rfl, hb2⟩)
          simp only [Hsb.out]
          go_wp2_with fail
          go_ret3
          rw [Hg.out]
          exact ⟨rfl, (Below.refl _ _).drew.trans hb2⟩
        | false =>
          rw [if_neg (by simp)] at hnn
          go_wp2_with fail
          simp only [← hnn]
          clear hnn
          have q1 : IntKind.i64.wrap ((j : Int) + 1) = (j : Int) + 1 := IntWalk.i64_in _ (by omega)
          have q2 : (0 : Int) ≤ (j : Int) + 1 := by omega
          have q3 : ((j : Int) + 1).toNat = j + 1 := by omega
          have q4 : (j : Int) + 1 ≤ (s.size : Int) := by omega
          go_region_with ((with_reducible refine (hcall _).mono ?_); rintro e w2 ⟨rfl, hb2⟩)
          simp only [Hsb.out]
          go_wp2_with fail
          go_ret3
          rw [Hg.out]
          exact ⟨rfl, (Below.refl _ _).drew.trans hb2⟩
end Go.Proofs.YtckcbdnlligndaaDoor
