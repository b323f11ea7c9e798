
/-
  The walks of wire's functions on one number and one text: each hands back what Wp's plain functions say, and what was there stays. Conditions: a text takes at most 2^48 bytes.
-/
import Derived.Test.YtckcbdnlligndaaDoorWireNum
import Derived.Deep.QuietTactic
import Derived.BigQuiet
import Derived.Laws.BitsAllLaws
import Derived.Lib.Strings
import Derived.Deep.RegionWith
import Derived.IntWalk
namespace Go.Proofs.YtckcbdnlligndaaDoor
open Go.RowKit

theorem below_drewN {B : Nat} {a w : World} (h : Below B a w) (q : Nat) : Below B a (w.drewN q) := by
  refine h.trans ?_
  induction q with
  | zero => exact Below.refl _ _
  | succ q ih => exact ih.drew
theorem below_then {a b c : World} {B : Nat} (h1 : Below B a b) (h2 : Below b.heap.size b c) (hB : B ≤ b.heap.size) : Below B a c := h1.trans (h2.mono hB)
theorem isEmpty_yes (s : ByteArray) (h : s.size = 0) : s.toList.isEmpty = true := by
  rw [Lib.toList_data]
  have hd : s.data.toList = [] := by rw [← List.length_eq_zero_iff, ← Wp.size_len]; exact h
  rw [hd]; rfl
theorem isEmpty_no (s : ByteArray) (h : 0 < s.size) : s.toList.isEmpty = false := by
  rw [Lib.toList_data, Wp.cons_of s h]; rfl
theorem or_round (s : ByteArray) (k : Nat) (hk : k < s.size) (h8 : s.size ≤ 8) :
    bits BinOp.or IntKind.u64 (IntKind.u64.wrap ((Wp.val (s.data.toList.take k) : Int) * 256)) (IntKind.u64.wrap (s[k].toNat : Int)) = ((Wp.val (s.data.toList.take (k + 1)) : Nat) : Int) := by
  have hv := Wp.val_lt (s.data.toList.take k)
  have hp : (256 : Nat) ^ (s.data.toList.take k).length ≤ 256 ^ 7 := Nat.pow_le_pow_right (by omega) (by rw [List.length_take]; omega)
  have h7 : (256 : Nat) ^ 7 = 72057594037927936 := by decide
  have hb := s[k].toNat_lt
  have w64 : ∀ n : Int, IntKind.u64.wrap n = n % 18446744073709551616 := fun n => by simp [IntKind.wrap, IntKind.bits, IntKind.signed]
  rw [w64, w64, Wp.take_snoc s k hk, Wp.val_snoc]
  generalize Wp.val (s.data.toList.take k) = v at *
  generalize s[k].toNat = b at *
  rw [show ((v : Int) * 256) % 18446744073709551616 = ((256 * v : Nat) : Int) by omega, show ((b : Int)) % 18446744073709551616 = (b : Int) by omega]
  rw [u64_or_nat _ _ (by omega) (by omega), nat_join 8 _ _ (by omega) (by omega)]

set_option maxHeartbeats 400000 in
theorem number_any (below : Bool) (mg : ByteArray) (w : World) (hl : mg.size ≤ 8) :
    Calls Tryd.prog 132 #[.bool below, .string mg] w fun e w' => e = .returned (.tuple #[.int .i64 (Wp.numOf below mg.data.toList), .bool (Wp.okMag below mg.data.toList)]) ∧ w = w' := by
  by_cases h0 : mg.size = 0
  · have hd : mg.data.toList = [] := by rw [← List.length_eq_zero_iff, ← Wp.size_len]; exact h0
    have h1 := isEmpty_yes mg h0
    rw [hd]
    go_enter Tryd.func132, Tryd.ntmps132
    go_wp2
    go_ret2
    exact ⟨rfl, rfl⟩
  · have hpos : 0 < mg.size := by omega
    have he := isEmpty_no mg hpos
    by_cases hz : mg[0] = 0
    · have hz' : ((mg[0].toNat : Int) == 0) = true := by rw [hz]; rfl
      have e1 := Lib.hid (Wp.okMag_zero below mg hpos hz)
      have e2 := Lib.hid (Wp.numOf_zero below mg hpos hz)
      clear hz
      go_enter Tryd.func132, Tryd.ntmps132
      go_wp2
      go_ret2
      exact ⟨by rw [e1.out, e2.out]; rfl, rfl⟩
    · have hz' : ((mg[0].toNat : Int) == 0) = false := by
        rw [beq_eq_false_iff_ne]
        intro c
        exact hz (UInt8.toNat_inj.1 (by simpa using c))
      have e1 := Lib.hid (Wp.okMag_cons below mg hpos hz)
      have e2 := Lib.hid (Wp.numOf_cons below mg hpos hz)
      clear hz
      go_enter Tryd.func132, Tryd.ntmps132
      go_wp2
      go_loop [6, 7, 17] (fun m _ i => ∃ k : Nat, k ≤ mg.size ∧ i = .int .i64 k ∧ m = .int .u64 (Wp.val (mg.data.toList.take k) : Nat)) (fun _ _ i => mg.size - (intOf i).toNat)
      case atStart => exact ⟨0, Nat.zero_le _, rfl, rfl⟩
      case round =>
        obtain ⟨k, hk, rfl, rfl⟩ := hrel
        by_cases hlt : k < mg.size
        · have hor := Lib.hid (or_round mg k hlt hl)
          go_wp2
          refine ⟨⟨k + 1, by omega, by go_num, by rw [hor.out]⟩, by simp [intOf]; omega⟩
        · obtain rfl : k = mg.size := by omega
          rw [show mg.data.toList.take mg.size = mg.data.toList from List.take_of_length_le (by rw [← Wp.size_len]; omega)]
          obtain ⟨v, hv⟩ : ∃ v, v = Wp.val mg.data.toList := ⟨_, rfl⟩
          rw [← hv] at e1 e2 ⊢
          clear hv
          cases below
          · go_wp2
            go_ret2
            exact ⟨by rw [e1.out, e2.out]; simp; exact ⟨(IntWalk.i64_left _).symm, by omega⟩, rfl⟩
          · go_wp2
            go_ret2
            exact ⟨by rw [e1.out, e2.out]; simp; exact ⟨(IntWalk.i64_left _).symm, by omega⟩, rfl⟩

set_option maxHeartbeats 400000 in
theorem cutNum_any (s : ByteArray) (w : World) (hl : s.size ≤ 281474976710656) :
    Calls Tryd.prog 98 #[.string s] w fun e w' => e = .returned (.tuple #[.int .i64 (Wp.gn s).1, .string (Wp.B (Wp.gn s).2.1), .int .i64 (Wp.gn s).2.2]) ∧ Below w.heap.size w w' := by
  by_cases h0 : s.size = 0
  · have h1 := isEmpty_yes s h0
    have hg := Lib.hid (Wp.gn_empty s h0)
    clear h0
    go_enter Tryd.func98, Tryd.ntmps98
    go_wp2_with fail
    go_ret3
    exact ⟨by rw [hg.out]; rfl, Below.refl _ _⟩
  have hpos : 0 < s.size := by omega
  have he := isEmpty_no s hpos
  obtain ⟨k, hk⟩ : ∃ k, s[0].toNat % 128 = k := ⟨_, rfl⟩
  obtain ⟨b, hb⟩ : ∃ b, decide (128 ≤ s[0].toNat) = b := ⟨_, rfl⟩
  obtain ⟨mg, hm⟩ : ∃ mg, mg = s.extract 1 (1 + k) := ⟨_, rfl⟩
  have hg := Wp.gn_eq s hpos k hk b hb mg hm
  have hk' : ((s[0].toNat : Int) % 128) = (k : Int) := by omega
  have hb' : decide ((128 : Int) ≤ (s[0].toNat : Int)) = b := by rw [← hb]; exact decide_eq_decide.2 (by omega)
  have Hk := Lib.hid hk'
  have Hb := Lib.hid hb'
  have Hm := Lib.hid hm
  clear hk hb hk' hb' hm h0
  by_cases h8 : 8 < k
  · rw [if_pos h8] at hg
    have Hg := Lib.hid hg
    clear hg
    go_enter Tryd.func98, Tryd.ntmps98
    go_wp2_with fail
    go_quiet (fail)
    simp only [Hk.out, Hb.out]
    go_wp2_with fail
    go_ret3
    exact ⟨by rw [Hg.out]; rfl, below_drewN (Below.refl _ _) _⟩
  rw [if_neg h8] at hg
  by_cases hs : s.size < 1 + k
  · rw [if_pos hs] at hg
    have Hg := Lib.hid hg
    clear hg
    go_enter Tryd.func98, Tryd.ntmps98
    go_wp2_with fail
    go_quiet (fail)
    simp only [Hk.out, Hb.out]
    go_wp2_with fail
    go_ret3
    exact ⟨by rw [Hg.out]; rfl, below_drewN (Below.refl _ _) _⟩
  rw [if_neg hs] at hg
  have hsz : mg.size ≤ 8 := by rw [Hm.out, ByteArray.size_extract]; omega
  have hs2 : 1 + k ≤ s.size := by omega
  cases hok : Wp.okMag b mg.data.toList with
  | false =>
    rw [hok, if_neg (by simp)] at hg
    have Hg := Lib.hid hg
    clear hg
    go_enter Tryd.func98, Tryd.ntmps98
    go_wp2_with fail
    go_quiet (fail)
    simp only [Hk.out, Hb.out]
    go_wp2_with fail
    rw [← Hm.out]
    refine (number_any _ _ _ hsz).mono ?_
    rintro e w' ⟨rfl, rfl⟩
    go_wp2_with fail
    go_ret3
    exact ⟨by rw [Hg.out]; rfl, below_drewN (Below.refl _ _) _⟩
  | true =>
    rw [hok, if_pos rfl, ← Wp.numOf_ok b _ hok] at hg
    have Hg := Lib.hid hg
    clear hg
    go_enter Tryd.func98, Tryd.ntmps98
    go_wp2_with fail
    go_quiet (fail)
    simp only [Hk.out, Hb.out]
    go_wp2_with fail
    rw [← Hm.out]
    refine (number_any _ _ _ hsz).mono ?_
    rintro e w' ⟨rfl, rfl⟩
    go_wp2_with fail
    go_quiet (fail)
    go_wp2_with fail
    go_ret3
    exact ⟨by rw [Hg.out, Wp.B_of]; rfl, below_drewN (below_drewN (Below.refl _ _) _) _⟩

theorem clone_any (s : ByteArray) (w : World) (hl : s.size ≤ 281474976710656) :
    Calls Tryd.prog 37 #[.string s] w fun e w' => e = .returned (.string s) ∧ Below w.heap.size w w' := by
  go_enter Tryd.func37, Tryd.ntmps37
  go_wp2_with fail
  refine (Tryd.stringslite_Clone s _ hl).mono ?_
  rintro e w1 ⟨rfl, hb⟩
  go_wp2_with fail
  go_ret
  exact ⟨rfl, hb⟩

set_option maxHeartbeats 400000 in
theorem getNum_any (s : ByteArray) (w : World) (hl : s.size ≤ 281474976710656) :
    Calls Tryd.prog 60 #[.string s] w fun e w' => e = .returned (.tuple #[.int .i64 (Wp.gn s).1, .string (Wp.B (Wp.gn s).2.1), .int .i64 (Wp.gn s).2.2]) ∧ Below w.heap.size w w' := by
  have hc := fun w => cutNum_any s w hl
  obtain ⟨⟨n, r, er⟩, hg⟩ : ∃ g, Wp.gn s = g := ⟨_, rfl⟩
  have hr := Wp.gn_rest s _ _ _ hg
  rw [hg] at hc ⊢
  simp only [] at hc ⊢
  clear hg
  go_enter Tryd.func60, Tryd.ntmps60
  go_wp2_with fail
  refine (hc _).mono ?_
  rintro e w1 ⟨rfl, hb⟩
  go_wp2_with fail
  refine (clone_any _ _ (by rw [Wp.B_size]; omega)).mono ?_
  rintro e w2 ⟨rfl, hb2⟩
  go_wp2_with fail
  go_ret3
  exact ⟨rfl, hb.trans (hb2.mono hb.size)⟩

set_option maxHeartbeats 400000 in
theorem text_any (s : ByteArray) (w : World) (hl : s.size ≤ 281474976710656) :
    Calls Tryd.prog 103 #[.string s] w fun e w' => e = .returned (if 4096 < s.size then .tuple #[.string ⟨#[]⟩, .int .i64 12] else .tuple #[.string (Wp.B (Wp.textB s.data.toList)), .int .i64 0]) ∧ Below w.heap.size w w' := by
  by_cases h : 4096 < s.size
  · rw [if_pos h]
    go_enter Tryd.func103, Tryd.ntmps103
    go_wp2_with fail
    go_ret2
    exact ⟨rfl, Below.refl _ _⟩
  · rw [if_neg h]
    have hB := Wp.numB_len s.size
    rw [← Wp.B_size] at hB
    have hT := Lib.hid (show Wp.B (Wp.numB s.size) ++ s = Wp.B (Wp.textB s.data.toList) by rw [Wp.B_append, Wp.textB, ← Wp.size_len])
    go_enter Tryd.func103, Tryd.ntmps103
    go_wp2_with fail
    refine (num_any _ _ (by omega) (by omega)).mono ?_
    rintro e w1 ⟨rfl, hb⟩
    go_wp2_with fail
    go_ret2
    exact ⟨by rw [← hT.out]; rfl, hb⟩

set_option maxHeartbeats 400000 in
theorem cutLength_any (s : ByteArray) (most : Int) (w : World) (hl : s.size ≤ 281474976710656) (_hm : most ≤ 4096) :
    Calls Tryd.prog 152 #[.string s, .int .i64 most] w fun e w' => e = .returned (.tuple #[.int .i64 (Wp.gl s most).1, .string (Wp.B (Wp.gl s most).2.1), .int .i64 (Wp.gl s most).2.2]) ∧ Below w.heap.size w w' := by
  have hc := fun w => cutNum_any s w hl
  obtain ⟨⟨n, r, er⟩, hg⟩ : ∃ g, Wp.gn s = g := ⟨_, rfl⟩
  rw [hg] at hc
  have hgl := Wp.gl_eq s most _ _ _ hg
  simp only [] at hc
  clear hg
  by_cases he : er = 0
  · subst he
    rw [if_neg (by simp)] at hgl
    by_cases hn : n < 0
    · rw [if_pos hn] at hgl
      have Hgl := Lib.hid hgl
      clear hgl
      go_enter Tryd.func152, Tryd.ntmps152
      go_wp2_with fail
      refine (hc _).mono ?_
      rintro e w1 ⟨rfl, hb⟩
      go_wp2_with fail
      go_ret3
      exact ⟨by rw [Hgl.out]; rfl, hb⟩
    · rw [if_neg hn] at hgl
      by_cases hn2 : most < n
      · rw [if_pos hn2] at hgl
        have Hgl := Lib.hid hgl
        clear hgl
        go_enter Tryd.func152, Tryd.ntmps152
        go_wp2_with fail
        refine (hc _).mono ?_
        rintro e w1 ⟨rfl, hb⟩
        go_wp2_with fail
        go_ret3
        exact ⟨by rw [Hgl.out]; rfl, hb⟩
      · rw [if_neg hn2] at hgl
        have Hgl := Lib.hid hgl
        clear hgl
        go_enter Tryd.func152, Tryd.ntmps152
        go_wp2_with fail
        refine (hc _).mono ?_
        rintro e w1 ⟨rfl, hb⟩
        go_wp2_with fail
        go_ret3
        exact ⟨by rw [Hgl.out]; rfl, hb⟩
  · have hb1 : (er != 0) = true := by rw [bne_iff_ne]; exact he
    rw [if_pos he] at hgl
    have Hgl := Lib.hid hgl
    clear hgl he
    go_enter Tryd.func152, Tryd.ntmps152
    go_wp2_with fail
    refine (hc _).mono ?_
    rintro e w1 ⟨rfl, hb⟩
    go_wp2_with fail
    go_ret3
    exact ⟨by rw [Hgl.out]; rfl, hb⟩

set_option maxHeartbeats 400000 in
theorem cutText_any (s : ByteArray) (w : World) (hl : s.size ≤ 281474976710656) :
    Calls Tryd.prog 135 #[.string s] w fun e w' => e = .returned (.tuple #[.string (Wp.B (Wp.gt s).1), .string (Wp.B (Wp.gt s).2.1), .int .i64 (Wp.gt s).2.2]) ∧ Below w.heap.size w w' := by
  have hc := fun w => cutLength_any s 4096 w hl (by omega)
  obtain ⟨⟨n, r, er⟩, hg⟩ : ∃ g, Wp.gl s 4096 = g := ⟨_, rfl⟩
  rw [hg] at hc
  have hgt := Wp.gt_eq s _ _ _ hg
  have hbd := fun (h : er = 0) => Wp.gl_bounds s 4096 n r (by rw [hg, h])
  simp only [] at hc
  clear hg
  by_cases he : er = 0
  · obtain ⟨hn0, hn1, hr⟩ := hbd he
    subst he
    clear hbd
    obtain ⟨m, rfl⟩ := Int.eq_ofNat_of_zero_le hn0
    rw [if_neg (by simp), Int.toNat_natCast] at hgt
    rw [← Wp.B_size] at hr
    by_cases hn : (r.length : Int) < (m : Int)
    · rw [if_pos hn] at hgt
      rw [← Wp.B_size] at hn
      have Hgt := Lib.hid hgt
      clear hgt
      go_enter Tryd.func135, Tryd.ntmps135
      go_wp2_with fail
      refine (hc _).mono ?_
      rintro e w1 ⟨rfl, hb⟩
      go_wp2_with fail
      go_ret3
      exact ⟨by rw [Hgt.out]; rfl, hb⟩
    · rw [if_neg hn] at hgt
      rw [← Wp.B_size] at hn
      have Hgt := Lib.hid hgt
      clear hgt
      have hm : m ≤ (Wp.B r).size := by omega
      have He1 := Lib.hid (show (Wp.B r).extract 0 m = Wp.B (r.take m) by rw [Wp.extract_B]; rfl)
      have He2 := Lib.hid (show (Wp.B r).extract m (Wp.B r).size = Wp.B (r.drop m) by rw [Wp.extract_B, Wp.B_data, Wp.B_size, List.take_of_length_le (by rw [List.length_drop]; omega)])
      have hcl := fun w => clone_any ((Wp.B r).extract 0 m) w (by rw [ByteArray.size_extract]; omega)
      go_enter Tryd.func135, Tryd.ntmps135
      go_wp2_with fail
      refine (hc _).mono ?_
      rintro e w1 ⟨rfl, hb⟩
      go_wp2_with fail
      go_region_with ((with_reducible refine (hcl _).mono ?_); rintro e w2 ⟨rfl, hb2⟩)
      go_wp2_with fail
      go_ret3
      rw [Hgt.out]
      show Ending.returned (.tuple #[.string ((Wp.B r).extract 0 m), .string ((Wp.B r).extract m (Wp.B r).size), .int .i64 0]) = _ ∧ _
      rw [He1.out, He2.out]
      exact ⟨rfl, hb.drew.trans (hb2.mono hb.drew.size)⟩
  · have hb1 : (er != 0) = true := by rw [bne_iff_ne]; exact he
    rw [if_pos he] at hgt
    have Hgt := Lib.hid hgt
    clear hgt he hbd
    go_enter Tryd.func135, Tryd.ntmps135
    go_wp2_with fail
    refine (hc _).mono ?_
    rintro e w1 ⟨rfl, hb⟩
    go_wp2_with fail
    go_ret3
    exact ⟨by rw [Hgt.out]; rfl, hb⟩
end Go.Proofs.YtckcbdnlligndaaDoor
