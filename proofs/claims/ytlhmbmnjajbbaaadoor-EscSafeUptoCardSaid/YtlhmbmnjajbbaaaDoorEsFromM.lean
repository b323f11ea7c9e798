
/-
  The walks of esc's is, Most, Name, firstOfEmail. Condition: the table of the channels reads as it is laid.
-/
import Derived.Test.YtlhmbmnjajbbaaaDoorEsToC
namespace Go.Proofs.YtlhmbmnjajbbaaaDoor
open Go.RowKit

theorem Es.isC (c : Nat) : (decide (0 < c) && decide (c < 4)) = (decide (c = 1) || decide (c = 2) || decide (c = 3)) := by
  rw [Bool.eq_iff_iff]
  simp
  omega
set_option maxRecDepth 100000 in
theorem esIs_any (c : Nat) (w : World) : Calls Tryd.prog 26 #[.int .u8 (c : Int)] w fun e w' => e = .returned (.bool (decide (c = 1) || decide (c = 2) || decide (c = 3))) ∧ w' = w := by
  rw [← Es.isC]
  by_cases h0 : 0 < c
  · rw [decide_eq_true h0, Bool.true_and]
    by_cases h4 : c < 4
    · go_enter Tryd.func26, Tryd.ntmps26
      go_wp2_with fail
      go_ret
      exact ⟨congrArg (fun b => Ending.returned (Value.bool b)) (show decide ((c : Int) < 4) = decide (c < 4) by rw [decide_eq_true h4, decide_eq_true (by omega)]), rfl⟩
    · go_enter Tryd.func26, Tryd.ntmps26
      go_wp2_with fail
      go_ret
      exact ⟨congrArg (fun b => Ending.returned (Value.bool b)) (show decide ((c : Int) < 4) = decide (c < 4) by rw [decide_eq_false h4, decide_eq_false (by omega)]), rfl⟩
  · obtain rfl : c = 0 := by omega
    go_enter Tryd.func26, Tryd.ntmps26
    go_wp2_with fail
    go_ret
    exact ⟨rfl, rfl⟩
set_option maxRecDepth 100000 in
theorem esClone_any (s : ByteArray) (w : World) (hs : s.size ≤ 281474976710656) : Calls Tryd.prog 28 #[.string s] w fun e w' => e = .returned (.string s) ∧ Below w.heap.size w w' := by
  have HC := Lib.hid (Tryd.stringslite_Clone s w hs)
  go_enter Tryd.func28, Tryd.ntmps28
  go_wp2_with fail
  refine HC.out.mono ?_
  rintro e w1 ⟨rfl, hb⟩
  go_wp2_with fail
  go_ret
  exact ⟨rfl, hb⟩
def Es.mark5 : List Nat := [38, 60, 62, 34, 39]
def Es.mk5 (k : Nat) : Nat := Es.mark5.getD k 0
theorem Es.mk5_lt : ∀ k, k < 5 → Es.mk5 k < 256 := by decide
theorem Es.mark_get (k : Nat) (hk : k < 5) (h : k < (⟨#[38, 60, 62, 34, 39]⟩ : ByteArray).size) : (⟨#[38, 60, 62, 34, 39]⟩ : ByteArray)[k]'h = UInt8.ofNat (Es.mk5 k) := by
  have h1 : (⟨#[38, 60, 62, 34, 39]⟩ : ByteArray).data.toList[k]? = some (UInt8.ofNat (Es.mk5 k)) := by
    revert hk
    revert k
    decide
  rw [Array.getElem?_toList, Array.getElem?_eq_getElem (by exact h)] at h1
  exact Option.some.inj h1
/-- Of the marks from the k-th on, the first whose name a text begins with. -/
def Es.fm (l : List UInt8) : Nat → Nat → UInt8 × Nat
  | 0, _ => (l.headD 0, 1)
  | f + 1, k => if (Es.nameN (Es.mk5 k)).isPrefixOf l then (UInt8.ofNat (Es.mk5 k), (Es.nameN (Es.mk5 k)).length) else Es.fm l f (k + 1)
theorem Es.fm_first (l : List UInt8) : Es.fm l 5 0 = Es.firstM l := rfl
set_option maxRecDepth 100000 in
set_option maxHeartbeats 1000000 in
theorem esFirstM_any (s : ByteArray) (w : World) (h0 : 0 < s.size) :
    Calls Tryd.prog 35 #[.string s] w fun e w' => e = .returned (.tuple #[.int .u8 ((Es.firstM s.data.toList).1.toNat : Nat), .int .i64 ((Es.firstM s.data.toList).2 : Nat)]) ∧ w' = w := by
  obtain ⟨R, hR⟩ : ∃ R, R = Es.firstM s.data.toList := ⟨_, rfl⟩
  rw [← hR]
  have HR := Lib.hid (show Es.fm s.data.toList 5 0 = R by rw [hR, Es.fm_first])
  have HH := Lib.hid (show s.data.toList.headD 0 = s[0] by rw [Wp.cons_of s h0]; rfl)
  clear hR
  go_enter Tryd.func35, Tryd.ntmps35
  go_wp2_with fail
  go_loop [6] (fun t => ∃ k : Nat, k ≤ 5 ∧ t = .int .i64 k ∧ Es.fm s.data.toList (5 - k) k = R) (fun t => 5 - (intOf t).toNat)
  case atStart => exact ⟨0, Nat.zero_le _, rfl, HR.out⟩
  case round =>
    obtain ⟨k, hk, rfl, hfm⟩ := hrel
    have Hfm := Lib.hid hfm
    clear hfm
    by_cases hlt : k < 5
    · have HM := Lib.hid (Es.mark_get k hlt)
      have Hfm2 := Lib.hid (show (if (Es.nameN (Es.mk5 k)).isPrefixOf s.data.toList then (UInt8.ofNat (Es.mk5 k), (Es.nameN (Es.mk5 k)).length) else Es.fm s.data.toList (5 - (k + 1)) (k + 1)) = R by
        have := Hfm.out
        rw [show 5 - k = (5 - (k + 1)) + 1 by omega] at this
        exact this)
      have hm256 := Es.mk5_lt k hlt
      have HN := Lib.hid (fun W => esNameOf_any (Es.mk5 k) W)
      have HP := Lib.hid (fun W => Tryd.strings_HasPrefix s (Wp.B (Es.nameN (Es.mk5 k))) W)
      rw [Wp.B_data] at HP
      have hnl : (Wp.B (Es.nameN (Es.mk5 k))).size = (Es.nameN (Es.mk5 k)).length := Wp.B_size _
      have Hnl := Lib.hid hnl
      have hn6 := Es.name_len (Es.mk5 k)
      have htn : (UInt8.ofNat (Es.mk5 k)).toNat = Es.mk5 k := UInt8.toNat_ofNat_of_lt' (by exact hm256)
      have Htn := Lib.hid htn
      clear hnl htn Hfm
      go_wp2_with fail
      rw [HM.out, Htn.out]
      refine (HN.out _).mono ?_
      rintro e w1 ⟨rfl, hw1⟩
      rw [hw1]
      clear hw1 w1
      cases hp : (Es.nameN (Es.mk5 k)).isPrefixOf s.data.toList with
      | true =>
        have hfr := Hfm2.out
        rw [hp, if_pos rfl] at hfr
        subst hfr
        have HP2 := Lib.hid (show ∀ W, Calls Tryd.prog 38 #[.string s, .string (Wp.B (Es.nameN (Es.mk5 k)))] W fun e w' => e = .returned (.bool true) ∧ w' = W from fun W => by
          have h := HP.out W
          unfold Lib.hasPrefix at h
          rwa [hp] at h)
        clear hp HP Hfm2
        go_wp2_with fail
        refine (HP2.out _).mono ?_
        rintro e w1 ⟨rfl, hw1⟩
        rw [hw1]
        clear hw1 w1
        go_wp2_with fail
        rw [HM.out]
        go_ret2
        exact ⟨by show Ending.returned (Value.tuple #[.int .u8 _, .int .i64 (((Wp.B (Es.nameN (Es.mk5 k))).size : Nat) : Int)]) = _; rw [Hnl.out]; rfl, rfl⟩
      | false =>
        have hfr := Hfm2.out
        rw [hp, if_neg (by exact Bool.false_ne_true)] at hfr
        have Hfr := Lib.hid hfr
        have HP2 := Lib.hid (show ∀ W, Calls Tryd.prog 38 #[.string s, .string (Wp.B (Es.nameN (Es.mk5 k)))] W fun e w' => e = .returned (.bool false) ∧ w' = W from fun W => by
          have h := HP.out W
          unfold Lib.hasPrefix at h
          rwa [hp] at h)
        clear hp HP Hfm2 hfr
        go_wp2_with fail
        refine (HP2.out _).mono ?_
        rintro e w1 ⟨rfl, hw1⟩
        rw [hw1]
        clear hw1 w1
        go_wp2_with fail
        exact ⟨⟨k + 1, by omega, by go_num, Hfr.out⟩, by simp [intOf]; omega⟩
    · obtain rfl : k = 5 := by omega
      have hfr := Hfm.out
      rw [show 5 - 5 = 0 from rfl] at hfr
      have hfr2 : (s.data.toList.headD 0, 1) = R := hfr
      rw [HH.out] at hfr2
      subst hfr2
      clear hfr Hfm HR
      go_wp2_with fail
      go_ret2
      exact ⟨rfl, rfl⟩
end Go.Proofs.YtlhmbmnjajbbaaaDoor
