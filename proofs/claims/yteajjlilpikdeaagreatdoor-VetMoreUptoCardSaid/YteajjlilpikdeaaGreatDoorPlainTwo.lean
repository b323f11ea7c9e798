
/-
  Plain mathematics of the wire, continued: what was put is got, numbers, texts and lists. No condition but those that the theorems state.
-/
import Derived.Test.YteajjlilpikdeaaGreatDoorPlain
import Derived.WalkKit
import Derived.Lib.Strings
namespace Go.Proofs.YteajjlilpikdeaaGreatDoor.Wp
theorem gn_put (n : Int) (hn : I64 n) (s : ByteArray) : gn (B (numB n) ++ s) = (n, s.data.toList, 0) := by
  rw [gn, data_append, B_data, getNum_numB n hn]
theorem gn_ok (s : ByteArray) (n : Int) (r : List UInt8) (h : gn s = (n, r, 0)) : B (numB n) ++ B r = s ∧ I64 n := by
  have h1 := getNum_ok s.data.toList (by have : getNum s.data.toList = (n, r, 0) := h; rw [this])
  have h2 : getNum s.data.toList = (n, r, 0) := h
  rw [h2] at h1
  refine ⟨?_, h1.2⟩
  rw [B_append, B_data]
  rw [show numB n ++ r = s.data.toList from h1.1, B_of]
theorem gn_err (s : ByteArray) (n : Int) (r : List UInt8) (e : Int) (h : gn s = (n, r, e)) (he : e ≠ 0) : n = 0 ∧ r = [] := by
  have h2 : getNum s.data.toList = (n, r, e) := h
  have h1 := getNum_bad s.data.toList (by rw [h2]; exact he)
  rw [h2] at h1
  exact h1
theorem getText_put (t s : List UInt8) (h : t.length ≤ 4096) : getText (textB t ++ s) = (t, s, 0) := by
  have e1 : getNum (textB t ++ s) = ((t.length : Int), t ++ s, 0) := by
    rw [textB, List.append_assoc, getNum_numB _ ⟨by omega, by omega⟩]
  have e2 : cutLen (textB t ++ s) 4096 = ((t.length : Int), t ++ s, 0) := by
    unfold cutLen
    rw [e1, if_neg (by simp), if_neg (by simp only []; omega), if_neg (by simp only []; omega)]
  unfold getText
  rw [e2, if_neg (by simp), if_neg (by simp only [List.length_append]; omega)]
  simp only [Int.toNat_natCast, List.take_left', List.drop_left']
theorem gt_put (t s : ByteArray) (h : t.size ≤ 4096) : gt (B (textB t.data.toList) ++ s) = (t.data.toList, s.data.toList, 0) := by
  rw [gt, data_append, B_data, getText_put _ _ (by rw [← size_len]; exact h)]
theorem textB_len (t : List UInt8) : (textB t).length ≤ 9 + t.length := by
  have := numB_len t.length
  simp only [textB, List.length_append]
  omega
/-- The number that the document reckons of digits, wrapped as Go wraps. -/
def nnOf (b : Bool) (v : Nat) : Int := if b then RowKit.wrap64 (-(RowKit.wrap64 v)) else RowKit.wrap64 v
theorem nn_I64 (b : Bool) (v : Nat) : I64 (nnOf b v) := by
  unfold nnOf I64 RowKit.wrap64
  split <;> constructor <;> omega
theorem nn_ok (b : Bool) (l : List UInt8) (h : okMag b l = true) : nnOf b (val l) = signed b (val l) := by
  unfold okMag at h
  unfold nnOf signed RowKit.wrap64
  split at h
  · have : val [] = 0 := rfl
    rw [this]
    cases b <;> simp
  · simp only [Bool.and_eq_true, decide_eq_true_eq] at h
    have h2 := h.2
    cases b
    · simp only [Bool.false_eq_true, if_false, decide_eq_true_eq] at h2 ⊢
      omega
    · simp only [if_true, decide_eq_true_eq] at h2 ⊢
      omega
/-- The bytes of that number are those that were read, just if these are a magnitude's. -/
theorem same_bytes (b : Bool) (s : ByteArray) (h0 : 0 < s.size) (k : Nat) (hk : s[0].toNat % 128 = k) (hb : decide (128 ≤ s[0].toNat) = b) (h8 : ¬ 8 < k) (hs : ¬ s.size < 1 + k) (mg : ByteArray) (hm : mg = s.extract 1 (1 + k)) :
    ((B (numB (nnOf b (val mg.data.toList)))).toList == (s.extract 0 (k + 1)).toList) = okMag b mg.data.toList := by
  have hg := gn_eq s h0 k hk b hb mg hm
  rw [if_neg h8, if_neg hs] at hg
  rw [Lib.toList_data, Lib.toList_data, B_data, data_extract, List.drop_zero, Nat.sub_zero]
  have hsl := size_len s
  cases hok : okMag b mg.data.toList with
  | true =>
    rw [hok, if_pos rfl] at hg
    rw [nn_ok b _ hok, beq_iff_eq]
    have h2 : getNum s.data.toList = _ := hg
    have h3 := (getNum_ok s.data.toList (by rw [h2])).1
    rw [h2] at h3
    simp only [] at h3
    have e2 : (s.extract (1 + k) s.size).data.toList.length = s.size - (1 + k) := by rw [← size_len, ByteArray.size_extract]; omega
    have e3 : (numB (signed b (val mg.data.toList))).length = k + 1 := by
      have := congrArg List.length h3
      rw [List.length_append, e2] at this
      omega
    conv => rhs; rw [← h3]
    rw [← e3, List.take_left']
    rfl
  | false =>
    rw [hok, if_neg (by simp)] at hg
    rw [beq_eq_false_iff_ne]
    intro c
    have h2 : getNum s.data.toList = _ := hg
    have h4 := List.take_append_drop (k + 1) s.data.toList
    rw [← c] at h4
    have h5 := getNum_numB _ (nn_I64 b (val mg.data.toList)) (s.data.toList.drop (k + 1))
    rw [h4, h2] at h5
    simp at h5
end Go.Proofs.YteajjlilpikdeaaGreatDoor.Wp
