/-
  Plain mathematics of the wire, continued: what was put is got, numbers, texts and lists. No condition but those that the theorems state.
-/
import Derived.Test.YtdhiekhinimohaaPlain
namespace Go.Proofs.Ytdhiekhinimohaa.Wp
theorem gn_put (n : Int) (hn : I64 n) (s : ByteArray) : gn (B (numB n) ++ s) = (n, s.data.toList, 0) := by
  rw [gn, data_append, B_data, getNum_numB n hn]
theorem gn_ok (s : ByteArray) (n : Int) (r : List UInt8) (h : gn s = (n, r, 0)) : B (numB n) ++ B r = s ∧ I64 n := by
  have h1 := getNum_ok s.data.toList (by have : getNum s.data.toList = (n, r, 0) := h; rw [this])
  have h2 : getNum s.data.toList = (n, r, 0) := h
  rw [h2] at h1
  refine ⟨?_, h1.2⟩
  rw [B_append, B_data]
  rw [show numB n ++ r = s.data.toList from h1.1, B_of]
theorem gn_err (s : ByteArray) (n : Int) (r : List UInt8) (e : Int) (h : gn s = (n, r, e)) (he : e ≠ 0) : n = 0 ∧ r = [] := by
  have h2 : getNum s.data.toList = (n, r, e) := h
  have h1 := getNum_bad s.data.toList (by rw [h2]; exact he)
  rw [h2] at h1
  exact h1
theorem getText_put (t s : List UInt8) (h : t.length ≤ 4096) : getText (textB t ++ s) = (t, s, 0) := by
  have e1 : getNum (textB t ++ s) = ((t.length : Int), t ++ s, 0) := by
    rw [textB, List.append_assoc, getNum_numB _ ⟨by omega, by omega⟩]
  have e2 : cutLen (textB t ++ s) 4096 = ((t.length : Int), t ++ s, 0) := by
    unfold cutLen
    rw [e1, if_neg (by simp), if_neg (by simp only []; omega), if_neg (by simp only []; omega)]
  unfold getText
  rw [e2, if_neg (by simp), if_neg (by simp only [List.length_append]; omega)]
  simp only [Int.toNat_natCast, List.take_left', List.drop_left']
theorem gt_put (t s : ByteArray) (h : t.size ≤ 4096) : gt (B (textB t.data.toList) ++ s) = (t.data.toList, s.data.toList, 0) := by
  rw [gt, data_append, B_data, getText_put _ _ (by rw [← size_len]; exact h)]
theorem textB_len (t : List UInt8) : (textB t).length ≤ 9 + t.length := by
  have := numB_len t.length
  simp only [textB, List.length_append]
  omega
end Go.Proofs.Ytdhiekhinimohaa.Wp
