/-
  The law WireNumbers: any number and any text has the bytes, and any bytes begin with the number, and the text, that the document says. Condition: each text takes at most 2^47 bytes.
-/
import Derived.Test.YtdhiekhinimohaaRefTwo
import Derived.Test.YtdhiekhinimohaaBack
namespace Go.Proofs.Ytdhiekhinimohaa
open Go.RowKit

set_option maxHeartbeats 1000000 in
theorem numbersLaw_any (n : Int) (t s : ByteArray) (hn : Wp.I64 n) (ht : t.size ≤ 140737488351232) (hs : s.size ≤ 140737488351232) (w : World) :
    Calls Try.prog 3 #[.int .i64 n, .string t, .string s] w fun e w' => e = .returned (.bool true) ∧ Below w.heap.size w w' := by
  have n1 := hn.1
  have n2 := hn.2
  have hs2 : s.size ≤ 281474976710656 := by omega
  clear hn
  by_cases hl : 4096 < t.size
  · have c1 : ∀ w, Calls Try.prog 10 #[.string t] w fun e w' => e = .returned (.tuple #[.string ⟨#[]⟩, .int .i64 12]) ∧ Below w.heap.size w w' := fun w => by
      have h := text_any t w (by omega)
      rw [if_pos hl] at h
      exact h
    have c2 : ∀ w, Calls Try.prog 11 #[.string t] w fun e w' => e = .returned (.tuple #[.string ⟨#[]⟩, .int .i64 12]) ∧ Below w.heap.size w w' := fun w => by
      have h := rtext_any t w (by omega)
      rw [if_pos hl] at h
      exact h
    go_enter Try.func3, Try.ntmps3
    go_wp2_with fail
    refine (getNum_any s _ hs2).mono ?_
    rintro e w1 ⟨rfl, b1⟩
    go_wp2_with fail
    refine (rgetNum_any s _ hs2).mono ?_
    rintro e w2 ⟨rfl, b2⟩
    go_wp2_with fail
    refine (c1 _).mono ?_
    rintro e w3 ⟨rfl, b3⟩
    go_wp2_with fail
    refine (c2 _).mono ?_
    rintro e w4 ⟨rfl, b4⟩
    go_wp2_with fail
    refine (getText_any s _ hs2).mono ?_
    rintro e w5 ⟨rfl, b5⟩
    go_wp2_with fail
    refine (rgetText_any s _ hs2).mono ?_
    rintro e w6 ⟨rfl, b6⟩
    go_wp2_with fail
    refine (numbers_any _).mono ?_
    rintro e w7 ⟨rfl, b7⟩
    go_wp2_with fail
    refine (num_any _ _ n1 n2).mono ?_
    rintro e w8 ⟨rfl, b8⟩
    go_wp2_with fail
    refine (rnum_any _ _ n1 n2).mono ?_
    rintro e w9 ⟨rfl, b9⟩
    go_wp2_with fail
    go_ret
    have a2 := below_then b1 b2 b1.size
    have a3 := below_then a2 b3 a2.size
    have a4 := below_then a3 b4 a3.size
    have a5 := below_then a4 b5 a4.size
    have a6 := below_then a5 b6 a5.size
    have a7 := below_then a6 b7 a6.size
    have a8 := below_then a7 b8 a7.size
    have a9 := below_then a8 b9 a8.size
    exact ⟨rfl, a9⟩
  · have c1 : ∀ w, Calls Try.prog 10 #[.string t] w fun e w' => e = .returned (.tuple #[.string (Wp.B (Wp.textB t.data.toList)), .int .i64 0]) ∧ Below w.heap.size w w' := fun w => by
      have h := text_any t w (by omega)
      rw [if_neg hl] at h
      exact h
    have c2 : ∀ w, Calls Try.prog 11 #[.string t] w fun e w' => e = .returned (.tuple #[.string (Wp.B (Wp.textB t.data.toList)), .int .i64 0]) ∧ Below w.heap.size w w' := fun w => by
      have h := rtext_any t w (by omega)
      rw [if_neg hl] at h
      exact h
    go_enter Try.func3, Try.ntmps3
    go_wp2_with fail
    refine (getNum_any s _ hs2).mono ?_
    rintro e w1 ⟨rfl, b1⟩
    go_wp2_with fail
    refine (rgetNum_any s _ hs2).mono ?_
    rintro e w2 ⟨rfl, b2⟩
    go_wp2_with fail
    refine (c1 _).mono ?_
    rintro e w3 ⟨rfl, b3⟩
    go_wp2_with fail
    refine (c2 _).mono ?_
    rintro e w4 ⟨rfl, b4⟩
    go_wp2_with fail
    refine (getText_any s _ hs2).mono ?_
    rintro e w5 ⟨rfl, b5⟩
    go_wp2_with fail
    refine (rgetText_any s _ hs2).mono ?_
    rintro e w6 ⟨rfl, b6⟩
    go_wp2_with fail
    refine (numbers_any _).mono ?_
    rintro e w7 ⟨rfl, b7⟩
    go_wp2_with fail
    refine (num_any _ _ n1 n2).mono ?_
    rintro e w8 ⟨rfl, b8⟩
    go_wp2_with fail
    refine (rnum_any _ _ n1 n2).mono ?_
    rintro e w9 ⟨rfl, b9⟩
    go_wp2_with fail
    go_ret
    have a2 := below_then b1 b2 b1.size
    have a3 := below_then a2 b3 a2.size
    have a4 := below_then a3 b4 a3.size
    have a5 := below_then a4 b5 a4.size
    have a6 := below_then a5 b6 a5.size
    have a7 := below_then a6 b7 a6.size
    have a8 := below_then a7 b8 a7.size
    have a9 := below_then a8 b9 a8.size
    exact ⟨rfl, a9⟩
end Go.Proofs.Ytdhiekhinimohaa
