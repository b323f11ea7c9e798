/-
  The law WireBack: what was put is got, and what is got has its bytes: whatever the number and the texts. Condition: each text takes at most 2^47 bytes.
-/
import Derived.Test.YtdhiekhinimohaaApart
import Derived.Test.YtdhiekhinimohaaPlainTwo
namespace Go.Proofs.Ytdhiekhinimohaa
open Go.RowKit

theorem below_then {a b c : World} {B : Nat} (h1 : Below B a b) (h2 : Below b.heap.size b c) (hB : B ≤ b.heap.size) : Below B a c := h1.trans (h2.mono hB)

set_option maxHeartbeats 1000000 in
theorem back_any (n : Int) (t s : ByteArray) (hn : Wp.I64 n) (ht : t.size ≤ 140737488351232) (hs : s.size ≤ 140737488351232) (w : World) :
    Calls Try.prog 5 #[.int .i64 n, .string t, .string s] w fun e w' => e = .returned (.bool true) ∧ Below w.heap.size w w' := by
  have n1 := hn.1
  have n2 := hn.2
  have ln := Wp.numB_len n
  rw [← Wp.B_size] at ln
  have c1 : ∀ w, Calls Try.prog 8 #[.string (Wp.B (Wp.numB n) ++ s)] w fun e w' => e = .returned (.tuple #[.int .i64 n, .string s, .int .i64 0]) ∧ Below w.heap.size w w' := fun w => by
    have h := getNum_any (Wp.B (Wp.numB n) ++ s) w (by rw [ByteArray.size_append]; omega)
    rw [Wp.gn_put n hn s] at h
    simp only [Wp.B_of] at h
    exact h
  obtain ⟨⟨m, r, er⟩, hg⟩ : ∃ g, Wp.gn s = g := ⟨_, rfl⟩
  have hr := Wp.gn_rest s _ _ _ hg
  rw [← Wp.B_size] at hr
  have c4 : ∀ w, Calls Try.prog 8 #[.string s] w fun e w' => e = .returned (.tuple #[.int .i64 m, .string (Wp.B r), .int .i64 er]) ∧ Below w.heap.size w w' := fun w => by
    have h := getNum_any s w (by omega)
    rw [hg] at h
    exact h
  have lm := Wp.numB_len m
  rw [← Wp.B_size] at lm
  by_cases hl : 4096 < t.size
  · have c2 : ∀ w, Calls Try.prog 10 #[.string t] w fun e w' => e = .returned (.tuple #[.string ⟨#[]⟩, .int .i64 12]) ∧ Below w.heap.size w w' := fun w => by
      have h := text_any t w (by omega)
      rw [if_pos hl] at h
      exact h
    by_cases he : er = 0
    · subst he
      obtain ⟨hE, hm⟩ := Wp.gn_ok s m r hg
      have m1 := hm.1
      have m2 := hm.2
      have HE := Lib.hid hE
      clear hg hE hn hm
      go_enter Try.func5, Try.ntmps5
      go_wp2_with fail
      refine (numbers_any _).mono ?_
      rintro e w1 ⟨rfl, b1⟩
      go_wp2_with fail
      refine (num_any _ _ n1 n2).mono ?_
      rintro e w2 ⟨rfl, b2⟩
      go_wp2_with fail
      refine (c1 _).mono ?_
      rintro e w3 ⟨rfl, b3⟩
      go_wp2_with fail
      refine (c2 _).mono ?_
      rintro e w4 ⟨rfl, b4⟩
      go_wp2_with fail
      refine (c4 _).mono ?_
      rintro e w5 ⟨rfl, b5⟩
      go_wp2_with fail
      refine (num_any _ _ m1 m2).mono ?_
      rintro e w6 ⟨rfl, b6⟩
      go_wp2_with fail
      go_ret
      have a2 := below_then b1 b2 b1.size
      have a3 := below_then a2 b3 a2.size
      have a4 := below_then a3 b4 a3.size
      have a5 := below_then a4 b5 a4.size
      have a6 := below_then a5 b6 a5.size
      refine ⟨?_, a6⟩
      show Ending.returned (.bool ((Wp.B (Wp.numB m) ++ Wp.B r).toList == s.toList)) = _
      rw [HE.out]
      simp
    · obtain ⟨rfl, rfl⟩ := Wp.gn_err s m r er hg he
      have hb1 : (er != 0) = true := by rw [bne_iff_ne]; exact he
      have hb2 : (er == 0) = false := by rw [beq_eq_false_iff_ne]; exact he
      have c5 : ∀ w, Calls Try.prog 8 #[.string s] w fun e w' => e = .returned (.tuple #[.int .i64 0, .string ⟨#[]⟩, .int .i64 er]) ∧ Below w.heap.size w w' := c4
      clear hg hn he c4
      go_enter Try.func5, Try.ntmps5
      go_wp2_with fail
      refine (numbers_any _).mono ?_
      rintro e w1 ⟨rfl, b1⟩
      go_wp2_with fail
      refine (num_any _ _ n1 n2).mono ?_
      rintro e w2 ⟨rfl, b2⟩
      go_wp2_with fail
      refine (c1 _).mono ?_
      rintro e w3 ⟨rfl, b3⟩
      go_wp2_with fail
      refine (c2 _).mono ?_
      rintro e w4 ⟨rfl, b4⟩
      go_wp2_with fail
      refine (c5 _).mono ?_
      rintro e w5 ⟨rfl, b5⟩
      go_wp2_with fail
      go_ret
      have a2 := below_then b1 b2 b1.size
      have a3 := below_then a2 b3 a2.size
      have a4 := below_then a3 b4 a3.size
      have a5 := below_then a4 b5 a4.size
      exact ⟨rfl, a5⟩
  · have c2 : ∀ w, Calls Try.prog 10 #[.string t] w fun e w' => e = .returned (.tuple #[.string (Wp.B (Wp.textB t.data.toList)), .int .i64 0]) ∧ Below w.heap.size w w' := fun w => by
      have h := text_any t w (by omega)
      rw [if_neg hl] at h
      exact h
    have hT := Wp.textB_len t.data.toList
    rw [← Wp.size_len, ← Wp.B_size] at hT
    have c3 : ∀ w, Calls Try.prog 12 #[.string (Wp.B (Wp.textB t.data.toList) ++ s)] w fun e w' => e = .returned (.tuple #[.string t, .string s, .int .i64 0]) ∧ Below w.heap.size w w' := fun w => by
      have h := getText_any (Wp.B (Wp.textB t.data.toList) ++ s) w (by rw [ByteArray.size_append]; omega)
      rw [Wp.gt_put t s (by omega)] at h
      simp only [Wp.B_of] at h
      exact h
    by_cases he : er = 0
    · subst he
      obtain ⟨hE, hm⟩ := Wp.gn_ok s m r hg
      have m1 := hm.1
      have m2 := hm.2
      have HE := Lib.hid hE
      clear hg hE hn hm
      go_enter Try.func5, Try.ntmps5
      go_wp2_with fail
      refine (numbers_any _).mono ?_
      rintro e w1 ⟨rfl, b1⟩
      go_wp2_with fail
      refine (num_any _ _ n1 n2).mono ?_
      rintro e w2 ⟨rfl, b2⟩
      go_wp2_with fail
      refine (c1 _).mono ?_
      rintro e w3 ⟨rfl, b3⟩
      go_wp2_with fail
      refine (c2 _).mono ?_
      rintro e w4 ⟨rfl, b4⟩
      go_wp2_with fail
      refine (c3 _).mono ?_
      rintro e w5 ⟨rfl, b5⟩
      go_wp2_with fail
      refine (c4 _).mono ?_
      rintro e w6 ⟨rfl, b6⟩
      go_wp2_with fail
      refine (num_any _ _ m1 m2).mono ?_
      rintro e w7 ⟨rfl, b7⟩
      go_wp2_with fail
      go_ret
      have a2 := below_then b1 b2 b1.size
      have a3 := below_then a2 b3 a2.size
      have a4 := below_then a3 b4 a3.size
      have a5 := below_then a4 b5 a4.size
      have a6 := below_then a5 b6 a5.size
      have a7 := below_then a6 b7 a6.size
      refine ⟨?_, a7⟩
      show Ending.returned (.bool ((Wp.B (Wp.numB m) ++ Wp.B r).toList == s.toList)) = _
      rw [HE.out]
      simp
    · obtain ⟨rfl, rfl⟩ := Wp.gn_err s m r er hg he
      have hb1 : (er != 0) = true := by rw [bne_iff_ne]; exact he
      have hb2 : (er == 0) = false := by rw [beq_eq_false_iff_ne]; exact he
      have c5 : ∀ w, Calls Try.prog 8 #[.string s] w fun e w' => e = .returned (.tuple #[.int .i64 0, .string ⟨#[]⟩, .int .i64 er]) ∧ Below w.heap.size w w' := c4
      clear hg hn he c4
      go_enter Try.func5, Try.ntmps5
      go_wp2_with fail
      refine (numbers_any _).mono ?_
      rintro e w1 ⟨rfl, b1⟩
      go_wp2_with fail
      refine (num_any _ _ n1 n2).mono ?_
      rintro e w2 ⟨rfl, b2⟩
      go_wp2_with fail
      refine (c1 _).mono ?_
      rintro e w3 ⟨rfl, b3⟩
      go_wp2_with fail
      refine (c2 _).mono ?_
      rintro e w4 ⟨rfl, b4⟩
      go_wp2_with fail
      refine (c3 _).mono ?_
      rintro e w5 ⟨rfl, b5⟩
      go_wp2_with fail
      refine (c5 _).mono ?_
      rintro e w6 ⟨rfl, b6⟩
      go_wp2_with fail
      go_ret
      have a2 := below_then b1 b2 b1.size
      have a3 := below_then a2 b3 a2.size
      have a4 := below_then a3 b4 a3.size
      have a5 := below_then a4 b5 a4.size
      have a6 := below_then a5 b6 a5.size
      exact ⟨rfl, a6⟩
end Go.Proofs.Ytdhiekhinimohaa
