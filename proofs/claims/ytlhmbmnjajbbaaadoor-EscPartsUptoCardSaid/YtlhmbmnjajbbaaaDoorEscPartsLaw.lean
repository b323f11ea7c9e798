
/-
  The law EscParts: whatever the channel and the texts, it hands back true. Conditions: texts of at most 2^20 bytes; the table of the channels reads as it is laid; the library's ErrSyntax is an error.
-/
import Derived.Test.YtlhmbmnjajbbaaaDoorEsLives
import Derived.Test.YtlhmbmnjajbbaaaDoorEsMath
namespace Go.Proofs.YtlhmbmnjajbbaaaDoor
open Go.RowKit

set_option maxRecDepth 100000 in
theorem escParts_law (c : Nat) (s t : ByteArray) (w : World) (hs : s.size ≤ 1048576) (ht : t.size ≤ 1048576) (hL : Es.Laid w) :
    Calls Tryd.prog 7 #[.int .u8 (c : Int), .string s, .string t] w fun e w' => e = .returned (.bool true) ∧ Below w.heap.size w w' := by
  have HLv := Lib.hid (lives13_any w hL)
  clear hL
  by_cases h3 : c = 3
  · subst h3
    go_enter Tryd.func7, Tryd.ntmps7
    go_wp2_with fail
    refine HLv.out.mono ?_
    rintro e w1 ⟨rfl, b1⟩
    go_wp2_with fail
    go_ret
    exact ⟨rfl, b1⟩
  have e3 : ((c : Int) == 3) = false := beq_eq_false_iff_ne.2 (by omega)
  obtain ⟨a1, a2, a3⟩ := Es.toR_app c h3 s.data.toList t.data.toList
  have hst : (s ++ t).size ≤ 16777216 := by rw [ByteArray.size_append]; omega
  have HA := Lib.hid (fun W => esTo_any c s W (by omega))
  have HB := Lib.hid (fun W => esTo_any c t W (by omega))
  have HC := Lib.hid (fun W => esTo_any c (s ++ t) W hst)
  rw [Wp.data_append, a1, a3] at HC
  rw [a2] at HB
  have l1 : (Wp.B (Es.toR c s.data.toList).1).size ≤ 6291456 := by have := Es.toR_len c s.data.toList; rw [Wp.B_size]; rw [← Wp.size_len] at this; omega
  have l2 : (Wp.B (Es.toR c t.data.toList).1).size ≤ 6291456 := by have := Es.toR_len c t.data.toList; rw [Wp.B_size]; rw [← Wp.size_len] at this; omega
  rw [show Wp.B ((Es.toR c s.data.toList).1 ++ (Es.toR c t.data.toList).1) = Wp.B (Es.toR c s.data.toList).1 ++ Wp.B (Es.toR c t.data.toList).1 by rw [Wp.B_append, Wp.B_data]] at HC
  clear a1 a2 a3 h3 hst
  generalize Wp.B (Es.toR c s.data.toList).1 = x at *
  generalize Wp.B (Es.toR c t.data.toList).1 = y at *
  generalize (Es.toR c s.data.toList).2 = z at *
  go_enter Tryd.func7, Tryd.ntmps7
  go_wp2_with fail
  refine HLv.out.mono ?_
  rintro e w1 ⟨rfl, b1⟩
  have B1 := Lib.hid b1
  clear b1 HLv
  go_wp2_with fail
  refine (HA.out _).mono ?_
  rintro e w2 ⟨rfl, b2⟩
  have B2 := Lib.hid (B1.out.trans (b2.mono B1.out.size))
  clear b2 HA
  go_wp2_with fail
  refine (HB.out _).mono ?_
  rintro e w3 ⟨rfl, b3⟩
  have B3 := Lib.hid (B2.out.trans (b3.mono B2.out.size))
  clear b3 HB
  go_wp2_with fail
  refine (HC.out _).mono ?_
  rintro e w4 ⟨rfl, b4⟩
  have B4 := Lib.hid (B3.out.trans (b4.mono B3.out.size))
  clear b4 HC
  go_wp2_with fail
  go_ret
  exact ⟨rfl, B4.out⟩
end Go.Proofs.YtlhmbmnjajbbaaaDoor
