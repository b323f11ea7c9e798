
/-
  The walks of layer 13's lives and of the document's own Most, Name and Named. Conditions: the table of the channels reads as it is laid; the library's ErrSyntax is an error.
-/
import Derived.Test.YtlhmbmnjajbbaaaDoorEsFrom
import Derived.Test.YtlhmbmnjajbbaaaDoorEsWays
namespace Go.Proofs.YtlhmbmnjajbbaaaDoor
open Go.RowKit

set_option maxRecDepth 100000 in
theorem esRefMost_any (c : Nat) (w : World) : Calls Tryd.prog 14 #[.int .u8 (c : Int)] w fun e w' => e = .returned (.tuple #[.int .i64 (Es.mostR c).1, .int .i64 (Es.mostR c).2]) ∧ w' = w := by
  by_cases h1 : c = 1
  · subst h1
    go_enter Tryd.func14, Tryd.ntmps14
    go_wp2_with fail
    go_ret2
    exact ⟨rfl, rfl⟩
  by_cases h2 : c = 2
  · subst h2
    go_enter Tryd.func14, Tryd.ntmps14
    go_wp2_with fail
    go_ret2
    exact ⟨rfl, rfl⟩
  by_cases h3 : c = 3
  · subst h3
    go_enter Tryd.func14, Tryd.ntmps14
    go_wp2_with fail
    go_ret2
    exact ⟨rfl, rfl⟩
  rw [show Es.mostR c = (0, 1) by unfold Es.mostR; rw [if_neg h1, if_neg h2, if_neg h3]]
  have e1 : ((c : Int) == 1) = false := beq_eq_false_iff_ne.2 (by omega)
  have e2 : ((c : Int) == 2) = false := beq_eq_false_iff_ne.2 (by omega)
  have e3 : ((c : Int) == 3) = false := beq_eq_false_iff_ne.2 (by omega)
  go_enter Tryd.func14, Tryd.ntmps14
  go_wp2_with fail
  go_ret2
  exact ⟨rfl, rfl⟩
set_option maxRecDepth 100000 in
theorem esRefName_any (c : Nat) (w : World) : Calls Tryd.prog 16 #[.int .u8 (c : Int)] w fun e w' => e = .returned (.tuple #[.string (Es.nameR c).1, .int .i64 (Es.nameR c).2]) ∧ w' = w := by
  by_cases h1 : c = 1
  · subst h1
    go_enter Tryd.func16, Tryd.ntmps16
    go_wp2_with fail
    go_ret2
    exact ⟨rfl, rfl⟩
  by_cases h2 : c = 2
  · subst h2
    go_enter Tryd.func16, Tryd.ntmps16
    go_wp2_with fail
    go_ret2
    exact ⟨rfl, rfl⟩
  by_cases h3 : c = 3
  · subst h3
    go_enter Tryd.func16, Tryd.ntmps16
    go_wp2_with fail
    go_ret2
    exact ⟨rfl, rfl⟩
  rw [show Es.nameR c = (⟨#[]⟩, 1) by unfold Es.nameR; rw [if_neg h1, if_neg h2, if_neg h3]]
  have e1 : ((c : Int) == 1) = false := beq_eq_false_iff_ne.2 (by omega)
  have e2 : ((c : Int) == 2) = false := beq_eq_false_iff_ne.2 (by omega)
  have e3 : ((c : Int) == 3) = false := beq_eq_false_iff_ne.2 (by omega)
  go_enter Tryd.func16, Tryd.ntmps16
  go_wp2_with fail
  go_ret2
  exact ⟨rfl, rfl⟩
theorem Es.eqb (s : ByteArray) (l : List UInt8) : (s.toList == l) = decide (s = Wp.B l) := by
  rw [Lib.toList_data, Bool.eq_iff_iff, beq_iff_eq, decide_eq_true_eq]
  constructor
  · intro h; rw [← h, Wp.B_of]
  · intro h; rw [h, Wp.B_data]
set_option maxRecDepth 100000 in
theorem esRefNamed_any (s : ByteArray) (w : World) : Calls Tryd.prog 18 #[.string s] w fun e w' => e = .returned (.tuple #[.int .u8 ((Es.namedR s).1 : Nat), .int .i64 (Es.namedR s).2]) ∧ w' = w := by
  have q1 := Es.eqb s [112, 117, 115, 104]
  have q2 := Es.eqb s [101, 109, 97, 105, 108]
  have q3 := Es.eqb s [115, 109, 115]
  by_cases h1 : s = Es.nm 1
  · rw [decide_eq_true (show s = Wp.B [112, 117, 115, 104] from h1)] at q1
    rw [Es.named_yes s 1 (by decide) (by decide) h1]
    clear q2 q3 h1
    go_enter Tryd.func18, Tryd.ntmps18
    go_wp2_with fail
    go_ret2
    exact ⟨rfl, rfl⟩
  rw [decide_eq_false (show ¬ s = Wp.B [112, 117, 115, 104] from h1)] at q1
  by_cases h2 : s = Es.nm 2
  · rw [decide_eq_true (show s = Wp.B [101, 109, 97, 105, 108] from h2)] at q2
    rw [Es.named_yes s 2 (by decide) (by decide) h2]
    clear q3 h1 h2
    go_enter Tryd.func18, Tryd.ntmps18
    go_wp2_with fail
    go_ret2
    exact ⟨rfl, rfl⟩
  rw [decide_eq_false (show ¬ s = Wp.B [101, 109, 97, 105, 108] from h2)] at q2
  by_cases h3 : s = Es.nm 3
  · rw [decide_eq_true (show s = Wp.B [115, 109, 115] from h3)] at q3
    rw [Es.named_yes s 3 (by decide) (by decide) h3]
    clear h1 h2 h3
    go_enter Tryd.func18, Tryd.ntmps18
    go_wp2_with fail
    go_ret2
    exact ⟨rfl, rfl⟩
  rw [decide_eq_false (show ¬ s = Wp.B [115, 109, 115] from h3)] at q3
  rw [show Es.namedR s = (0, 13) by unfold Es.namedR; rw [if_neg h1, if_neg h2, if_neg h3]]
  clear h1 h2 h3
  go_enter Tryd.func18, Tryd.ntmps18
  go_wp2_with fail
  go_ret2
  exact ⟨rfl, rfl⟩
/-- What layer 13's statements read of the world. -/
structure Es.Laid (w : World) : Prop where
  syn : Es.Syn w
  ways : Es.Ways w
theorem Es.Laid.below {w w' : World} (h : Es.Laid w) (hb : Below w.heap.size w w') : Es.Laid w' := ⟨h.syn.below hb, h.ways.below hb⟩
theorem Es.c1 : Es.toR 1 [97, 34, 10, 1] = ([97, 92, 34, 92, 110, 92, 117, 48, 48, 48, 49], 0) := by decide
theorem Es.c2 : Es.toR 2 [60, 98, 62, 38] = ([38, 108, 116, 59, 98, 38, 103, 116, 59, 38, 97, 109, 112, 59], 0) := by decide
theorem Es.c3 : Es.toR 3 [99, 97, 102, 195, 169, 10, 33] = ([99, 97, 102, 63, 32, 33], 0) := by decide
theorem Es.c4 : Es.fromC 2 [38, 108, 116, 59, 98] = ([60, 98], 0) := by decide
theorem Es.c5 : Es.fromC 2 [97, 60, 98] = ([], 7) := by decide
theorem Es.c6 : Es.toR 9 [] = ([], 1) := by decide
set_option maxRecDepth 100000 in
set_option maxHeartbeats 1000000 in
theorem lives13_any (w : World) (hL : Es.Laid w) : Calls Tryd.prog 12 #[] w fun e w' => e = .returned (.bool true) ∧ Below w.heap.size w w' := by
  have H1 := Lib.hid (fun W => show Calls Tryd.prog 8 #[.int .u8 1, .string ⟨#[97, 34, 10, 1]⟩] W (fun e w' => e = .returned (.tuple #[.string ⟨#[97, 92, 34, 92, 110, 92, 117, 48, 48, 48, 49]⟩, .int .i64 0]) ∧ Below W.heap.size W w') from by
    have h := esTo_any 1 ⟨#[97, 34, 10, 1]⟩ W (by decide)
    rw [show (⟨#[97, 34, 10, 1]⟩ : ByteArray).data.toList = [97, 34, 10, 1] from rfl, Es.c1] at h
    exact h)
  have H2 := Lib.hid (fun W => show Calls Tryd.prog 8 #[.int .u8 2, .string ⟨#[60, 98, 62, 38]⟩] W (fun e w' => e = .returned (.tuple #[.string ⟨#[38, 108, 116, 59, 98, 38, 103, 116, 59, 38, 97, 109, 112, 59]⟩, .int .i64 0]) ∧ Below W.heap.size W w') from by
    have h := esTo_any 2 ⟨#[60, 98, 62, 38]⟩ W (by decide)
    rw [show (⟨#[60, 98, 62, 38]⟩ : ByteArray).data.toList = [60, 98, 62, 38] from rfl, Es.c2] at h
    exact h)
  have H3 := Lib.hid (fun W => show Calls Tryd.prog 8 #[.int .u8 3, .string ⟨#[99, 97, 102, 195, 169, 10, 33]⟩] W (fun e w' => e = .returned (.tuple #[.string ⟨#[99, 97, 102, 63, 32, 33]⟩, .int .i64 0]) ∧ Below W.heap.size W w') from by
    have h := esTo_any 3 ⟨#[99, 97, 102, 195, 169, 10, 33]⟩ W (by decide)
    rw [show (⟨#[99, 97, 102, 195, 169, 10, 33]⟩ : ByteArray).data.toList = [99, 97, 102, 195, 169, 10, 33] from rfl, Es.c3] at h
    exact h)
  have H4 := Lib.hid (fun W (hW : Es.Laid W) => show Calls Tryd.prog 10 #[.int .u8 2, .string ⟨#[38, 108, 116, 59, 98]⟩] W (fun e w' => e = .returned (.tuple #[.string ⟨#[60, 98]⟩, .int .i64 0]) ∧ Below W.heap.size W w') from by
    have h := esFrom_any 2 ⟨#[38, 108, 116, 59, 98]⟩ W (by decide) hW.syn
    rw [show (⟨#[38, 108, 116, 59, 98]⟩ : ByteArray).data.toList = [38, 108, 116, 59, 98] from rfl, Es.c4] at h
    exact h)
  have H5 := Lib.hid (fun W (hW : Es.Laid W) => show Calls Tryd.prog 10 #[.int .u8 2, .string ⟨#[97, 60, 98]⟩] W (fun e w' => e = .returned (.tuple #[.string ⟨#[]⟩, .int .i64 7]) ∧ Below W.heap.size W w') from by
    have h := esFrom_any 2 ⟨#[97, 60, 98]⟩ W (by decide) hW.syn
    rw [show (⟨#[97, 60, 98]⟩ : ByteArray).data.toList = [97, 60, 98] from rfl, Es.c5] at h
    exact h)
  have H6 := Lib.hid (fun W (hW : Es.Laid W) => show Calls Tryd.prog 13 #[.int .u8 3] W (fun e w' => e = .returned (.tuple #[.int .i64 160, .int .i64 0]) ∧ w' = W) from esMost_any 3 W hW.ways)
  have H7 := Lib.hid (fun W (hW : Es.Laid W) => show Calls Tryd.prog 15 #[.int .u8 1] W (fun e w' => e = .returned (.tuple #[.string ⟨#[112, 117, 115, 104]⟩, .int .i64 0]) ∧ Below W.heap.size W w') from esName_any 1 W hW.ways)
  have H8 := Lib.hid (fun W (hW : Es.Laid W) => show Calls Tryd.prog 17 #[.string ⟨#[101, 109, 97, 105, 108]⟩] W (fun e w' => e = .returned (.tuple #[.int .u8 2, .int .i64 0]) ∧ Below W.heap.size W w') from by
    have h := esNamed_any ⟨#[101, 109, 97, 105, 108]⟩ W hW.ways
    rw [show Es.namedR ⟨#[101, 109, 97, 105, 108]⟩ = (2, 0) from Es.named_yes _ 2 (by decide) (by decide) rfl] at h
    exact h)
  have H9 := Lib.hid (fun W => show Calls Tryd.prog 8 #[.int .u8 9, .string ⟨#[]⟩] W (fun e w' => e = .returned (.tuple #[.string ⟨#[]⟩, .int .i64 1]) ∧ Below W.heap.size W w') from by
    have h := esTo_any 9 ⟨#[]⟩ W (by decide)
    rw [show (⟨#[]⟩ : ByteArray).data.toList = [] from rfl, Es.c6] at h
    exact h)
  have HL := Lib.hid hL
  clear hL
  go_enter Tryd.func12, Tryd.ntmps12
  go_wp2_with fail
  refine (H1.out _).mono ?_
  rintro e w1 ⟨rfl, b1⟩
  have B1 := Lib.hid b1
  clear b1 H1
  go_wp2_with fail
  refine (H2.out _).mono ?_
  rintro e w2 ⟨rfl, b2⟩
  have B2 := Lib.hid (B1.out.trans (b2.mono B1.out.size))
  clear b2 H2
  go_wp2_with fail
  refine (H3.out _).mono ?_
  rintro e w3 ⟨rfl, b3⟩
  have B3 := Lib.hid (B2.out.trans (b3.mono B2.out.size))
  clear b3 H3
  go_wp2_with fail
  refine (H4.out _ (HL.out.below B3.out)).mono ?_
  rintro e w4 ⟨rfl, b4⟩
  have B4 := Lib.hid (B3.out.trans (b4.mono B3.out.size))
  clear b4 H4
  go_wp2_with fail
  refine (H5.out _ (HL.out.below B4.out)).mono ?_
  rintro e w5 ⟨rfl, b5⟩
  have B5 := Lib.hid (B4.out.trans (b5.mono B4.out.size))
  clear b5 H5
  go_wp2_with fail
  refine (H6.out _ (HL.out.below B5.out)).mono ?_
  rintro e w6 ⟨rfl, hw6⟩
  rw [hw6]
  clear hw6 w6 H6
  go_wp2_with fail
  refine (H7.out _ (HL.out.below B5.out)).mono ?_
  rintro e w7 ⟨rfl, b7⟩
  have B7 := Lib.hid (B5.out.trans (b7.mono B5.out.size))
  clear b7 H7
  go_wp2_with fail
  refine (H8.out _ (HL.out.below B7.out)).mono ?_
  rintro e w8 ⟨rfl, b8⟩
  have B8 := Lib.hid (B7.out.trans (b8.mono B7.out.size))
  clear b8 H8
  go_wp2_with fail
  refine (H9.out _).mono ?_
  rintro e w9 ⟨rfl, b9⟩
  have B9 := Lib.hid (B8.out.trans (b9.mono B8.out.size))
  clear b9 H9
  go_wp2_with fail
  go_ret
  exact ⟨rfl, B9.out⟩
end Go.Proofs.YtlhmbmnjajbbaaaDoor
