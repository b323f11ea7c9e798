/-
  The walk of the document's own names of zones (bellmanref06.Named). No condition but those that the theorems state.
-/
import Derived.Test.YtpaleljnkejdgaaDoorRZonSmall
import Derived.Test.YtpaleljnkejdgaaDoorZonNamed
namespace Go.Proofs.YtpaleljnkejdgaaDoor
open Go.RowKit

set_option maxRecDepth 10000 in
set_option maxHeartbeats 2000000 in
theorem rzon_Named_0 (nm : ByteArray) (w : World) (q0 : (nm.toList == [85, 84, 67]) = true) : Calls Tryd.prog 26 #[.string nm] w fun e w' => e = .returned (.tuple #[.agg #[.int .i64 0, .int .i64 0, .int .i64 0, .int .i64 0, .int .i64 0, .int .i64 0, .int .i64 0, .int .i64 0, .int .i64 0, .int .i64 0], .int .i64 0]) ∧ Below w.heap.size w w' := by
  go_enter Tryd.func26, Tryd.ntmps26
  go_wp2_with fail
  refine bodyPost_ret (cv_ret rfl _ _ w.heap.size 48 _ _ rfl ((cv_past _ _ _ (by simp only [World.size_alloc]; omega)).trans ((cv_past _ _ _ (by simp only [World.size_alloc]; omega)).trans ((cv_past _ _ _ (by simp only [World.size_alloc]; omega)).trans ((cv_past _ _ _ (by simp only [World.size_alloc]; omega)).trans (cv_new w _))))) Tryd.underlying48 rfl (by kernel_rfl)) rfl ?_
  exact ⟨rfl, ((((Wp.below_box w _).alloc (by simp only [World.size_alloc]; omega) _).alloc (by simp only [World.size_alloc]; omega) _).alloc (by simp only [World.size_alloc]; omega) _).alloc (by simp only [World.size_alloc]; omega) _⟩
set_option maxRecDepth 10000 in
set_option maxHeartbeats 2000000 in
theorem rzon_Named_1 (nm : ByteArray) (w : World) (q0 : (nm.toList == [85, 84, 67]) = false) (q1 : (nm.toList == [69, 117, 114, 111, 112, 101, 47, 76, 111, 110, 100, 111, 110]) = true) : Calls Tryd.prog 26 #[.string nm] w fun e w' => e = .returned (.tuple #[.agg #[.int .i64 0, .int .i64 60, .int .i64 3, .int .i64 5, .int .i64 0, .int .i64 60, .int .i64 10, .int .i64 5, .int .i64 0, .int .i64 120], .int .i64 0]) ∧ Below w.heap.size w w' := by
  go_enter Tryd.func26, Tryd.ntmps26
  go_wp2_with fail
  refine bodyPost_ret (cv_ret rfl _ _ w.heap.size 48 _ _ rfl ((cv_past _ _ _ (by simp only [World.size_alloc]; omega)).trans ((cv_past _ _ _ (by simp only [World.size_alloc]; omega)).trans ((cv_past _ _ _ (by simp only [World.size_alloc]; omega)).trans ((cv_past _ _ _ (by simp only [World.size_alloc]; omega)).trans (cv_new w _))))) Tryd.underlying48 rfl (by kernel_rfl)) rfl ?_
  exact ⟨rfl, ((((Wp.below_box w _).alloc (by simp only [World.size_alloc]; omega) _).alloc (by simp only [World.size_alloc]; omega) _).alloc (by simp only [World.size_alloc]; omega) _).alloc (by simp only [World.size_alloc]; omega) _⟩
set_option maxRecDepth 10000 in
set_option maxHeartbeats 2000000 in
theorem rzon_Named_2 (nm : ByteArray) (w : World) (q0 : (nm.toList == [85, 84, 67]) = false) (q1 : (nm.toList == [69, 117, 114, 111, 112, 101, 47, 76, 111, 110, 100, 111, 110]) = false) (q2 : (nm.toList == [69, 117, 114, 111, 112, 101, 47, 66, 101, 114, 108, 105, 110]) = true) : Calls Tryd.prog 26 #[.string nm] w fun e w' => e = .returned (.tuple #[.agg #[.int .i64 60, .int .i64 60, .int .i64 3, .int .i64 5, .int .i64 0, .int .i64 120, .int .i64 10, .int .i64 5, .int .i64 0, .int .i64 180], .int .i64 0]) ∧ Below w.heap.size w w' := by
  go_enter Tryd.func26, Tryd.ntmps26
  go_wp2_with fail
  refine bodyPost_ret (cv_ret rfl _ _ w.heap.size 48 _ _ rfl ((cv_past _ _ _ (by simp only [World.size_alloc]; omega)).trans ((cv_past _ _ _ (by simp only [World.size_alloc]; omega)).trans ((cv_past _ _ _ (by simp only [World.size_alloc]; omega)).trans ((cv_past _ _ _ (by simp only [World.size_alloc]; omega)).trans (cv_new w _))))) Tryd.underlying48 rfl (by kernel_rfl)) rfl ?_
  exact ⟨rfl, ((((Wp.below_box w _).alloc (by simp only [World.size_alloc]; omega) _).alloc (by simp only [World.size_alloc]; omega) _).alloc (by simp only [World.size_alloc]; omega) _).alloc (by simp only [World.size_alloc]; omega) _⟩
set_option maxRecDepth 10000 in
set_option maxHeartbeats 2000000 in
theorem rzon_Named_3 (nm : ByteArray) (w : World) (q0 : (nm.toList == [85, 84, 67]) = false) (q1 : (nm.toList == [69, 117, 114, 111, 112, 101, 47, 76, 111, 110, 100, 111, 110]) = false) (q2 : (nm.toList == [69, 117, 114, 111, 112, 101, 47, 66, 101, 114, 108, 105, 110]) = false) (q3 : (nm.toList == [65, 109, 101, 114, 105, 99, 97, 47, 78, 101, 119, 95, 89, 111, 114, 107]) = true) : Calls Tryd.prog 26 #[.string nm] w fun e w' => e = .returned (.tuple #[.agg #[.int .i64 (-300), .int .i64 60, .int .i64 3, .int .i64 2, .int .i64 0, .int .i64 120, .int .i64 11, .int .i64 1, .int .i64 0, .int .i64 120], .int .i64 0]) ∧ Below w.heap.size w w' := by
  go_enter Tryd.func26, Tryd.ntmps26
  go_wp2_with fail
  refine bodyPost_ret (cv_ret rfl _ _ w.heap.size 48 _ _ rfl ((cv_past _ _ _ (by simp only [World.size_alloc]; omega)).trans ((cv_past _ _ _ (by simp only [World.size_alloc]; omega)).trans ((cv_past _ _ _ (by simp only [World.size_alloc]; omega)).trans ((cv_past _ _ _ (by simp only [World.size_alloc]; omega)).trans (cv_new w _))))) Tryd.underlying48 rfl (by kernel_rfl)) rfl ?_
  exact ⟨rfl, ((((Wp.below_box w _).alloc (by simp only [World.size_alloc]; omega) _).alloc (by simp only [World.size_alloc]; omega) _).alloc (by simp only [World.size_alloc]; omega) _).alloc (by simp only [World.size_alloc]; omega) _⟩
set_option maxRecDepth 10000 in
set_option maxHeartbeats 2000000 in
theorem rzon_Named_4 (nm : ByteArray) (w : World) (q0 : (nm.toList == [85, 84, 67]) = false) (q1 : (nm.toList == [69, 117, 114, 111, 112, 101, 47, 76, 111, 110, 100, 111, 110]) = false) (q2 : (nm.toList == [69, 117, 114, 111, 112, 101, 47, 66, 101, 114, 108, 105, 110]) = false) (q3 : (nm.toList == [65, 109, 101, 114, 105, 99, 97, 47, 78, 101, 119, 95, 89, 111, 114, 107]) = false) (q4 : (nm.toList == [65, 109, 101, 114, 105, 99, 97, 47, 76, 111, 115, 95, 65, 110, 103, 101, 108, 101, 115]) = true) : Calls Tryd.prog 26 #[.string nm] w fun e w' => e = .returned (.tuple #[.agg #[.int .i64 (-480), .int .i64 60, .int .i64 3, .int .i64 2, .int .i64 0, .int .i64 120, .int .i64 11, .int .i64 1, .int .i64 0, .int .i64 120], .int .i64 0]) ∧ Below w.heap.size w w' := by
  go_enter Tryd.func26, Tryd.ntmps26
  go_wp2_with fail
  refine bodyPost_ret (cv_ret rfl _ _ w.heap.size 48 _ _ rfl ((cv_past _ _ _ (by simp only [World.size_alloc]; omega)).trans ((cv_past _ _ _ (by simp only [World.size_alloc]; omega)).trans ((cv_past _ _ _ (by simp only [World.size_alloc]; omega)).trans ((cv_past _ _ _ (by simp only [World.size_alloc]; omega)).trans (cv_new w _))))) Tryd.underlying48 rfl (by kernel_rfl)) rfl ?_
  exact ⟨rfl, ((((Wp.below_box w _).alloc (by simp only [World.size_alloc]; omega) _).alloc (by simp only [World.size_alloc]; omega) _).alloc (by simp only [World.size_alloc]; omega) _).alloc (by simp only [World.size_alloc]; omega) _⟩
set_option maxRecDepth 10000 in
set_option maxHeartbeats 2000000 in
theorem rzon_Named_5 (nm : ByteArray) (w : World) (q0 : (nm.toList == [85, 84, 67]) = false) (q1 : (nm.toList == [69, 117, 114, 111, 112, 101, 47, 76, 111, 110, 100, 111, 110]) = false) (q2 : (nm.toList == [69, 117, 114, 111, 112, 101, 47, 66, 101, 114, 108, 105, 110]) = false) (q3 : (nm.toList == [65, 109, 101, 114, 105, 99, 97, 47, 78, 101, 119, 95, 89, 111, 114, 107]) = false) (q4 : (nm.toList == [65, 109, 101, 114, 105, 99, 97, 47, 76, 111, 115, 95, 65, 110, 103, 101, 108, 101, 115]) = false) (q5 : (nm.toList == [65, 115, 105, 97, 47, 75, 111, 108, 107, 97, 116, 97]) = true) : Calls Tryd.prog 26 #[.string nm] w fun e w' => e = .returned (.tuple #[.agg #[.int .i64 330, .int .i64 0, .int .i64 0, .int .i64 0, .int .i64 0, .int .i64 0, .int .i64 0, .int .i64 0, .int .i64 0, .int .i64 0], .int .i64 0]) ∧ Below w.heap.size w w' := by
  go_enter Tryd.func26, Tryd.ntmps26
  go_wp2_with fail
  refine bodyPost_ret (cv_ret rfl _ _ w.heap.size 48 _ _ rfl ((cv_past _ _ _ (by simp only [World.size_alloc]; omega)).trans ((cv_past _ _ _ (by simp only [World.size_alloc]; omega)).trans ((cv_past _ _ _ (by simp only [World.size_alloc]; omega)).trans ((cv_past _ _ _ (by simp only [World.size_alloc]; omega)).trans (cv_new w _))))) Tryd.underlying48 rfl (by kernel_rfl)) rfl ?_
  exact ⟨rfl, ((((Wp.below_box w _).alloc (by simp only [World.size_alloc]; omega) _).alloc (by simp only [World.size_alloc]; omega) _).alloc (by simp only [World.size_alloc]; omega) _).alloc (by simp only [World.size_alloc]; omega) _⟩
set_option maxRecDepth 10000 in
set_option maxHeartbeats 2000000 in
theorem rzon_Named_6 (nm : ByteArray) (w : World) (q0 : (nm.toList == [85, 84, 67]) = false) (q1 : (nm.toList == [69, 117, 114, 111, 112, 101, 47, 76, 111, 110, 100, 111, 110]) = false) (q2 : (nm.toList == [69, 117, 114, 111, 112, 101, 47, 66, 101, 114, 108, 105, 110]) = false) (q3 : (nm.toList == [65, 109, 101, 114, 105, 99, 97, 47, 78, 101, 119, 95, 89, 111, 114, 107]) = false) (q4 : (nm.toList == [65, 109, 101, 114, 105, 99, 97, 47, 76, 111, 115, 95, 65, 110, 103, 101, 108, 101, 115]) = false) (q5 : (nm.toList == [65, 115, 105, 97, 47, 75, 111, 108, 107, 97, 116, 97]) = false) (q6 : (nm.toList == [65, 115, 105, 97, 47, 84, 111, 107, 121, 111]) = true) : Calls Tryd.prog 26 #[.string nm] w fun e w' => e = .returned (.tuple #[.agg #[.int .i64 540, .int .i64 0, .int .i64 0, .int .i64 0, .int .i64 0, .int .i64 0, .int .i64 0, .int .i64 0, .int .i64 0, .int .i64 0], .int .i64 0]) ∧ Below w.heap.size w w' := by
  go_enter Tryd.func26, Tryd.ntmps26
  go_wp2_with fail
  refine bodyPost_ret (cv_ret rfl _ _ w.heap.size 48 _ _ rfl ((cv_past _ _ _ (by simp only [World.size_alloc]; omega)).trans ((cv_past _ _ _ (by simp only [World.size_alloc]; omega)).trans ((cv_past _ _ _ (by simp only [World.size_alloc]; omega)).trans ((cv_past _ _ _ (by simp only [World.size_alloc]; omega)).trans (cv_new w _))))) Tryd.underlying48 rfl (by kernel_rfl)) rfl ?_
  exact ⟨rfl, ((((Wp.below_box w _).alloc (by simp only [World.size_alloc]; omega) _).alloc (by simp only [World.size_alloc]; omega) _).alloc (by simp only [World.size_alloc]; omega) _).alloc (by simp only [World.size_alloc]; omega) _⟩
set_option maxRecDepth 10000 in
set_option maxHeartbeats 2000000 in
theorem rzon_Named_7 (nm : ByteArray) (w : World) (q0 : (nm.toList == [85, 84, 67]) = false) (q1 : (nm.toList == [69, 117, 114, 111, 112, 101, 47, 76, 111, 110, 100, 111, 110]) = false) (q2 : (nm.toList == [69, 117, 114, 111, 112, 101, 47, 66, 101, 114, 108, 105, 110]) = false) (q3 : (nm.toList == [65, 109, 101, 114, 105, 99, 97, 47, 78, 101, 119, 95, 89, 111, 114, 107]) = false) (q4 : (nm.toList == [65, 109, 101, 114, 105, 99, 97, 47, 76, 111, 115, 95, 65, 110, 103, 101, 108, 101, 115]) = false) (q5 : (nm.toList == [65, 115, 105, 97, 47, 75, 111, 108, 107, 97, 116, 97]) = false) (q6 : (nm.toList == [65, 115, 105, 97, 47, 84, 111, 107, 121, 111]) = false) (q7 : (nm.toList == [65, 117, 115, 116, 114, 97, 108, 105, 97, 47, 83, 121, 100, 110, 101, 121]) = true) : Calls Tryd.prog 26 #[.string nm] w fun e w' => e = .returned (.tuple #[.agg #[.int .i64 600, .int .i64 60, .int .i64 10, .int .i64 1, .int .i64 0, .int .i64 120, .int .i64 4, .int .i64 1, .int .i64 0, .int .i64 180], .int .i64 0]) ∧ Below w.heap.size w w' := by
  go_enter Tryd.func26, Tryd.ntmps26
  go_wp2_with fail
  refine bodyPost_ret (cv_ret rfl _ _ w.heap.size 48 _ _ rfl ((cv_past _ _ _ (by simp only [World.size_alloc]; omega)).trans ((cv_past _ _ _ (by simp only [World.size_alloc]; omega)).trans ((cv_past _ _ _ (by simp only [World.size_alloc]; omega)).trans ((cv_past _ _ _ (by simp only [World.size_alloc]; omega)).trans (cv_new w _))))) Tryd.underlying48 rfl (by kernel_rfl)) rfl ?_
  exact ⟨rfl, ((((Wp.below_box w _).alloc (by simp only [World.size_alloc]; omega) _).alloc (by simp only [World.size_alloc]; omega) _).alloc (by simp only [World.size_alloc]; omega) _).alloc (by simp only [World.size_alloc]; omega) _⟩
set_option maxRecDepth 10000 in
set_option maxHeartbeats 2000000 in
theorem rzon_Named_8 (nm : ByteArray) (w : World) (q0 : (nm.toList == [85, 84, 67]) = false) (q1 : (nm.toList == [69, 117, 114, 111, 112, 101, 47, 76, 111, 110, 100, 111, 110]) = false) (q2 : (nm.toList == [69, 117, 114, 111, 112, 101, 47, 66, 101, 114, 108, 105, 110]) = false) (q3 : (nm.toList == [65, 109, 101, 114, 105, 99, 97, 47, 78, 101, 119, 95, 89, 111, 114, 107]) = false) (q4 : (nm.toList == [65, 109, 101, 114, 105, 99, 97, 47, 76, 111, 115, 95, 65, 110, 103, 101, 108, 101, 115]) = false) (q5 : (nm.toList == [65, 115, 105, 97, 47, 75, 111, 108, 107, 97, 116, 97]) = false) (q6 : (nm.toList == [65, 115, 105, 97, 47, 84, 111, 107, 121, 111]) = false) (q7 : (nm.toList == [65, 117, 115, 116, 114, 97, 108, 105, 97, 47, 83, 121, 100, 110, 101, 121]) = false) : Calls Tryd.prog 26 #[.string nm] w fun e w' => e = .returned (.tuple #[.agg #[.int .i64 0, .int .i64 0, .int .i64 0, .int .i64 0, .int .i64 0, .int .i64 0, .int .i64 0, .int .i64 0, .int .i64 0, .int .i64 0], .int .i64 13]) ∧ Below w.heap.size w w' := by
  go_enter Tryd.func26, Tryd.ntmps26
  go_wp2_with fail
  refine bodyPost_ret (cv_ret rfl _ _ w.heap.size 48 _ _ rfl ((cv_past _ _ _ (by simp only [World.size_alloc]; omega)).trans ((cv_past _ _ _ (by simp only [World.size_alloc]; omega)).trans ((cv_past _ _ _ (by simp only [World.size_alloc]; omega)).trans ((cv_past _ _ _ (by simp only [World.size_alloc]; omega)).trans (cv_new w _))))) Tryd.underlying48 rfl (by kernel_rfl)) rfl ?_
  exact ⟨rfl, ((((Wp.below_box w _).alloc (by simp only [World.size_alloc]; omega) _).alloc (by simp only [World.size_alloc]; omega) _).alloc (by simp only [World.size_alloc]; omega) _).alloc (by simp only [World.size_alloc]; omega) _⟩
theorem rzon_Named (nm : ByteArray) (z : Wp.Zn) (e0 : Int) (w : World) (h : Zt.At nm z e0) : Calls Tryd.prog 26 #[.string nm] w fun e w' => e = .returned (.tuple #[.agg (Wp.zoneC z), .int .i64 e0]) ∧ Below w.heap.size w w' := by
  have no : ∀ b : ByteArray, nm ≠ b → (nm.toList == b.data.toList) = false := fun b hb => by
    rw [beq_eq_false_iff_ne, ByteArray.toList_eq]
    exact fun q => hb (ByteArray.ext (Array.toList_inj.1 q))
  have yes : ∀ b : ByteArray, nm = b → (nm.toList == b.data.toList) = true := fun b hb => by
    rw [hb, ByteArray.toList_eq]
    exact beq_self_eq_true _
  rcases h with ⟨k, hk, hnm, hno, rfl, rfl⟩ | ⟨hno, rfl, rfl⟩
  · have hk2 : k = 0 ∨ k = 1 ∨ k = 2 ∨ k = 3 ∨ k = 4 ∨ k = 5 ∨ k = 6 ∨ k = 7 := by omega
    rcases hk2 with rfl | rfl | rfl | rfl | rfl | rfl | rfl | rfl
    · exact rzon_Named_0 nm w  (yes _ hnm)
    · exact rzon_Named_1 nm w (no _ (hno 0 (by omega))) (yes _ hnm)
    · exact rzon_Named_2 nm w (no _ (hno 0 (by omega))) (no _ (hno 1 (by omega))) (yes _ hnm)
    · exact rzon_Named_3 nm w (no _ (hno 0 (by omega))) (no _ (hno 1 (by omega))) (no _ (hno 2 (by omega))) (yes _ hnm)
    · exact rzon_Named_4 nm w (no _ (hno 0 (by omega))) (no _ (hno 1 (by omega))) (no _ (hno 2 (by omega))) (no _ (hno 3 (by omega))) (yes _ hnm)
    · exact rzon_Named_5 nm w (no _ (hno 0 (by omega))) (no _ (hno 1 (by omega))) (no _ (hno 2 (by omega))) (no _ (hno 3 (by omega))) (no _ (hno 4 (by omega))) (yes _ hnm)
    · exact rzon_Named_6 nm w (no _ (hno 0 (by omega))) (no _ (hno 1 (by omega))) (no _ (hno 2 (by omega))) (no _ (hno 3 (by omega))) (no _ (hno 4 (by omega))) (no _ (hno 5 (by omega))) (yes _ hnm)
    · exact rzon_Named_7 nm w (no _ (hno 0 (by omega))) (no _ (hno 1 (by omega))) (no _ (hno 2 (by omega))) (no _ (hno 3 (by omega))) (no _ (hno 4 (by omega))) (no _ (hno 5 (by omega))) (no _ (hno 6 (by omega))) (yes _ hnm)
  · exact rzon_Named_8 nm w (no _ (hno 0 (by omega))) (no _ (hno 1 (by omega))) (no _ (hno 2 (by omega))) (no _ (hno 3 (by omega))) (no _ (hno 4 (by omega))) (no _ (hno 5 (by omega))) (no _ (hno 6 (by omega))) (no _ (hno 7 (by omega)))
end Go.Proofs.YtpaleljnkejdgaaDoor
