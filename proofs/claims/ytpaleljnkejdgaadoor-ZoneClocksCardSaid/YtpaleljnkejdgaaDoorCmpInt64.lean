/-
  The walk of cmp.Compare at int64: less, equal, or more. No condition.
-/
import Derived.Test.YtpaleljnkejdgaaDoorProg
import Derived.Test.YtpaleljnkejdgaaDoorCivCalls
import Derived.Lib.Small
namespace Go.Proofs.YtpaleljnkejdgaaDoor
open Go.RowKit Go.Lib

theorem cmp64_isNaN (x : Int) (w : World) : Calls Tryd.prog 123 #[.int .i64 x] w fun e w' => e = .returned (.bool false) ∧ w' = w := by
  go_enter Tryd.func123, Tryd.ntmps123
  go_wp2_with fail
  go_ret
  exact ⟨rfl, rfl⟩
theorem cmp64_Compare (x y : Int) (w : World) : Calls Tryd.prog 92 #[.int .i64 x, .int .i64 y] w fun e w' => e = .returned (.int .i64 (Lib.compareInt x y)) ∧ w' = w := by
  have A := fun x w => cmp64_isNaN x w
  have HR := Lib.hid (show Lib.compareInt x y = if x < y then -1 else if x > y then 1 else 0 from rfl)
  by_cases h1 : x < y
  · have HR2 := Lib.hid (HR.out.trans (if_pos h1))
    go_enter Tryd.func92, Tryd.ntmps92
    go_wp2_with fail
    refine (A _ _).mono ?_
    rintro e w' ⟨rfl, rfl⟩
    go_wp2_with fail
    refine (A _ _).mono ?_
    rintro e w' ⟨rfl, rfl⟩
    go_wp2_with fail
    go_ret
    exact ⟨by rw [HR2.out]; rfl, rfl⟩
  · by_cases h2 : x > y
    · have HR2 := Lib.hid (HR.out.trans ((if_neg h1).trans (if_pos h2)))
      go_enter Tryd.func92, Tryd.ntmps92
      go_wp2_with fail
      refine (A _ _).mono ?_
      rintro e w' ⟨rfl, rfl⟩
      go_wp2_with fail
      refine (A _ _).mono ?_
      rintro e w' ⟨rfl, rfl⟩
      go_wp2_with fail
      go_ret
      exact ⟨by rw [HR2.out]; rfl, rfl⟩
    · have HR2 := Lib.hid (HR.out.trans ((if_neg h1).trans (if_neg h2)))
      obtain rfl : x = y := by omega
      clear h1 h2
      go_enter Tryd.func92, Tryd.ntmps92
      go_wp2_with fail
      refine (A _ _).mono ?_
      rintro e w' ⟨rfl, rfl⟩
      go_wp2_with fail
      refine (A _ _).mono ?_
      rintro e w' ⟨rfl, rfl⟩
      go_wp2_with fail
      go_ret
      exact ⟨by rw [HR2.out]; rfl, rfl⟩
end Go.Proofs.YtpaleljnkejdgaaDoor
