/-
  The walks of vet's small calls: root, and what Depth, Count and Plain put together. Conditions: numbers are small.
-/
import Derived.Test.YteajjlilpikdeaaGreatDoorVtA
namespace Go.Proofs.YteajjlilpikdeaaGreatDoor
open Go.RowKit

set_option maxRecDepth 100000 in
theorem vtCount1 (z : Int) (v : Value) (w : World) (k : Nat) (t : ByteArray) (pp : Option Addr) (np cp : Nat) (pk : Option Addr) (nk ck : Nat) (pe : Option Addr) (ne ce lev : Nat) (ie : Bool) (hz : 0 ≤ z ∧ z ≤ 1000000000000) (hv : v = .agg #[.int .u8 (k : Nat), .string t, .slice pp np cp, .slice pk nk ck, .slice pe ne ce, .int .i64 (lev : Nat), .bool ie]) :
    Calls Tryz.prog 68 #[.int .i64 z, v] w fun e w' => e = .returned (.int .i64 (z + 1)) ∧ Below w.heap.size w w' := by
  subst hv
  have hb := (Below.refl w.heap.size w).alloc (Nat.le_refl _) (.cells #[.int .u8 (k : Nat), .string t, .slice pp np cp, .slice pk nk ck, .slice pe ne ce, .int .i64 (lev : Nat), .bool ie] 74)
  obtain ⟨hz0, hz1⟩ := hz
  go_enter Tryz.func68, Tryz.ntmps68
  go_wp2_with fail
  go_ret
  exact ⟨rfl, hb⟩
set_option maxRecDepth 100000 in
theorem vtDepth1 (z : Int) (v : Value) (w : World) (k : Nat) (t : ByteArray) (pp : Option Addr) (np cp : Nat) (pk : Option Addr) (nk ck : Nat) (pe : Option Addr) (ne ce lev : Nat) (ie : Bool) (hv : v = .agg #[.int .u8 (k : Nat), .string t, .slice pp np cp, .slice pk nk ck, .slice pe ne ce, .int .i64 (lev : Nat), .bool ie]) :
    Calls Tryz.prog 66 #[.int .i64 z, v] w fun e w' => e = .returned (.int .i64 (max z (lev : Int))) ∧ Below w.heap.size w w' := by
  subst hv
  have hb := (Below.refl w.heap.size w).alloc (Nat.le_refl _) (.cells #[.int .u8 (k : Nat), .string t, .slice pp np cp, .slice pk nk ck, .slice pe ne ce, .int .i64 (lev : Nat), .bool ie] 74)
  go_enter Tryz.func66, Tryz.ntmps66
  go_wp2_with fail
  go_ret
  exact ⟨rfl, hb⟩
set_option maxRecDepth 100000 in
theorem vtPlain1 (z : Int) (v : Value) (w : World) (k : Nat) (t : ByteArray) (pp : Option Addr) (np cp : Nat) (pk : Option Addr) (nk ck : Nat) (pe : Option Addr) (ne ce lev : Nat) (ie : Bool) (hz : 0 ≤ z ∧ z ≤ 40000000000000000) (ht : t.size ≤ 140737488351232) (hv : v = .agg #[.int .u8 (k : Nat), .string t, .slice pp np cp, .slice pk nk ck, .slice pe ne ce, .int .i64 (lev : Nat), .bool ie]) :
    Calls Tryz.prog 70 #[.int .i64 z, v] w fun e w' => e = .returned (.int .i64 (z + (t.size : Int))) ∧ Below w.heap.size w w' := by
  subst hv
  have hb := (Below.refl w.heap.size w).alloc (Nat.le_refl _) (.cells #[.int .u8 (k : Nat), .string t, .slice pp np cp, .slice pk nk ck, .slice pe ne ce, .int .i64 (lev : Nat), .bool ie] 74)
  obtain ⟨hz0, hz1⟩ := hz
  go_enter Tryz.func70, Tryz.ntmps70
  go_wp2_with fail
  go_ret
  exact ⟨rfl, hb⟩
end Go.Proofs.YteajjlilpikdeaaGreatDoor
