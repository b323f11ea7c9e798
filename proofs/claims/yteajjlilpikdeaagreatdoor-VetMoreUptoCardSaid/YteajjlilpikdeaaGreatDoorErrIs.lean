
/-
  errors.Is by its contracts, for what everyday code hands it where the target is a sentinel of errors.New's make: the sentinel itself, nil, another one. Conditions: the errors lie in blocks that are not frozen.
-/
import Derived.Test.YteajjlilpikdeaaGreatDoorRows
import Derived.WalkKit
import Derived.LaidEql
import Derived.Stop.Asserts
import Derived.RowKitTokens
namespace Go.Proofs.YteajjlilpikdeaaGreatDoor
open Go.RowKit Go.Extern.Stop Go.Stop Go.Extern Go.Extern.Rtype

theorem Er.typeOf (v : Value) (w : World) : (Extern.ReflectliteType.typeOf #[.iface 204 v]).run Tryz.prog w = .ok (.iface 139 (.agg #[.pointer (some ⟨6, 204, none⟩)])) w := by kernel_rfl
def Er.cmpM : Array Value → Sem Value := Extern.ReflectliteType.method fun t => do noPackHeld "Comparable" t; pure (.bool (← typeInfo t).comparable)
theorem Er.comparable (w : World) : (Er.cmpM #[.agg #[.pointer (some ⟨6, 204, none⟩)]]).run Tryz.prog w = .ok (.bool true) w := by kernel_rfl
theorem Er.methodComparable (v : Value) (w : World) : (Go.method 337 139 v "Comparable").run Tryz.prog w = .ok (204, v) w := by kernel_rfl
theorem Er.comp : (Tryz.prog.info? 204).map (·.comparable) = some true := by kernel_rfl
theorem Er.size : (Tryz.prog.info? 226).map (·.size) = some 1 := by kernel_rfl
theorem Er.noIs (v : Value) (xT : TypeId) (w : World) : (Instr.typeAssert (.iface 204 v) xT 141 true).run Tryz.prog w = .ok (.tuple #[.nilIface, .bool false]) w := run_typeAssert_lacksB Tryz.underlying141 (by kernel_rfl) (by kernel_rfl) v xT w
theorem Er.noUnwrap (v : Value) (xT : TypeId) (w : World) : (Instr.typeAssert (.iface 204 v) xT 144 true).run Tryz.prog w = .ok (.tuple #[.nilIface, .bool false]) w := run_typeAssert_lacksB Tryz.underlying144 (by kernel_rfl) (by kernel_rfl) v xT w
theorem Er.noUnwraps (v : Value) (xT : TypeId) (w : World) : (Instr.typeAssert (.iface 204 v) xT 146 true).run Tryz.prog w = .ok (.tuple #[.nilIface, .bool false]) w := run_typeAssert_lacksB Tryz.underlying146 (by kernel_rfl) (by kernel_rfl) v xT w
set_option maxRecDepth 100000 in
/-- errors.Is(x, x), x a pointer to an errors.errorString. -/
theorem is_same (a : Addr) (w : World) :
    Calls Tryz.prog 46 #[.iface 204 (.pointer (some a)), .iface 204 (.pointer (some a))] w fun e w' => e = .returned (.bool true) ∧ w' = w := by
  obtain ⟨i, hi, hcmp⟩ := Option.map_eq_some_iff.1 Er.comp
  obtain ⟨j, hj, hjs⟩ := Option.map_eq_some_iff.1 Er.size
  have h8 := @run_callFunc_extern Tryz.prog 90 _ Extern.ReflectliteType.typeOf Tryz.func90 (by kernel_rfl) (by kernel_rfl) (by kernel_rfl) (by kernel_rfl)
  have h32 := @run_callFunc_extern Tryz.prog 204 _ Er.cmpM Tryz.func204 (by kernel_rfl) (by kernel_rfl) (by kernel_rfl) (by kernel_rfl)
  have tT := Er.typeOf
  have cT := Er.comparable
  have mR := Er.methodComparable
  have heq := run_eql_iface_ptr_same (P := Tryz.prog) w a Tryz.underlying57 Tryz.underlying204 hi hcmp hj
  go_enter Tryz.func46, Tryz.ntmps46
  go_wp2
  refine wp_loop_rounds 1 ?_
  rw [rounds_succ]
  go_wp2
  go_ret
  exact ⟨rfl, rfl⟩
set_option maxRecDepth 100000 in
/-- errors.Is(nil, x). -/
theorem is_nil (b : Addr) (w : World) :
    Calls Tryz.prog 46 #[.nilIface, .iface 204 (.pointer (some b))] w fun e w' => e = .returned (.bool false) ∧ w' = w := by
  have hn := run_eql_iface_nil_left (P := Tryz.prog) w 204 (.pointer (some b)) Tryz.underlying57
  go_enter Tryz.func46, Tryz.ntmps46
  go_wp2
  go_ret
  exact ⟨rfl, rfl⟩
set_option maxRecDepth 100000 in
/-- errors.Is(x, y), two different pointers to errors.errorString: neither has Is nor Unwrap: false. -/
theorem is_other (a b : Addr) (ca cb : Array Value) (ta tb : TypeId) (w : World) (hne : a ≠ b) (ha : w.heap[a.block]? = some (.cells ca ta (0, 0))) (hb : w.heap[b.block]? = some (.cells cb tb (0, 0))) :
    Calls Tryz.prog 46 #[.iface 204 (.pointer (some a)), .iface 204 (.pointer (some b))] w fun e w' => e = .returned (.bool false) ∧ w' = w := by
  obtain ⟨i, hi, hcmp⟩ := Option.map_eq_some_iff.1 Er.comp
  obtain ⟨j, hj, hjs⟩ := Option.map_eq_some_iff.1 Er.size
  have h8 := @run_callFunc_extern Tryz.prog 90 _ Extern.ReflectliteType.typeOf Tryz.func90 (by kernel_rfl) (by kernel_rfl) (by kernel_rfl) (by kernel_rfl)
  have h32 := @run_callFunc_extern Tryz.prog 204 _ Er.cmpM Tryz.func204 (by kernel_rfl) (by kernel_rfl) (by kernel_rfl) (by kernel_rfl)
  have tT := Er.typeOf
  have cT := Er.comparable
  have mR := Er.methodComparable
  have nE := Er.noIs
  have uE := Er.noUnwrap
  have vE := Er.noUnwraps
  have heq := run_eql_iface_ptr_other (P := Tryz.prog) w Tryz.underlying57 Tryz.underlying204 hi hcmp hj (by rw [hjs]; decide) hne ha hb
  go_enter Tryz.func46, Tryz.ntmps46
  go_wp2
  refine wp_loop_rounds 1 ?_
  rw [rounds_succ]
  go_wp2
  go_ret
  exact ⟨rfl, rfl⟩
end Go.Proofs.YteajjlilpikdeaaGreatDoor
