/-
  Contracts of value's calls that leave open how deep a value is. Condition: as the theorems state.
-/
import Derived.Test.YtcpebkhpocdeoaaDoorVlLaws
namespace Go.Proofs.YtcpebkhpocdeoaaDoor
open Go.RowKit

/-- A value reads so, of some depth. -/
def Vl.AtE (w : World) (v : Value) (x : Vl.V) : Prop := ∃ d, Vl.At d w v x
theorem Vl.AtE.below {w w' : World} {v : Value} {x : Vl.V} (h : Vl.AtE w v x) (hb : Below w.heap.size w w') : Vl.AtE w' v x := by
  obtain ⟨d, h⟩ := h
  exact ⟨d, h.below hb⟩
theorem Vl.AtE.shape {w : World} {v : Value} {x : Vl.V} (h : Vl.AtE w v x) : ∃ (k : Nat) (t : ByteArray) (i : Int) (pi : Option Addr) (ni ci : Nat) (pn : Option Addr) (nn cn : Nat), v = .agg #[.int .u8 k, .string t, .int .i64 i, .slice pi ni ci, .slice pn nn cn] := by
  obtain ⟨d, h⟩ := h
  exact h.shape
theorem Vl.AtE.zero (w : World) : Vl.AtE w (.agg #[.int .u8 0, .string ⟨#[]⟩, .int .i64 0, .slice none 0 0, .slice none 0 0]) Vl.zero := ⟨1, Vl.At.zero 0 w⟩
/-- A value that a call hands back. -/
def Vl.RE (x : Vl.V) (rest : List Value) (w : World) (e : Ending) (w' : World) : Prop := ∃ (k : Nat) (t : ByteArray) (i : Int) (pi : Option Addr) (ni ci : Nat) (pn : Option Addr) (nn cn : Nat), e = .returned (.tuple (List.toArray (.agg #[.int .u8 k, .string t, .int .i64 i, .slice pi ni ci, .slice pn nn cn] :: rest))) ∧ Vl.AtE w' (.agg #[.int .u8 k, .string t, .int .i64 i, .slice pi ni ci, .slice pn nn cn]) x ∧ Below w.heap.size w w'
theorem Vl.re_of {d : Nat} {x : Vl.V} {u : Value} {rest : List Value} {w w' : World} (h : Vl.At (d + 1) w' u x) (hb : Below w.heap.size w w') : Vl.RE x rest w (.returned (.tuple (List.toArray (u :: rest)))) w' := by
  obtain ⟨pi, ci, pn, cn, rfl, h2⟩ := h
  exact ⟨_, _, _, _, _, _, _, _, _, rfl, ⟨d + 1, pi, ci, pn, cn, rfl, h2⟩, hb⟩
theorem Vl.with_ofE {V X U : Vl.V} {c : Int} {v x : Value} {s : ByteArray} {W : World} (hs : s.size ≤ 140737488351232) (hv : Vl.AtE W v V) (hx : Vl.AtE W x X) (h : Vl.withR V s X = (U, c)) :
    Calls Tryd.prog 24 #[v, .string s, x] W (Vl.RE U [.int .i64 c] W) := by
  obtain ⟨d, hv⟩ := hv
  obtain ⟨e, hx⟩ := hx
  refine (vlWith_any (max d e) V X v x s W hs (hv.le (by omega)) (hx.le (by omega))).mono ?_
  rintro q W' ⟨u, rfl, h1, h2⟩
  rw [h] at h1 ⊢
  exact Vl.re_of h1 h2
theorem Vl.find_ofE {V U : Vl.V} {c : Int} {v : Value} {l : List ByteArray} {p : Option Addr} {cap : Nat} {W : World} (hl : l.length ≤ 140737488351232) (hv : Vl.AtE W v V) (hp : Wp.At Wp.mkT W p l) (h : Vl.findR V l = (U, c)) :
    Calls Tryd.prog 8 #[v, .slice p l.length cap] W (Vl.RE U [.int .i64 c] W) := by
  obtain ⟨d, hv⟩ := hv
  refine (vlFind_any d V v W hv.succ p cap l hl hp).mono ?_
  rintro q W' ⟨u, rfl, h1, h2⟩
  rw [h] at h1 ⊢
  exact Vl.re_of h1 h2
theorem Vl.same_ofE {x : Vl.V} {u v : Value} {W : World} (hu : Vl.AtE W u x) (hv : Vl.AtE W v x) : Calls Tryd.prog 15 #[u, v] W fun e w' => e = .returned (.bool true) ∧ Below W.heap.size W w' := by
  obtain ⟨d, hu⟩ := hu
  obtain ⟨e, hv⟩ := hv
  exact vlSame_any (max d e) x u v W (hu.le (by omega)) (hv.le (by omega))
theorem Vl.holds_ofE {V : Vl.V} {b : Bool} {c : Int} {v : Value} {W : World} (hv : Vl.AtE W v V) (h : Vl.holdsR V = (b, c)) : Calls Tryd.prog 12 #[v] W fun e w' => e = .returned (.tuple #[.bool b, .int .i64 c]) ∧ Below W.heap.size W w' := by
  obtain ⟨d, hv⟩ := hv
  have := vlHolds_any d V v W hv
  rw [h] at this
  exact this
end Go.Proofs.YtcpebkhpocdeoaaDoor
