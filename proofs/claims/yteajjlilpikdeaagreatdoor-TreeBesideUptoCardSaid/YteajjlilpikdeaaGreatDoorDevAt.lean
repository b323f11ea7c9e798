
/-
  What a device's value reads as; the walks of block's smallest calls (holds, spend) and of Check. Conditions: a device's lists and numbers are of a size that a machine holds.
-/
import Derived.Test.YteajjlilpikdeaaGreatDoorRows
import Derived.Test.YteajjlilpikdeaaGreatDoorAt
import Derived.Test.YteajjlilpikdeaaGreatDoorDev
namespace Go.Proofs.YteajjlilpikdeaaGreatDoor
open Go.RowKit

/-- The slice of waits whose first cell is at p reads as l: two cells each. -/
def Wp.AtW (w : World) (p : Option Addr) (l : List (Int × ByteArray)) : Prop :=
  l = [] ∨ ∃ b off, p = some ⟨b, off, none⟩ ∧ ∀ i (h : i < l.length), w.cell? ⟨b, off + i * 2, none⟩ = some (.int .i64 l[i].1) ∧ w.cell? ⟨b, off + i * 2 + 1, none⟩ = some (.string l[i].2)
theorem Wp.AtW.below {w w' : World} {p : Option Addr} {l : List (Int × ByteArray)} (h : Wp.AtW w p l) (hb : Below w.heap.size w w') : Wp.AtW w' p l := by
  rcases h with h | ⟨b, off, hp, hc⟩
  · exact Or.inl h
  · exact Or.inr ⟨b, off, hp, fun i hi => ⟨(hb.cell (World.block_lt_of_cell? w _ (hc i hi).1)).trans (hc i hi).1, (hb.cell (World.block_lt_of_cell? w _ (hc i hi).2)).trans (hc i hi).2⟩⟩
theorem Wp.AtW.get {w : World} {p : Option Addr} {l : List (Int × ByteArray)} (h : Wp.AtW w p l) (k : Nat) (hk : k < l.length) :
    ∃ b off, p = some ⟨b, off, none⟩ ∧ w.cell? ⟨b, off + k * 2, none⟩ = some (.int .i64 l[k].1) ∧ w.cell? ⟨b, off + k * 2 + 1, none⟩ = some (.string l[k].2) := by
  rcases h with h | ⟨b, off, hp, hc⟩
  · subst h; simp at hk
  · exact ⟨b, off, hp, hc k hk⟩

/-- The value of a device, its slices at these places. -/
def Wp.devV (pb : Option Addr) (cb : Nat) (pw : Option Addr) (cw : Nat) (d : Wp.Dev) : Value := .agg #[.slice pb d.bl.length cb, .slice pw d.ws.length cw, .int .i64 d.fu, .bool d.dn]
/-- A value reads as a device. -/
def Wp.DevAt (w : World) (v : Value) (d : Wp.Dev) : Prop := ∃ pb cb pw cw, v = Wp.devV pb cb pw cw d ∧ Wp.At Wp.mkT w pb d.bl ∧ Wp.AtW w pw d.ws
theorem Wp.DevAt.below {w w' : World} {v : Value} {d : Wp.Dev} (h : Wp.DevAt w v d) (hb : Below w.heap.size w w') : Wp.DevAt w' v d := by
  obtain ⟨pb, cb, pw, cw, rfl, h1, h2⟩ := h
  exact ⟨pb, cb, pw, cw, rfl, h1.below hb, h2.below hb⟩
theorem Wp.DevAt.zero (w : World) : Wp.DevAt w (.agg #[.slice none 0 0, .slice none 0 0, .int .i64 0, .bool false]) Wp.Dev.zero := ⟨none, 0, none, 0, rfl, Or.inl rfl, Or.inl rfl⟩
theorem below_thenD {w0 w1 w2 : World} (h1 : Below w0.heap.size w0 w1) (h2 : Below w1.heap.size w1 w2) (_ : w0.heap.size ≤ w1.heap.size) : Below w0.heap.size w0 w2 := h1.trans (h2.mono h1.size)

end Go.Proofs.YteajjlilpikdeaaGreatDoor
