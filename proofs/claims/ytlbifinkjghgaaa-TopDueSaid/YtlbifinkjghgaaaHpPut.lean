
/-
  A timer is put to a place of a block of the call's own; two change places. No condition but those that the theorems state.
-/
import Derived.Test.YtlbifinkjghgaaaHpCheck
namespace Go.Proofs.Ytlbifinkjghgaaa
open Go.RowKit Go.Lib Go.Sort Go.Shelf

theorem Hp.rcs_set (l : List (Int × Int × Int × Int)) (i : Nat) (x : Int × Int × Int × Int) : Hp.rcs (l.set i x) = ((((Hp.rcs l).set (i * 4) (.int .i64 x.1)).set (i * 4 + 1) (.int .i64 x.2.1)).set (i * 4 + 2) (.int .u8 x.2.2.1)).set (i * 4 + 3) (.int .i64 x.2.2.2) := by
  induction l generalizing i with
  | nil => rfl
  | cons y l ih =>
    cases i with
    | zero => rfl
    | succ i =>
      rw [List.set_cons_succ, Hp.rcs_cons, Hp.rcs_cons, ih, show (i + 1) * 4 = i * 4 + 1 + 1 + 1 + 1 by omega]
      rfl
/-- The world in which a timer has been put to a place. -/
def Hp.put (w : World) (g i : Nat) (x : Int × Int × Int × Int) : World := (((w.setCell ⟨g, i * 4, none⟩ (.int .i64 x.1)).setCell ⟨g, i * 4 + 1, none⟩ (.int .i64 x.2.1)).setCell ⟨g, i * 4 + 2, none⟩ (.int .u8 x.2.2.1)).setCell ⟨g, i * 4 + 3, none⟩ (.int .i64 x.2.2.2)
theorem Hp.Blk.put {w : World} {g : Nat} {l : List (Int × Int × Int × Int)} {rest : List Value} (h : Hp.Blk w g l rest) (i : Nat) (hi : i < l.length) (x : Int × Int × Int × Int) : Hp.Blk (Hp.put w g i x) g (l.set i x) rest := by
  unfold Hp.Blk Hp.put
  rw [hp_cells_set (hp_cells_set (hp_cells_set (hp_cells_set h _ _) _ _) _ _) _ _]
  have hl := Hp.rcs_len l
  have e : ((((Hp.rcs l ++ rest).set (i * 4) (.int .i64 x.1)).set (i * 4 + 1) (.int .i64 x.2.1)).set (i * 4 + 2) (.int .u8 x.2.2.1)).set (i * 4 + 3) (.int .i64 x.2.2.2) = Hp.rcs (l.set i x) ++ rest := by
    rw [Hp.rcs_set, List.set_append_left _ _ (by omega), List.set_append_left _ _ (by simp; omega), List.set_append_left _ _ (by simp; omega), List.set_append_left _ _ (by simp; omega)]
  rw [← e]
  simp
theorem hp_grown_trans {w w1 w2 : World} {row : Option Nat} (h1 : w.grownBy w1 row) (h2 : w1.grownBy w2 row) : w.grownBy w2 row :=
  ⟨h2.os.trans h1.os, h2.tape.trans h1.tape, h2.output.trans h1.output, Nat.le_trans h1.size h2.size, fun k hk hne => (h2.block k (Nat.lt_of_lt_of_le hk h1.size) hne).trans (h1.block k hk hne)⟩
theorem hp_grown_refl (w : World) (row : Option Nat) : w.grownBy w row := ⟨rfl, rfl, rfl, Nat.le_refl _, fun _ _ _ => rfl⟩
theorem hp_grown_of_below {w w' : World} (h : Below w.heap.size w w') (row : Option Nat) : w.grownBy w' row := ⟨h.os, h.tape, h.output, h.size, fun k hk _ => h.block k hk⟩
theorem hp_grown_set (w : World) (g j : Nat) (v : Value) : w.grownBy (w.setCell ⟨g, j, none⟩ v) (some g) := by
  refine ⟨rfl, rfl, rfl, by simp [World.setCell], fun k hk hne => ?_⟩
  have : g ≠ k := fun e => hne (by rw [e])
  simp [World.setCell, Array.getElem?_modify, this]
theorem hp_grown_put (w : World) (g i : Nat) (x : Int × Int × Int × Int) : w.grownBy (Hp.put w g i x) (some g) :=
  hp_grown_trans (hp_grown_trans (hp_grown_trans (hp_grown_set _ _ _ _) (hp_grown_set _ _ _ _)) (hp_grown_set _ _ _ _)) (hp_grown_set _ _ _ _)
theorem hp_grown_drew {w w' : World} {row : Option Nat} (h : w.grownBy w' row) : w.grownBy w'.drew row := ⟨h.os, h.tape, h.output, h.size, h.block⟩
theorem Hp.Blk.below {w w' : World} {g B : Nat} {l : List (Int × Int × Int × Int)} {rest : List Value} (h : Hp.Blk w g l rest) (hb : Below B w w') (hg : g < B) : Hp.Blk w' g l rest := (hb.block g hg).trans h
theorem Hp.Blk.drew {w : World} {g : Nat} {l : List (Int × Int × Int × Int)} {rest : List Value} (h : Hp.Blk w g l rest) : Hp.Blk w.drew g l rest := by
  unfold Hp.Blk at *
  exact h
/-- The world in which two timers have changed places. -/
def Hp.swapW (w : World) (g : Nat) (l : List (Int × Int × Int × Int)) (i j : Nat) : World := (Hp.put (Hp.put w g i (Hp.g l j)) g j (Hp.g l i)).drew
theorem Hp.Blk.swap {w : World} {g : Nat} {l : List (Int × Int × Int × Int)} {rest : List Value} (h : Hp.Blk w g l rest) (i j : Nat) (hi : i < l.length) (hj : j < l.length) : Hp.Blk (Hp.swapW w g l i j) g (Hp.swap l i j) rest :=
  by
  unfold Hp.swapW Hp.swap
  exact ((h.put i hi (Hp.g l j)).put j (by simpa using hj) (Hp.g l i)).drew
theorem hp_grown_swap (w : World) (g : Nat) (l : List (Int × Int × Int × Int)) (i j : Nat) : w.grownBy (Hp.swapW w g l i j) (some g) := hp_grown_drew (hp_grown_trans (hp_grown_put _ _ _ _) (hp_grown_put _ _ _ _))
theorem hp_ret0 {fn : Func} (h : fn.results = #[]) (tmps : Array Value) (P : Program) (w : World) : (results fn tmps).run P w = .ok (.tuple #[]) w := by
  simp only [results, h]
  simp
/-- What a function that puts a heap right leaves. -/
def Hp.Put (l : List (Int × Int × Int × Int)) (rest : List Value) (g : Nat) (w : World) (e : Ending) (w' : World) : Prop := e = .returned (.tuple #[]) ∧ Hp.Blk w' g l rest ∧ w.grownBy w' (some g)
end Go.Proofs.Ytlbifinkjghgaaa
