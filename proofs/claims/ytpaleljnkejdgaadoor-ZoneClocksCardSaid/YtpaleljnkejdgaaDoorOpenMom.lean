/-
  What a law's moment reads as, opened for the walks. No condition but the form's own reach.
-/
import Derived.Test.YtpaleljnkejdgaaDoorCivCalls
import Derived.Test.YtpaleljnkejdgaaDoorRowKit
import Derived.Lib.SmallJoins
namespace Go.Proofs.YtpaleljnkejdgaaDoor
open Go.Joins Go.ChangeShapes Go.WideShapes Go.RowKit Go.Deep

def Wp.Mom.Fits (m : Wp.Mom) : Prop := Cv.I64 m.y ∧ Cv.I64 m.mo ∧ Cv.I64 m.d ∧ Cv.I64 m.h ∧ Cv.I64 m.mi ∧ Cv.I64 m.s ∧ Cv.I64 m.k
/-- One field that is an int, out of a struct's reading. -/
theorem Wp.int_part {H : Type} {enc : TypeId × Value → H} {W : World} {n base : Nat} {sp : Nat → Bool} {hd : Bool} {t : TypeId} {l : List Value} {o : Nat} {x : Option (DataW H × List MemPlace)} (ht : Tryd.prog.underlying t = some (.int .i64))
    (h : DataW.trod enc Tryd.prog W base sp hd n t ((l.drop o).take 1) = x) (hx : x.isSome = true) : ∃ z : Int, l[o]? = some (.int .i64 z) ∧ Cv.I64 z := by
  obtain ⟨y, rfl⟩ := Option.isSome_iff_exists.1 hx
  obtain ⟨z, hz, _, hw⟩ := DataW.trod_int ht h
  refine ⟨z, ?_, by simpa [Cv.I64, Lit.wf, IntKind.min, IntKind.max, IntKind.signed, IntKind.bits] using hw⟩
  have h0 : ((l.drop o).take 1)[0]? = some (.int .i64 z) := by rw [hz]; rfl
  rw [List.getElem?_take_of_lt (by omega), List.getElem?_drop] at h0
  simpa using h0
set_option maxRecDepth 100000 in
theorem Wp.open_mom {H : Type} {enc : TypeId × Value → H} {W : World} {base : Nat} {v : Value} {d : DataW H} {ps : List MemPlace} (hval : Value.okWide Tryd.prog W .any base 52 v)
    (h : DataW.Trod enc Tryd.prog W 0 (fun _ => true) true 52 v d ps) : ∃ m : Wp.Mom, v = .agg (Wp.momC m) ∧ m.Fits := by
  obtain ⟨cs, rfl, hsz⟩ := okWide_struct Tryd.underlying52 hval
  obtain ⟨fuel, hf⟩ := h
  obtain ⟨xs, n, _, _, _, hlen, hg⟩ := DataW.trod_struct Tryd.underlying52 hf
  have h1 : Tryd.prog.cellsOf 3 = 1 := by kernel_rfl
  have hsome : ∀ i, i < 7 → (xs[i]?).isSome = true := fun i hi => by
    have hl : xs.length = 7 := hlen
    rw [List.getElem?_eq_getElem (by omega)]; rfl
  have g0 : DataW.trod enc Tryd.prog W 0 (fun _ => true) true n 3 (((Value.agg cs).cells.toList.drop 0).take (Tryd.prog.cellsOf 3)) = xs[0]? := hg 0 _ rfl
  have g1 : DataW.trod enc Tryd.prog W 0 (fun _ => true) true n 3 (((Value.agg cs).cells.toList.drop 1).take (Tryd.prog.cellsOf 3)) = xs[1]? := hg 1 _ rfl
  have g2 : DataW.trod enc Tryd.prog W 0 (fun _ => true) true n 3 (((Value.agg cs).cells.toList.drop 2).take (Tryd.prog.cellsOf 3)) = xs[2]? := hg 2 _ rfl
  have g3 : DataW.trod enc Tryd.prog W 0 (fun _ => true) true n 3 (((Value.agg cs).cells.toList.drop 3).take (Tryd.prog.cellsOf 3)) = xs[3]? := hg 3 _ rfl
  have g4 : DataW.trod enc Tryd.prog W 0 (fun _ => true) true n 3 (((Value.agg cs).cells.toList.drop 4).take (Tryd.prog.cellsOf 3)) = xs[4]? := hg 4 _ rfl
  have g5 : DataW.trod enc Tryd.prog W 0 (fun _ => true) true n 3 (((Value.agg cs).cells.toList.drop 5).take (Tryd.prog.cellsOf 3)) = xs[5]? := hg 5 _ rfl
  have g6 : DataW.trod enc Tryd.prog W 0 (fun _ => true) true n 3 (((Value.agg cs).cells.toList.drop 6).take (Tryd.prog.cellsOf 3)) = xs[6]? := hg 6 _ rfl
  rw [h1] at g0 g1 g2 g3 g4 g5 g6
  obtain ⟨z0, e0, w0⟩ := Wp.int_part Tryd.underlying3 g0 (hsome 0 (by omega))
  obtain ⟨z1, e1, w1⟩ := Wp.int_part Tryd.underlying3 g1 (hsome 1 (by omega))
  obtain ⟨z2, e2, w2⟩ := Wp.int_part Tryd.underlying3 g2 (hsome 2 (by omega))
  obtain ⟨z3, e3, w3⟩ := Wp.int_part Tryd.underlying3 g3 (hsome 3 (by omega))
  obtain ⟨z4, e4, w4⟩ := Wp.int_part Tryd.underlying3 g4 (hsome 4 (by omega))
  obtain ⟨z5, e5, w5⟩ := Wp.int_part Tryd.underlying3 g5 (hsome 5 (by omega))
  obtain ⟨z6, e6, w6⟩ := Wp.int_part Tryd.underlying3 g6 (hsome 6 (by omega))
  refine ⟨⟨z0, z1, z2, z3, z4, z5, z6⟩, ?_, w0, w1, w2, w3, w4, w5, w6⟩
  have hs7 : cs.size = 7 := hsz.trans (by kernel_rfl)
  congr 1
  apply Array.ext_getElem?
  intro i
  simp only [Value.cells, Array.getElem?_toList] at e0 e1 e2 e3 e4 e5 e6
  match i with
  | 0 => rw [e0]; rfl
  | 1 => rw [e1]; rfl
  | 2 => rw [e2]; rfl
  | 3 => rw [e3]; rfl
  | 4 => rw [e4]; rfl
  | 5 => rw [e5]; rfl
  | 6 => rw [e6]; rfl
  | i + 7 => rw [Array.getElem?_eq_none (by omega), Array.getElem?_eq_none (by simp [Wp.momC])]
end Go.Proofs.YtpaleljnkejdgaaDoor
