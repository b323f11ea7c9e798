/-
  What a law's zone reads as, opened for the walks. No condition but the form's own reach.
-/
import Derived.Test.YtpaleljnkejdgaaDoorOpenMom
import Derived.Test.YtpaleljnkejdgaaDoorZonPlain
namespace Go.Proofs.YtpaleljnkejdgaaDoor
open Go.Joins Go.ChangeShapes Go.WideShapes Go.RowKit Go.Deep

def Wp.Sw.Fits (s : Wp.Sw) : Prop := Cv.I64 s.mo ∧ Cv.I64 s.nth ∧ Cv.I64 s.wd ∧ Cv.I64 s.mi
def Wp.Zn.Fits (z : Wp.Zn) : Prop := Cv.I64 z.base ∧ Cv.I64 z.save ∧ z.fr.Fits ∧ z.to.Fits
theorem Cv.drop_take (l : List Value) (o k i : Nat) (v : Value) (h : ((l.drop o).take k)[i]? = some v) : l[o + i]? = some v := by
  rw [List.getElem?_take] at h
  split at h
  · rw [List.getElem?_drop] at h; exact h
  · cases h
set_option maxRecDepth 100000 in
/-- One field that is a switch, out of a struct's reading. -/
theorem Wp.sw_part {H : Type} {enc : TypeId × Value → H} {W : World} {n base : Nat} {sp : Nat → Bool} {hd : Bool} {l : List Value} {o : Nat} {x : Option (DataW H × List MemPlace)}
    (h : DataW.trod enc Tryd.prog W base sp hd n 46 ((l.drop o).take 4) = x) (hx : x.isSome = true) : ∃ s : Wp.Sw, l[o]? = some (.int .i64 s.mo) ∧ l[o + 1]? = some (.int .i64 s.nth) ∧ l[o + 2]? = some (.int .i64 s.wd) ∧ l[o + 3]? = some (.int .i64 s.mi) ∧ s.Fits := by
  obtain ⟨y, rfl⟩ := Option.isSome_iff_exists.1 hx
  obtain ⟨xs, m, _, _, _, hlen, hg⟩ := DataW.trod_struct Tryd.underlying46 h
  have h1 : Tryd.prog.cellsOf 3 = 1 := by kernel_rfl
  have hsome : ∀ i, i < 4 → (xs[i]?).isSome = true := fun i hi => by
    have hl : xs.length = 4 := hlen
    rw [List.getElem?_eq_getElem (by omega)]; rfl
  have g0 : DataW.trod enc Tryd.prog W base sp hd m 3 ((((l.drop o).take 4).drop 0).take (Tryd.prog.cellsOf 3)) = xs[0]? := hg 0 _ rfl
  have g1 : DataW.trod enc Tryd.prog W base sp hd m 3 ((((l.drop o).take 4).drop 1).take (Tryd.prog.cellsOf 3)) = xs[1]? := hg 1 _ rfl
  have g2 : DataW.trod enc Tryd.prog W base sp hd m 3 ((((l.drop o).take 4).drop 2).take (Tryd.prog.cellsOf 3)) = xs[2]? := hg 2 _ rfl
  have g3 : DataW.trod enc Tryd.prog W base sp hd m 3 ((((l.drop o).take 4).drop 3).take (Tryd.prog.cellsOf 3)) = xs[3]? := hg 3 _ rfl
  rw [h1] at g0 g1 g2 g3
  obtain ⟨z0, e0, w0⟩ := Wp.int_part Tryd.underlying3 g0 (hsome 0 (by omega))
  obtain ⟨z1, e1, w1⟩ := Wp.int_part Tryd.underlying3 g1 (hsome 1 (by omega))
  obtain ⟨z2, e2, w2⟩ := Wp.int_part Tryd.underlying3 g2 (hsome 2 (by omega))
  obtain ⟨z3, e3, w3⟩ := Wp.int_part Tryd.underlying3 g3 (hsome 3 (by omega))
  exact ⟨⟨z0, z1, z2, z3⟩, Cv.drop_take l o 4 0 _ e0, Cv.drop_take l o 4 1 _ e1, Cv.drop_take l o 4 2 _ e2, Cv.drop_take l o 4 3 _ e3, w0, w1, w2, w3⟩
set_option maxRecDepth 100000 in
theorem Wp.open_zone {H : Type} {enc : TypeId × Value → H} {W : World} {base : Nat} {v : Value} {d : DataW H} {ps : List MemPlace} (hval : Value.okWide Tryd.prog W .any base 48 v)
    (h : DataW.Trod enc Tryd.prog W 0 (fun _ => true) true 48 v d ps) : ∃ z : Wp.Zn, v = .agg (Wp.zoneC z) ∧ z.Fits := by
  obtain ⟨cs, rfl, hsz⟩ := okWide_struct Tryd.underlying48 hval
  obtain ⟨fuel, hf⟩ := h
  obtain ⟨xs, n, _, _, _, hlen, hg⟩ := DataW.trod_struct Tryd.underlying48 hf
  have h1 : Tryd.prog.cellsOf 3 = 1 := by kernel_rfl
  have h4 : Tryd.prog.cellsOf 46 = 4 := by kernel_rfl
  have hsome : ∀ i, i < 4 → (xs[i]?).isSome = true := fun i hi => by
    have hl : xs.length = 4 := hlen
    rw [List.getElem?_eq_getElem (by omega)]; rfl
  have g0 : DataW.trod enc Tryd.prog W 0 (fun _ => true) true n 3 (((Value.agg cs).cells.toList.drop 0).take (Tryd.prog.cellsOf 3)) = xs[0]? := hg 0 _ rfl
  have g1 : DataW.trod enc Tryd.prog W 0 (fun _ => true) true n 3 (((Value.agg cs).cells.toList.drop 1).take (Tryd.prog.cellsOf 3)) = xs[1]? := hg 1 _ rfl
  have g2 : DataW.trod enc Tryd.prog W 0 (fun _ => true) true n 46 (((Value.agg cs).cells.toList.drop 2).take (Tryd.prog.cellsOf 46)) = xs[2]? := hg 2 _ rfl
  have g3 : DataW.trod enc Tryd.prog W 0 (fun _ => true) true n 46 (((Value.agg cs).cells.toList.drop 6).take (Tryd.prog.cellsOf 46)) = xs[3]? := hg 3 _ rfl
  rw [h1] at g0 g1
  rw [h4] at g2 g3
  obtain ⟨z0, e0, w0⟩ := Wp.int_part Tryd.underlying3 g0 (hsome 0 (by omega))
  obtain ⟨z1, e1, w1⟩ := Wp.int_part Tryd.underlying3 g1 (hsome 1 (by omega))
  obtain ⟨s, a0, a1, a2, a3, w2⟩ := Wp.sw_part g2 (hsome 2 (by omega))
  obtain ⟨t, b0, b1, b2, b3, w3⟩ := Wp.sw_part g3 (hsome 3 (by omega))
  refine ⟨⟨z0, z1, s, t⟩, ?_, w0, w1, w2, w3⟩
  have hs10 : cs.size = 10 := hsz.trans (by kernel_rfl)
  congr 1
  apply Array.ext_getElem?
  intro i
  simp only [Value.cells, Array.getElem?_toList] at e0 e1 a0 a1 a2 a3 b0 b1 b2 b3
  match i with
  | 0 => rw [e0]; rfl
  | 1 => rw [e1]; rfl
  | 2 => rw [a0]; rfl
  | 3 => rw [a1]; rfl
  | 4 => rw [a2]; rfl
  | 5 => rw [a3]; rfl
  | 6 => rw [b0]; rfl
  | 7 => rw [b1]; rfl
  | 8 => rw [b2]; rfl
  | 9 => rw [b3]; rfl
  | i + 10 => rw [Array.getElem?_eq_none (by omega), Array.getElem?_eq_none (by simp [Wp.zoneC])]
end Go.Proofs.YtpaleljnkejdgaaDoor
