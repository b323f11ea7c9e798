/-
  What a law's moment reads as, opened for the walks. No condition but the form's own reach.
  What a law's zone reads as, opened for the walks. No condition but the form's own reach.
  What a law's slice of ranges reads as, opened for the walks. No condition but the form's own reach.
  What a law's quiet hours read as, opened for the walks. No condition but the form's own reach.
-/
import Derived.Test.YtpaleljnkejdgaaGreatDoorCivCalls
import Derived.Test.YtpaleljnkejdgaaGreatDoorRowKit
import Derived.Lib.SmallJoins
import Derived.Test.YtpaleljnkejdgaaGreatDoorZonPlain
import Derived.Test.YtpaleljnkejdgaaGreatDoorWkAt
import Derived.Deep.SlicePairs
import Derived.Test.YtpaleljnkejdgaaGreatDoorQtSmall
namespace Go.Proofs.YtpaleljnkejdgaaGreatDoor
open Go.Joins Go.ChangeShapes Go.WideShapes Go.RowKit Go.Deep

def Wp.Mom.Fits (m : Wp.Mom) : Prop := Cv.I64 m.y ∧ Cv.I64 m.mo ∧ Cv.I64 m.d ∧ Cv.I64 m.h ∧ Cv.I64 m.mi ∧ Cv.I64 m.s ∧ Cv.I64 m.k
/-- One field that is an int, out of a struct's reading. -/
theorem Wp.int_part {H : Type} {enc : TypeId × Value → H} {W : World} {n base : Nat} {sp : Nat → Bool} {hd : Bool} {t : TypeId} {l : List Value} {o : Nat} {x : Option (DataW H × List MemPlace)} (ht : Tryz.prog.underlying t = some (.int .i64))
    (h : DataW.trod enc Tryz.prog W base sp hd n t ((l.drop o).take 1) = x) (hx : x.isSome = true) : ∃ z : Int, l[o]? = some (.int .i64 z) ∧ Cv.I64 z := by
  obtain ⟨y, rfl⟩ := Option.isSome_iff_exists.1 hx
  obtain ⟨z, hz, _, hw⟩ := DataW.trod_int ht h
  refine ⟨z, ?_, by simpa [Cv.I64, Lit.wf, IntKind.min, IntKind.max, IntKind.signed, IntKind.bits] using hw⟩
  have h0 : ((l.drop o).take 1)[0]? = some (.int .i64 z) := by rw [hz]; rfl
  rw [List.getElem?_take_of_lt (by omega), List.getElem?_drop] at h0
  simpa using h0
set_option maxRecDepth 100000 in
theorem Wp.open_mom {H : Type} {enc : TypeId × Value → H} {W : World} {base : Nat} {v : Value} {d : DataW H} {ps : List MemPlace} (hval : Value.okWide Tryz.prog W .any base 95 v)
    (h : DataW.Trod enc Tryz.prog W 0 (fun _ => true) true 95 v d ps) : ∃ m : Wp.Mom, v = .agg (Wp.momC m) ∧ m.Fits := by
  obtain ⟨cs, rfl, hsz⟩ := okWide_struct Tryz.underlying95 hval
  obtain ⟨fuel, hf⟩ := h
  obtain ⟨xs, n, _, _, _, hlen, hg⟩ := DataW.trod_struct Tryz.underlying95 hf
  have h1 : Tryz.prog.cellsOf 3 = 1 := by kernel_rfl
  have hsome : ∀ i, i < 7 → (xs[i]?).isSome = true := fun i hi => by
    have hl : xs.length = 7 := hlen
    rw [List.getElem?_eq_getElem (by omega)]; rfl
  have g0 : DataW.trod enc Tryz.prog W 0 (fun _ => true) true n 3 (((Value.agg cs).cells.toList.drop 0).take (Tryz.prog.cellsOf 3)) = xs[0]? := hg 0 _ rfl
  have g1 : DataW.trod enc Tryz.prog W 0 (fun _ => true) true n 3 (((Value.agg cs).cells.toList.drop 1).take (Tryz.prog.cellsOf 3)) = xs[1]? := hg 1 _ rfl
  have g2 : DataW.trod enc Tryz.prog W 0 (fun _ => true) true n 3 (((Value.agg cs).cells.toList.drop 2).take (Tryz.prog.cellsOf 3)) = xs[2]? := hg 2 _ rfl
  have g3 : DataW.trod enc Tryz.prog W 0 (fun _ => true) true n 3 (((Value.agg cs).cells.toList.drop 3).take (Tryz.prog.cellsOf 3)) = xs[3]? := hg 3 _ rfl
  have g4 : DataW.trod enc Tryz.prog W 0 (fun _ => true) true n 3 (((Value.agg cs).cells.toList.drop 4).take (Tryz.prog.cellsOf 3)) = xs[4]? := hg 4 _ rfl
  have g5 : DataW.trod enc Tryz.prog W 0 (fun _ => true) true n 3 (((Value.agg cs).cells.toList.drop 5).take (Tryz.prog.cellsOf 3)) = xs[5]? := hg 5 _ rfl
  have g6 : DataW.trod enc Tryz.prog W 0 (fun _ => true) true n 3 (((Value.agg cs).cells.toList.drop 6).take (Tryz.prog.cellsOf 3)) = xs[6]? := hg 6 _ rfl
  rw [h1] at g0 g1 g2 g3 g4 g5 g6
  obtain ⟨z0, e0, w0⟩ := Wp.int_part Tryz.underlying3 g0 (hsome 0 (by omega))
  obtain ⟨z1, e1, w1⟩ := Wp.int_part Tryz.underlying3 g1 (hsome 1 (by omega))
  obtain ⟨z2, e2, w2⟩ := Wp.int_part Tryz.underlying3 g2 (hsome 2 (by omega))
  obtain ⟨z3, e3, w3⟩ := Wp.int_part Tryz.underlying3 g3 (hsome 3 (by omega))
  obtain ⟨z4, e4, w4⟩ := Wp.int_part Tryz.underlying3 g4 (hsome 4 (by omega))
  obtain ⟨z5, e5, w5⟩ := Wp.int_part Tryz.underlying3 g5 (hsome 5 (by omega))
  obtain ⟨z6, e6, w6⟩ := Wp.int_part Tryz.underlying3 g6 (hsome 6 (by omega))
  refine ⟨⟨z0, z1, z2, z3, z4, z5, z6⟩, ?_, w0, w1, w2, w3, w4, w5, w6⟩
  have hs7 : cs.size = 7 := hsz.trans (by kernel_rfl)
  congr 1
  apply Array.ext_getElem?
  intro i
  simp only [Value.cells, Array.getElem?_toList] at e0 e1 e2 e3 e4 e5 e6
  match i with
  | 0 => rw [e0]; rfl
  | 1 => rw [e1]; rfl
  | 2 => rw [e2]; rfl
  | 3 => rw [e3]; rfl
  | 4 => rw [e4]; rfl
  | 5 => rw [e5]; rfl
  | 6 => rw [e6]; rfl
  | i + 7 => rw [Array.getElem?_eq_none (by omega), Array.getElem?_eq_none (by simp [Wp.momC])]
end Go.Proofs.YtpaleljnkejdgaaGreatDoor
namespace Go.Proofs.YtpaleljnkejdgaaGreatDoor
open Go.Joins Go.ChangeShapes Go.WideShapes Go.RowKit Go.Deep

def Wp.Sw.Fits (s : Wp.Sw) : Prop := Cv.I64 s.mo ∧ Cv.I64 s.nth ∧ Cv.I64 s.wd ∧ Cv.I64 s.mi
def Wp.Zn.Fits (z : Wp.Zn) : Prop := Cv.I64 z.base ∧ Cv.I64 z.save ∧ z.fr.Fits ∧ z.to.Fits
theorem Cv.drop_take (l : List Value) (o k i : Nat) (v : Value) (h : ((l.drop o).take k)[i]? = some v) : l[o + i]? = some v := by
  rw [List.getElem?_take] at h
  split at h
  · rw [List.getElem?_drop] at h; exact h
  · cases h
set_option maxRecDepth 100000 in
/-- One field that is a switch, out of a struct's reading. -/
theorem Wp.sw_part {H : Type} {enc : TypeId × Value → H} {W : World} {n base : Nat} {sp : Nat → Bool} {hd : Bool} {l : List Value} {o : Nat} {x : Option (DataW H × List MemPlace)}
    (h : DataW.trod enc Tryz.prog W base sp hd n 23 ((l.drop o).take 4) = x) (hx : x.isSome = true) : ∃ s : Wp.Sw, l[o]? = some (.int .i64 s.mo) ∧ l[o + 1]? = some (.int .i64 s.nth) ∧ l[o + 2]? = some (.int .i64 s.wd) ∧ l[o + 3]? = some (.int .i64 s.mi) ∧ s.Fits := by
  obtain ⟨y, rfl⟩ := Option.isSome_iff_exists.1 hx
  obtain ⟨xs, m, _, _, _, hlen, hg⟩ := DataW.trod_struct Tryz.underlying23 h
  have h1 : Tryz.prog.cellsOf 3 = 1 := by kernel_rfl
  have hsome : ∀ i, i < 4 → (xs[i]?).isSome = true := fun i hi => by
    have hl : xs.length = 4 := hlen
    rw [List.getElem?_eq_getElem (by omega)]; rfl
  have g0 : DataW.trod enc Tryz.prog W base sp hd m 3 ((((l.drop o).take 4).drop 0).take (Tryz.prog.cellsOf 3)) = xs[0]? := hg 0 _ rfl
  have g1 : DataW.trod enc Tryz.prog W base sp hd m 3 ((((l.drop o).take 4).drop 1).take (Tryz.prog.cellsOf 3)) = xs[1]? := hg 1 _ rfl
  have g2 : DataW.trod enc Tryz.prog W base sp hd m 3 ((((l.drop o).take 4).drop 2).take (Tryz.prog.cellsOf 3)) = xs[2]? := hg 2 _ rfl
  have g3 : DataW.trod enc Tryz.prog W base sp hd m 3 ((((l.drop o).take 4).drop 3).take (Tryz.prog.cellsOf 3)) = xs[3]? := hg 3 _ rfl
  rw [h1] at g0 g1 g2 g3
  obtain ⟨z0, e0, w0⟩ := Wp.int_part Tryz.underlying3 g0 (hsome 0 (by omega))
  obtain ⟨z1, e1, w1⟩ := Wp.int_part Tryz.underlying3 g1 (hsome 1 (by omega))
  obtain ⟨z2, e2, w2⟩ := Wp.int_part Tryz.underlying3 g2 (hsome 2 (by omega))
  obtain ⟨z3, e3, w3⟩ := Wp.int_part Tryz.underlying3 g3 (hsome 3 (by omega))
  exact ⟨⟨z0, z1, z2, z3⟩, Cv.drop_take l o 4 0 _ e0, Cv.drop_take l o 4 1 _ e1, Cv.drop_take l o 4 2 _ e2, Cv.drop_take l o 4 3 _ e3, w0, w1, w2, w3⟩
set_option maxRecDepth 100000 in
theorem Wp.open_zone {H : Type} {enc : TypeId × Value → H} {W : World} {base : Nat} {v : Value} {d : DataW H} {ps : List MemPlace} (hval : Value.okWide Tryz.prog W .any base 25 v)
    (h : DataW.Trod enc Tryz.prog W 0 (fun _ => true) true 25 v d ps) : ∃ z : Wp.Zn, v = .agg (Wp.zoneC z) ∧ z.Fits := by
  obtain ⟨cs, rfl, hsz⟩ := okWide_struct Tryz.underlying25 hval
  obtain ⟨fuel, hf⟩ := h
  obtain ⟨xs, n, _, _, _, hlen, hg⟩ := DataW.trod_struct Tryz.underlying25 hf
  have h1 : Tryz.prog.cellsOf 3 = 1 := by kernel_rfl
  have h4 : Tryz.prog.cellsOf 23 = 4 := by kernel_rfl
  have hsome : ∀ i, i < 4 → (xs[i]?).isSome = true := fun i hi => by
    have hl : xs.length = 4 := hlen
    rw [List.getElem?_eq_getElem (by omega)]; rfl
  have g0 : DataW.trod enc Tryz.prog W 0 (fun _ => true) true n 3 (((Value.agg cs).cells.toList.drop 0).take (Tryz.prog.cellsOf 3)) = xs[0]? := hg 0 _ rfl
  have g1 : DataW.trod enc Tryz.prog W 0 (fun _ => true) true n 3 (((Value.agg cs).cells.toList.drop 1).take (Tryz.prog.cellsOf 3)) = xs[1]? := hg 1 _ rfl
  have g2 : DataW.trod enc Tryz.prog W 0 (fun _ => true) true n 23 (((Value.agg cs).cells.toList.drop 2).take (Tryz.prog.cellsOf 23)) = xs[2]? := hg 2 _ rfl
  have g3 : DataW.trod enc Tryz.prog W 0 (fun _ => true) true n 23 (((Value.agg cs).cells.toList.drop 6).take (Tryz.prog.cellsOf 23)) = xs[3]? := hg 3 _ rfl
  rw [h1] at g0 g1
  rw [h4] at g2 g3
  obtain ⟨z0, e0, w0⟩ := Wp.int_part Tryz.underlying3 g0 (hsome 0 (by omega))
  obtain ⟨z1, e1, w1⟩ := Wp.int_part Tryz.underlying3 g1 (hsome 1 (by omega))
  obtain ⟨s, a0, a1, a2, a3, w2⟩ := Wp.sw_part g2 (hsome 2 (by omega))
  obtain ⟨t, b0, b1, b2, b3, w3⟩ := Wp.sw_part g3 (hsome 3 (by omega))
  refine ⟨⟨z0, z1, s, t⟩, ?_, w0, w1, w2, w3⟩
  have hs10 : cs.size = 10 := hsz.trans (by kernel_rfl)
  congr 1
  apply Array.ext_getElem?
  intro i
  simp only [Value.cells, Array.getElem?_toList] at e0 e1 a0 a1 a2 a3 b0 b1 b2 b3
  match i with
  | 0 => rw [e0]; rfl
  | 1 => rw [e1]; rfl
  | 2 => rw [a0]; rfl
  | 3 => rw [a1]; rfl
  | 4 => rw [a2]; rfl
  | 5 => rw [a3]; rfl
  | 6 => rw [b0]; rfl
  | 7 => rw [b1]; rfl
  | 8 => rw [b2]; rfl
  | 9 => rw [b3]; rfl
  | i + 10 => rw [Array.getElem?_eq_none (by omega), Array.getElem?_eq_none (by simp [Wp.zoneC])]
end Go.Proofs.YtpaleljnkejdgaaGreatDoor
namespace Go.Proofs.YtpaleljnkejdgaaGreatDoor
open Go.ChangeShapes Go.WideShapes Go.ChangeAt Go.RowKit Go.Joins Go.Deep

theorem Wk.cells_range : Tryz.prog.cellsOf 56 = 2 := by kernel_rfl
theorem Wk.bytes_range : Tryz.prog.bytesOf 56 = 16 := by kernel_rfl
def Wk.I64 (n : Int) : Prop := -9223372036854775808 ≤ n ∧ n ≤ 9223372036854775807
set_option maxRecDepth 100000 in
theorem Wk.open_field_ranges {H : Type} {enc : TypeId × Value → H} {W : World} {n : Nat} {v : Value} {y : DataW H × List MemPlace}
    (h : DataW.trod enc Tryz.prog W 0 (fun _ => true) true n 26 [v] = some y) (hw : (y.1.weights Tryz.prog 26).all (· ≤ reachBytes) = true) :
    ∃ p c, ∃ l : List (Int × Int), v = .slice p l.length c ∧ Wk.At W p l ∧ l.length ≤ 140737488351232 ∧ ∀ x ∈ l, Wk.I64 x.1 ∧ Wk.I64 x.2 := by
  rcases open_slice_pairs Tryz.underlying26 Tryz.underlying56 Wk.cells_range rfl rfl (by kernel_rfl) (by kernel_rfl) h with ⟨hc, hx⟩ | ⟨a, len, cap, m, n', V0, V1, D0, D1, P0, P1, hc, hb, hl, hm, hmm, hx, hcell⟩
  · simp only [List.cons.injEq, and_true] at hc
    exact ⟨none, 0, [], hc, Or.inl rfl, by simp, by simp⟩
  · simp only [List.cons.injEq, and_true] at hc
    subst hc
    simp only [if_true] at hmm
    subst hx
    have hr : len * 16 ≤ reachBytes := by
      have := List.all_eq_true.1 hw _ (by simp only [DataW.weights, Tryz.underlying26]; exact List.mem_cons_self)
      rw [Wk.bytes_range] at this
      simp only [List.length_map, List.length_range, decide_eq_true_eq] at this
      omega
    simp only [reachBytes] at hr
    have key : ∀ i, i < len → ∃ q : Int × Int, W.cell? (a.add (i * 2)) = some (.int .i64 q.1) ∧ W.cell? (a.add (i * 2 + 1)) = some (.int .i64 q.2) ∧ Wk.I64 q.1 ∧ Wk.I64 q.2 := by
      intro i hi
      obtain ⟨h1, h2, h3, h4⟩ := hcell i (by omega)
      obtain ⟨z, e1, _, w1⟩ := DataW.trod_int Tryz.underlying3 h3
      obtain ⟨s, e2, _, w2⟩ := DataW.trod_int Tryz.underlying3 h4
      simp only [List.cons.injEq, and_true] at e1 e2
      exact ⟨(z, s), by rw [h1, e1], by rw [h2, e2], by simpa [Wk.I64, Lit.wf, IntKind.min, IntKind.max, IntKind.signed, IntKind.bits] using w1, by simpa [Wk.I64, Lit.wf, IntKind.min, IntKind.max, IntKind.signed, IntKind.bits] using w2⟩
    let f : Nat → Int × Int := fun i => if h : i < len then (key i h).choose else (0, 0)
    have hf : ∀ i (hi : i < len), W.cell? (a.add (i * 2)) = some (.int .i64 (f i).1) ∧ W.cell? (a.add (i * 2 + 1)) = some (.int .i64 (f i).2) ∧ Wk.I64 (f i).1 ∧ Wk.I64 (f i).2 := by
      intro i hi
      have e : f i = (key i hi).choose := dif_pos hi
      rw [e]
      exact (key i hi).choose_spec
    obtain ⟨b, off, sp⟩ := a
    refine ⟨some ⟨b, off, sp⟩, cap, (List.range len).map f, by simp, ?_, by simp; omega, ?_⟩
    · by_cases h0 : len = 0
      · left; subst h0; rfl
      · right
        have h1 := (hf 0 (by omega)).1
        have hsp : sp = none := by
          cases sp with
          | none => rfl
          | some x => simp [World.cell?, Addr.add] at h1; split at h1 <;> simp_all
        subst hsp
        refine ⟨b, off, rfl, fun i hi => ?_⟩
        simp only [List.length_map, List.length_range] at hi
        have h2 := hf i hi
        have e1 : (⟨b, off, none⟩ : Addr).add (i * 2) = ⟨b, off + i * 2, none⟩ := by simp [Addr.add]
        have e2 : (⟨b, off, none⟩ : Addr).add (i * 2 + 1) = ⟨b, off + i * 2 + 1, none⟩ := by simp [Addr.add, Nat.add_assoc]
        rw [e1, e2] at h2
        simp only [List.getElem_map, List.getElem_range]
        exact ⟨h2.1, h2.2.1⟩
    · intro x hx
      obtain ⟨i, hi, rfl⟩ := List.mem_map.1 hx
      exact (hf i (List.mem_range.1 hi)).2.2
set_option maxRecDepth 100000 in
theorem Wk.open_ranges {H : Type} {enc : TypeId × Value → H} {W : World} {base : Nat} {ts : List TypeId} {ds : List (DataW H)} (hsz : (DataW.weightsEach Tryz.prog ts ds).all (· ≤ reachBytes) = true)
    (j : Nat) {v : Value} {d : DataW H} {ps : List MemPlace} (ht : ts[j]? = some 26) (hd : ds[j]? = some d) (hval : Value.okWide Tryz.prog W .any base 26 v)
    (h : DataW.Trod enc Tryz.prog W 0 (fun _ => true) true 26 v d ps) :
    ∃ p c, ∃ l : List (Int × Int), v = .slice p l.length c ∧ Wk.At W p l ∧ l.length ≤ 140737488351232 ∧ ∀ x ∈ l, Wk.I64 x.1 ∧ Wk.I64 x.2 := by
  obtain ⟨a0, len, cap, rfl⟩ := okWide_slice Tryz.underlying26 hval
  obtain ⟨fuel, hf⟩ := h
  exact Wk.open_field_ranges (y := (d, ps)) hf (List.all_eq_true.2 fun x hx => List.all_eq_true.1 hsz x (DataW.weights_mem_each ht hd x hx))
end Go.Proofs.YtpaleljnkejdgaaGreatDoor
namespace Go.Proofs.YtpaleljnkejdgaaGreatDoor
open Go.Joins Go.ChangeShapes Go.WideShapes Go.RowKit Go.Deep

set_option maxRecDepth 100000 in
/-- A field that is a zone, out of a struct's reading. -/
theorem Qt.zone_part {H : Type} {enc : TypeId × Value → H} {W : World} {n base : Nat} {sp : Nat → Bool} {hd : Bool} {l : List Value} {x : Option (DataW H × List MemPlace)}
    (h : DataW.trod enc Tryz.prog W base sp hd n 25 ((l.drop 0).take 10) = x) (hx : x.isSome = true) :
    ∃ z : Wp.Zn, (∀ i, i < 10 → l[i]? = (Wp.zoneC z)[i]?) ∧ z.Fits := by
  obtain ⟨y, rfl⟩ := Option.isSome_iff_exists.1 hx
  obtain ⟨xs, m, _, _, _, hlen, hg⟩ := DataW.trod_struct Tryz.underlying25 h
  have h1 : Tryz.prog.cellsOf 3 = 1 := by kernel_rfl
  have h4 : Tryz.prog.cellsOf 23 = 4 := by kernel_rfl
  have hsome : ∀ i, i < 4 → (xs[i]?).isSome = true := fun i hi => by
    have hl : xs.length = 4 := hlen
    rw [List.getElem?_eq_getElem (by omega)]; rfl
  have g0 : DataW.trod enc Tryz.prog W base sp hd m 3 ((((l.drop 0).take 10).drop 0).take (Tryz.prog.cellsOf 3)) = xs[0]? := hg 0 _ rfl
  have g1 : DataW.trod enc Tryz.prog W base sp hd m 3 ((((l.drop 0).take 10).drop 1).take (Tryz.prog.cellsOf 3)) = xs[1]? := hg 1 _ rfl
  have g2 : DataW.trod enc Tryz.prog W base sp hd m 23 ((((l.drop 0).take 10).drop 2).take (Tryz.prog.cellsOf 23)) = xs[2]? := hg 2 _ rfl
  have g3 : DataW.trod enc Tryz.prog W base sp hd m 23 ((((l.drop 0).take 10).drop 6).take (Tryz.prog.cellsOf 23)) = xs[3]? := hg 3 _ rfl
  rw [h1] at g0 g1
  rw [h4] at g2 g3
  have key : ∀ i v, ((l.drop 0).take 10)[i]? = some v → l[i]? = some v := fun i v h => by
    have := Cv.drop_take l 0 10 i v h
    rwa [Nat.zero_add] at this
  obtain ⟨z0, e0, w0⟩ := Wp.int_part Tryz.underlying3 g0 (hsome 0 (by omega))
  obtain ⟨z1, e1, w1⟩ := Wp.int_part Tryz.underlying3 g1 (hsome 1 (by omega))
  obtain ⟨s, a0, a1, a2, a3, w2⟩ := Wp.sw_part g2 (hsome 2 (by omega))
  obtain ⟨t, b0, b1, b2, b3, w3⟩ := Wp.sw_part g3 (hsome 3 (by omega))
  refine ⟨⟨z0, z1, s, t⟩, fun i hi => ?_, w0, w1, w2, w3⟩
  match i, hi with
  | 0, _ => rw [key _ _ e0]; rfl
  | 1, _ => rw [key _ _ e1]; rfl
  | 2, _ => rw [key _ _ a0]; rfl
  | 3, _ => rw [key _ _ a1]; rfl
  | 4, _ => rw [key _ _ a2]; rfl
  | 5, _ => rw [key _ _ a3]; rfl
  | 6, _ => rw [key _ _ b0]; rfl
  | 7, _ => rw [key _ _ b1]; rfl
  | 8, _ => rw [key _ _ b2]; rfl
  | 9, _ => rw [key _ _ b3]; rfl
set_option maxRecDepth 100000 in
theorem Qt.open_quiet {H : Type} {enc : TypeId × Value → H} {W : World} {base : Nat} {ts : List TypeId} {ds : List (DataW H)} (hsz : (DataW.weightsEach Tryz.prog ts ds).all (· ≤ reachBytes) = true)
    (j : Nat) {v : Value} {d : DataW H} {ps : List MemPlace} (ht : ts[j]? = some 28) (hd : ds[j]? = some d) (hval : Value.okWide Tryz.prog W .any base 28 v)
    (h : DataW.Trod enc Tryz.prog W 0 (fun _ => true) true 28 v d ps) :
    ∃ z p c, ∃ l : List (Int × Int), v = .agg (Qt.hC z p l.length c) ∧ z.Fits ∧ Wk.At W p l ∧ l.length ≤ 140737488351232 := by
  obtain ⟨cs, rfl, hcs⟩ := okWide_struct Tryz.underlying28 hval
  obtain ⟨fuel, hf⟩ := h
  obtain ⟨xs, n, _, hx, _, hlen, hg⟩ := DataW.trod_struct Tryz.underlying28 hf
  have h10 : Tryz.prog.cellsOf 25 = 10 := by kernel_rfl
  have h1 : Tryz.prog.cellsOf 26 = 1 := by kernel_rfl
  have hs11 : cs.size = 11 := hcs.trans (by kernel_rfl)
  have hl2 : xs.length = 2 := hlen
  obtain ⟨y0, y1, rfl⟩ : ∃ y0 y1, xs = [y0, y1] := by
    match xs, hl2 with
    | [a, b], _ => exact ⟨a, b, rfl⟩
  have g0 : DataW.trod enc Tryz.prog W 0 (fun _ => true) true n 25 (((Value.agg cs).cells.toList.drop 0).take (Tryz.prog.cellsOf 25)) = some y0 := hg 0 _ rfl
  have g1 : DataW.trod enc Tryz.prog W 0 (fun _ => true) true n 26 (((Value.agg cs).cells.toList.drop 10).take (Tryz.prog.cellsOf 26)) = some y1 := hg 1 _ rfl
  rw [h10] at g0
  rw [h1] at g1
  obtain ⟨z, hz, hfit⟩ := Qt.zone_part g0 rfl
  obtain ⟨u, hu⟩ : ∃ u, cs[10]? = some u := ⟨_, Array.getElem?_eq_getElem (by omega)⟩
  have hd1 : ((Value.agg cs).cells.toList.drop 10).take 1 = [u] := by
    refine List.ext_getElem? fun i => ?_
    rw [List.getElem?_take]
    split
    · next hi =>
      obtain rfl : i = 0 := by omega
      rw [List.getElem?_drop]
      simp only [Value.cells, Array.getElem?_toList]
      rw [hu]
      rfl
    · next hi =>
      rw [List.getElem?_eq_none (by simp; omega)]
  rw [hd1] at g1
  simp only [Prod.mk.injEq] at hx
  obtain ⟨rfl, _⟩ := hx
  have hall : ∀ x ∈ y1.1.weights Tryz.prog 26, x ≤ reachBytes := by
    intro x hx
    have := List.all_eq_true.1 hsz x (DataW.weights_mem_each ht hd x (by
      simp only [List.map_cons, List.map_nil, DataW.weights, Tryz.underlying28]
      simp only [DataW.weightsEach, List.mem_append]
      exact Or.inr (Or.inl hx)))
    simpa using this
  obtain ⟨p, c, l, rfl, hA, hn, _⟩ := Wk.open_field_ranges g1 (List.all_eq_true.2 fun x hx => by simpa using hall x hx)
  refine ⟨z, p, c, l, ?_, hfit, hA, hn⟩
  congr 1
  apply Array.ext_getElem?
  intro i
  by_cases hi : i < 10
  · have := hz i hi
    simp only [Value.cells, Array.getElem?_toList] at this
    rw [this]
    unfold Qt.hC
    rw [Array.getElem?_push_lt (by show i < 10; exact hi)]
    rw [Array.getElem?_eq_getElem (by show i < 10; exact hi)]
  · by_cases h2 : i = 10
    · subst h2
      rw [hu]
      rfl
    · rw [Array.getElem?_eq_none (by omega), Array.getElem?_eq_none (by show 11 ≤ i; omega)]
end Go.Proofs.YtpaleljnkejdgaaGreatDoor
