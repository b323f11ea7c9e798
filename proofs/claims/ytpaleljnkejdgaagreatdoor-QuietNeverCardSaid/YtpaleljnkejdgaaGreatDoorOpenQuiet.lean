/-
  What a law's quiet hours read as, opened for the walks. No condition but the form's own reach.
-/
import Derived.Test.YtpaleljnkejdgaaGreatDoorOpenZone
import Derived.Test.YtpaleljnkejdgaaGreatDoorOpenRange
import Derived.Test.YtpaleljnkejdgaaGreatDoorQtSmall
namespace Go.Proofs.YtpaleljnkejdgaaGreatDoor
open Go.Joins Go.ChangeShapes Go.WideShapes Go.RowKit Go.Deep

set_option maxRecDepth 100000 in
/-- A field that is a zone, out of a struct's reading. -/
theorem Qt.zone_part {H : Type} {enc : TypeId × Value → H} {W : World} {n base : Nat} {sp : Nat → Bool} {hd : Bool} {l : List Value} {x : Option (DataW H × List MemPlace)}
    (h : DataW.trod enc Tryz.prog W base sp hd n 25 ((l.drop 0).take 10) = x) (hx : x.isSome = true) :
    ∃ z : Wp.Zn, (∀ i, i < 10 → l[i]? = (Wp.zoneC z)[i]?) ∧ z.Fits := by
  obtain ⟨y, rfl⟩ := Option.isSome_iff_exists.1 hx
  obtain ⟨xs, m, _, _, _, hlen, hg⟩ := DataW.trod_struct Tryz.underlying25 h
  have h1 : Tryz.prog.cellsOf 3 = 1 := by kernel_rfl
  have h4 : Tryz.prog.cellsOf 23 = 4 := by kernel_rfl
  have hsome : ∀ i, i < 4 → (xs[i]?).isSome = true := fun i hi => by
    have hl : xs.length = 4 := hlen
    rw [List.getElem?_eq_getElem (by omega)]; rfl
  have g0 : DataW.trod enc Tryz.prog W base sp hd m 3 ((((l.drop 0).take 10).drop 0).take (Tryz.prog.cellsOf 3)) = xs[0]? := hg 0 _ rfl
  have g1 : DataW.trod enc Tryz.prog W base sp hd m 3 ((((l.drop 0).take 10).drop 1).take (Tryz.prog.cellsOf 3)) = xs[1]? := hg 1 _ rfl
  have g2 : DataW.trod enc Tryz.prog W base sp hd m 23 ((((l.drop 0).take 10).drop 2).take (Tryz.prog.cellsOf 23)) = xs[2]? := hg 2 _ rfl
  have g3 : DataW.trod enc Tryz.prog W base sp hd m 23 ((((l.drop 0).take 10).drop 6).take (Tryz.prog.cellsOf 23)) = xs[3]? := hg 3 _ rfl
  rw [h1] at g0 g1
  rw [h4] at g2 g3
  have key : ∀ i v, ((l.drop 0).take 10)[i]? = some v → l[i]? = some v := fun i v h => by
    have := Cv.drop_take l 0 10 i v h
    rwa [Nat.zero_add] at this
  obtain ⟨z0, e0, w0⟩ := Wp.int_part Tryz.underlying3 g0 (hsome 0 (by omega))
  obtain ⟨z1, e1, w1⟩ := Wp.int_part Tryz.underlying3 g1 (hsome 1 (by omega))
  obtain ⟨s, a0, a1, a2, a3, w2⟩ := Wp.sw_part g2 (hsome 2 (by omega))
  obtain ⟨t, b0, b1, b2, b3, w3⟩ := Wp.sw_part g3 (hsome 3 (by omega))
  refine ⟨⟨z0, z1, s, t⟩, fun i hi => ?_, w0, w1, w2, w3⟩
  match i, hi with
  | 0, _ => rw [key _ _ e0]; rfl
  | 1, _ => rw [key _ _ e1]; rfl
  | 2, _ => rw [key _ _ a0]; rfl
  | 3, _ => rw [key _ _ a1]; rfl
  | 4, _ => rw [key _ _ a2]; rfl
  | 5, _ => rw [key _ _ a3]; rfl
  | 6, _ => rw [key _ _ b0]; rfl
  | 7, _ => rw [key _ _ b1]; rfl
  | 8, _ => rw [key _ _ b2]; rfl
  | 9, _ => rw [key _ _ b3]; rfl
set_option maxRecDepth 100000 in
theorem Qt.open_quiet {H : Type} {enc : TypeId × Value → H} {W : World} {base : Nat} {ts : List TypeId} {ds : List (DataW H)} (hsz : (DataW.weightsEach Tryz.prog ts ds).all (· ≤ reachBytes) = true)
    (j : Nat) {v : Value} {d : DataW H} {ps : List MemPlace} (ht : ts[j]? = some 28) (hd : ds[j]? = some d) (hval : Value.okWide Tryz.prog W .any base 28 v)
    (h : DataW.Trod enc Tryz.prog W 0 (fun _ => true) true 28 v d ps) :
    ∃ z p c, ∃ l : List (Int × Int), v = .agg (Qt.hC z p l.length c) ∧ z.Fits ∧ Wk.At W p l ∧ l.length ≤ 140737488351232 := by
  obtain ⟨cs, rfl, hcs⟩ := okWide_struct Tryz.underlying28 hval
  obtain ⟨fuel, hf⟩ := h
  obtain ⟨xs, n, _, hx, _, hlen, hg⟩ := DataW.trod_struct Tryz.underlying28 hf
  have h10 : Tryz.prog.cellsOf 25 = 10 := by kernel_rfl
  have h1 : Tryz.prog.cellsOf 26 = 1 := by kernel_rfl
  have hs11 : cs.size = 11 := hcs.trans (by kernel_rfl)
  have hl2 : xs.length = 2 := hlen
  obtain ⟨y0, y1, rfl⟩ : ∃ y0 y1, xs = [y0, y1] := by
    match xs, hl2 with
    | [a, b], _ => exact ⟨a, b, rfl⟩
  have g0 : DataW.trod enc Tryz.prog W 0 (fun _ => true) true n 25 (((Value.agg cs).cells.toList.drop 0).take (Tryz.prog.cellsOf 25)) = some y0 := hg 0 _ rfl
  have g1 : DataW.trod enc Tryz.prog W 0 (fun _ => true) true n 26 (((Value.agg cs).cells.toList.drop 10).take (Tryz.prog.cellsOf 26)) = some y1 := hg 1 _ rfl
  rw [h10] at g0
  rw [h1] at g1
  obtain ⟨z, hz, hfit⟩ := Qt.zone_part g0 rfl
  obtain ⟨u, hu⟩ : ∃ u, cs[10]? = some u := ⟨_, Array.getElem?_eq_getElem (by omega)⟩
  have hd1 : ((Value.agg cs).cells.toList.drop 10).take 1 = [u] := by
    refine List.ext_getElem? fun i => ?_
    rw [List.getElem?_take]
    split
    · next hi =>
      obtain rfl : i = 0 := by omega
      rw [List.getElem?_drop]
      simp only [Value.cells, Array.getElem?_toList]
      rw [hu]
      rfl
    · next hi =>
      rw [List.getElem?_eq_none (by simp; omega)]
  rw [hd1] at g1
  simp only [Prod.mk.injEq] at hx
  obtain ⟨rfl, _⟩ := hx
  have hall : ∀ x ∈ y1.1.weights Tryz.prog 26, x ≤ reachBytes := by
    intro x hx
    have := List.all_eq_true.1 hsz x (DataW.weights_mem_each ht hd x (by
      simp only [List.map_cons, List.map_nil, DataW.weights, Tryz.underlying28]
      simp only [DataW.weightsEach, List.mem_append]
      exact Or.inr (Or.inl hx)))
    simpa using this
  obtain ⟨p, c, l, rfl, hA, hn, _⟩ := Wk.open_field_ranges g1 (List.all_eq_true.2 fun x hx => by simpa using hall x hx)
  refine ⟨z, p, c, l, ?_, hfit, hA, hn⟩
  congr 1
  apply Array.ext_getElem?
  intro i
  by_cases hi : i < 10
  · have := hz i hi
    simp only [Value.cells, Array.getElem?_toList] at this
    rw [this]
    unfold Qt.hC
    rw [Array.getElem?_push_lt (by show i < 10; exact hi)]
    rw [Array.getElem?_eq_getElem (by show i < 10; exact hi)]
  · by_cases h2 : i = 10
    · subst h2
      rw [hu]
      rfl
    · rw [Array.getElem?_eq_none (by omega), Array.getElem?_eq_none (by show 11 ≤ i; omega)]
end Go.Proofs.YtpaleljnkejdgaaGreatDoor
