
/-
  What a law's slice of timers, and a timer, read as, opened for the walks. No condition but the form's own reach.
-/
import Derived.Test.YtlbifinkjghgaaaRowKit
import Derived.Test.YtlbifinkjghgaaaHpPA
import Derived.Deep.Slices
import Derived.ChangeArms
import Derived.Lib.SmallJoins
namespace Go.Proofs.Ytlbifinkjghgaaa
open Go.ChangeShapes Go.WideShapes Go.ChangeAt Go.RowKit Go.Joins Go.Deep

theorem Hp.list4 {α : Type} {l : List α} (h : l.length = 4) : ∃ a b c d, l = [a, b, c, d] := by
  match l, h with
  | [a, b, c, d], _ => exact ⟨a, b, c, d, rfl⟩
set_option maxRecDepth 100000 in
theorem Hp.cellsT : Try.prog.cellsOf 2 = 1 ∧ Try.prog.cellsOf 5 = 1 ∧ Try.prog.cellsOf 29 = 4 := ⟨by kernel_rfl, by kernel_rfl, by kernel_rfl⟩
set_option maxRecDepth 100000 in
theorem Hp.bytesT : Try.prog.bytesOf 29 = 32 := by kernel_rfl
theorem Hp.cells4 {W : World} {a : Addr} {cs : List Value} (h : W.cells? 0 a 4 = some cs) : ∃ c0 c1 c2 c3, cs = [c0, c1, c2, c3] ∧ a.spot = none ∧ W.cell? ⟨a.block, a.off, none⟩ = some c0 ∧ W.cell? ⟨a.block, a.off + 1, none⟩ = some c1 ∧ W.cell? ⟨a.block, a.off + 2, none⟩ = some c2 ∧ W.cell? ⟨a.block, a.off + 3, none⟩ = some c3 := by
  obtain ⟨b, off, sp⟩ := a
  unfold World.cells? at h
  rw [if_pos (Nat.zero_le _)] at h
  simp only [List.range_succ, List.range_zero, List.nil_append, List.cons_append, List.mapM_cons, List.mapM_nil, Option.pure_def, Option.bind_eq_bind, Option.bind_eq_some_iff, Option.some.injEq] at h
  obtain ⟨c0, h0, _, ⟨c1, h1, _, ⟨c2, h2, _, ⟨c3, h3, _, rfl, rfl⟩, rfl⟩, rfl⟩, rfl⟩ := h
  have hsp : sp = none := by
    cases sp with
    | none => rfl
    | some x => simp [World.cell?, Addr.add] at h0; split at h0 <;> simp_all
  subst hsp
  exact ⟨c0, c1, c2, c3, rfl, rfl, by simpa [Addr.add] using h0, by simpa [Addr.add] using h1, by simpa [Addr.add] using h2, by simpa [Addr.add] using h3⟩
set_option maxRecDepth 100000 in
theorem Hp.open_one {H : Type} {enc : TypeId × Value → H} {W : World} (n : Nat) (cs : List Value) (y : DataW H × List MemPlace) (h : DataW.trod enc Try.prog W 0 (fun _ => true) true n 29 cs = some y) :
    ∃ x : Int × Int × Int × Int, cs = [.int .i64 x.1, .int .i64 x.2.1, .int .u8 x.2.2.1, .int .i64 x.2.2.2] := by
  obtain ⟨z1, z2, z4⟩ := Hp.cellsT
  obtain ⟨xs, n1, hn1, rfl, hl, hlen, hf⟩ := DataW.trod_struct Try.underlying29 h
  rw [z4] at hl
  obtain ⟨c0, c1, c2, c3, rfl⟩ := Hp.list4 hl
  obtain ⟨y0, y1, y2, y3, rfl⟩ := Hp.list4 hlen
  have f0 : DataW.trod enc Try.prog W 0 (fun _ => true) true n1 2 [c0] = some y0 := by
    have := hf 0 _ rfl
    simpa [z1] using this
  have f1 : DataW.trod enc Try.prog W 0 (fun _ => true) true n1 2 [c1] = some y1 := by
    have := hf 1 _ rfl
    simpa [z1] using this
  have f2 : DataW.trod enc Try.prog W 0 (fun _ => true) true n1 5 [c2] = some y2 := by
    have := hf 2 _ rfl
    simpa [z2] using this
  have f3 : DataW.trod enc Try.prog W 0 (fun _ => true) true n1 2 [c3] = some y3 := by
    have := hf 3 _ rfl
    simpa [z1] using this
  obtain ⟨k0, e0, _, _⟩ := DataW.trod_int Try.underlying2 f0
  obtain ⟨k1, e1, _, _⟩ := DataW.trod_int Try.underlying2 f1
  obtain ⟨k2, e2, _, _⟩ := DataW.trod_int Try.underlying5 f2
  obtain ⟨k3, e3, _, _⟩ := DataW.trod_int Try.underlying2 f3
  simp only [List.cons.injEq, and_true] at e0 e1 e2 e3
  subst e0 e1 e2 e3
  exact ⟨(k0, k1, k2, k3), rfl⟩
set_option maxRecDepth 100000 in
/-- Timers among the arguments. -/
theorem Hp.open_timers {H : Type} {enc : TypeId × Value → H} {W : World} {base : Nat} {ts : List TypeId} {ds : List (DataW H)} (hsz : (DataW.weightsEach Try.prog ts ds).all (· ≤ reachBytes) = true)
    (j : Nat) {v : Value} {d : DataW H} {ps : List MemPlace} (ht : ts[j]? = some 22) (hd : ds[j]? = some d) (hval : Value.okWide Try.prog W .any base 22 v)
    (h : DataW.Trod enc Try.prog W 0 (fun _ => true) true 22 v d ps) :
    ∃ p c, ∃ l : List (Int × Int × Int × Int), v = .slice p l.length c ∧ Hp.At W p l ∧ l.length ≤ 140737488351232 := by
  obtain ⟨a0, len0, cap0, rfl⟩ := okWide_slice Try.underlying22 hval
  obtain ⟨fuel, hf⟩ := h
  obtain ⟨z1, z2, z4⟩ := Hp.cellsT
  have hw : ∀ q ∈ d.weights Try.prog 22, q ≤ reachBytes := fun q hq => by
    have := List.all_eq_true.1 hsz q (DataW.weights_mem_each ht hd q hq)
    simpa using this
  rcases DataW.trod_slice Try.underlying22 hf with ⟨e3, _⟩ | ⟨a, len, cap, elems, rest, n2, hn2, e3, hy3, hb, hlc, hm, hel, helem, _, _⟩
  · simp [Value.cells] at e3
    obtain ⟨rfl, rfl, rfl⟩ := e3
    exact ⟨none, 0, [], rfl, Hp.At.nil W none, by simp⟩
  · simp [Value.cells] at e3
    obtain ⟨rfl, rfl, rfl⟩ := e3
    have hyd : d = .slice (elems.map (·.1)) (rest.map (·.1)) := by
      have := congrArg Prod.fst hy3
      simpa using this
    rw [z4] at helem
    have hlr : len0 ≤ 140737488351232 := by
      have := hw (((elems.map (·.1)).length + (rest.map (·.1)).length) * Try.prog.bytesOf 29) (by rw [hyd]; simp only [DataW.weights, Try.underlying22]; exact List.mem_cons_self)
      rw [Hp.bytesT, List.length_map, hel] at this
      simp only [reachBytes] at this
      omega
    have key : ∀ i, i < len0 → ∃ x : Int × Int × Int × Int, a.spot = none ∧ Hp.At1 W a.block (a.off + i * 4) x := by
      intro i hi
      have h1 := helem i hi
      rw [List.getElem?_eq_getElem (by omega)] at h1
      obtain ⟨cs', h2, h3⟩ := Option.bind_eq_some_iff.1 h1
      have hsp0 : a.spot = none := by
        have h1 := helem 0 (by omega)
        rw [List.getElem?_eq_getElem (by omega)] at h1
        obtain ⟨cs0, h2, _⟩ := Option.bind_eq_some_iff.1 h1
        obtain ⟨_, _, _, _, _, hsp, _⟩ := Hp.cells4 h2
        rw [Nat.zero_mul] at hsp
        simpa [Addr.add] using hsp
      have e : a.add (i * 4) = ⟨a.block, a.off + i * 4, none⟩ := by
        obtain ⟨b, off, sp⟩ := a
        change sp = none at hsp0
        subst hsp0
        exact Addr.add_lit _ _ _
      obtain ⟨a0, a1, a2, a3, rfl, _, h5⟩ := Hp.cells4 h2
      obtain ⟨x, hx⟩ := Hp.open_one n2 _ _ h3
      simp only [List.cons.injEq, and_true] at hx
      obtain ⟨rfl, rfl, rfl, rfl⟩ := hx
      rw [e] at h5
      exact ⟨x, hsp0, h5⟩
    have hall : ∀ m, m ≤ len0 → ∃ l : List (Int × Int × Int × Int), l.length = m ∧ ∀ i (hi : i < l.length), a.spot = none ∧ Hp.At1 W a.block (a.off + i * 4) l[i] := by
      intro m
      induction m with
      | zero => exact fun _ => ⟨[], rfl, fun i hi => by simp at hi⟩
      | succ m ihm =>
        intro hm'
        obtain ⟨l, hl', hi'⟩ := ihm (by omega)
        obtain ⟨x, hsp, hx⟩ := key m (by omega)
        refine ⟨l ++ [x], by simp [hl'], fun i hi => ?_⟩
        by_cases him : i < l.length
        · obtain ⟨q1, q2⟩ := hi' i him
          refine ⟨q1, ?_⟩
          rw [List.getElem_append_left him]; exact q2
        · have : i = m := by rw [List.length_append] at hi; simp at hi; omega
          subst this
          refine ⟨hsp, ?_⟩
          rw [List.getElem_append_right (by omega)]
          simp only [hl', Nat.sub_self, List.getElem_cons_zero]
          exact hx
    obtain ⟨l, hll, hli⟩ := hall len0 (Nat.le_refl _)
    refine ⟨some a, cap0, l, by rw [hll], ?_, by omega⟩
    by_cases h0 : l = []
    · exact Or.inl h0
    · have hsp := (hli 0 (List.length_pos_iff.2 h0)).1
      obtain ⟨b, off, sp⟩ := a
      change sp = none at hsp
      subst hsp
      exact Or.inr ⟨b, off, rfl, fun i hi => (hli i hi).2⟩
set_option maxRecDepth 100000 in
/-- A timer among the arguments. -/
theorem Hp.open_timer {H : Type} {enc : TypeId × Value → H} {W : World} {base : Nat} {v : Value} {d : DataW H} {ps : List MemPlace} (hval : Value.okWide Try.prog W .any base 29 v)
    (h : DataW.Trod enc Try.prog W 0 (fun _ => true) true 29 v d ps) : ∃ x : Int × Int × Int × Int, v = .agg #[.int .i64 x.1, .int .i64 x.2.1, .int .u8 x.2.2.1, .int .i64 x.2.2.2] := by
  obtain ⟨cs, rfl, hsz⟩ := okWide_struct Try.underlying29 hval
  obtain ⟨fuel, hf⟩ := h
  obtain ⟨x, hx⟩ := Hp.open_one fuel _ _ hf
  refine ⟨x, ?_⟩
  simp only [Value.cells] at hx
  rw [show cs = cs.toList.toArray by simp, hx]
end Go.Proofs.Ytlbifinkjghgaaa
