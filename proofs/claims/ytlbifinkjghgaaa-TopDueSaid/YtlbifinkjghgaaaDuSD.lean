/-
  The walk of slices.DeleteFunc at timers in a row of the call's own, with whatever closure. Condition: at most 1000000 timers.
  The walks of due.Next and due.Move. Condition: the list is of a size that a machine holds.
-/
import Derived.Test.YtlbifinkjghgaaaDuDrain
import Derived.Test.YtlbifinkjghgaaaHpLives
namespace Go.Proofs.Ytlbifinkjghgaaa
open Go.RowKit Go.Lib Go.Sort Go.Shelf

theorem Du.grown_cells (g : Nat) : ∀ (vs : List Value) (o : Nat) (w : World), w.grownBy (w.setCells g o vs) (some g)
  | [], _, w => hp_grown_refl w _
  | v :: r, o, w => hp_grown_trans (hp_grown_set w g o v) (Du.grown_cells g r (o + 1) _)
/-- clear at timers of a block of the call's own: what lies ahead stays. -/
theorem Du.clear (w : World) (g i n c : Nat) (hn : 0 < n) (hc : ∀ j, j < n * 4 → (w.cell? ⟨g, i * 4 + j, none⟩).isSome = true) (hf : ∀ j, w.frozen? ⟨g, j, none⟩ = false) :
    ∃ w', (∀ ty, (Builtin.clear_ #[22] ty #[.slice (some ⟨g, i * 4, none⟩) n c]).run Try.prog w = .ok (.tuple #[]) w') ∧ w.grownBy w' (some g) ∧ ∀ j, j < i * 4 → w'.cell? ⟨g, j, none⟩ = w.cell? ⟨g, j, none⟩ := by
  obtain ⟨vs, hvs⟩ : ∃ vs, vs = (Builtin.zeroCells #[Value.int .i64 0, Value.int .i64 0, Value.int .u8 0, Value.int .i64 0] n).toList := ⟨_, rfl⟩
  have hl : vs.length = n * 4 := by rw [hvs]; simp [Builtin.zeroCells]
  have h1 : ∀ v ∈ vs, v.oneCell' = true := by
    intro v hv
    rw [hvs] at hv
    simp only [Builtin.zeroCells, Array.toList_map, List.mem_map] at hv
    obtain ⟨k, _, rfl⟩ := hv
    have h4 : k % 4 = 0 ∨ k % 4 = 1 ∨ k % 4 = 2 ∨ k % 4 = 3 := by omega
    rcases h4 with h | h | h | h <;> simp [h] <;> rfl
  have hst := run_storeCells_cells (P := Try.prog) g (i * 4) vs 0 w (by rw [hl]; simpa using hc) (by intro j _; exact hf _) h1
  simp only [Nat.add_zero] at hst
  refine ⟨w.setCells g (i * 4) vs, ?_, ?_, fun j hj => World.cell?_setCells_out g vs (i * 4) w ⟨g, j, none⟩ (fun _ _ => Or.inl hj)⟩
  · intro ty
    obtain ⟨m, rfl⟩ : ∃ m, n = m + 1 := ⟨n - 1, by omega⟩
    have hz : ∀ w, (zeroValue 29).run Try.prog w = .ok (.agg #[.int .i64 0, .int .i64 0, .int .u8 0, .int .i64 0]) w := fun w => by
      obtain ⟨i0, hi, hz0, hz1, hz2⟩ := infoTimer
      simp [zeroValue, typeInfo, hi, hz0]
    simp [Builtin.clear_, run_underlying Try.underlying22, hz, Value.cells, ← hvs, hst]
  · exact Du.grown_cells g vs (i * 4) w
theorem Du.filter_next {l : List (Int × Int × Int × Int)} {P : (Int × Int × Int × Int) → Bool} {j : Nat} (hj : j < l.length) : (l.take (j + 1)).filter (fun x => !P x) = (l.take j).filter (fun x => !P x) ++ (if P l[j] = true then [] else [l[j]]) := by
  rw [List.take_succ_eq_append_getElem hj, List.filter_append]
  cases h : P l[j] <;> simp [h]
end Go.Proofs.Ytlbifinkjghgaaa
namespace Go.Proofs.Ytlbifinkjghgaaa
open Go.RowKit Go.Lib Go.Sort Go.Shelf

theorem du_results {fn : Func} {p u : Tmp} {ty : TypeId} (h : fn.results = #[.cell p ty, .tmp u]) (tmps : Array Value) (P : Program) (w : World) :
    (results fn tmps).run P w = ((asAddr (tmps.getD p undef)).run P w).andThen fun a w' => ((loadVar ty a).run P w').andThen fun v w'' => .ok (.tuple #[v, tmps.getD u undef]) w'' := by
  simp only [results, h]
  simp [Sem.run_bind, Result.andThen]
theorem du_ret {P : Program} {fn : Func} {p u : Tmp} {ty : TypeId} (h : fn.results = #[.cell p ty, .tmp u]) (tmps : Array Value) (w : World) (g : Nat) (t : TypeId) (cs : Array Value) (d : TypeDesc) (hp : tmps.getD p undef = .pointer (some ⟨g, 0, none⟩))
    (hg : w.heap[g]? = some (.cells cs t (0, 0))) (hu : P.underlying ty = some d) (hd : (match d with | .struct _ | .array _ _ => true | _ => false) = true) (hi : (P.info? ty).map (·.size) = some cs.size) :
    (results fn tmps).run P w = .ok (.tuple #[.agg cs, tmps.getD u undef]) w := by
  have hl := run_loadVar_row w g t ty cs (0, 0) d hg hu hd hi
  have ha : (asAddr (tmps.getD p undef)).run P w = .ok ⟨g, 0, none⟩ w := by rw [hp]; rfl
  rw [du_results h, ha, Result.andThen_ok, hl, Result.andThen_ok]
/-- The timer as it is moved. -/
noncomputable def Du.moT (l : List (Int × Int × Int × Int)) (s d : Int) : Int × Int × Int × Int := (d, (Hp.caT l s).2.1, (Hp.caT l s).2.2.1, (Hp.caT l s).2.2.2)
noncomputable def Du.moL (l : List (Int × Int × Int × Int)) (s d : Int) : List (Int × Int × Int × Int) := if Hp.caC l s = 0 then Hp.puL (Hp.caL l s) (Du.moT l s d) else Hp.caL l s
noncomputable def Du.moC (l : List (Int × Int × Int × Int)) (s d : Int) : Int := if Hp.caC l s = 0 then Hp.puC (Hp.caL l s) (Du.moT l s d).2.1 else Hp.caC l s
theorem Du.caL_le {l : List (Int × Int × Int × Int)} {s : Int} (h : l.length ≤ 140737488351232) : (Hp.caL l s).length ≤ 140737488351232 := by
  unfold Hp.caL
  by_cases h0 : Hp.caC l s = 0
  · rw [if_pos h0]
    have hok : Hp.Ok l := Classical.byContradiction fun e => by rw [show Hp.caC l s = 2 from if_neg e] at h0; cases h0
    have hi : Hp.idx l s < l.length := Classical.byContradiction fun e => by rw [show Hp.caC l s = if Hp.idx l s < l.length then 0 else 3 from if_pos hok, if_neg e] at h0; cases h0
    have := (Hp.wo_perm l _ hi).length_eq
    simp at this
    omega
  · rw [if_neg h0]
    by_cases h2 : Hp.caC l s = 2
    · rw [if_pos h2]; simp
    · rw [if_neg h2]; exact h
end Go.Proofs.Ytlbifinkjghgaaa
