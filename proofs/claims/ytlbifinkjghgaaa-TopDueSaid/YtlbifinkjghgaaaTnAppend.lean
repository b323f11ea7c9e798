
/-
  append of numbers onto a row of the call's own. Condition: the lists are of a size that a machine holds.
-/
import Derived.Test.YtlbifinkjghgaaaDuLives
import Derived.Test.YtlbifinkjghgaaaAt
namespace Go.Proofs.Ytlbifinkjghgaaa
open Go.RowKit Go.Lib Go.Sort Go.Shelf

def Tn.Own (w : World) (base : Nat) (v : Value) (l : List Int) : Prop := w.ownsRow base 2 1 v l.length (l.map Wp.mkN)
theorem Tn.append (l m : List Int) (v : Value) (q : Option Addr) (n c : Nat) (base : Nat) (ty : TypeId) (w : World) (hO : Tn.Own w base v l) (hA : Wp.At Wp.mkN w q m) (hn : n = m.length) (hl : l.length ≤ 1000000) (hm : m.length ≤ 1000000) (hb : base ≤ w.heap.size) :
    ∃ v' w', (Builtin.append_ #[23, 23] ty #[v, .slice q n c]).run Try.prog w = .ok v' w' ∧ Tn.Own w' base v' (l ++ m) ∧ w.grownBy w' v.ownBlock := by
  obtain ⟨i0, hi, hz0, hz1, hz2⟩ := hp_infoI64
  have hT := Try.underlying23
  subst hn
  cases q with
  | some ad =>
    have hnews : ∀ j u, (m.map Wp.mkN)[j]? = some u → w.cell? (ad.add j) = some u := by
      intro j u hj
      rcases hA with rfl | ⟨b, off, hp, hc⟩
      · simp at hj
      · cases hp
        have hjl : j < m.length := by have := (List.getElem?_eq_some_iff.1 hj).1; simpa using this
        rw [show (⟨b, off, none⟩ : Addr).add j = ⟨b, off + j, none⟩ by simp [Addr.add]]
        rw [← hj, hc j hjl]
        simp [hjl]
    have hbb : (l.length + m.length) * 8 ≤ 140737488355328 := by omega
    obtain ⟨v', w', hr, h2, h3, _, h5⟩ := run_append_own_at (P := Try.prog) w base 23 ty 2 i0 _ 1 8 hT hi hz0 hz1 hz2 rfl (by decide) v l.length (l.map Wp.mkN) hO ad m.length c (m.map Wp.mkN) (by simp) hnews (by intro u hu; obtain ⟨x, _, rfl⟩ := List.mem_map.1 hu; rfl) (by unfold maxLen; omega) hbb hb
    refine ⟨v', w', hr, ?_, h3⟩
    unfold Tn.Own
    rw [List.map_append, List.length_append]
    exact h2
  | none =>
    have hm0 : m = [] := by
      rcases hA with h | ⟨b, off, hp, _⟩
      · exact h
      · cases hp
    subst hm0
    rw [List.append_nil]
    rcases hO.2 with ⟨rfl, h0⟩ | ⟨g, cap, cur, rfl, hg, hc, hn, hm2, hs, ht⟩
    · refine ⟨.slice none 0 0, w, ?_, hO, ⟨rfl, rfl, rfl, Nat.le_refl _, fun _ _ _ => rfl⟩⟩
      have hf := run_firstCells_none (P := Try.prog) w i0.size 0 0 c
      simp [Builtin.append_, run_underlying hT, sizeOf, typeInfo, hi, Builtin.lenOf, hf]
    · refine ⟨.slice (some ⟨g, 0, none⟩) l.length cap, w, ?_, hO, ⟨rfl, rfl, rfl, Nat.le_refl _, fun _ _ _ => rfl⟩⟩
      exact run_append_room_src (P := Try.prog) w 23 23 ty 2 i0 hT hi g 0 l.length cap (.slice none 0 c) 0 [] (Src.ofNil w hT c) (by omega) (by simp) (by simp)
theorem Tn.listW {ops : Array Oper} {rest : List Oper} {o : Oper} {a : Act} {w : World} {Q : Exit → Act → World → Prop} (hgd : o.guard = none) (s x : Operand) (hop : o.op = Op.call { callee := Callee.builtin Builtin.append, args := #[s, x], argTypes := #[23, 23] })
    (l m : List Int) (v : Value) (q : Option Addr) (n c : Nat) (base : Nat) (hs : a.eval s = v) (hx : a.eval x = .slice q n c)
    (hO : Tn.Own w base v l) (hA : Wp.At Wp.mkN w q m) (hn : n = m.length) (hl : l.length ≤ 1000000) (hm : m.length ≤ 1000000) (hb : base ≤ w.heap.size)
    (h : ∀ v' w', Tn.Own w' base v' (l ++ m) → w.grownBy w' v.ownBlock → wpList Try.prog ops Q rest (a.put o.dst v') w') : wpList Try.prog ops Q (o :: rest) a w := by
  obtain ⟨v', w', hr, h2, h3⟩ := Tn.append l m v q n c base o.type w hO hA hn hl hm hb
  refine wpList_plain hgd fun K hK => ?_
  unfold Oper.wp
  simp [execOp, hop, resolve, invoke, builtin, hs, hx, hr, Result.andThen]
  exact hK _ _ (h v' w' h2 h3)
theorem Tn.made (w : World) : Tn.Own (w.alloc (.cells #[] 2)) w.heap.size (.slice (some ⟨w.heap.size, 0, none⟩) 0 0) [] := World.ownsRow_made w #[] 0 (Nat.le_refl _) (Nat.zero_le _) rfl
theorem Tn.Own.at {w : World} {base : Nat} {v : Value} {l : List Int} (h : Tn.Own w base v l) : ∃ p c, v = .slice p l.length c ∧ Wp.At Wp.mkN w p l := by
  rcases h.2 with ⟨hv, h0⟩ | ⟨g, cap, cur, hv, hg, hc, hn, hm, hs, ht⟩
  · have : l = [] := List.length_eq_zero_iff.1 h0
    exact ⟨none, 0, by rw [hv, h0], Or.inl this⟩
  · refine ⟨some ⟨g, 0, none⟩, cap, hv, Or.inr ⟨g, 0, rfl, fun i hi => ?_⟩⟩
    rw [Nat.zero_add, Lib.cell_of_heap hc, ← Array.getElem?_toList]
    have h1 : (cur.toList.take (l.length * 1))[i]? = (l.map Wp.mkN)[i]? := by rw [ht]
    rw [List.getElem?_take_of_lt (by omega)] at h1
    rw [h1]
    simp [hi]
end Go.Proofs.Ytlbifinkjghgaaa
