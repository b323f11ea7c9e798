
/-
  The walks of the document's Drain, Count and Next for timers. Condition: the list is of a size that a machine holds.
-/
import Derived.Test.YtlbifinkjghgaaaDuRefs
namespace Go.Proofs.Ytlbifinkjghgaaa
open Go.RowKit Go.Lib Go.Sort Go.Shelf

/-- append of timers as an operation of a plain region, with what becomes of the block. -/
theorem Du.listW2 {ops : Array Oper} {rest : List Oper} {o : Oper} {a : Act} {w : World} {Q : Exit → Act → World → Prop} (hgd : o.guard = none) (s x : Operand) (hop : o.op = Op.call { callee := Callee.builtin Builtin.append, args := #[s, x], argTypes := #[22, 22] })
    (l m : List (Int × Int × Int × Int)) (v : Value) (q : Option Addr) (n c : Nat) (base : Nat) (hs : a.eval s = v) (hx : a.eval x = .slice q n c)
    (hO : Hp.Own w base v l) (hA : Hp.At w q m) (hn : n = m.length) (hl : l.length ≤ 1000000) (hm : m.length ≤ 1000000) (hb : base ≤ w.heap.size)
    (h : ∀ v' w', Hp.Own w' base v' (l ++ m) → w.grownBy w' v.ownBlock → (v'.ownBlock = v.ownBlock ∨ v'.ownBlock = some w.heap.size) → wpList Try.prog ops Q rest (a.put o.dst v') w') : wpList Try.prog ops Q (o :: rest) a w := by
  obtain ⟨v', w', hr, h2, h3, h4⟩ := Hp.append l m v q n c base o.type w hO hA hn hl hm hb
  refine wpList_plain hgd fun K hK => ?_
  unfold Oper.wp
  simp [execOp, hop, resolve, invoke, builtin, hs, hx, hr, Result.andThen]
  exact hK _ _ (h v' w' h2 h3 h4)
/-- Two rows of the call's own do not lie in one block. -/
def Du.Apart (u v : Value) : Prop := ∀ g, u.ownBlock = some g → v.ownBlock ≠ some g
theorem Du.Apart.symm {u v : Value} (h : Du.Apart u v) : Du.Apart v u := fun g h1 h2 => h g h2 h1
theorem Du.two {w w' : World} {base : Nat} {u v v' : Value} {l : List (Int × Int × Int × Int)} (hu : Hp.Own w base u l) (ha : Du.Apart u v) (hg : w.grownBy w' v.ownBlock) (hv : v'.ownBlock = v.ownBlock ∨ v'.ownBlock = some w.heap.size) : Hp.Own w' base u l ∧ Du.Apart u v' := by
  refine ⟨Du.own_grown hu hg ha, fun g h1 h2 => ?_⟩
  rcases hv with h | h
  · exact ha g h1 (h ▸ h2)
  · rw [h] at h2
    have := (hu.lt g h1).2
    cases h2
    omega
/-- What the document's Drain leaves, timer by timer. -/
def Du.Two (S : List (Int × Int × Int × Int)) (now : Int) (base : Nat) (w0 : World) (u v : Value) (j : Nat) (W : World) : Prop :=
  Hp.Own W base u ((S.take j).filter (fun x => !decide (x.1 ≤ now))) ∧ Hp.Own W base v ((S.take j).filter (fun x => decide (x.1 ≤ now))) ∧ Du.Apart u v ∧ Below base w0 W
/-- What is due of timers that are in order. -/
theorem Du.due_filter {now : Int} : ∀ {S : List (Int × Int × Int × Int)}, Hp.Asc S → Du.due S now = S.filter (fun x => decide (x.1 ≤ now)) ∧ S.drop (Du.due S now).length = S.filter (fun x => !decide (x.1 ≤ now))
  | [], _ => ⟨rfl, rfl⟩
  | y :: S, ha => by
    have hp := List.pairwise_cons.1 ha
    by_cases hy : y.1 ≤ now
    · have ih := Du.due_filter (now := now) hp.2
      unfold Du.due at ih ⊢
      rw [List.takeWhile_cons_of_pos (by simpa using hy), List.filter_cons_of_pos (by simpa using hy), List.filter_cons_of_neg (by simp [hy]), List.length_cons, List.drop_succ_cons]
      exact ⟨by rw [ih.1], ih.2⟩
    · have hall : ∀ x ∈ y :: S, ¬ x.1 ≤ now := by
        intro x hx
        rcases List.mem_cons.1 hx with rfl | h
        · exact hy
        · have := Hp.lt_iff.1 (hp.1 x h)
          omega
      unfold Du.due
      rw [List.takeWhile_cons_of_neg (by simpa using hy)]
      refine ⟨(List.filter_eq_nil_iff.2 fun x hx => by simpa using hall x hx).symm, ?_⟩
      exact (List.filter_eq_self.2 fun x hx => by simp [hall x hx]).symm
theorem Du.soL_asc (l : List (Int × Int × Int × Int)) : Hp.Asc (Hp.soL l) := by
  by_cases h : Hp.Ok l
  · rw [show Hp.soL l = Hp.srt l from if_pos h]; exact Hp.srt_asc h.2.1
  · rw [show Hp.soL l = [] from if_neg h]; exact List.Pairwise.nil
end Go.Proofs.Ytlbifinkjghgaaa
