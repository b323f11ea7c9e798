
/-
  The walk of DuePieces: whatever timers and times are, the law answers true. Condition: a list is of a size that a machine holds.
-/
import Derived.Test.YtlbifinkjghgaaaDuLives
namespace Go.Proofs.Ytlbifinkjghgaaa
open Go.RowKit Go.Lib Go.Sort Go.Shelf

theorem Du.list_ok {l T : List (Int × Int × Int × Int)} (h : Hp.Ok l) (hT : T.Sublist (Hp.srt l)) : Hp.Ok T ∧ Hp.srt T = T := by
  have ha : Hp.Asc T := List.Pairwise.sublist hT (Hp.srt_asc h.2.1)
  have hn : (Hp.sq T).Nodup := List.Nodup.sublist (hT.map _) (Hp.sq_nodup (Hp.srt_perm l) h.2.1)
  have hl : T.length ≤ 4096 := Nat.le_trans hT.length_le (by rw [Hp.srt_len]; exact h.1)
  exact ⟨Hp.ok_asc ha hn hl, Hp.asc_self ha hn⟩
theorem Du.pieces (a b : Int) (hab : a ≤ b) : ∀ S : List (Int × Int × Int × Int), Du.due S a ++ Du.due (S.drop (Du.due S a).length) b = Du.due S b ∧ (S.drop (Du.due S a).length).drop (Du.due (S.drop (Du.due S a).length) b).length = S.drop (Du.due S b).length
  | [] => ⟨rfl, rfl⟩
  | x :: S => by
    have ih := Du.pieces a b hab S
    unfold Du.due at ih ⊢
    by_cases h : x.1 ≤ a
    · have h2 : x.1 ≤ b := by omega
      rw [List.takeWhile_cons_of_pos (by simpa using h), List.takeWhile_cons_of_pos (p := fun x : Int × Int × Int × Int => decide (x.1 ≤ b)) (by simpa using h2)]
      simp only [List.length_cons, List.drop_succ_cons, List.cons_append]
      exact ⟨by rw [ih.1], ih.2⟩
    · rw [List.takeWhile_cons_of_neg (by simpa using h)]
      exact ⟨rfl, rfl⟩
/-- append of timers as an operation that is wanted. -/
theorem Du.listG {ops : Array Oper} {rest : List Oper} {o : Oper} {a : Act} {w : World} {Q : Exit → Act → World → Prop} (hw : Region.wanted o (yielded ops a.tmps) = true) (s x : Operand) (hop : o.op = Op.call { callee := Callee.builtin Builtin.append, args := #[s, x], argTypes := #[22, 22] })
    (l m : List (Int × Int × Int × Int)) (v : Value) (q : Option Addr) (n c : Nat) (base : Nat) (hs : a.eval s = v) (hx : a.eval x = .slice q n c)
    (hO : Hp.Own w base v l) (hA : Hp.At w q m) (hn : n = m.length) (hl : l.length ≤ 1000000) (hm : m.length ≤ 1000000) (hb : base ≤ w.heap.size)
    (h : ∀ v' w', Hp.Own w' base v' (l ++ m) → w.grownBy w' v.ownBlock → wpList Try.prog ops Q rest (a.put o.dst v') w') : wpList Try.prog ops Q (o :: rest) a w := by
  obtain ⟨v', w', hr, h2, h3, _⟩ := Hp.append l m v q n c base o.type w hO hA hn hl hm hb
  refine wpList_step fun K hK => ?_
  rw [if_pos hw]
  unfold Oper.wp
  simp [execOp, hop, resolve, invoke, builtin, hs, hx, hr, Result.andThen]
  exact hK _ _ (h v' w' h2 h3)
end Go.Proofs.Ytlbifinkjghgaaa
