
/-
  append of timers onto a row of the call's own, and the walk of slices.Clone at timers. Condition: the lists are of a size that a machine holds.
-/
import Derived.Test.YtlbifinkjghgaaaHpRise
import Derived.Deep.AppendSrc
import Derived.Deep.RegionLaw
import Derived.Maps.AppendAt
namespace Go.Proofs.Ytlbifinkjghgaaa
open Go.RowKit Go.Lib Go.Sort Go.Shelf

theorem Hp.append (l m : List (Int × Int × Int × Int)) (v : Value) (q : Option Addr) (n c : Nat) (base : Nat) (ty : TypeId) (w : World) (hO : Hp.Own w base v l) (hA : Hp.At w q m) (hn : n = m.length) (hl : l.length ≤ 1000000) (hm : m.length ≤ 1000000) (hb : base ≤ w.heap.size) :
    ∃ v' w', (Builtin.append_ #[22, 22] ty #[v, .slice q n c]).run Try.prog w = .ok v' w' ∧ Hp.Own w' base v' (l ++ m) ∧ w.grownBy w' v.ownBlock ∧ (v'.ownBlock = v.ownBlock ∨ v'.ownBlock = some w.heap.size) := by
  obtain ⟨i0, hi, hz0, hz1, hz2⟩ := infoTimer
  have hT := Try.underlying22
  subst hn
  cases q with
  | some ad =>
    have hnews : ∀ j u, (Hp.rcs m)[j]? = some u → w.cell? (ad.add j) = some u := by
      intro j u hj
      rcases hA with rfl | ⟨b, off, hp, hc⟩
      · simp [Hp.rcs] at hj
      · cases hp
        have hjl : j < m.length * 4 := by rw [← Hp.rcs_len]; exact (List.getElem?_eq_some_iff.1 hj).1
        have hd : j / 4 < m.length := by omega
        obtain ⟨c0, c1, c2, c3⟩ := hc (j / 4) hd
        obtain ⟨g0, g1, g2, g3⟩ := Hp.rcs_get m (j / 4) hd
        have hr : j % 4 = 0 ∨ j % 4 = 1 ∨ j % 4 = 2 ∨ j % 4 = 3 := by omega
        rw [show (⟨b, off, none⟩ : Addr).add j = ⟨b, off + j, none⟩ by simp [Addr.add]]
        rcases hr with h | h | h | h
        · rw [show j = j / 4 * 4 by omega] at hj ⊢
          rw [g0] at hj
          rw [← hj]
          exact c0
        · rw [show j = j / 4 * 4 + 1 by omega] at hj ⊢
          rw [g1] at hj
          rw [← hj, ← Nat.add_assoc]
          exact c1
        · rw [show j = j / 4 * 4 + 2 by omega] at hj ⊢
          rw [g2] at hj
          rw [← hj, ← Nat.add_assoc]
          exact c2
        · rw [show j = j / 4 * 4 + 3 by omega] at hj ⊢
          rw [g3] at hj
          rw [← hj, ← Nat.add_assoc]
          exact c3
    have hbb : (l.length + m.length) * 32 ≤ 140737488355328 := by omega
    obtain ⟨v', w', hr, h2, h3, _, h5⟩ := run_append_own_at (P := Try.prog) w base 22 ty 29 i0 _ 4 32 hT hi hz0 hz1 hz2 rfl (by decide) v l.length (Hp.rcs l) hO ad m.length c (Hp.rcs m) (Hp.rcs_len m) hnews (Hp.rcs_one m) (by unfold maxLen; omega) hbb hb
    refine ⟨v', w', hr, ?_, h3, h5⟩
    unfold Hp.Own
    rw [Hp.rcs_append, List.length_append]
    exact h2
  | none =>
    have hm0 : m = [] := by
      rcases hA with h | ⟨b, off, hp, _⟩
      · exact h
      · cases hp
    subst hm0
    rw [List.append_nil]
    rcases hO.2 with ⟨rfl, h0⟩ | ⟨g, cap, cur, rfl, hg, hc, hn, hm2, hs, ht⟩
    · refine ⟨.slice none 0 0, w, ?_, hO, ⟨rfl, rfl, rfl, Nat.le_refl _, fun _ _ _ => rfl⟩, Or.inl rfl⟩
      have hf := run_firstCells_none (P := Try.prog) w i0.size 0 0 c
      simp [Builtin.append_, run_underlying hT, sizeOf, typeInfo, hi, Builtin.lenOf, hf]
    · refine ⟨.slice (some ⟨g, 0, none⟩) l.length cap, w, ?_, hO, ⟨rfl, rfl, rfl, Nat.le_refl _, fun _ _ _ => rfl⟩, Or.inl rfl⟩
      exact run_append_room_src (P := Try.prog) w 22 22 ty 29 i0 hT hi g 0 l.length cap (.slice none 0 c) 0 [] (Src.ofNil w hT c) (by omega) (by simp) (by simp)
/-- append as a step of a region that draws its order. -/
theorem Hp.step {ops : Array Oper} {o : Oper} {a : Act} {w : World} {K : Act → World → Prop} {Q : Exit → Act → World → Prop} {E : Prop}
    (hg : o.guard = none) (s x : Operand) (hop : o.op = Op.call { callee := Callee.builtin Builtin.append, args := #[s, x], argTypes := #[22, 22] })
    (l m : List (Int × Int × Int × Int)) (v : Value) (q : Option Addr) (n c : Nat) (base : Nat) (hs : a.eval s = v) (hx : a.eval x = .slice q n c)
    (hO : Hp.Own w base v l) (hA : Hp.At w q m) (hn : n = m.length) (hl : l.length ≤ 1000000) (hm : m.length ≤ 1000000) (hb : base ≤ w.heap.size)
    (hK : ∀ v' w', Hp.Own w' base v' (l ++ m) → w.grownBy w' v.ownBlock → K (a.put o.dst v') w') :
    if Region.wanted o (yielded ops a.tmps) = true then Oper.wp Try.prog o a w K Q else E := by
  have hw : Region.wanted o (yielded ops a.tmps) = true := by simp [Region.wanted, hg]
  rw [if_pos hw]
  obtain ⟨v', w', hr, h2, h3, _⟩ := Hp.append l m v q n c base o.type w hO hA hn hl hm hb
  unfold Oper.wp
  simp [execOp, hop, resolve, invoke, builtin, hs, hx, hr, Result.andThen]
  exact hK v' w' h2 h3
/-- append as an operation of a plain region. -/
theorem Hp.listW {ops : Array Oper} {rest : List Oper} {o : Oper} {a : Act} {w : World} {Q : Exit → Act → World → Prop} (hgd : o.guard = none) (s x : Operand) (hop : o.op = Op.call { callee := Callee.builtin Builtin.append, args := #[s, x], argTypes := #[22, 22] })
    (l m : List (Int × Int × Int × Int)) (v : Value) (q : Option Addr) (n c : Nat) (base : Nat) (hs : a.eval s = v) (hx : a.eval x = .slice q n c)
    (hO : Hp.Own w base v l) (hA : Hp.At w q m) (hn : n = m.length) (hl : l.length ≤ 1000000) (hm : m.length ≤ 1000000) (hb : base ≤ w.heap.size)
    (h : ∀ v' w', Hp.Own w' base v' (l ++ m) → w.grownBy w' v.ownBlock → wpList Try.prog ops Q rest (a.put o.dst v') w') : wpList Try.prog ops Q (o :: rest) a w := by
  obtain ⟨v', w', hr, h2, h3, _⟩ := Hp.append l m v q n c base o.type w hO hA hn hl hm hb
  refine wpList_plain hgd fun K hK => ?_
  unfold Oper.wp
  simp [execOp, hop, resolve, invoke, builtin, hs, hx, hr, Result.andThen]
  exact hK _ _ (h v' w' h2 h3)
theorem Hp.own_made (w : World) : Hp.Own (w.alloc (.cells #[] 29)) w.heap.size (.slice (some ⟨w.heap.size, 0, none⟩) 0 0) [] := World.ownsRow_made w #[] 0 (Nat.le_refl _) (Nat.zero_le _) rfl
/-- What a copy of timers leaves. -/
def Hp.Copied (l : List (Int × Int × Int × Int)) (w : World) (e : Ending) (w' : World) : Prop := ∃ v, e = .returned v ∧ Hp.Own w' w.heap.size v l ∧ Below w.heap.size w w'
set_option maxRecDepth 100000 in
theorem hp_Clone (l : List (Int × Int × Int × Int)) (p : Option Addr) (c : Nat) (w : World) (hA : Hp.At w p l) (hn : l.length ≤ 1000000) :
    Calls Try.prog 11 #[.slice p l.length c] w (Hp.Copied l w) := by
  have q22 : ∀ (w : World) (a : Option Addr) (n c n' c' : Nat), (binOp .eql 22 (.slice a n c) (.slice none n' c')).run Try.prog w = .ok (.bool a.isNone) w := fun w a n c n' c' => Lib.run_eql_slice_nil w _ _ a n c n' c' Try.underlying22
  cases p with
  | none =>
    have h0 : l = [] := by
      rcases hA with h | ⟨b, off, hp, _⟩
      · exact h
      · cases hp
    subst h0
    go_enter Try.func11, Try.ntmps11
    go_wp2_with fail
    go_ret
    exact ⟨_, rfl, Hp.Own.nil _ _, Below.refl _ _⟩
  | some ad =>
    have HA := Lib.hid (hA.below (hp_box w (.cells #[] 29)))
    have HN := Lib.hid hn
    clear hA hn
    obtain ⟨n, hnl⟩ : ∃ n, n = l.length := ⟨_, rfl⟩
    have Hn := Lib.hid hnl
    rw [← hnl]
    clear hnl
    go_enter Try.func11, Try.ntmps11
    go_wp2_with (at_builtin; refine Hp.listW rfl _ _ rfl [] l _ _ _ _ w.heap.size rfl rfl (Hp.own_made w) HA.out Hn.out ?c1 HN.out ?c2 ?_)
    case c1 => simp
    case c2 => rw [World.size_alloc]; omega
    intro v' w' hO hg
    have HO := Lib.hid hO
    have HB := Lib.hid ((hp_box w (.cells #[] 29)).grown hg (by rw [World.size_alloc]; omega) (fun k hk => by cases hk; exact Nat.le_refl _))
    clear hO hg
    go_wp2_with fail
    go_ret
    exact ⟨_, rfl, HO.out, HB.out⟩
end Go.Proofs.Ytlbifinkjghgaaa
