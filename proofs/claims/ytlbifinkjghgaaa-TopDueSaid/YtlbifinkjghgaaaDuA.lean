/-
  The walks of due's ready and of its iterator: those of the timers, which are in order, that are due. Condition: the list is of a size that a machine holds.
  The walk of due.Count. Condition: the list is of a size that a machine holds.
-/
import Derived.Test.YtlbifinkjghgaaaHpLives
import Derived.RangeFuncNested
import Derived.RangeFuncBound
import Derived.RangeFuncCalls
import Derived.RangeFuncLeaves
import Derived.Shelf.RegionOpen
import Derived.OwnWalkIn
import Derived.TacticsInMore
import Derived.LoopNIn
import Derived.LoopIn
import Derived.Shelf.Abstract
namespace Go.Proofs.Ytlbifinkjghgaaa
open Go.RowKit Go.Shelf
attribute [local go_sem] Oper.semAt_some

/-- Those of timers in order that are due. -/
def Du.due (l : List (Int × Int × Int × Int)) (now : Int) : List (Int × Int × Int × Int) := l.takeWhile fun x => decide (x.1 ≤ now)
theorem Du.due_at : ∀ (l : List (Int × Int × Int × Int)) (now : Int) (k : Nat), k ≤ l.length → (∀ j (h : j < l.length), j < k → l[j].1 ≤ now) → (∀ h : k < l.length, ¬ l[k].1 ≤ now) → l.take k = Du.due l now
  | [], now, k, _, _, _ => by simp [Du.due]
  | x :: r, now, 0, _, _, h2 => by
    have := h2 (by simp)
    simp only [List.getElem_cons_zero] at this
    unfold Du.due
    rw [List.takeWhile_cons_of_neg (by simpa using this)]
    rfl
  | x :: r, now, k + 1, hk, h1, h2 => by
    have h0 := h1 0 (by simp) (by omega)
    simp only [List.getElem_cons_zero] at h0
    have ih := Du.due_at r now k (by simpa using hk) (fun j h hj => by have := h1 (j + 1) (by simpa using h) (by omega); simpa using this) (fun h => by have := h2 (by simpa using h); simpa using this)
    unfold Du.due at ih ⊢
    rw [List.takeWhile_cons_of_pos (by simpa using h0), List.take_succ_cons, ih]
/-- What a loop's body keeps: all blocks below n₀ but for one. -/
def Du.Kp (n₀ x : Nat) (A B : World) : Prop := A.heap.size ≤ B.heap.size ∧ ∀ k, k < n₀ → k ≠ x → B.heap[k]? = A.heap[k]?
theorem Du.Kp.trans {n₀ x : Nat} {A B C : World} (h : Du.Kp n₀ x A B) (k : Du.Kp n₀ x B C) : Du.Kp n₀ x A C := ⟨Nat.le_trans h.1 k.1, fun j hj hx => (k.2 j hj hx).trans (h.2 j hj hx)⟩
theorem Du.Kp.refl (n₀ x : Nat) (A : World) : Du.Kp n₀ x A A := ⟨Nat.le_refl _, fun _ _ _ => rfl⟩
theorem Du.Kp.put {n₀ x : Nat} {w : World} (hn : n₀ ≤ w.heap.size) (W : World) (l : Nat) (o o' : Obj) (hl : w.heap.size ≤ l) (h : W.heap[l]? = some o) (_ : o.isCells = false) (_ : o.isWalk = false) : Du.Kp n₀ x W (W.putObj l o') := by
  have hg := grownBy_putObj' W l o'
  exact ⟨hg.size, fun k hk hx => by
    by_cases hkl : k < W.heap.size
    · exact hg.block k hkl (fun e => by cases e; omega)
    · have := (Array.getElem?_eq_some_iff.1 h).1; omega⟩
set_option maxHeartbeats 1000000 in
theorem du_ready (p : Option Addr) (n c : Nat) (now : Int) (w : World) :
    Calls Try.prog 18 #[.slice p n c, .int .i64 now] w fun e w' => e = .returned (.func (.func 31) #[] #[.pointer (some ⟨w.heap.size, 0, none⟩), .pointer (some ⟨w.heap.size + 1, 0, none⟩)]) ∧ w' = (w.alloc (.cells #[.slice p n c] 22)).alloc (.cells #[.int .i64 now] 2) := by
  go_enter Try.func18, Try.ntmps18
  go_wp2_with fail
  go_ret
  exact ⟨rfl, rfl⟩
set_option maxRecDepth 100000 in
set_option maxHeartbeats 2000000 in
theorem du_ready1_in (F : Fence) (n : Nat) (h7 : F.fn 31) (hro : F.round = none) (hn : 1 ≤ n) (y Bs Bn n₀ bx : Nat) (p : Option Addr) (cap : Nat) (l : List (Int × Int × Int × Int)) (now : Int) (hl : l.length ≤ 4096) (hlow : ∀ b off, p = some ⟨b, off, none⟩ → l ≠ [] → b < n₀ ∧ b ≠ bx) (J Jx : List (Int × Int × Int × Int) → World → Prop)
    (W : World) (hn0 : n₀ ≤ W.heap.size) (hJ : AbidesFrom W.heap.size J)
    (hY : ∀ pre x W, J pre W → pre.length < l.length → YieldAt F (n - 1) Try.prog y #[.agg #[.int .i64 x.1, .int .i64 x.2.1, .int .u8 x.2.2.1, .int .i64 x.2.2.2]] W fun e W' =>
      (e = .returned (.bool true) ∧ J (pre ++ [x]) W' ∧ Du.Kp n₀ bx W W') ∨ (e = .returned (.bool false) ∧ Jx (pre ++ [x]) W'))
    (hBs : W.cell? ⟨Bs, 0, none⟩ = some (.slice p l.length cap)) (hBn : W.cell? ⟨Bn, 0, none⟩ = some (.int .i64 now)) (hs : Bs < n₀ ∧ Bs ≠ bx) (hm : Bn < n₀ ∧ Bn ≠ bx) (hc : Hp.At W p l) (h0 : J [] W) :
    CallsIn F n Try.prog 31 #[.func (.yield y) #[] #[], .pointer (some ⟨Bs, 0, none⟩), .pointer (some ⟨Bn, 0, none⟩)] W fun e W' => (∃ v, e = .returned v) ∧
      ((∃ ys, ys = Du.due l now ∧ J ys W') ∨ (∃ pre, True ∧ Jx pre W')) := by
  refine callsIn_of_wp Try.func31 rfl h7 ?_ hro
  simp only [Try.ntmps31, List.size_toArray, List.length_cons, List.length_nil, Nat.reduceAdd, Nat.reduceSub, Array.replicate_succ, Array.replicate_zero, List.push_toArray, List.append_toArray, List.nil_append, List.cons_append]
  gi_wp2
  gi_loopw [8] (fun i wr => ∃ k : Nat, k ≤ l.length ∧ i = .int .i64 k ∧ Aside (∀ j (h : j < l.length), j < k → l[j].1 ≤ now) ∧ J (l.take k) wr ∧ Du.Kp n₀ bx W wr)
    (fun i _ => l.length - (intOf i).toNat)
  case atStart => exact ⟨0, Nat.zero_le _, rfl, fun j h hj => absurd hj (Nat.not_lt_zero _), h0, Du.Kp.refl _ _ _⟩
  case round =>
    obtain ⟨k, hk, rfl, hE, hJk, hKp⟩ := hrel
    have HE := Lib.hid hE.out
    clear hE
    have hbs := (World.cell?_of_block (a := ⟨Bs, 0, none⟩) (hKp.2 Bs hs.1 hs.2)).trans hBs
    have hbn := (World.cell?_of_block (a := ⟨Bn, 0, none⟩) (hKp.2 Bn hm.1 hm.2)).trans hBn
    by_cases hlt : k < l.length
    · obtain ⟨b, off, rfl, hx⟩ := hc.get k hlt
      have hb := hlow b off rfl (fun e => by rw [e] at hlt; simp at hlt)
      have hblk := hKp.2 b hb.1 hb.2
      have hx2 : Hp.At1 wr b (off + k * 4) l[k] := ⟨(World.cell?_of_block (a := ⟨b, off + k * 4, none⟩) hblk).trans hx.1, (World.cell?_of_block (a := ⟨b, off + k * 4 + 1, none⟩) hblk).trans hx.2.1, (World.cell?_of_block (a := ⟨b, off + k * 4 + 2, none⟩) hblk).trans hx.2.2.1, (World.cell?_of_block (a := ⟨b, off + k * 4 + 3, none⟩) hblk).trans hx.2.2.2⟩
      have HD := Lib.hid (fun (h : ¬ l[k].1 ≤ now) => Du.due_at l now k hk HE.out (fun _ => h))
      have HN := Lib.hid (fun (h : l[k].1 ≤ now) => show Aside (∀ j (h : j < l.length), j < k + 1 → l[j].1 ≤ now) from fun j hj hjk => by
        by_cases e : j = k
        · subst e; exact h
        · exact HE.out j hj (by omega))
      have HTk := Lib.hid (List.take_succ_eq_append_getElem hlt)
      have HYx := Lib.hid (fun W h => hY (l.take k) l[k] W h (by rw [List.length_take]; omega))
      have HJ := Lib.hid (fun o => hJ _ wr (wr.alloc o) none hJk (World.grownBy_alloc wr o none) (fun r e => by cases e))
      have HKb := Lib.hid (fun o => show Du.Kp n₀ bx W (wr.alloc o) from hKp.trans ⟨by rw [World.size_alloc]; omega, fun j hj _ => hp_past wr o j (by have := hKp.1; omega)⟩)
      clear hx hblk hJk
      generalize l[k] = x at *
      obtain ⟨x1, x2, x3, x4⟩ := x
      obtain ⟨e1, e2, e3, e4⟩ := hx2
      simp only [] at e1 e2 e3 e4 HD HN HYx
      have hltz : (k : Int) < (l.length : Int) := by omega
      have hk0 : (0 : Int) ≤ (k : Int) := by omega
      have hne1 : Bn ≠ wr.heap.size := by have := hKp.1; omega
      have hne2 : wr.heap.size ≠ Bn := by have := hKp.1; omega
      have hne3 : Bn < wr.heap.size := by have := hKp.1; omega
      have hbn2 : (wr.alloc (.cells #[.int .i64 x1, .int .i64 x2, .int .u8 x3, .int .i64 x4] 29)).cell? ⟨Bn, 0, none⟩ = some (.int .i64 now) := ((hp_box wr _).cell (p := ⟨Bn, 0, none⟩) hne3).trans hbn
      by_cases hdue : x1 ≤ now
      · have q1 : decide (now < x1) = false := by simp; omega
        have hN := HN.out hdue
        obtain ⟨fn, tmps, assign, body, hy, hR⟩ := HYx.out _ (HJ.out (.cells #[.int .i64 x1, .int .i64 x2, .int .u8 x3, .int .i64 x4] 29))
        have HR := Lib.hid hR
        have HK2 := Lib.hid (HKb.out (.cells #[.int .i64 x1, .int .i64 x2, .int .u8 x3, .int .i64 x4] 29))
        clear hR hdue hKp
        gi_wp2
        refine HR.out.mono ?_
        rintro e W3 (⟨rfl, hJ3, hk3⟩ | ⟨rfl, hJx3⟩)
        · gi_wp2
          go_roundw
          case rel => exact ⟨k + 1, by omega, by simp, hN, by rw [HTk.out]; exact hJ3, HK2.out.trans hk3⟩
          case measure => simp [intOf]; omega
        · gi_wp2
          refine bodyPost_ret (results_none rfl _ _ _) rfl ?_
          exact ⟨⟨_, rfl⟩, .inr ⟨_, trivial, hJx3⟩⟩
      · have q1 : decide (now < x1) = true := by simp; omega
        have E := Lib.hid (HD.out hdue)
        have HJ2 := Lib.hid (HJ.out (.cells #[.int .i64 x1, .int .i64 x2, .int .u8 x3, .int .i64 x4] 29))
        clear hdue hKp
        gi_wp2
        refine ⟨(fun f h => by cases h), ?_⟩
        gi_wp2
        refine bodyPost_ret (results_none rfl _ _ _) rfl ?_
        exact ⟨⟨_, rfl⟩, .inl ⟨_, E.out, HJ2.out⟩⟩
    · obtain rfl : k = l.length := by omega
      have E := Lib.hid (Du.due_at l now l.length (Nat.le_refl _) HE.out (fun h => absurd h (Nat.lt_irrefl _)))
      have HJ := Lib.hid hJk
      clear hJk
      gi_wp2
      go_end0
      exact ⟨⟨_, rfl⟩, .inl ⟨_, E.out, HJ.out⟩⟩
theorem du_stops (F : Fence) (n : Nat) (h7 : F.fn 31) (hro : F.round = none) (hn : 1 ≤ n) (Bs Bn n₀ bx : Nat) (p : Option Addr) (cap : Nat) (l : List (Int × Int × Int × Int)) (now : Int) (hl : l.length ≤ 4096) (hlow : ∀ b off, p = some ⟨b, off, none⟩ → l ≠ [] → b < n₀ ∧ b ≠ bx) (w : World) (hn₀ : n₀ ≤ w.heap.size)
    (hBs : w.cell? ⟨Bs, 0, none⟩ = some (.slice p l.length cap)) (hBn : w.cell? ⟨Bn, 0, none⟩ = some (.int .i64 now)) (hs : Bs < n₀ ∧ Bs ≠ bx) (hm : Bn < n₀ ∧ Bn ≠ bx) (hc : Hp.At w p l) :
    SeqStopsK F n Try.prog 31 #[.pointer (some ⟨Bs, 0, none⟩), .pointer (some ⟨Bn, 0, none⟩)] (fun x : Int × Int × Int × Int => #[Value.agg #[.int .i64 x.1, .int .i64 x.2.1, .int .u8 x.2.2.1, .int .i64 x.2.2.2]]) (Du.Kp n₀ bx) (fun ys => ys = Du.due l now) (fun _ => True) l.length w :=
  fun y J Jx W hW hJ _ hY h0 =>
    du_ready1_in F n h7 hro hn y Bs Bn n₀ bx p cap l now hl hlow J Jx W (Nat.le_trans hn₀ hW.size) hJ hY ((hW.cell (p := ⟨Bs, 0, none⟩) (show Bs < w.heap.size by omega)).trans hBs) ((hW.cell (p := ⟨Bn, 0, none⟩) (show Bn < w.heap.size by omega)).trans hBn) hs hm (hc.below hW) h0
end Go.Proofs.Ytlbifinkjghgaaa
namespace Go.Proofs.Ytlbifinkjghgaaa
open Go.RowKit Go.Shelf
attribute [local go_sem] Oper.semAt_some

theorem Du.Kp.set {n₀ x : Nat} (W : World) (i : Nat) (v : Value) : Du.Kp n₀ x W (W.setCell ⟨x, i, none⟩ v) := by
  have hg := Below.setCell (Below.refl x W) (p := ⟨x, i, none⟩) (Nat.le_refl _) v
  exact ⟨hg.size, fun k _ hk => by
    simp only [World.setCell, Array.getElem?_modify]
    rw [if_neg (Ne.symm hk)]⟩
theorem Du.soL_le {l : List (Int × Int × Int × Int)} : (Hp.soL l).length ≤ 4096 := by
  by_cases h : Hp.Ok l
  · rw [show Hp.soL l = Hp.srt l from if_pos h, Hp.srt_len]; exact h.1
  · rw [show Hp.soL l = [] from if_neg h]; simp
end Go.Proofs.Ytlbifinkjghgaaa
