
/-
  The walk of layer 15's lives: the answers that the document gives. No condition.
-/
import Derived.Test.YtlbifinkjghgaaaHpRefs
namespace Go.Proofs.Ytlbifinkjghgaaa
open Go.RowKit Go.Lib Go.Sort Go.Shelf

/-- A box of one timer. -/
def Hp.Box (W : World) (g : Nat) (x : Int × Int × Int × Int) : Prop := W.heap[g]? = some (.cells #[.int .i64 x.1, .int .i64 x.2.1, .int .u8 x.2.2.1, .int .i64 x.2.2.2] 29 (0, 0))
theorem Hp.Box.below {W W' : World} {g : Nat} {x : Int × Int × Int × Int} (h : Hp.Box W g x) (hb : Below W.heap.size W W') : Hp.Box W' g x := (hb.block g (Array.getElem?_eq_some_iff.1 h).1).trans h
theorem Hp.Box.cells {W : World} {g : Nat} {x1 x2 x3 x4 : Int} (h : Hp.Box W g (x1, x2, x3, x4)) : W.cell? ⟨g, 0, none⟩ = some (.int .i64 x1) ∧ W.cell? ⟨g, 1, none⟩ = some (.int .i64 x2) ∧ W.cell? ⟨g, 2, none⟩ = some (.int .u8 x3) ∧ W.cell? ⟨g, 3, none⟩ = some (.int .i64 x4) := Hp.box h
theorem Hp.at_lit (w : World) (l : List (Int × Int × Int × Int)) (cs : Array Value) (h : cs.toList = Hp.rcs l) : Hp.At (w.alloc (.cells cs 29)) (some ⟨w.heap.size, 0, none⟩) l := by
  refine Or.inr ⟨w.heap.size, 0, rfl, fun i hi => ?_⟩
  have hg := Hp.rcs_get l i hi
  rw [← h] at hg
  have hn := hp_new w (.cells cs 29)
  have key : ∀ j v, cs.toList[j]? = some v → (w.alloc (.cells cs 29)).cell? ⟨w.heap.size, j, none⟩ = some v := fun j v hv => by rw [Lib.cell_of_heap hn, ← Array.getElem?_toList]; exact hv
  rw [Nat.zero_add]
  exact ⟨key _ _ hg.1, key _ _ hg.2.1, key _ _ hg.2.2.1, key _ _ hg.2.2.2⟩
/-- Whether a list is a right heap, by reckoning. -/
def Hp.okB (l : List (Int × Int × Int × Int)) : Bool := decide (l.length ≤ 4096) && decide (Hp.sq l).Nodup && (List.range l.length).all fun j => !Hp.lt (Hp.g l j) (Hp.g l ((j - 1) / 2))
theorem Hp.okB_iff (l : List (Int × Int × Int × Int)) : Hp.okB l = true ↔ Hp.Ok l := by
  unfold Hp.okB Hp.Ok Hp.Heap Hp.edge
  simp only [Bool.and_eq_true, decide_eq_true_eq, List.all_eq_true, List.mem_range, Bool.not_eq_true', and_assoc]
theorem Hp.chk_okB {l : List (Int × Int × Int × Int)} {z : Int} (h : (if Hp.okB l = true then 0 else 2) = z) : Hp.chk l = z := by
  by_cases hb : Hp.okB l = true
  · rw [if_pos hb] at h; rw [Hp.chk_ok ((Hp.okB_iff l).1 hb)]; exact h
  · rw [if_neg hb] at h; rw [Hp.chk_bad (fun e => hb ((Hp.okB_iff l).2 e))]; exact h
theorem Hp.tw_b (l : List (Int × Int × Int × Int)) : Hp.tw l = !decide (Hp.sq l).Nodup := by
  by_cases h : (Hp.sq l).Nodup
  · rw [Hp.tw_false.2 h, decide_eq_true h]; rfl
  · rw [Hp.tw_true.2 h, decide_eq_false h]; rfl
theorem Hp.mk_eval {l r : List (Int × Int × Int × Int)} (h1 : decide (Hp.sq l).Nodup = true) (h2 : decide (l.length ≤ 4096) = true) (h3 : Hp.makeF l = r) : Hp.mkL l = r ∧ Hp.mkC l = 0 := by
  have ht : ¬ Hp.tw l = true := by rw [Hp.tw_b, h1]; simp
  have hl : ¬ 4096 < l.length := by have := of_decide_eq_true h2; omega
  unfold Hp.mkL Hp.mkC
  rw [if_neg ht, if_neg ht, if_neg hl, if_neg hl, h3]
  exact ⟨rfl, rfl⟩
theorem Hp.pu_eval {l r : List (Int × Int × Int × Int)} {t : Int × Int × Int × Int} {z : Int} (h1 : Hp.okB l = true) (h2 : (if 0 ≤ Hp.plc l t.2.1 then 4 else if l.length = 4096 then 8 else 0) = z) (h3 : (if z = 0 then Hp.pushF l t else l) = r) (hz : z ≠ 2) : Hp.puL l t = r ∧ Hp.puC l t.2.1 = z := by
  have hc : Hp.puC l t.2.1 = z := (if_pos ((Hp.okB_iff l).1 h1)).trans h2
  refine ⟨?_, hc⟩
  unfold Hp.puL
  rw [hc, if_neg hz]
  exact h3
theorem Hp.po_eval {l r : List (Int × Int × Int × Int)} {x : Int × Int × Int × Int} {z : Int} (h1 : Hp.okB l = true) (h2 : (if l.length = 0 then 3 else 0) = z) (h3 : (if z = 0 then Hp.woF l 0 else []) = r) (h4 : (if z = 0 then Hp.g l 0 else (0, 0, 0, 0)) = x) : Hp.poL l = r ∧ Hp.poT l = x ∧ Hp.poC l = z := by
  have hc : Hp.poC l = z := (if_pos ((Hp.okB_iff l).1 h1)).trans h2
  unfold Hp.poL Hp.poT
  rw [hc]
  exact ⟨h3, h4, rfl⟩
theorem Hp.ca_eval {l r : List (Int × Int × Int × Int)} {s : Int} {x : Int × Int × Int × Int} {z : Int} (h1 : Hp.okB l = true) (h2 : (if Hp.idx l s < l.length then 0 else 3) = z) (h3 : (if z = 0 then Hp.woF l (Hp.idx l s) else if z = 2 then [] else l) = r) (h4 : (if z = 0 then Hp.g l (Hp.idx l s) else (0, 0, 0, 0)) = x) : Hp.caL l s = r ∧ Hp.caT l s = x ∧ Hp.caC l s = z := by
  have hc : Hp.caC l s = z := (if_pos ((Hp.okB_iff l).1 h1)).trans h2
  unfold Hp.caL Hp.caT
  rw [hc]
  exact ⟨h3, h4, rfl⟩
theorem Hp.so_eval {l r : List (Int × Int × Int × Int)} (h1 : Hp.okB l = true) (h3 : Hp.srt l = r) : Hp.soL l = r ∧ Hp.chk l = 0 := ⟨(if_pos ((Hp.okB_iff l).1 h1)).trans h3, Hp.chk_ok ((Hp.okB_iff l).1 h1)⟩
end Go.Proofs.Ytlbifinkjghgaaa
