
/-
  The walk of HeapAny: whatever timers are, the law answers true. Condition: a list is of a size that a machine holds.
-/
import Derived.Test.YtlbifinkjghgaaaHeapMakesLaw
namespace Go.Proofs.Ytlbifinkjghgaaa
open Go.RowKit Go.Lib Go.Sort Go.Shelf

theorem Hp.mk_zero {l : List (Int × Int × Int × Int)} (h : Hp.mkC l = 0) : (Hp.sq l).Nodup ∧ l.length ≤ 4096 ∧ Hp.mkL l = Hp.makeF l := by
  unfold Hp.mkC at h
  unfold Hp.mkL
  by_cases ht : Hp.tw l = true
  · rw [if_pos ht] at h; cases h
  · rw [if_neg ht] at h ⊢
    by_cases hl : 4096 < l.length
    · rw [if_pos hl] at h; cases h
    · rw [if_neg hl]
      exact ⟨Hp.tw_false.1 (by simpa using ht), by omega, rfl⟩
theorem Hp.mk_none {l : List (Int × Int × Int × Int)} (h : Hp.mkC l ≠ 0) : Hp.mkL l = [] := by
  unfold Hp.mkC at h
  unfold Hp.mkL
  by_cases ht : Hp.tw l = true
  · rw [if_pos ht]
  · rw [if_neg ht] at h ⊢
    by_cases hl : 4096 < l.length
    · rw [if_pos hl]
    · rw [if_neg hl] at h; exact absurd rfl h
/-- One timer more is pushed onto those ahead of it. -/
theorem Hp.push_next {l m : List (Int × Int × Int × Int)} (hn : (Hp.sq l).Nodup) (hl : l.length ≤ 60) {k : Nat} (hk : k < l.length) (hok : Hp.Ok m) (hp : m.Perm (l.take k)) :
    Hp.puC m l[k].2.1 = 0 ∧ Hp.puL m l[k] = Hp.pushF m l[k] ∧ Hp.Ok (Hp.pushF m l[k]) ∧ (Hp.pushF m l[k]).Perm (l.take (k + 1)) := by
  have hlen : m.length = k := by rw [hp.length_eq, List.length_take]; omega
  have hni : l[k].2.1 ∉ Hp.sq m := fun h => by
    have h2 : l[k].2.1 ∈ Hp.sq (l.take k) := (Hp.sq_perm hp).mem_iff.1 h
    obtain ⟨x, hx, hxe⟩ := List.mem_map.1 h2
    obtain ⟨j, hj, rfl⟩ := List.mem_iff_getElem.1 hx
    rw [List.length_take] at hj
    rw [List.getElem_take] at hxe
    exact List.pairwise_iff_getElem.1 (List.pairwise_map.1 hn) j k (by omega) hk (by omega) hxe
  have hpl := Hp.plc_neg.2 hni
  have hc : Hp.puC m l[k].2.1 = 0 := (show Hp.puC m l[k].2.1 = if 0 ≤ Hp.plc m l[k].2.1 then 4 else if m.length = 4096 then 8 else 0 from if_pos hok).trans ((if_neg (by omega)).trans (if_neg (by omega)))
  refine ⟨hc, if_pos hc, Hp.ok_push hok (by omega) hni, (Hp.pushF_perm m l[k]).trans ?_⟩
  rw [List.take_succ_eq_append_getElem hk]
  exact (hp.cons _).trans (List.perm_append_comm (l₁ := [l[k]]))
end Go.Proofs.Ytlbifinkjghgaaa
