
/-
  TopDue's invariant: what is left of timers, and how many have come, as the times go on.
-/
import Derived.Test.YtlbifinkjghgaaaDueDrainsLaw
import Derived.Test.YtlbifinkjghgaaaTnAppend
import Derived.Test.YtlbifinkjghgaaaHeapAnyLaw
namespace Go.Proofs.Ytlbifinkjghgaaa
open Go.RowKit Go.Lib Go.Sort Go.Shelf

/-- Ahead of the time of number i: what is left is right, holds nothing of the one that is gone, and is as many as have not come; behind the last time nothing is left. -/
def Tn.Inv (U : List Int) (many : Nat) (gone : Int) (i nn : Nat) (H : List (Int × Int × Int × Int)) : Prop :=
  Hp.Ok H ∧ gone ∉ Hp.sq H ∧ (∀ x ∈ H, x.1 ≤ 9223372036854775807) ∧ H.length + nn = many ∧ (i = U.length → H = [])
theorem Tn.next {U : List Int} {many i nn : Nat} {gone : Int} {H : List (Int × Int × Int × Int)} (hI : Tn.Inv U many gone i nn H) (hi : i < U.length) (hlast : i + 1 = U.length → U[i] = 9223372036854775807) :
    Hp.chk H = 0 ∧ Tn.Inv U many gone (i + 1) (nn + (Du.due (Hp.soL H) U[i]).length) ((Hp.soL H).drop (Du.due (Hp.soL H) U[i]).length) ∧
    (∀ k (hk : k < (Du.due (Hp.soL H) U[i]).length), (Du.due (Hp.soL H) U[i])[k].2.1 ≠ gone ∧ (Du.due (Hp.soL H) U[i])[k].1 ≤ U[i]) ∧
    (∀ k (h1 : k < (Du.due (Hp.soL H) U[i]).length) (h2 : k + 1 < (Du.due (Hp.soL H) U[i]).length), Hp.lt (Du.due (Hp.soL H) U[i])[k] (Du.due (Hp.soL H) U[i])[k + 1] = true) := by
  obtain ⟨hok, hg, hb, hm, _⟩ := hI
  have hS : Hp.soL H = Hp.srt H := if_pos hok
  rw [hS]
  have hasc := Hp.srt_asc hok.2.1
  have hmem : ∀ x, x ∈ Hp.srt H → x ∈ H := fun x h => (Hp.srt_perm H).mem_iff.1 h
  have hLs : (Du.due (Hp.srt H) U[i]).Sublist (Hp.srt H) := List.takeWhile_sublist _
  have hXs := List.drop_sublist (Du.due (Hp.srt H) U[i]).length (Hp.srt H)
  have hla := Du.left_after (now := U[i]) (Hp.srt H) hasc
  have hdt := Du.due_take (Hp.srt H) U[i]
  have hnone : ∀ x, x ∈ Hp.srt H → x.2.1 ≠ gone := fun x h e => hg (List.mem_map.2 ⟨x, hmem x h, e⟩)
  refine ⟨Hp.chk_ok hok, ⟨(Du.list_ok hok hXs).1, ?_, ?_, ?_, ?_⟩, ?_, ?_⟩
  · intro h
    obtain ⟨x, hx, e⟩ := List.mem_map.1 h
    exact hnone x (hXs.subset hx) e
  · exact fun x hx => hb x (hmem x (hXs.subset hx))
  · rw [List.length_drop, Hp.srt_len]
    rw [Hp.srt_len] at hdt
    omega
  · intro e
    refine List.eq_nil_iff_forall_not_mem.2 fun x hx => ?_
    have h1 := hla x hx
    have h2 := hb x (hmem x (hXs.subset hx))
    rw [hlast e] at h1
    omega
  · exact fun k hk => ⟨hnone _ (hLs.subset (List.getElem_mem hk)), Du.due_mem (List.getElem_mem hk)⟩
  · exact fun k h1 h2 => List.pairwise_iff_getElem.1 (List.Pairwise.sublist hLs hasc) k (k + 1) h1 h2 (by omega)
/-- Ahead of the first time. -/
theorem Tn.first {l : List (Int × Int × Int × Int)} {U : List Int} {gone : Int} (hz : Hp.mkC l = 0) (hU : 0 < U.length) (hb : ∀ x ∈ l, x.1 ≤ 9223372036854775807) :
    Tn.Inv U (Hp.caL (Hp.mkL l) gone).length gone 0 0 (Hp.caL (Hp.mkL l) gone) ∧ ((Hp.caC (Hp.mkL l) gone = 0 ∧ (Hp.caL (Hp.mkL l) gone).length + 1 = l.length) ∨ (Hp.caC (Hp.mkL l) gone = 3 ∧ (Hp.caL (Hp.mkL l) gone).length = l.length)) := by
  obtain ⟨hnd, hlen, hmk⟩ := Hp.mk_zero hz
  rw [hmk]
  have hok := Hp.ok_make hnd hlen
  have hp := Hp.makeF_perm l
  have hcc : Hp.caC (Hp.makeF l) gone = if Hp.idx (Hp.makeF l) gone < (Hp.makeF l).length then 0 else 3 := if_pos hok
  by_cases hi : Hp.idx (Hp.makeF l) gone < (Hp.makeF l).length
  · rw [if_pos hi] at hcc
    have hL : Hp.caL (Hp.makeF l) gone = Hp.woF (Hp.makeF l) (Hp.idx (Hp.makeF l) gone) := if_pos hcc
    have hwp := Hp.wo_perm _ _ hi
    have hwl := hwp.length_eq
    rw [hp.length_eq] at hwl
    simp only [List.length_cons] at hwl
    have hw := (Hp.wo_sq hok.2.1 hi).2
    rw [Hp.idx_get hi] at hw
    rw [hL]
    exact ⟨⟨Hp.ok_wo hok hi, hw, fun x hx => hb x (hp.mem_iff.1 (hwp.mem_iff.1 (List.mem_cons_of_mem _ hx))), rfl, fun e => by omega⟩, Or.inl ⟨hcc, hwl⟩⟩
  · rw [if_neg hi] at hcc
    have hL : Hp.caL (Hp.makeF l) gone = Hp.makeF l := (if_neg (by rw [hcc]; decide)).trans (if_neg (by rw [hcc]; decide))
    rw [hL]
    exact ⟨⟨hok, fun h => hi (Hp.idx_iff.2 h), fun x hx => hb x (hp.mem_iff.1 hx), rfl, fun e => by omega⟩, Or.inr ⟨hcc, hp.length_eq⟩⟩
end Go.Proofs.Ytlbifinkjghgaaa
