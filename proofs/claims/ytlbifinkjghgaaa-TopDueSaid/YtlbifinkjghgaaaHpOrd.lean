
/-
  Timers in order: there is one order of timers that differ in their numbers; what a heap's changes do to it. No condition but those that the theorems state.
-/
import Derived.Test.YtlbifinkjghgaaaHpPop
namespace Go.Proofs.Ytlbifinkjghgaaa

def Hp.ins (t : Int × Int × Int × Int) : List (Int × Int × Int × Int) → List (Int × Int × Int × Int)
  | [] => [t]
  | x :: r => if Hp.lt x t = true then x :: Hp.ins t r else t :: x :: r
/-- The timers in order. -/
def Hp.srt (l : List (Int × Int × Int × Int)) : List (Int × Int × Int × Int) := l.foldl (fun o t => Hp.ins t o) []
def Hp.Asc (l : List (Int × Int × Int × Int)) : Prop := l.Pairwise (fun a b => Hp.lt a b = true)
theorem Hp.ins_perm (t : Int × Int × Int × Int) : ∀ o, (Hp.ins t o).Perm (t :: o)
  | [] => List.Perm.refl _
  | x :: r => by
    unfold Hp.ins
    split
    · exact ((Hp.ins_perm t r).cons x).trans (List.Perm.swap t x r)
    · exact List.Perm.refl _
theorem Hp.fold_perm : ∀ (l o : List (Int × Int × Int × Int)), (l.foldl (fun o t => Hp.ins t o) o).Perm (o ++ l)
  | [], o => by simp
  | t :: l, o => by
    rw [List.foldl_cons]
    refine (Hp.fold_perm l _).trans ?_
    exact ((Hp.ins_perm t o).append_right l).trans List.perm_middle.symm
theorem Hp.srt_perm (l : List (Int × Int × Int × Int)) : (Hp.srt l).Perm l := Hp.fold_perm l []
theorem Hp.srt_len (l : List (Int × Int × Int × Int)) : (Hp.srt l).length = l.length := (Hp.srt_perm l).length_eq
theorem Hp.sq_perm {a b : List (Int × Int × Int × Int)} (h : a.Perm b) : (Hp.sq a).Perm (Hp.sq b) := h.map _
theorem Hp.sq_nodup {a b : List (Int × Int × Int × Int)} (h : a.Perm b) (hb : (Hp.sq b).Nodup) : (Hp.sq a).Nodup := (Hp.sq_perm h).symm.nodup hb
theorem Hp.ins_asc {t : Int × Int × Int × Int} : ∀ {o : List (Int × Int × Int × Int)}, Hp.Asc o → t.2.1 ∉ Hp.sq o → Hp.Asc (Hp.ins t o)
  | [], _, _ => List.pairwise_singleton _ _
  | x :: r, h, hn => by
    have h' := List.pairwise_cons.1 h
    have hx : x.2.1 ≠ t.2.1 := fun e => hn (by simp [Hp.sq, e])
    have hr : t.2.1 ∉ Hp.sq r := fun e => hn (by simp only [Hp.sq, List.map_cons, List.mem_cons]; exact Or.inr e)
    unfold Hp.ins
    by_cases hl : Hp.lt x t = true
    · rw [if_pos hl]
      refine List.pairwise_cons.2 ⟨fun y hy => ?_, Hp.ins_asc h'.2 hr⟩
      rcases List.mem_cons.1 ((Hp.ins_perm t r).mem_iff.1 hy) with rfl | hy
      · exact hl
      · exact h'.1 y hy
    · rw [if_neg hl]
      have hl' : Hp.lt x t = false := by simpa using hl
      have ht := Hp.total hl' hx
      refine List.pairwise_cons.2 ⟨fun y hy => ?_, h⟩
      rcases List.mem_cons.1 hy with rfl | hy
      · exact ht
      · exact Hp.trans ht (h'.1 y hy)
theorem Hp.fold_asc : ∀ (l o : List (Int × Int × Int × Int)), Hp.Asc o → (Hp.sq (o ++ l)).Nodup → Hp.Asc (l.foldl (fun o t => Hp.ins t o) o)
  | [], o, h, _ => h
  | t :: l, o, h, hn => by
    rw [List.foldl_cons]
    have hp : (o ++ t :: l).Perm (Hp.ins t o ++ l) := (List.perm_middle.trans ((Hp.ins_perm t o).symm.append_right l))
    refine Hp.fold_asc l _ (Hp.ins_asc h ?_) (Hp.sq_nodup hp.symm hn)
    intro ht
    have hn2 : (Hp.sq o ++ Hp.sq (t :: l)).Nodup := by unfold Hp.sq at *; rw [← List.map_append]; exact hn
    have := (List.pairwise_append.1 hn2).2.2 _ ht t.2.1 (by simp [Hp.sq])
    exact this rfl
theorem Hp.srt_asc {l : List (Int × Int × Int × Int)} (h : (Hp.sq l).Nodup) : Hp.Asc (Hp.srt l) := Hp.fold_asc l [] List.Pairwise.nil h
theorem Hp.asc_eq {a b : List (Int × Int × Int × Int)} (ha : Hp.Asc a) (hb : Hp.Asc b) (h : a.Perm b) : a = b :=
  List.Perm.eq_of_pairwise (fun x y _ _ h1 h2 => by rw [Hp.asymm h1] at h2; cases h2) ha hb h
theorem Hp.asc_srt {a l : List (Int × Int × Int × Int)} (ha : Hp.Asc a) (h : a.Perm l) (hn : (Hp.sq l).Nodup) : a = Hp.srt l := Hp.asc_eq ha (Hp.srt_asc hn) (h.trans (Hp.srt_perm l).symm)
theorem Hp.srt_eq {a b : List (Int × Int × Int × Int)} (h : a.Perm b) (hn : (Hp.sq b).Nodup) : Hp.srt a = Hp.srt b := Hp.asc_srt (Hp.srt_asc (Hp.sq_nodup h hn)) ((Hp.srt_perm a).trans h) hn
theorem Hp.asc_of {a : List (Int × Int × Int × Int)} (h : a.Pairwise fun x y => Hp.lt y x = false) (hn : (Hp.sq a).Nodup) : Hp.Asc a := by
  have hn2 : a.Pairwise fun x y => x.2.1 ≠ y.2.1 := List.pairwise_map.1 hn
  exact (h.and hn2).imp fun ⟨h1, h2⟩ => Hp.total h1 (fun e => h2 e.symm)
theorem Hp.asc_self {a : List (Int × Int × Int × Int)} (h : Hp.Asc a) (hn : (Hp.sq a).Nodup) : Hp.srt a = a := (Hp.asc_srt h (List.Perm.refl _) hn).symm
theorem Hp.asc_heap {a : List (Int × Int × Int × Int)} (h : Hp.Asc a) : Hp.Heap a := Hp.heap_of fun j j1 j2 => by
  unfold Hp.edge
  rw [Hp.g_eq _ _ j2, Hp.g_eq _ _ (by omega)]
  exact Hp.asymm (List.pairwise_iff_getElem.1 h _ _ (by omega) j2 (by omega))
theorem Hp.ok_asc {a : List (Int × Int × Int × Int)} (h : Hp.Asc a) (hn : (Hp.sq a).Nodup) (hl : a.length ≤ 4096) : Hp.Ok a := ⟨hl, hn, Hp.asc_heap h⟩
theorem Hp.ok_make {l : List (Int × Int × Int × Int)} (h : (Hp.sq l).Nodup) (hl : l.length ≤ 4096) : Hp.Ok (Hp.makeF l) :=
  ⟨by rw [(Hp.makeF_perm l).length_eq]; exact hl, Hp.sq_nodup (Hp.makeF_perm l) h, Hp.makeF_heap l⟩
theorem Hp.ok_push {l : List (Int × Int × Int × Int)} {t : Int × Int × Int × Int} (h : Hp.Ok l) (hl : l.length < 4096) (ht : t.2.1 ∉ Hp.sq l) : Hp.Ok (Hp.pushF l t) :=
  ⟨by rw [(Hp.pushF_perm l t).length_eq]; simp; omega, Hp.sq_nodup (Hp.pushF_perm l t) (List.nodup_cons.2 ⟨ht, h.2.1⟩), Hp.pushF_heap h.2.2 t⟩
theorem Hp.wo_sq {l : List (Int × Int × Int × Int)} (h : (Hp.sq l).Nodup) {i : Nat} (hi : i < l.length) : (Hp.sq (Hp.woF l i)).Nodup ∧ (Hp.g l i).2.1 ∉ Hp.sq (Hp.woF l i) := by
  have := Hp.sq_nodup (Hp.wo_perm l i hi) h
  have h2 := List.nodup_cons.1 (show (( (Hp.g l i).2.1 :: Hp.sq (Hp.woF l i)) : List Int).Nodup from this)
  exact ⟨h2.2, h2.1⟩
theorem Hp.ok_wo {l : List (Int × Int × Int × Int)} (h : Hp.Ok l) {i : Nat} (hi : i < l.length) : Hp.Ok (Hp.woF l i) :=
  ⟨by rw [Hp.wo_len l i hi]; have := h.1; omega, (Hp.wo_sq h.2.1 hi).1, Hp.wo_heap h.2.2 i hi⟩
/-- The first one in order stands at the root. -/
theorem Hp.srt_pop {l : List (Int × Int × Int × Int)} (h : Hp.Ok l) (h0 : 0 < l.length) : Hp.srt l = Hp.g l 0 :: Hp.srt (Hp.woF l 0) := by
  have hw := Hp.wo_sq h.2.1 h0
  refine (Hp.asc_srt ?_ ((Hp.srt_perm _).cons _ |>.trans (Hp.wo_perm l 0 h0)) h.2.1).symm
  refine List.pairwise_cons.2 ⟨fun y hy => ?_, Hp.srt_asc hw.1⟩
  have hy1 : y ∈ Hp.woF l 0 := (Hp.srt_perm _).mem_iff.1 hy
  have hy2 : y ∈ l := (Hp.wo_perm l 0 h0).mem_iff.1 (List.mem_cons_of_mem _ hy1)
  obtain ⟨j, hj, rfl⟩ := List.mem_iff_getElem.1 hy2
  have := Hp.heap_root h.2.2 j j (Nat.le_refl _) hj
  rw [Hp.g_eq _ _ hj] at this
  refine Hp.total this fun e => hw.2 ?_
  rw [← e]
  exact List.mem_map_of_mem hy1
theorem Hp.plc_neg {l : List (Int × Int × Int × Int)} {s : Int} : Hp.plc l s < 0 ↔ s ∉ Hp.sq l := by
  unfold Hp.plc
  by_cases h : Hp.idx l s < l.length
  · rw [if_pos h]
    exact ⟨fun e => by omega, fun e => absurd (Hp.idx_iff.1 h) e⟩
  · rw [if_neg h]
    exact ⟨fun _ e => h (Hp.idx_iff.2 e), fun _ => by omega⟩
/-- Of timers with numbers of their own the one of a number is found. -/
theorem Hp.idx_of {l : List (Int × Int × Int × Int)} (hn : (Hp.sq l).Nodup) {t : Int × Int × Int × Int} (ht : t ∈ l) : Hp.idx l t.2.1 < l.length ∧ Hp.g l (Hp.idx l t.2.1) = t := by
  have h1 : Hp.idx l t.2.1 < l.length := Hp.idx_iff.2 (List.mem_map_of_mem (f := fun x : Int × Int × Int × Int => x.2.1) ht)
  refine ⟨h1, ?_⟩
  obtain ⟨j, hj, rfl⟩ := List.mem_iff_getElem.1 ht
  have h2 := Hp.idx_get h1
  rw [Hp.g_eq _ _ h1] at h2 ⊢
  have hp := List.pairwise_iff_getElem.1 (List.pairwise_map.1 hn)
  by_cases e : Hp.idx l l[j].2.1 = j
  · simp only [e]
  · rcases Nat.lt_or_gt_of_ne e with h | h
    · exact absurd h2 (hp _ _ h1 hj h)
    · exact absurd h2.symm (hp _ _ hj h1 h)
end Go.Proofs.Ytlbifinkjghgaaa
