/-
  The walks of week.Check and of its closure, which keeps where the range ahead ends: whether a week is right. Condition: the week's list is of a size that a machine holds.
-/
import Derived.Test.YtpaleljnkejdgaaGreatDoorWkIndex
namespace Go.Proofs.YtpaleljnkejdgaaGreatDoor
open Go.RowKit Go.Lib Go.Shelf

theorem wk_one_set {w : World} {g : Nat} {a : Value} {t : TypeId} (h : w.heap[g]? = some (.cells #[a] t (0, 0))) (b : Value) : (w.setCell ⟨g, 0, none⟩ b).heap[g]? = some (.cells #[b] t (0, 0)) := by
  simp [World.setCell, Array.getElem?_modify, h]
theorem wk_one_of {w : World} {g : Nat} {a : Value} {t : TypeId} (h : w.heap[g]? = some (.cells #[a] t (0, 0))) : w.cell? ⟨g, 0, none⟩ = some a ∧ w.frozen? ⟨g, 0, none⟩ = false ∧ g < w.heap.size := by
  have h1 : w.cell? ⟨g, 0, none⟩ = some a := by rw [Lib.cell_of_heap h]; rfl
  exact ⟨h1, by simp [World.frozen?, h], World.block_lt_of_cell? w _ h1⟩
/-- A search's state: the box holds where the range ahead ends. -/
def Wk.Ahd (w0 : World) (l : List (Int × Int)) (p : Option Addr) (B : Nat) (k : Nat) (W : World) : Prop :=
  Below w0.heap.size w0 W ∧ w0.heap.size ≤ B ∧ W.heap[B]? = some (.cells #[.int .i64 (Wk.ahd (-1) l k)] 3 (0, 0)) ∧ Wk.At W p l
set_option maxHeartbeats 1000000 in
set_option maxRecDepth 100000 in
theorem wk_check1_walk (f t a : Int) (B : Nat) (W : World) (hB : W.heap[B]? = some (.cells #[.int .i64 a] 3 (0, 0))) :
    Calls Tryz.prog 53 #[.agg #[.int .i64 f, .int .i64 t], .pointer (some ⟨B, 0, none⟩)] W fun e w' => e = .returned (.bool (Wk.bad a (f, t))) ∧ w' = (W.setCell ⟨B, 0, none⟩ (.int .i64 t)).alloc (.cells #[.int .i64 f, .int .i64 t] 56) := by
  obtain ⟨c1, c2, c3⟩ := wk_one_of hB
  have hne : W.heap.size ≠ B := by omega
  have hne2 : B ≠ W.heap.size := by omega
  clear hB
  unfold Wk.bad
  simp only []
  by_cases h1 : f ≤ a
  · rw [decide_eq_true h1, Bool.true_or, Bool.true_or]
    go_enter Tryz.func53, Tryz.ntmps53
    go_wp2_with fail
    go_ret
    exact ⟨rfl, rfl⟩
  · have q1 : decide (f ≤ a) = false := decide_eq_false h1
    have q1' : a < f := by omega
    rw [q1, Bool.false_or]
    by_cases h2 : t ≤ f
    · rw [decide_eq_true h2, Bool.true_or]
      go_enter Tryz.func53, Tryz.ntmps53
      go_wp2_with fail
      go_ret
      exact ⟨rfl, rfl⟩
    · have q2 : decide (t ≤ f) = false := decide_eq_false h2
      have q2' : f < t := by omega
      rw [q2, Bool.false_or]
      by_cases h3 : 10080 < t
      · rw [decide_eq_true h3]
        go_enter Tryz.func53, Tryz.ntmps53
        go_wp2_with fail
        go_ret
        exact ⟨rfl, rfl⟩
      · rw [decide_eq_false h3]
        have q3 : decide (10080 < t) = false := decide_eq_false h3
        clear h3
        go_enter Tryz.func53, Tryz.ntmps53
        go_wp2_with fail
        go_ret
        exact ⟨rfl, rfl⟩
theorem wk_check1 (w0 : World) (l : List (Int × Int)) (p : Option Addr) (B : Nat) (k : Nat) (h : k < l.length) (W : World) (hI : Wk.Ahd w0 l p B k W) (hp : ∀ b off, p = some ⟨b, off, none⟩ → l ≠ [] → b < B) :
    Calls Tryz.prog 53 (#[.agg #[.int .i64 l[k].1, .int .i64 l[k].2]] ++ #[.pointer (some ⟨B, 0, none⟩)]) W fun e w' => e = .returned (.bool (Wk.bad (Wk.ahd (-1) l k) l[k])) ∧ Wk.Ahd w0 l p B (k + 1) w' := by
  obtain ⟨h1, h2, h3, h4⟩ := hI
  obtain ⟨c1, c2, c3⟩ := wk_one_of h3
  refine (wk_check1_walk l[k].1 l[k].2 _ B W h3).mono ?_
  rintro e w' ⟨rfl, rfl⟩
  have hb0 : Below B W (W.setCell ⟨B, 0, none⟩ (.int .i64 l[k].2)) := (Below.refl _ _).setCell (p := ⟨B, 0, none⟩) (Nat.le_refl _) _
  have hs0 : (W.setCell ⟨B, 0, none⟩ (.int .i64 l[k].2)).heap.size = W.heap.size := by simp [World.setCell]
  have hb1 : Below B W ((W.setCell ⟨B, 0, none⟩ (.int .i64 l[k].2)).alloc (.cells #[.int .i64 l[k].1, .int .i64 l[k].2] 56)) := hb0.alloc (by rw [hs0]; omega) _
  refine ⟨rfl, h1.trans (hb1.mono h2), h2, ?_, ?_⟩
  · rw [wk_past _ _ _ (by rw [hs0]; exact c3), wk_one_set h3, Wk.ahd_succ _ _ _ h]
  · rcases h4 with h4 | ⟨b, off, hp', hc⟩
    · exact Or.inl h4
    · have hbB := hp b off hp' (by intro e; rw [e] at h; simp at h)
      exact Or.inr ⟨b, off, hp', fun i hi => ⟨(hb1.cell (p := ⟨b, off + i * 2, none⟩) hbB).trans (hc i hi).1, (hb1.cell (p := ⟨b, off + i * 2 + 1, none⟩) hbB).trans (hc i hi).2⟩⟩
/-- What Check tells. -/
def Wk.chk (w : List (Int × Int)) : Int := if Wk.Ok w then 0 else 2
set_option maxHeartbeats 1000000 in
set_option maxRecDepth 100000 in
theorem wk_Check (l : List (Int × Int)) (p : Option Addr) (c : Nat) (w : World) (hA : Wk.At w p l) (hn : l.length ≤ 140737488351232) :
    Calls Tryz.prog 31 #[.slice p l.length c] w fun e w' => e = .returned (.int .i64 (Wk.chk l)) ∧ Below w.heap.size w w' := by
  have hB1 := wk_box w (.cells #[.int .i64 (-1)] 3)
  have hI : Wk.Ahd w l p w.heap.size 0 (w.alloc (.cells #[.int .i64 (-1)] 3)) := ⟨hB1, Nat.le_refl _, wk_new _ _, hA.below hB1⟩
  have hp : ∀ b off, p = some ⟨b, off, none⟩ → l ≠ [] → b < w.heap.size := by
    intro b off hp hne
    obtain ⟨b', off', hp', hc, _⟩ := hA.get 0 (List.length_pos_iff.2 hne)
    rw [hp] at hp'
    cases hp'
    exact World.block_lt_of_cell? w _ hc
  have HC := Lib.hid (wk_contains l p c 53 #[.pointer (some ⟨w.heap.size, 0, none⟩)] (enters_of Tryz.func53 (by kernel_rfl) rfl) (w.alloc (.cells #[.int .i64 (-1)] 3))
    (fun k => Wk.bad (Wk.ahd (-1) l k) (l.getD k (0, 0))) (Wk.Ahd w l p w.heap.size) hn (fun k W hI => hI.2.2.2)
    (fun k hk W hI => by have := wk_check1 w l p w.heap.size k hk W hI hp; rw [List.getD_eq_getElem?_getD, List.getElem?_eq_getElem hk]; exact this) hI)
  have H1 : ∀ k, k < l.length → Wk.bad (Wk.ahd (-1) l k) (l.getD k (0, 0)) = true → ¬ Wk.Ch (-1) l := fun k hk hb hc => by
    have := Wk.ch_iff.1 hc k hk
    rw [List.getD_eq_getElem?_getD, List.getElem?_eq_getElem hk] at hb
    simp only [Option.getD_some] at hb
    rw [this] at hb
    cases hb
  have H2 : (∀ k, k < l.length → Wk.bad (Wk.ahd (-1) l k) (l.getD k (0, 0)) = false) → Wk.Ch (-1) l := fun h => Wk.ch_iff.2 fun k hk => by
    have := h k hk
    rw [List.getD_eq_getElem?_getD, List.getElem?_eq_getElem hk] at this
    exact this
  have H1' := Lib.hid H1
  have H2' := Lib.hid H2
  clear H1 H2 hp hI hA
  have HB := Lib.hid hB1
  clear hB1
  by_cases hl : l.length ≤ 64
  · have HO := Lib.hid (show Wk.chk l = if Wk.Ch (-1) l then 0 else 2 by unfold Wk.chk Wk.Ok; by_cases h : Wk.Ch (-1) l <;> simp [hl, h])
    generalize l.length = n at *
    go_enter Tryz.func31, Tryz.ntmps31
    go_wp2_with fail
    refine HC.out.mono ?_
    rintro e w' (⟨k, h1, h2, rfl, h4⟩ | ⟨h1, rfl, h4⟩)
    · have h2' := Lib.hid h2
      clear h2
      go_wp2_with fail
      go_ret
      rw [HO.out, if_neg (H1'.out k h1 h2'.out)]
      exact ⟨rfl, h4.1⟩
    · have h1' := Lib.hid h1
      clear h1
      go_wp2_with fail
      go_ret
      rw [HO.out, if_pos (H2'.out h1'.out)]
      exact ⟨rfl, h4.1⟩
  · have HO := Lib.hid (show Wk.chk l = 2 from if_neg fun h => hl h.1)
    have hl2 : 64 < l.length := by omega
    clear hl
    generalize l.length = n at *
    have hl3 : (64 : Int) < (n : Int) := by omega
    go_enter Tryz.func31, Tryz.ntmps31
    go_wp2_with fail
    go_ret
    rw [HO.out]
    exact ⟨rfl, HB.out⟩
end Go.Proofs.YtpaleljnkejdgaaGreatDoor
