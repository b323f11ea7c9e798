/-
  The walks of slices.Concat at two slices of ranges, and of week.Or: the minutes that one of two weeks has. Condition: a week's list is of a size that a machine holds.
-/
import Derived.Test.YtpaleljnkejdgaaGreatDoorWkJoin
import Derived.Deep.AppendSrc
import Derived.Lib.AppendZeros
namespace Go.Proofs.YtpaleljnkejdgaaGreatDoor
open Go.RowKit Go.Lib Go.Shelf

/-- What is appended to a row of the call's own, a slice of ranges that lies anywhere, nil too. -/
theorem wk_append_any (l m : List (Int × Int)) (v : Value) (q : Option Addr) (c : Nat) (base : Nat) (ty : TypeId) (w : World) (hO : Wk.Own w base v l) (hA : Wk.At w q m) (hl : l.length ≤ 10000) (hm : m.length ≤ 10000) (hb : base ≤ w.heap.size) :
    ∃ v' w', (Builtin.append_ #[26, 26] ty #[v, .slice q m.length c]).run Tryz.prog w = .ok v' w' ∧ Wk.Own w' base v' (l ++ m) ∧ w.grownBy w' v.ownBlock := by
  obtain ⟨i0, hi, hz0, hz1, hz2⟩ := infoRange
  cases q with
  | some ad =>
    have hnews : ∀ j u, (Wk.rcs m)[j]? = some u → w.cell? (ad.add j) = some u := by
      intro j u hj
      rcases hA with rfl | ⟨b, off, hp, hc⟩
      · simp [Wk.rcs] at hj
      · cases hp
        have hjl : j < m.length * 2 := by rw [← Wk.rcs_len]; exact (List.getElem?_eq_some_iff.1 hj).1
        have hd : j / 2 < m.length := by omega
        obtain ⟨g1, g2⟩ := Wk.rcs_get m (j / 2) hd
        have e : (⟨b, off, none⟩ : Addr).add j = ⟨b, off + j, none⟩ := by simp [Addr.add]
        rw [e]
        rcases Nat.mod_two_eq_zero_or_one j with hr | hr
        · have ej : j / 2 * 2 = j := by omega
          rw [ej, hj] at g1
          cases g1
          have := (hc (j / 2) hd).1
          rw [ej] at this
          exact this
        · have ej : j / 2 * 2 + 1 = j := by omega
          rw [ej, hj] at g2
          cases g2
          have := (hc (j / 2) hd).2
          rw [Nat.add_assoc, ej] at this
          exact this
    have h1 : ∀ u ∈ Wk.rcs m, u.oneCell' = true := by
      intro u hu
      obtain ⟨x, _, hx⟩ := List.mem_flatMap.1 hu
      simp [Wk.rc] at hx
      rcases hx with rfl | rfl <;> rfl
    obtain ⟨v', w', hr, h2, h3, _, _⟩ := run_append_own_at (P := Tryz.prog) w base 26 ty 56 i0 _ 2 16 Tryz.underlying26 hi hz0 hz1 hz2 rfl (by decide) v l.length (Wk.rcs l) hO ad m.length c (Wk.rcs m) (Wk.rcs_len m) hnews h1 (by unfold maxLen; omega) (by omega) hb
    refine ⟨v', w', hr, ?_, h3⟩
    unfold Wk.Own
    rw [Wk.rcs_append, List.length_append]
    exact h2
  | none =>
    have hm0 : m = [] := by
      rcases hA with h | ⟨b, off, hp, _⟩
      · exact h
      · cases hp
    subst hm0
    rw [List.append_nil]
    rcases hO.2 with ⟨rfl, h0⟩ | ⟨g, cap, cur, rfl, hg, hc, hn, hm2, hs, ht⟩
    · refine ⟨.slice none 0 0, w, ?_, hO, wk_grown_refl _ _⟩
      have hf := run_firstCells_none (P := Tryz.prog) w i0.size 0 0 c
      simp [Builtin.append_, run_underlying Tryz.underlying26, sizeOf, typeInfo, hi, Builtin.lenOf, hf]
    · refine ⟨.slice (some ⟨g, 0, none⟩) l.length cap, w, ?_, hO, wk_grown_refl _ _⟩
      have := run_append_room_src (P := Tryz.prog) w 26 26 ty 56 i0 Tryz.underlying26 hi g 0 l.length cap (.slice none 0 c) 0 [] (Src.ofNil w Tryz.underlying26 c) (by omega) (by simp) (by simp)
      exact this
theorem wk_grow (n : Nat) (w : World) (hn : n ≤ 1000) :
    Calls Tryz.prog 59 #[.slice none 0 0, .int .i64 (n : Int)] w (Wk.OwnPost [] w) := by
  by_cases h : n = 0
  · subst h
    refine (Tryz.slices_Grow_range_room none 0 0 0 w (by omega) (by omega) (by omega) (by omega)).mono ?_
    rintro e w' ⟨rfl, rfl⟩
    exact ⟨_, rfl, Wk.Own.nil _ _, Below.refl _ _⟩
  · obtain ⟨i0, hi, hz0, hz1, hz2⟩ := infoRange
    refine (Tryz.slices_Grow_range_grow i0 _ hi hz0 (by rw [hz1]; decide) none 0 0 n [] w (by omega) (by omega) (by rw [hz2]; omega) (by omega) (by simp) (fun _ => rfl) (by simp)).mono ?_
    rintro e w' ⟨rfl, rfl⟩
    have hge := grownCap_ge w (0 + n) 0 56
    have hle := grownCap_le_maxLen w (0 + n) 0 56 (by unfold maxLen; omega)
    refine ⟨_, rfl, ?_, (Below.refl _ _).drew.alloc (Nat.le_refl _) _⟩
    refine World.ownsRow_made (base := w.heap.size) w.drew _ _ (Nat.le_refl _) hle ?_
    generalize grownCap w (0 + n) 0 56 = G at hge
    have hz2 : (Value.agg #[.int .i64 0, .int .i64 0]).cells.size = 2 := rfl
    simp only [Array.size_append, size_zeroCells, hz2, List.size_toArray, List.length_nil]
    omega
/-- What slices.Concat's two loops have done behind each slice. -/
def Wk.Cc1 (w : World) (na nb : Nat) (v i : Value) (wr : World) : Prop := wr = w ∧ ((i = .int .i64 0 ∧ v = .int .i64 0) ∨ (i = .int .i64 1 ∧ v = .int .i64 (na : Int)) ∨ (i = .int .i64 2 ∧ v = .int .i64 ((na + nb : Nat) : Int)))
def Wk.Cc2 (w : World) (a b : List (Int × Int)) (v i : Value) (wr : World) : Prop := Below w.heap.size w wr ∧ ((i = .int .i64 0 ∧ Wk.Own wr w.heap.size v []) ∨ (i = .int .i64 1 ∧ Wk.Own wr w.heap.size v a) ∨ (i = .int .i64 2 ∧ Wk.Own wr w.heap.size v (a ++ b)))
set_option maxHeartbeats 4000000 in
set_option maxRecDepth 100000 in
theorem wk_concat (a b : List (Int × Int)) (p q : Option Addr) (c d : Nat) (B : Nat) (w : World) (hX : w.heap[B]? = some (.cells #[.slice p a.length c, .slice q b.length d] 26 (0, 0))) (hA : Wk.At w p a) (hB : Wk.At w q b) (ha : a.length ≤ 64) (hb : b.length ≤ 64) :
    Calls Tryz.prog 37 #[.slice (some ⟨B, 0, none⟩) 2 2] w (Wk.OwnPost (a ++ b) w) := by
  have HX := Lib.hid hX
  have HA := Lib.hid hA
  have HB := Lib.hid hB
  have HG := Lib.hid (wk_grow (a.length + b.length) w (by omega))
  have H1 := Lib.hid (fun (v : Value) (base : Nat) (ty : TypeId) (w2 : World) (hO : Wk.Own w2 base v []) (hw : Below w.heap.size w w2) (hbb : base ≤ w2.heap.size) => wk_append_any [] a v p c base ty w2 hO (hA.below hw) (by simp) (by omega) hbb)
  have H2 := Lib.hid (fun (v : Value) (base : Nat) (ty : TypeId) (w2 : World) (hO : Wk.Own w2 base v a) (hw : Below w.heap.size w w2) (hbb : base ≤ w2.heap.size) => wk_append_any a b v q d base ty w2 hO (hB.below hw) (by omega) (by omega) hbb)
  clear hA hB
  obtain ⟨na, hna⟩ : ∃ na, na = a.length := ⟨_, rfl⟩
  obtain ⟨nb, hnb⟩ : ∃ nb, nb = b.length := ⟨_, rfl⟩
  rw [← hna, ← hnb] at HG hX HX
  rw [← hna] at ha H1
  rw [← hnb] at hb H2
  clear hna hnb
  obtain ⟨x0, x1, _, _⟩ := Wk.two_of hX
  clear hX
  go_enter Tryz.func37, Tryz.ntmps37
  go_wp2_with fail
  go_loopw [3, 11] (fun v i wr => Wk.Cc1 w na nb v i wr) (fun _ i _ => 2 - (RowKit.intOf i).toNat)
  case atStart => exact ⟨rfl, Or.inl ⟨rfl, rfl⟩⟩
  case round =>
    obtain ⟨hwr, hc⟩ := hrel
    obtain rfl : w = wr := hwr.symm
    rcases hc with ⟨rfl, rfl⟩ | ⟨rfl, rfl⟩ | ⟨rfl, rfl⟩
    · go_wp2_with fail
      exact ⟨⟨rfl, Or.inr (Or.inl ⟨rfl, rfl⟩)⟩, by simp [RowKit.intOf]⟩
    · have hs : (0 : Int) ≤ (na : Int) + (nb : Int) := by omega
      go_wp2_with fail
      exact ⟨⟨rfl, Or.inr (Or.inr ⟨rfl, by go_num⟩)⟩, by simp [RowKit.intOf]⟩
    · go_wp2_with fail
      refine HG.out.mono ?_
      rintro e w2 ⟨v2, rfl, hO2, hB2⟩
      have O2 := Lib.hid hO2
      have B2 := Lib.hid hB2
      clear hO2 hB2
      go_wp2_with fail
      go_loopw [6, 27] (fun v i wr => Wk.Cc2 w a b v i wr) (fun _ i _ => 2 - (RowKit.intOf i).toNat)
      case atStart => exact ⟨B2.out, Or.inl ⟨rfl, O2.out⟩⟩
      case round =>
        obtain ⟨hB3, hc⟩ := hrel
        have B3 := Lib.hid hB3
        have hxl : B < w.heap.size := (Array.getElem?_eq_some_iff.1 HX.out).1
        have hz3 := hB3.size
        clear hB3
        obtain ⟨x0, x1, _, _⟩ := Wk.two_of ((B3.out.block B hxl).trans HX.out)
        rcases hc with ⟨rfl, hO3⟩ | ⟨rfl, hO3⟩ | ⟨rfl, hO3⟩
        · obtain ⟨v4, w4, hr, hO4, hg4⟩ := H1.out u6 w.heap.size 26 wr hO3 B3.out hz3
          have HR := Lib.hid hr
          have O4 := Lib.hid hO4
          have B4 := Lib.hid (B3.out.trans (wk_grown_below hg4 hO3 hz3))
          clear hr hO4 hg4 hO3
          go_wp2_with (at_builtin; refine Lib.wpList_append_run _ rfl _ _ _ _ rfl _ _ rfl rfl _ _ HR.out ?_)
          exact ⟨⟨B4.out, Or.inr (Or.inl ⟨rfl, O4.out⟩)⟩, by simp [RowKit.intOf]⟩
        · obtain ⟨v4, w4, hr, hO4, hg4⟩ := H2.out u6 w.heap.size 26 wr hO3 B3.out hz3
          have HR := Lib.hid hr
          have O4 := Lib.hid hO4
          have B4 := Lib.hid (B3.out.trans (wk_grown_below hg4 hO3 hz3))
          clear hr hO4 hg4 hO3
          go_wp2_with (at_builtin; refine Lib.wpList_append_run _ rfl _ _ _ _ rfl _ _ rfl rfl _ _ HR.out ?_)
          exact ⟨⟨B4.out, Or.inr (Or.inr ⟨rfl, O4.out⟩)⟩, by simp [RowKit.intOf]⟩
        · have O3 := Lib.hid hO3
          clear hO3
          go_wp2_with fail
          go_ret
          exact ⟨_, rfl, O3.out, B3.out⟩
end Go.Proofs.YtpaleljnkejdgaaGreatDoor
