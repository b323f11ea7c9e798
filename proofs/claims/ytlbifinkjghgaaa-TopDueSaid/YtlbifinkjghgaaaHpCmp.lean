
/-
  The walks of cmp.Compare, cmp.Or, heap's compare, ahead and parent, and of the document's Ahead. No condition but a number's size.
-/
import Derived.Test.YtlbifinkjghgaaaHpPA
import Derived.Lib.Small
import Derived.Deep.RegionHeld3
import Derived.Deep.QuietTactic
import Derived.BigQuiet
import Derived.Sort.Grow
namespace Go.Proofs.Ytlbifinkjghgaaa
open Go.RowKit Go.Lib Go.Sort

theorem hp_isNaN (x : Int) (w : World) : Calls Try.prog 57 #[.int .i64 x] w fun e w' => e = .returned (.bool false) ∧ w' = w := by
  go_enter Try.func57, Try.ntmps57
  go_wp2_with fail
  go_ret
  exact ⟨rfl, rfl⟩
theorem hp_Compare (x y : Int) (w : World) : Calls Try.prog 38 #[.int .i64 x, .int .i64 y] w fun e w' => e = .returned (.int .i64 (Lib.compareInt x y)) ∧ w' = w := by
  have A := fun x w => hp_isNaN x w
  have HR := Lib.hid (show Lib.compareInt x y = if x < y then -1 else if x > y then 1 else 0 from rfl)
  by_cases h1 : x < y
  · have HR2 := Lib.hid (HR.out.trans (if_pos h1))
    go_enter Try.func38, Try.ntmps38
    go_wp2_with fail
    refine (A _ _).mono ?_
    rintro e w' ⟨rfl, rfl⟩
    go_wp2_with fail
    refine (A _ _).mono ?_
    rintro e w' ⟨rfl, rfl⟩
    go_wp2_with fail
    go_ret
    exact ⟨by rw [HR2.out]; rfl, rfl⟩
  · by_cases h2 : x > y
    · have HR2 := Lib.hid (HR.out.trans ((if_neg h1).trans (if_pos h2)))
      go_enter Try.func38, Try.ntmps38
      go_wp2_with fail
      refine (A _ _).mono ?_
      rintro e w' ⟨rfl, rfl⟩
      go_wp2_with fail
      refine (A _ _).mono ?_
      rintro e w' ⟨rfl, rfl⟩
      go_wp2_with fail
      go_ret
      exact ⟨by rw [HR2.out]; rfl, rfl⟩
    · have HR2 := Lib.hid (HR.out.trans ((if_neg h1).trans (if_neg h2)))
      obtain rfl : x = y := by omega
      clear h1 h2
      go_enter Try.func38, Try.ntmps38
      go_wp2_with fail
      refine (A _ _).mono ?_
      rintro e w' ⟨rfl, rfl⟩
      go_wp2_with fail
      refine (A _ _).mono ?_
      rintro e w' ⟨rfl, rfl⟩
      go_wp2_with fail
      go_ret
      exact ⟨by rw [HR2.out]; rfl, rfl⟩
theorem hp_parent (i : Nat) (w : World) (hi : i ≤ 1000000) : Calls Try.prog 12 #[.int .i64 i] w fun e w' => e = .returned (.int .i64 (((i - 1) / 2 : Nat) : Int)) ∧ w' = w := by
  by_cases h0 : i = 0
  · subst h0
    go_enter Try.func12, Try.ntmps12
    go_wp2_with fail
    go_ret
    exact ⟨rfl, rfl⟩
  · obtain ⟨k, rfl⟩ : ∃ k, i = k + 1 := ⟨i - 1, by omega⟩
    have e : (((k + 1 - 1) / 2 : Nat) : Int) = (k : Int) / 2 := by simp
    rw [e]
    clear h0 e
    go_enter Try.func12, Try.ntmps12
    go_wp2_with fail
    go_ret
    exact ⟨rfl, rfl⟩
def Hp.or2 (a b : Int) : Int := if a = 0 then b else a
set_option maxHeartbeats 1000000 in
theorem hp_Or (a b : Int) (g : Nat) (w : World) (h0 : w.cell? ⟨g, 0, none⟩ = some (.int .i64 a)) (h1 : w.cell? ⟨g, 1, none⟩ = some (.int .i64 b)) :
    Calls Try.prog 37 #[.slice (some ⟨g, 0, none⟩) 2 2] w fun e w' => e = .returned (.int .i64 (Hp.or2 a b)) ∧ w' = w := by
  have HR := Lib.hid (show Hp.or2 a b = if a = 0 then b else a from rfl)
  generalize Hp.or2 a b = r at HR ⊢
  by_cases ha : a = 0
  · subst ha
    have HR2 := Lib.hid (HR.out.trans (if_pos rfl))
    by_cases hb : b = 0
    · subst hb
      go_enter Try.func37, Try.ntmps37
      go_wp2_with fail
      go_loopw [5, 8] (fun _ i wr => ∃ k : Nat, k ≤ 2 ∧ i = .int .i64 k ∧ wr = w) (fun _ i _ => 2 - (RowKit.intOf i).toNat)
      case atStart => exact ⟨0, by omega, rfl, rfl⟩
      case round =>
        obtain ⟨k, hk, rfl, rfl⟩ := hrel
        have hk3 : k = 0 ∨ k = 1 ∨ k = 2 := by omega
        rcases hk3 with rfl | rfl | rfl
        · go_wp2_with fail
          exact ⟨⟨1, by omega, by first | rfl | trivial, by first | rfl | trivial⟩, by simp [RowKit.intOf]⟩
        · go_wp2_with fail
          exact ⟨⟨2, by omega, by first | rfl | trivial, by first | rfl | trivial⟩, by simp [RowKit.intOf]⟩
        · go_wp2_with fail
          go_ret
          exact ⟨by rw [HR2.out]; rfl, rfl⟩
    · have qb : (b == 0) = false := by simpa using hb
      have qb2 : (b != 0) = true := by simpa using hb
      clear hb
      go_enter Try.func37, Try.ntmps37
      go_wp2_with fail
      go_loopw [5, 8] (fun _ i wr => ∃ k : Nat, k ≤ 1 ∧ i = .int .i64 k ∧ wr = w) (fun _ i _ => 2 - (RowKit.intOf i).toNat)
      case atStart => exact ⟨0, by omega, rfl, rfl⟩
      case round =>
        obtain ⟨k, hk, rfl, rfl⟩ := hrel
        have hk3 : k = 0 ∨ k = 1 := by omega
        rcases hk3 with rfl | rfl
        · go_wp2_with fail
          exact ⟨⟨1, by omega, by first | rfl | trivial, by first | rfl | trivial⟩, by simp [RowKit.intOf]⟩
        · go_wp2_with fail
          go_ret
          exact ⟨by rw [HR2.out]; rfl, rfl⟩
  · have HR2 := Lib.hid (HR.out.trans (if_neg ha))
    have qb : (a == 0) = false := by simpa using ha
    have qb2 : (a != 0) = true := by simpa using ha
    clear ha
    go_enter Try.func37, Try.ntmps37
    go_wp2_with fail
    go_loopw [5, 8] (fun _ i wr => i = .int .i64 0 ∧ wr = w) (fun _ i _ => 2 - (RowKit.intOf i).toNat)
    case atStart => exact ⟨rfl, rfl⟩
    case round =>
      obtain ⟨rfl, rfl⟩ := hrel
      go_wp2_with fail
      go_ret
      exact ⟨by rw [HR2.out]; rfl, rfl⟩
/-- What comparing two timers tells. -/
def Hp.cmp (x y : Int × Int × Int × Int) : Int := Hp.or2 (Lib.compareInt x.1 y.1) (Lib.compareInt x.2.1 y.2.1)
theorem Hp.cmp_lt (x y : Int × Int × Int × Int) : decide (Hp.cmp x y < 0) = Hp.lt x y := by
  unfold Hp.cmp Hp.or2 Hp.lt Lib.compareInt
  by_cases h1 : x.1 < y.1
  · simp [h1]
  · by_cases h2 : y.1 < x.1
    · simp [h1, h2]; omega
    · have e : x.1 = y.1 := by omega
      by_cases h3 : x.2.1 < y.2.1
      · simp [h3, e]
      · by_cases h4 : y.2.1 < x.2.1 <;> simp [h3, h4, e]
theorem hp_lit0 (w : World) (a b : Value) (t : TypeId) : (w.alloc (.cells #[a, b] t)).drew.cell? ⟨w.heap.size, 0, none⟩ = some a := by rw [Lib.cell_of_heap (w := (w.alloc (.cells #[a, b] t)).drew) (hp_new w _)]; rfl
theorem hp_lit1 (w : World) (a b : Value) (t : TypeId) : (w.alloc (.cells #[a, b] t)).drew.cell? ⟨w.heap.size, 1, none⟩ = some b := by rw [Lib.cell_of_heap (w := (w.alloc (.cells #[a, b] t)).drew) (hp_new w _)]; rfl
set_option maxHeartbeats 1000000 in
theorem hp_compare (x y : Int × Int × Int × Int) (W : World) : Calls Try.prog 30 #[.agg #[.int .i64 x.1, .int .i64 x.2.1, .int .u8 x.2.2.1, .int .i64 x.2.2.2], .agg #[.int .i64 y.1, .int .i64 y.2.1, .int .u8 y.2.2.1, .int .i64 y.2.2.2]] W fun e w' => e = .returned (.int .i64 (Hp.cmp x y)) ∧ ∃ q os', w' = grow (W.drewN q) os' := by
  obtain ⟨x1, x2, x3, x4⟩ := x
  obtain ⟨y1, y2, y3, y4⟩ := y
  unfold Hp.cmp
  simp only []
  have CO := Lib.hid (fun g W => hp_Or (Lib.compareInt x1 y1) (Lib.compareInt x2 y2) g W)
  generalize Hp.or2 (Lib.compareInt x1 y1) (Lib.compareInt x2 y2) = r at CO ⊢
  obtain ⟨wB, hwB⟩ : ∃ wB, (W.alloc (.cells #[.int .i64 x1, .int .i64 x2, .int .u8 x3, .int .i64 x4] 29)).alloc (.cells #[.int .i64 y1, .int .i64 y2, .int .u8 y3, .int .i64 y4] 29) = wB := ⟨_, rfl⟩
  have hx : wB.heap[W.heap.size]? = some (.cells #[.int .i64 x1, .int .i64 x2, .int .u8 x3, .int .i64 x4] 29 (0, 0)) := by rw [← hwB, hp_past _ _ _ (by rw [World.size_alloc]; omega)]; exact hp_new _ _
  have hy : wB.heap[W.heap.size + 1]? = some (.cells #[.int .i64 y1, .int .i64 y2, .int .u8 y3, .int .i64 y4] 29 (0, 0)) := by rw [← hwB]; have := hp_new (W.alloc (.cells #[.int .i64 x1, .int .i64 x2, .int .u8 x3, .int .i64 x4] 29)) (.cells #[.int .i64 y1, .int .i64 y2, .int .u8 y3, .int .i64 y4] 29); rw [World.size_alloc] at this; exact this
  obtain ⟨a0, a1, _, _⟩ := Hp.box hx
  obtain ⟨b0, b1, _, _⟩ := Hp.box hy
  clear hx hy
  have HG := Lib.hid (show ∀ o, ∃ q' os', (wB.alloc o).drew = grow (W.drewN q') os' from fun o => ⟨1, _, by rw [← hwB, alloc_eq_grow, alloc_eq_grow, alloc_eq_grow, grow_grow]; show grow (grow (W.drewN 1) _) _ = _; rw [grow_grow]⟩)
  go_enter Try.func30, Try.ntmps30
  go_wp2_with fail
  clear hwB
  go_region_held3 (fun w' => w'.cell? ⟨W.heap.size, 0, none⟩ = some (.int .i64 x1) ∧ w'.cell? ⟨W.heap.size, 1, none⟩ = some (.int .i64 x2) ∧ w'.cell? ⟨W.heap.size + 1, 0, none⟩ = some (.int .i64 y1) ∧ w'.cell? ⟨W.heap.size + 1, 1, none⟩ = some (.int .i64 y2))
    (first
      | (go_keep; done)
      | (exact ⟨a0, a1, b0, b1⟩))
    (first
      | (go_at_call 38; (with_reducible refine (hp_Compare _ _ _).mono ?_); rintro e w5 ⟨rfl, rfl⟩)
      | (go_at_call 37; (with_reducible refine (CO.out _ _ (hp_lit0 _ _ _ _) (hp_lit1 _ _ _ _)).mono ?_); rintro e w5 ⟨rfl, rfl⟩))
  go_wp2_with fail
  go_ret
  exact ⟨rfl, HG.out _⟩
/-- A call that reads, draws and lays blocks: what lay there stands. -/
theorem hp_grown_below {W w' : World} (h : ∃ q os', w' = grow (W.drewN q) os') : Below W.heap.size W w' := by
  obtain ⟨q, os', rfl⟩ := h
  refine ⟨rfl, rfl, rfl, ?_, fun k hk => ?_⟩
  · show W.heap.size ≤ (W.heap ++ os').size
    rw [Array.size_append]; omega
  · exact heap_grow_old _ _ hk
theorem hp_ahead (x y : Int × Int × Int × Int) (W : World) : Calls Try.prog 25 #[.agg #[.int .i64 x.1, .int .i64 x.2.1, .int .u8 x.2.2.1, .int .i64 x.2.2.2], .agg #[.int .i64 y.1, .int .i64 y.2.1, .int .u8 y.2.2.1, .int .i64 y.2.2.2]] W fun e w' => e = .returned (.bool (Hp.lt x y)) ∧ ∃ q os', w' = grow (W.drewN q) os' := by
  have HC := Lib.hid (Hp.cmp_lt x y)
  have C1 := Lib.hid (fun W => hp_compare x y W)
  generalize Hp.cmp x y = r at HC C1
  obtain ⟨x1, x2, x3, x4⟩ := x
  obtain ⟨y1, y2, y3, y4⟩ := y
  simp only [] at C1 ⊢
  obtain ⟨r2, hr2⟩ : ∃ r2, Hp.lt (x1, x2, x3, x4) (y1, y2, y3, y4) = r2 := ⟨_, rfl⟩
  rw [hr2] at HC ⊢
  clear hr2
  obtain ⟨wB, hwB⟩ : ∃ wB, (W.alloc (.cells #[.int .i64 x1, .int .i64 x2, .int .u8 x3, .int .i64 x4] 29)).alloc (.cells #[.int .i64 y1, .int .i64 y2, .int .u8 y3, .int .i64 y4] 29) = wB := ⟨_, rfl⟩
  have hx : wB.heap[W.heap.size]? = some (.cells #[.int .i64 x1, .int .i64 x2, .int .u8 x3, .int .i64 x4] 29 (0, 0)) := by rw [← hwB, hp_past _ _ _ (by rw [World.size_alloc]; omega)]; exact hp_new _ _
  have hy : wB.heap[W.heap.size + 1]? = some (.cells #[.int .i64 y1, .int .i64 y2, .int .u8 y3, .int .i64 y4] 29 (0, 0)) := by rw [← hwB]; have := hp_new (W.alloc (.cells #[.int .i64 x1, .int .i64 x2, .int .u8 x3, .int .i64 x4] 29)) (.cells #[.int .i64 y1, .int .i64 y2, .int .u8 y3, .int .i64 y4] 29); rw [World.size_alloc] at this; exact this
  obtain ⟨a0, a1, a2, a3⟩ := Hp.box hx
  obtain ⟨b0, b1, b2, b3⟩ := Hp.box hy
  clear hx hy
  have HG := Lib.hid (show ∀ w', (∃ q os', w' = grow (wB.drewN q) os') → ∃ q' os', w' = grow (W.drewN q') os' from fun w' h => by
    obtain ⟨q, os', rfl⟩ := h
    exact ⟨q, _, by rw [← hwB, alloc_eq_grow, alloc_eq_grow, grow_grow]; show grow (grow (W.drewN q) _) _ = _; rw [grow_grow]⟩)
  go_enter Try.func25, Try.ntmps25
  go_wp2_with fail
  clear hwB
  refine (C1.out _).mono ?_
  rintro e w5 ⟨rfl, hg⟩
  have HG5 := Lib.hid (HG.out _ hg)
  clear hg a0 a1 a2 a3 b0 b1 b2 b3
  go_wp2_with fail
  go_ret
  exact ⟨by rw [← HC.out]; rfl, HG5.out⟩
end Go.Proofs.Ytlbifinkjghgaaa
