
/-
  The walk of heap.Check: whether timers are a right heap. Condition: the list is of a size that a machine holds.
-/
import Derived.Test.YtlbifinkjghgaaaHpTwice
import Derived.Shelf.SlSortCmp.QuietGrown
namespace Go.Proofs.Ytlbifinkjghgaaa
open Go.RowKit Go.Lib Go.Sort Go.Shelf

/-- A right heap. -/
def Hp.Ok (l : List (Int × Int × Int × Int)) : Prop := l.length ≤ 4096 ∧ (Hp.sq l).Nodup ∧ Hp.Heap l
/-- What Check tells. -/
noncomputable def Hp.chk (l : List (Int × Int × Int × Int)) : Int := @ite _ (Hp.Ok l) (Classical.propDecidable _) 0 2
theorem Hp.chk_ok {l : List (Int × Int × Int × Int)} (h : Hp.Ok l) : Hp.chk l = 0 := if_pos h
theorem Hp.chk_bad {l : List (Int × Int × Int × Int)} (h : ¬ Hp.Ok l) : Hp.chk l = 2 := if_neg h
theorem Hp.chk_iff {l : List (Int × Int × Int × Int)} : Hp.chk l = 0 ↔ Hp.Ok l := by
  by_cases h : Hp.Ok l
  · exact ⟨fun _ => h, fun _ => Hp.chk_ok h⟩
  · rw [Hp.chk_bad h]; exact ⟨(fun e => by cases e), fun e => absurd e h⟩
theorem hp_parent_grown (i : Nat) (w : World) (hi : i ≤ 1000000) : Calls Try.prog 12 #[.int .i64 i] w fun e w' => e = .returned (.int .i64 (((i - 1) / 2 : Nat) : Int)) ∧ ∃ q os', w' = grow (w.drewN q) os' :=
  (hp_parent i w hi).mono fun e w' ⟨h1, h2⟩ => ⟨h1, 0, #[], by rw [h2]; simp [grow, World.drewN]⟩
theorem Hp.At1.grown {w : World} {b off : Nat} {x : Int × Int × Int × Int} (h : Hp.At1 w b off x) (n : Nat) (os : Array Obj) : Hp.At1 (grow (w.drewN n) os) b off x :=
  h.below (hp_grown_below ⟨n, os, rfl⟩) h.lt
set_option maxHeartbeats 2000000 in
theorem hp_Check (l : List (Int × Int × Int × Int)) (p : Option Addr) (c : Nat) (w : World) (hA : Hp.At w p l) (hn : l.length ≤ 140737488351232) :
    Calls Try.prog 14 #[.slice p l.length c] w fun e w' => e = .returned (.int .i64 (Hp.chk l)) ∧ Below w.heap.size w w' := by
  have AL := Lib.hid hA
  have H0 := Lib.hid (@Hp.chk_ok l)
  have H2 := Lib.hid (@Hp.chk_bad l)
  generalize Hp.chk l = r at H0 H2 ⊢
  by_cases hsz : l.length ≤ 4096
  · have CT := Lib.hid (hp_twice l p c w hA (by omega))
    have HZ := Lib.hid hsz
    obtain ⟨n, hnl⟩ : ∃ n, n = l.length := ⟨_, rfl⟩
    have Hn := Lib.hid hnl
    rw [← hnl] at hn hsz CT
    rw [← hnl]
    clear hnl hA
    have q1 : decide ((4096 : Int) < (n : Int)) = false := by simp; omega
    cases ht : Hp.tw l with
    | true =>
      have E := Lib.hid (H2.out fun h => Hp.tw_true.1 ht h.2.1)
      rw [ht] at CT
      clear ht
      go_enter Try.func14, Try.ntmps14
      go_wp2_with fail
      refine CT.out.mono ?_
      rintro e w2 ⟨rfl, hb⟩
      have B2 := Lib.hid hb
      clear hb
      go_wp2_with fail
      go_ret
      exact ⟨by rw [E.out]; rfl, B2.out⟩
    | false =>
      have HN := Lib.hid (Hp.tw_false.1 ht)
      rw [ht] at CT
      clear ht
      go_enter Try.func14, Try.ntmps14
      go_wp2_with fail
      refine CT.out.mono ?_
      rintro e w2 ⟨rfl, hb⟩
      have B2 := Lib.hid hb
      clear hb
      go_wp2_with fail
      go_loopw [14] (fun i wr => ∃ k : Nat, k ≤ n ∧ i = .int .i64 k ∧ Aside (∀ j, j < k → Hp.edge l j) ∧ Below w.heap.size w wr) (fun i _ => n - (RowKit.intOf i).toNat)
      case atStart => exact ⟨0, Nat.zero_le _, rfl, fun j h => absurd h (Nat.not_lt_zero _), B2.out⟩
      case round =>
        obtain ⟨k, hk, rfl, hE, hBw⟩ := hrel
        have BW := Lib.hid hBw
        have hz := hBw.size
        clear hBw
        by_cases hlt : k < n
        · have hkl : k < l.length := by rw [← Hn.out]; exact hlt
          have hql : (k - 1) / 2 < l.length := by omega
          obtain ⟨b1, o1, rfl, hx⟩ := (AL.out.below BW.out).get k hkl
          obtain ⟨b2, o2, hpe, hy⟩ := (AL.out.below BW.out).get _ hql
          cases hpe
          have HE := Lib.hid (show Hp.lt l[k] l[(k - 1) / 2] = false ↔ Hp.edge l k by unfold Hp.edge; rw [Hp.g_eq _ _ hkl, Hp.g_eq _ _ hql])
          have CP := Lib.hid (fun W => hp_parent_grown k W (by omega))
          have CA := Lib.hid (fun W => hp_ahead l[k] l[(k - 1) / 2] W)
          have hqn : (k - 1) / 2 < n := by omega
          generalize l[k] = x at hx HE CA
          generalize l[(k - 1) / 2] = y at hy HE CA
          generalize (k - 1) / 2 = q at *
          obtain ⟨x1, x2, x3, x4⟩ := x
          obtain ⟨y1, y2, y3, y4⟩ := y
          have hltz : (k : Int) < (n : Int) := by omega
          have hk0 : (0 : Int) ≤ (k : Int) := by omega
          have hqz : (q : Int) < (n : Int) := by omega
          have hq0 : (0 : Int) ≤ (q : Int) := by omega
          have HY := Lib.hid hy
          obtain ⟨e1, e2, e3, e4⟩ := hx
          simp only [] at e1 e2 e3 e4 CA
          clear hkl hql hy
          generalize Hp.lt (x1, x2, x3, x4) (y1, y2, y3, y4) = b at HE CA
          have HB := Lib.hid (hp_box wr (.cells #[.int .i64 x1, .int .i64 x2, .int .u8 x3, .int .i64 x4] 29))
          have HX := Lib.hid (Hp.boxed (x := (x1, x2, x3, x4)) (hp_new wr (.cells #[.int .i64 x1, .int .i64 x2, .int .u8 x3, .int .i64 x4] 29)))
          go_wp2_with fail
          clear e1 e2 e3 e4
          have X1 := fun n os => (HX.out.grown n os).1
          have X2 := fun n os => (HX.out.grown n os).2.1
          have X3 := fun n os => (HX.out.grown n os).2.2.1
          have X4 := fun n os => (HX.out.grown n os).2.2.2
          have HY2 := HY.out.below HB.out HY.out.lt
          have Y1 := fun n os => (HY2.grown n os).1
          have Y2 := fun n os => (HY2.grown n os).2.1
          have Y3 := fun n os => (HY2.grown n os).2.2.1
          have Y4 := fun n os => (HY2.grown n os).2.2.2
          clear HY2
          generalize wr.alloc (.cells #[.int .i64 x1, .int .i64 x2, .int .u8 x3, .int .i64 x4] 29) = W0 at *
          simp only [Nat.zero_add] at X1 X2 X3 X4 Y1 Y2 Y3 Y4
          have mixed : Try.prog.follows .mixedOrders = true := by kernel_rfl
          go_quiet_grown (first
            | (go_at_call 12; refine Calls.grown_of (CP.out _))
            | (go_at_call 25; refine Calls.grown_of (CA.out _)))
          have B3 := Lib.hid ((BW.out.trans (HB.out.mono hz)).trans ((hp_grown_below ⟨nq, osq, rfl⟩).mono (Nat.le_trans hz HB.out.size)))
          cases b with
          | true =>
            have E := Lib.hid (H2.out fun h => by have := h.2.2 k (by rw [← Hn.out]; exact hlt); exact absurd (HE.out.2 this) (by simp))
            go_wp2_with fail
            go_ret
            exact ⟨by rw [E.out]; rfl, B3.out⟩
          | false =>
            have hE2 : Aside (∀ j, j < k + 1 → Hp.edge l j) := fun j h => by
              by_cases e : j = k
              · subst e; exact HE.out.1 rfl
              · exact hE.out j (by omega)
            clear hE
            go_wp2_with fail
            exact ⟨⟨k + 1, by omega, by go_num, hE2, B3.out⟩, by simp [RowKit.intOf]; omega⟩
        · obtain rfl : k = n := by omega
          have E := Lib.hid (H0.out ⟨HZ.out, HN.out, fun j hj => hE.out j (by rw [Hn.out]; exact hj)⟩)
          clear hE
          go_wp2_with fail
          go_ret
          exact ⟨by rw [E.out]; rfl, BW.out⟩
  · have E := Lib.hid (H2.out fun h => hsz h.1)
    have hz : ¬ l.length ≤ 4096 := hsz
    generalize l.length = n at *
    have q1 : decide ((4096 : Int) < (n : Int)) = true := by simp; omega
    have q2 : (4096 : Int) < (n : Int) := by omega
    clear hsz hz
    go_enter Try.func14, Try.ntmps14
    go_wp2_with fail
    go_ret
    exact ⟨by rw [E.out]; rfl, Below.refl _ _⟩
end Go.Proofs.Ytlbifinkjghgaaa
