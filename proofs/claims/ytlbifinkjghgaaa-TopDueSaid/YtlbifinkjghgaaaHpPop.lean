
/-
  The walks of heap.Pop and heap.Cancel: a right heap but for one timer, and that one, or why there is none. Condition: the list is of a size that a machine holds.
-/
import Derived.Test.YtlbifinkjghgaaaHpPush
namespace Go.Proofs.Ytlbifinkjghgaaa
open Go.RowKit Go.Lib Go.Sort Go.Shelf

/-- Timers, one timer and an error number as a result. -/
def Hp.Got3 (r : List (Int × Int × Int × Int)) (x : Int × Int × Int × Int) (z : Int) (w : World) (e : Ending) (w' : World) : Prop :=
  ∃ p c, e = .returned (.tuple #[.slice p r.length c, .agg #[.int .i64 x.1, .int .i64 x.2.1, .int .u8 x.2.2.1, .int .i64 x.2.2.2], .int .i64 z]) ∧ (∀ B, B < w.heap.size → ∀ b off, p = some ⟨b, off, none⟩ → b ≠ B) ∧ Hp.At w' p r ∧ Below w.heap.size w w'
noncomputable def Hp.poC (l : List (Int × Int × Int × Int)) : Int := @ite _ (Hp.Ok l) (Classical.propDecidable _) (if l.length = 0 then 3 else 0) 2
noncomputable def Hp.poL (l : List (Int × Int × Int × Int)) : List (Int × Int × Int × Int) := if Hp.poC l = 0 then Hp.woF l 0 else []
noncomputable def Hp.poT (l : List (Int × Int × Int × Int)) : Int × Int × Int × Int := if Hp.poC l = 0 then Hp.g l 0 else (0, 0, 0, 0)
noncomputable def Hp.caC (l : List (Int × Int × Int × Int)) (s : Int) : Int := @ite _ (Hp.Ok l) (Classical.propDecidable _) (if Hp.idx l s < l.length then 0 else 3) 2
noncomputable def Hp.caL (l : List (Int × Int × Int × Int)) (s : Int) : List (Int × Int × Int × Int) := if Hp.caC l s = 0 then Hp.woF l (Hp.idx l s) else if Hp.caC l s = 2 then [] else l
noncomputable def Hp.caT (l : List (Int × Int × Int × Int)) (s : Int) : Int × Int × Int × Int := if Hp.caC l s = 0 then Hp.g l (Hp.idx l s) else (0, 0, 0, 0)
theorem Hp.fill_below {w0 w : World} {B g : Nat} (h : Below B w0 w) (hg : B ≤ g) (hB : B ≤ w.heap.size) (x : Int × Int × Int × Int) : Below B w0 (Hp.fillW w g x) := h.grown (Hp.fill_grown w g x) hB (fun k hk => by cases hk; exact hg)
/-- What is read within blocks of the call's own, but for one, is read as it was. -/
theorem Hp.At.fill {w : World} {g : Nat} {p : Option Addr} {l : List (Int × Int × Int × Int)} (h : Hp.At w p l) (hp : ∀ b off, p = some ⟨b, off, none⟩ → b ≠ g) (x : Int × Int × Int × Int) : Hp.At (Hp.fillW w g x) p l := by
  rcases h with h | ⟨b, off, hp', hc⟩
  · exact Or.inl h
  · refine Or.inr ⟨b, off, hp', fun i hi => ?_⟩
    have hl := (hc i hi).lt
    have hb : (Hp.fillW w g x).heap[b]? = w.heap[b]? := (Hp.fill_grown w g x).block b hl (fun e => by cases e; exact hp _ _ hp' rfl)
    obtain ⟨c0, c1, c2, c3⟩ := hc i hi
    have key : ∀ o v, w.cell? ⟨b, o, none⟩ = some v → (Hp.fillW w g x).cell? ⟨b, o, none⟩ = some v := fun o v hv => (World.cell?_of_block (a := ⟨b, o, none⟩) hb).trans hv
    exact ⟨key _ _ c0, key _ _ c1, key _ _ c2, key _ _ c3⟩
theorem hp_below_undrew {B : Nat} {w0 w : World} (h : Below B w0 w.drew) : Below B w0 w := ⟨h.os, h.tape, h.output, h.size, h.block⟩
theorem Hp.At.undrew {w : World} {p : Option Addr} {l : List (Int × Int × Int × Int)} (h : Hp.At w.drew p l) : Hp.At w p l := h
set_option maxHeartbeats 4000000 in
set_option maxRecDepth 100000 in
theorem hp_Cancel (l : List (Int × Int × Int × Int)) (s : Int) (p : Option Addr) (c : Nat) (w : World) (hA : Hp.At w p l) (hn : l.length ≤ 140737488351232) :
    Calls Try.prog 6 #[.slice p l.length c, .int .i64 s] w (Hp.Got3 (Hp.caL l s) (Hp.caT l s) (Hp.caC l s) w) := by
  have HL := Lib.hid (show Hp.caL l s = if Hp.caC l s = 0 then Hp.woF l (Hp.idx l s) else if Hp.caC l s = 2 then [] else l from rfl)
  have HT := Lib.hid (show Hp.caT l s = if Hp.caC l s = 0 then Hp.g l (Hp.idx l s) else (0, 0, 0, 0) from rfl)
  have HOk := Lib.hid (fun h : Hp.Ok l => (show Hp.caC l s = if Hp.idx l s < l.length then 0 else 3 from if_pos h))
  have HNo := Lib.hid (fun h : ¬ Hp.Ok l => (show Hp.caC l s = 2 from if_neg h))
  have HP := Lib.hid (show Hp.plc l s = if Hp.idx l s < l.length then (Hp.idx l s : Int) else -1 from rfl)
  have CK := Lib.hid (fun W h => hp_Check l p c W h hn)
  have CP := Lib.hid (fun W h => hp_place l p c s W h hn)
  have CW := Lib.hid (fun W h hi (hn : l.length ≤ 1000000) => hp_without l (Hp.idx l s) p c W h hi hn)
  generalize Hp.caL l s = R at *
  generalize Hp.caT l s = T at *
  generalize Hp.caC l s = Z at *
  generalize Hp.idx l s = ix at *
  generalize Hp.plc l s = pl at *
  have hb0 := hp_box w (.cells #[.int .i64 0, .int .i64 0, .int .u8 0, .int .i64 0] 29)
  have x0 := hp_new w (.cells #[.int .i64 0, .int .i64 0, .int .u8 0, .int .i64 0] 29)
  obtain ⟨W0, hW0⟩ : ∃ W0, w.alloc (.cells #[.int .i64 0, .int .i64 0, .int .u8 0, .int .i64 0] 29) = W0 := ⟨_, rfl⟩
  have s0 : W0.heap.size = w.heap.size + 1 := by rw [← hW0, World.size_alloc]
  have HW0 := Lib.hid hW0
  rw [hW0] at hb0 x0
  have A0 := Lib.hid (hA.below hb0)
  have B0 := Lib.hid hb0
  have X0 := Lib.hid x0
  have S0 := Lib.hid s0
  clear hb0 x0 s0 hW0 hA
  by_cases hok : Hp.Ok l
  · have E1 := Lib.hid (HOk.out hok)
    rw [Hp.chk_ok hok] at CK
    have hlen := hok.1
    have CC := Lib.hid (fun W h => hp_Clone l p c W h (by omega))
    clear hok HOk HNo
    by_cases h0 : ix < l.length
    · have E2 := Lib.hid (E1.out.trans (if_pos h0))
      have E3 := Lib.hid (show R = Hp.woF l ix by rw [HL.out, E2.out]; rfl)
      have E4 := Lib.hid (show T = Hp.g l ix by rw [HT.out, E2.out]; rfl)
      obtain rfl : pl = (ix : Int) := HP.out.trans (if_pos h0)
      clear E1 HL HT HP CC
      generalize Hp.woF l ix = wo at *
      generalize Hp.g l ix = y at *
      obtain ⟨y1, y2, y3, y4⟩ := y
      have CW2 := Lib.hid (fun W h => CW.out W h h0 (by omega))
      clear CW
      obtain ⟨n, hnl⟩ : ∃ n, n = l.length := ⟨_, rfl⟩
      rw [← hnl] at CK CW2 CP hlen h0
      rw [← hnl]
      clear hnl hn
      have q1 : ¬ (ix : Int) < 0 := by omega
      have q2 : (0 : Int) ≤ (ix : Int) := by omega
      have q3 : (ix : Int) < (n : Int) := by omega
      go_enter Try.func6, Try.ntmps6
      go_wp2_with fail
      rw [HW0.out]
      refine (CK.out _ A0.out).mono ?_
      rintro e w1 ⟨rfl, hb⟩
      have hlt1 : w.heap.size < w1.heap.size := by have := S0.out; have := hb.size; omega
      have B1 := Lib.hid (hp_then B0.out hb B0.out.size)
      have A1 := Lib.hid (A0.out.below hb)
      have X1 := Lib.hid ((hb.block w.heap.size (by have := S0.out; omega)).trans X0.out)
      clear hb
      go_wp2_with fail
      refine (CP.out _ A1.out).mono ?_
      rintro e w2 ⟨rfl, hb⟩
      have hlt2 : w.heap.size < w2.heap.size := by have := hb.size; omega
      have B2 := Lib.hid (hp_then B1.out hb B1.out.size)
      have A2 := Lib.hid (A1.out.below hb)
      have X2 := Lib.hid ((hb.block w.heap.size hlt1).trans X1.out)
      clear hb
      go_wp2_with fail
      refine (CW2.out _ A2.out).mono ?_
      rintro e w5 ⟨p5, c5, rfl, hP5, hA5, hb5⟩
      have hlt5 : w.heap.size < w5.heap.size := by have := hb5.size; omega
      have hx5 := (hb5.block w.heap.size (by omega)).trans X2.out
      have hb5' := hp_then B2.out hb5 B2.out.size
      have hp5 := hP5 w.heap.size (by omega)
      have hbx := hp_box w5 (.cells #[.int .i64 y1, .int .i64 y2, .int .u8 y3, .int .i64 y4] 29)
      have hy := hp_new w5 (.cells #[.int .i64 y1, .int .i64 y2, .int .u8 y3, .int .i64 y4] 29)
      have X6 := Lib.hid ((hbx.block w.heap.size hlt5).trans hx5)
      have hfb := Hp.fill_box X6.out (y1, y2, y3, y4)
      have hfB := Hp.fill_below (hp_then hb5' hbx hb5'.size) (Nat.le_refl _) (by rw [World.size_alloc]; omega) (y1, y2, y3, y4)
      have hfA := (hA5.below hbx).fill hp5 (y1, y2, y3, y4)
      unfold Hp.fillW at hfb hfB hfA
      simp only [] at hfb hfB hfA
      have FB := Lib.hid hfb
      have FW := Lib.hid hfB
      have FA := Lib.hid hfA
      have FP := Lib.hid (show ∀ B, B < w.heap.size → ∀ b off, p5 = some ⟨b, off, none⟩ → b ≠ B from fun B hB => hP5 B (by omega))
      have HY := Lib.hid hy
      have hne : w5.heap.size ≠ w.heap.size := by omega
      have hne2 : w.heap.size ≠ w5.heap.size := by omega
      obtain ⟨x1, x2, x3, x4⟩ := Hp.box X6.out
      obtain ⟨z1, z2, z3, z4⟩ := Hp.box HY.out
      have fz := hp_box_frozen X6.out
      clear hfb hfB hfA hy hbx hx5 hb5' hb5 hA5 hp5 hP5
      go_wp2_with fail
      generalize w5.alloc (.cells #[.int .i64 y1, .int .i64 y2, .int .u8 y3, .int .i64 y4] 29) = w6 at *
      go_region
      go_wp2_with fail
      refine bodyPost_ret (hp_ret3 rfl _ _ w.heap.size 29 _ _ rfl FB.out Try.underlying29 rfl (by kernel_rfl)) rfl ?_
      rw [E2.out, E3.out, E4.out]
      exact ⟨p5, c5, rfl, FP.out, FA.out, FW.out⟩
    · have E2 := Lib.hid (E1.out.trans (if_neg h0))
      have E3 := Lib.hid (show R = l by rw [HL.out, E2.out]; rfl)
      have E4 := Lib.hid (show T = (0, 0, 0, 0) by rw [HT.out, E2.out]; rfl)
      obtain rfl : pl = -1 := HP.out.trans (if_neg h0)
      clear E1 HL HT HP CW h0
      obtain ⟨n, hnl⟩ : ∃ n, n = l.length := ⟨_, rfl⟩
      have Hn := Lib.hid hnl
      rw [← hnl] at CK CP CC hlen
      rw [← hnl]
      clear hnl hn
      go_enter Try.func6, Try.ntmps6
      go_wp2_with fail
      rw [HW0.out]
      refine (CK.out _ A0.out).mono ?_
      rintro e w1 ⟨rfl, hb⟩
      have hlt1 : w.heap.size < w1.heap.size := by have := S0.out; have := hb.size; omega
      have B1 := Lib.hid (hp_then B0.out hb B0.out.size)
      have A1 := Lib.hid (A0.out.below hb)
      have X1 := Lib.hid ((hb.block w.heap.size (by have := S0.out; omega)).trans X0.out)
      clear hb
      go_wp2_with fail
      refine (CP.out _ A1.out).mono ?_
      rintro e w2 ⟨rfl, hb⟩
      have hlt2 : w.heap.size < w2.heap.size := by have := hb.size; omega
      have B2 := Lib.hid (hp_then B1.out hb B1.out.size)
      have A2 := Lib.hid (A1.out.below hb)
      have X2 := Lib.hid ((hb.block w.heap.size hlt1).trans X1.out)
      clear hb
      go_wp2_with fail
      refine (CC.out _ A2.out).mono ?_
      rintro e w3 ⟨v, rfl, hO, hb⟩
      obtain ⟨pv, cv, rfl, hA3⟩ := hO.at
      have hpv : ∀ b off, l ≠ [] → pv = some ⟨b, off, none⟩ → w2.heap.size ≤ b := fun b off hne hv => by
        rcases hO.blk with ⟨h0, _⟩ | ⟨g, cap, rest, hv2, hg, _⟩
        · exact absurd h0 hne
        · rw [hv] at hv2; cases hv2; exact hg
      have FP := Lib.hid (show ∀ B, B < w.heap.size → ∀ b off, pv = some ⟨b, off, none⟩ → b ≠ B from fun B hB b off hv => by
        rcases hO.blk with ⟨_, h⟩ | ⟨g, cap, rest, hv2, hg, _⟩
        · rw [hv] at h; cases h
        · rw [hv] at hv2; cases hv2; omega)
      have hlt3 : w.heap.size < w3.heap.size := by have := hb.size; omega
      have X3 := Lib.hid ((hb.block w.heap.size hlt2).trans X2.out)
      have B3 := Lib.hid (hp_then B2.out hb B2.out.size)
      have hFA : Hp.At (Hp.fillW w3 w.heap.size (0, 0, 0, 0)) pv l := by
        by_cases hne : l = []
        · rw [hne]; exact Hp.At.nil _ _
        · exact hA3.fill (fun b off hv => by have := hpv b off hne hv; omega) _
      unfold Hp.fillW at hFA
      simp only [] at hFA
      have FA := Lib.hid hFA.undrew
      rw [← Hn.out]
      clear hb hO hA3 hpv hFA
      obtain ⟨x1, x2, x3, x4⟩ := Hp.box X3.out
      have fz := hp_box_frozen X3.out
      have hfb := Hp.fill_box X3.out (0, 0, 0, 0)
      have hfB := Hp.fill_below B3.out (Nat.le_refl _) (by omega) (0, 0, 0, 0)
      unfold Hp.fillW at hfb hfB
      simp only [] at hfb hfB
      have FB := Lib.hid hfb
      have FW := Lib.hid (hp_below_undrew hfB)
      clear hfb hfB
      go_wp2_with fail
      refine bodyPost_ret (hp_ret3 rfl _ _ w.heap.size 29 _ _ rfl FB.out Try.underlying29 rfl (by kernel_rfl)) rfl ?_
      rw [E2.out, E3.out, E4.out]
      exact ⟨pv, cv, by rw [Hn.out]; rfl, FP.out, FA.out, FW.out⟩
  · have E2 := Lib.hid (HNo.out hok)
    have E3 := Lib.hid (show R = [] by rw [HL.out, E2.out]; rfl)
    have E4 := Lib.hid (show T = (0, 0, 0, 0) by rw [HT.out, E2.out]; rfl)
    rw [Hp.chk_bad hok] at CK
    clear hok HOk HNo HL HT CW CP HP
    generalize l.length = n at *
    go_enter Try.func6, Try.ntmps6
    go_wp2_with fail
    rw [HW0.out]
    refine (CK.out _ A0.out).mono ?_
    rintro e w1 ⟨rfl, hb⟩
    have hlt1 : w.heap.size < w1.heap.size := by have := S0.out; have := hb.size; omega
    have B1 := Lib.hid (hp_then B0.out hb B0.out.size)
    have A1 := Lib.hid (A0.out.below hb)
    have X1 := Lib.hid ((hb.block w.heap.size (by have := S0.out; omega)).trans X0.out)
    clear hb
    obtain ⟨x1, x2, x3, x4⟩ := Hp.box X1.out
    have fz := hp_box_frozen X1.out
    have hfb := Hp.fill_box X1.out (0, 0, 0, 0)
    have hfB := Hp.fill_below B1.out (Nat.le_refl _) (by omega) (0, 0, 0, 0)
    unfold Hp.fillW at hfb hfB
    simp only [] at hfb hfB
    have FB := Lib.hid hfb
    have FW := Lib.hid (hp_below_undrew hfB)
    clear hfb hfB
    go_wp2_with fail
    refine bodyPost_ret (hp_ret3 rfl _ _ w.heap.size 29 _ _ rfl FB.out Try.underlying29 rfl (by kernel_rfl)) rfl ?_
    rw [E2.out, E3.out, E4.out]
    exact ⟨none, 0, rfl, (fun _ _ _ _ h => by cases h), Hp.At.nil _ _, FW.out⟩
end Go.Proofs.Ytlbifinkjghgaaa
