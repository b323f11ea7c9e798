
/-
  The walk of heap's rise: a timer is put right, upwards, in a block of the call's own. Condition: the list is of a size that a machine holds.
-/
import Derived.Test.YtlbifinkjghgaaaHpSink
import Derived.Deep.RegionWith
namespace Go.Proofs.Ytlbifinkjghgaaa
open Go.RowKit Go.Lib Go.Sort Go.Shelf

set_option maxHeartbeats 4000000 in
theorem hp_rise (l : List (Int × Int × Int × Int)) (i0 g c : Nat) (rest : List Value) (w : World) (K0 : Nat) (hK : i0 ≤ K0) (hi : i0 < l.length) (hn : l.length ≤ 1000000) (h : Hp.Blk w g l rest) :
    Calls Try.prog 28 #[.slice (some ⟨g, 0, none⟩) l.length c, .int .i64 i0] w (Hp.Put (Hp.riseF K0 l i0) rest g w) := by
  have HB0 := Lib.hid h
  have hg := h.lt
  obtain ⟨R, hR⟩ : ∃ R, R = Hp.riseF K0 l i0 := ⟨_, rfl⟩
  have HR := Lib.hid hR
  rw [← hR]
  obtain ⟨n, hnl⟩ : ∃ n, n = l.length := ⟨_, rfl⟩
  have Hn := Lib.hid hnl
  rw [← hnl] at hn hi
  rw [← hnl]
  clear hnl h hR
  have mixed : Try.prog.follows .mixedOrders = true := by kernel_rfl
  go_enter Try.func28, Try.ntmps28
  go_wp2_with fail
  go_loopw [1] (fun a wr => ∃ (i K : Nat) (m : List (Int × Int × Int × Int)), a = .int .i64 i ∧ i < n ∧ i ≤ K ∧ i ≤ i0 ∧ Hid (m.length = n ∧ R = Hp.riseF K m i ∧ Hp.Blk wr g m rest) ∧ w.grownBy wr (some g)) (fun a _ => (RowKit.intOf a).toNat)
  case atStart => exact ⟨i0, K0, l, rfl, hi, hK, Nat.le_refl _, Lib.hid ⟨Hn.out.symm, HR.out, HB0.out⟩, hp_grown_refl _ _⟩
  case round =>
    obtain ⟨i, K, m, rfl, hin, hiK, hi0, HM, hgr⟩ := hrel
    have HG := Lib.hid hgr
    have hgz := hgr.size
    clear hgr HB0 HR
    have hil : i < m.length := by rw [HM.out.1]; exact hin
    have hql : (i - 1) / 2 < m.length := by omega
    have hx := HM.out.2.2.cell i hil
    have hy := HM.out.2.2.cell _ hql
    rw [← Hp.g_eq _ _ hil] at hx
    rw [← Hp.g_eq _ _ hql] at hy
    have CP := Lib.hid (fun W => hp_parent_grown i W (by omega))
    have CQ := Lib.hid (fun W => hp_parent i W (by omega))
    have CA := Lib.hid (fun W => hp_ahead (Hp.g m i) (Hp.g m ((i - 1) / 2)) W)
    have HT := Lib.hid (fun k => show Hp.riseF (k + 1) m i = if Hp.lt (Hp.g m i) (Hp.g m ((i - 1) / 2)) = true then Hp.riseF k (Hp.swap m i ((i - 1) / 2)) ((i - 1) / 2) else m from rfl)
    have HSt := Lib.hid (fun h => Hp.rise_stays K m i h)
    have HIr := Lib.hid (fun (e : i = (i - 1) / 2) (h : Hp.lt (Hp.g m i) (Hp.g m ((i - 1) / 2)) = true) => show False by rw [← e, Hp.irrefl] at h; cases h)
    have HSw := Lib.hid (fun W h => Hp.Blk.swap (w := W) (g := g) (rest := rest) h i _ hil hql)
    have HGw := Lib.hid (fun W => hp_grown_swap W g m i ((i - 1) / 2))
    have HWd := Lib.hid (fun W => show Hp.swapW W g m i ((i - 1) / 2) = (Hp.put (Hp.put W g i (Hp.g m ((i - 1) / 2))) g ((i - 1) / 2) (Hp.g m i)).drew from rfl)
    have hq1 : (i - 1) / 2 < n := by omega
    have hq2 : (i - 1) / 2 ≤ i := by omega
    have hq3 : i ≠ 0 → (i - 1) / 2 < i := by omega
    unfold Hp.edge at HSt
    generalize (i - 1) / 2 = q at *
    have HX := Lib.hid hx
    have HY := Lib.hid hy
    clear hx hy hil hql
    generalize Hp.g m i = x at *
    generalize Hp.g m q = y at *
    obtain ⟨x1, x2, x3, x4⟩ := x
    obtain ⟨y1, y2, y3, y4⟩ := y
    simp only [] at CA
    generalize Hp.lt (x1, x2, x3, x4) (y1, y2, y3, y4) = b at CA HT HSt HIr
    have X1 := fun n os => (HX.out.grown n os).1
    have X2 := fun n os => (HX.out.grown n os).2.1
    have X3 := fun n os => (HX.out.grown n os).2.2.1
    have X4 := fun n os => (HX.out.grown n os).2.2.2
    have Y1 := fun n os => (HY.out.grown n os).1
    have Y2 := fun n os => (HY.out.grown n os).2.1
    have Y3 := fun n os => (HY.out.grown n os).2.2.1
    have Y4 := fun n os => (HY.out.grown n os).2.2.2
    simp only [] at X1 X2 X3 X4 Y1 Y2 Y3 Y4
    have k1 : (i : Int) < (n : Int) := by omega
    have k2 : (0 : Int) ≤ (i : Int) := by omega
    have k3 : (q : Int) < (n : Int) := by omega
    have k4 : (0 : Int) ≤ (q : Int) := by omega
    go_wp2_with fail
    go_quiet_grown (first
      | (go_at_call 12; refine Calls.grown_of (CP.out _))
      | (go_at_call 25; refine Calls.grown_of (CA.out _)))
    clear X1 X2 X3 X4 Y1 Y2 Y3 Y4
    have hb3 : Below wr.heap.size wr (grow (wr.drewN nq) osq) := hp_grown_below ⟨nq, osq, rfl⟩
    have hgx := HX.out.lt
    have HX3 := Lib.hid (HX.out.below hb3 hgx)
    have HY3 := Lib.hid (HY.out.below hb3 hgx)
    have HM3 := Lib.hid (HM.out.2.2.below hb3 hgx)
    have HG3 := Lib.hid (hp_grown_trans HG.out (hp_grown_of_below hb3 _))
    clear hb3
    generalize grow (wr.drewN nq) osq = W3 at *
    cases b with
    | false =>
      have E := Lib.hid (HM.out.2.1.trans (HSt.out rfl))
      go_wp2_with fail
      rw [E.out]
      refine bodyPost_end (hp_ret0 rfl _ _ _) rfl ⟨rfl, HM3.out, HG3.out⟩
    | true =>
      have hne : i ≠ q := fun e => HIr.out e rfl
      have hlt : q < i := by omega
      obtain ⟨K', rfl⟩ : ∃ K', K = K' + 1 := ⟨K - 1, by omega⟩
      have E := Lib.hid (HM.out.2.1.trans ((HT.out K').trans (if_pos rfl)))
      have hs := HSw.out W3 HM3.out
      have hgw := HGw.out W3
      rw [HWd.out] at hs hgw
      unfold Hp.put at hs hgw
      simp only [] at hs hgw
      have HS2 := Lib.hid hs
      have HG2 := Lib.hid (hp_grown_trans HG3.out hgw)
      have fz := HM3.out.frozen
      clear hs hgw
      obtain ⟨e1, e2, e3, e4⟩ := HX3.out
      obtain ⟨d1, d2, d3, d4⟩ := HY3.out
      simp only [] at e1 e2 e3 e4 d1 d2 d3 d4
      have n1 : ¬ i = q := by omega
      have n2 : ¬ q = i := by omega
      have n3 : ¬ i * 4 = q * 4 := by omega
      have n4 : ¬ q * 4 = i * 4 := by omega
      clear hne
      go_wp2_with fail
      go_region_with (go_at_call 12; (with_reducible refine (CQ.out _).mono ?_); rintro e w5 ⟨rfl, rfl⟩)
      all_goals
        clear e1 e2 e3 e4 d1 d2 d3 d4 fz
        go_wp2_with fail
        refine (CQ.out _).mono ?_
        rintro e w5 ⟨rfl, rfl⟩
        go_wp2_with fail
        exact ⟨⟨q, K', Hp.swap m i q, rfl, hq1, by omega, by omega, Lib.hid ⟨(Hp.swap_len m i q).trans HM.out.1, E.out, HS2.out⟩, HG2.out⟩, by simp [RowKit.intOf]; omega⟩
end Go.Proofs.Ytlbifinkjghgaaa
