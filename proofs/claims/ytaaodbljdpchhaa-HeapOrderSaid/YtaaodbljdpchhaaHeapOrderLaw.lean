/-
  The walk of HeapOrder: whatever timers are, the law answers true. Condition: a list is of a size that a machine holds.
-/
import Derived.Test.YtaaodbljdpchhaaHeapAnyLaw
namespace Go.Proofs.Ytaaodbljdpchhaa
open Go.RowKit Go.Lib Go.Sort Go.Shelf

/-- What is popped comes out of the list, and is ahead of what is left. -/
theorem Hp.pop_next {m : List (Int × Int × Int × Int)} (hok : Hp.Ok m) (h0 : 0 < m.length) :
    Hp.poC m = 0 ∧ Hp.poL m = Hp.woF m 0 ∧ Hp.poT m = Hp.g m 0 ∧ Hp.Ok (Hp.woF m 0) ∧ Hp.g m 0 ∈ m ∧ (∀ x ∈ Hp.woF m 0, x ∈ m) ∧ ∀ x ∈ Hp.woF m 0, Hp.lt (Hp.g m 0) x = true := by
  have hc : Hp.poC m = 0 := (show Hp.poC m = if m.length = 0 then 3 else 0 from if_pos hok).trans (if_neg (by omega))
  have hp := Hp.wo_perm m 0 h0
  refine ⟨hc, if_pos hc, if_pos hc, Hp.ok_wo hok h0, Hp.g_mem h0, fun x hx => hp.mem_iff.1 (List.mem_cons_of_mem _ hx), fun x hx => ?_⟩
  have ha := Hp.srt_asc hok.2.1
  rw [Hp.srt_pop hok h0] at ha
  exact (List.pairwise_cons.1 ha).1 x ((Hp.srt_perm _).mem_iff.2 hx)
theorem Hp.plc_mem {l : List (Int × Int × Int × Int)} {t : Int × Int × Int × Int} (h : t ∈ l) : 0 ≤ Hp.plc l t.2.1 := by
  have h1 : t.2.1 ∈ Hp.sq l := List.mem_map_of_mem (f := fun x : Int × Int × Int × Int => x.2.1) h
  have h2 : ¬ Hp.plc l t.2.1 < 0 := fun e => (Hp.plc_neg.1 e) h1
  omega
set_option maxHeartbeats 8000000 in
set_option maxRecDepth 100000 in
theorem heapOrder_law (l : List (Int × Int × Int × Int)) (p : Option Addr) (c : Nat) (w : World) (hA : Hp.At w p l) (hn : l.length ≤ 140737488351232) :
    Calls Try.prog 4 #[.slice p l.length c] w fun e w' => e = .returned (.bool true) ∧ Below w.heap.size w w' := by
  have CL := Lib.hid hp_lives
  have A0 := Lib.hid hA
  by_cases hl : l.length ≤ 100
  · have CM := Lib.hid (fun W (hA : Hp.At W p l) => hp_Make l p c W hA (by omega))
    by_cases hz : Hp.mkC l = 0
    · obtain ⟨hnd, hlen, hmk⟩ := Hp.mk_zero hz
      rw [hz, hmk] at CM
      have hok := Hp.ok_make hnd hlen
      have HM0 := Lib.hid hok
      have HMl := Lib.hid (Hp.makeF_perm l).length_eq
      have HMm := Lib.hid (fun x (hx : x ∈ Hp.makeF l) => (Hp.makeF_perm l).mem_iff.1 hx)
      have CF := Lib.hid (fun s W (hA : Hp.At W p l) => ref_Find15 l s p c W hA hn)
      generalize Hp.makeF l = M at *
      clear hz hnd hlen hmk hok hA
      obtain ⟨n, hnl⟩ : ∃ n, n = l.length := ⟨_, rfl⟩
      have Hn := Lib.hid hnl
      rw [← hnl] at CM hl CF
      rw [← hnl]
      clear hnl hn
      have q1 : ¬ (100 : Int) < (n : Int) := by omega
      go_enter Try.func4, Try.ntmps4
      go_wp2_with fail
      refine (CL.out _).mono ?_
      rintro e w1 ⟨rfl, hb⟩
      have A1 := Lib.hid (A0.out.below hb)
      have B1 := Lib.hid hb
      clear hb
      go_wp2_with fail
      refine (CM.out _ A1.out).mono ?_
      rintro e w2 ⟨p2, c2, rfl, hA, hb⟩
      have hbz := hp_box w2 (.cells #[.int .i64 0, .int .i64 0, .int .u8 0, .int .i64 0] 31)
      have M2 := Lib.hid (hA.below hbz)
      have B2 := Lib.hid (hp_then (hp_then B1.out hb B1.out.size) hbz (hp_then B1.out hb B1.out.size).size)
      have X2 : Hid (Hp.Box (w2.alloc (.cells #[.int .i64 0, .int .i64 0, .int .u8 0, .int .i64 0] 31)) w2.heap.size (0, 0, 0, 0)) := Lib.hid (hp_new w2 _)
      have hwb : w.heap.size ≤ w2.heap.size := (hp_then B1.out hb B1.out.size).size
      have P2 := Lib.hid (show n ≠ 0 → ∀ b off, p2 = some ⟨b, off, none⟩ → b ≠ w2.heap.size from fun h0 b off hp => by
        rcases hA with h1 | ⟨b', off', hp', hc'⟩
        · have := HMl.out; rw [h1, ← Hn.out] at this; simp at this; omega
        · rw [hp] at hp'; cases hp'
          have := (hc' 0 (by rw [HMl.out, ← Hn.out]; omega)).lt
          omega)
      clear hA hb hbz
      have hM := HMl.out.trans Hn.out.symm
      rw [hM]
      have HM1 := Lib.hid hM
      clear hM
      go_wp2_with fail
      generalize w2.alloc (.cells #[.int .i64 0, .int .i64 0, .int .u8 0, .int .i64 0] 31) = W2 at *
      generalize w2.heap.size = B at *
      go_loopw [3, 30] (fun v i wr => ∃ (k r : Nat) (m : List (Int × Int × Int × Int)) (pm : Option Addr) (cm : Nat) (last : Int × Int × Int × Int), r + k = n ∧ i = .int .i64 k ∧ v = .slice pm r cm ∧ Hid (Hp.Ok m ∧ Hp.At wr pm m ∧ m.length = r ∧ (∀ x ∈ m, x ∈ l) ∧ (0 < k → ∀ x ∈ m, Hp.lt last x = true) ∧ Hp.Box wr B last ∧ (r ≠ 0 → ∀ b off, pm = some ⟨b, off, none⟩ → b ≠ B)) ∧ Below w.heap.size w wr) (fun _ i _ => n - (RowKit.intOf i).toNat)
      case atStart => exact ⟨0, n, M, p2, c2, (0, 0, 0, 0), rfl, rfl, rfl, Lib.hid ⟨HM0.out, M2.out, HM1.out, fun x hx => HMm.out x hx, fun h => absurd h (Nat.lt_irrefl _), X2.out, P2.out⟩, B2.out⟩
      case round =>
        obtain ⟨k, r, m, pm, cm, last, hk, rfl, rfl, HM, hBw⟩ := hrel
        have BW := Lib.hid hBw
        have hz := hBw.size
        clear hBw
        have HK := Lib.hid hk
        by_cases hlt : k < n
        · obtain ⟨r, rfl⟩ : ∃ r', r = r' + 1 := ⟨r - 1, by omega⟩
          have h0m : 0 < m.length := by rw [HM.out.2.2.1]; omega
          obtain ⟨n1, n2, n3, n4, n5, n6, n7⟩ := Hp.pop_next HM.out.1 h0m
          have CP := Lib.hid (fun pp cc W (hA : Hp.At W pp m) => by
            have h := hp_Pop m pp cc W hA (by have := HM.out.1.1; omega)
            rw [n1, n2, n3] at h
            exact h)
          rw [HM.out.2.2.1] at CP
          have hwl : (Hp.woF m 0).length = r := by rw [Hp.wo_len m 0 h0m, HM.out.2.2.1]; omega
          have CK := Lib.hid (fun pp cc W (hA : Hp.At W pp (Hp.woF m 0)) => by
            have h := hp_Check (Hp.woF m 0) pp cc W hA (by have := n4.1; omega)
            rw [Hp.chk_ok n4, hwl] at h
            exact h)
          have HN := Lib.hid (show Hp.Ok (Hp.woF m 0) ∧ (Hp.woF m 0).length = r ∧ (∀ x ∈ Hp.woF m 0, x ∈ l) ∧ (∀ x ∈ Hp.woF m 0, Hp.lt (Hp.g m 0) x = true) from ⟨n4, hwl, fun x hx => HM.out.2.2.2.1 x (n6 x hx), n7⟩)
          have HT := Lib.hid (show Hp.g m 0 ∈ l ∧ (0 < k → Hp.lt last (Hp.g m 0) = true) from ⟨HM.out.2.2.2.1 _ n5, fun h => HM.out.2.2.2.2.1 h _ n5⟩)
          have XM := Lib.hid HM.out.2.2.2.2.2.1
          have AM := Lib.hid HM.out.2.1
          clear HM n1 n2 n3 n4 n5 n6 n7 hwl h0m hk
          generalize Hp.woF m 0 = m2 at *
          generalize Hp.g m 0 = t at *
          have HF := Lib.hid (Hp.plc_mem HT.out.1)
          have CFt := Lib.hid (fun W hA => CF.out t.2.1 W hA)
          have CAh := Lib.hid (fun W => hp_Ahead last t W)
          generalize Hp.plc l t.2.1 = pt at HF CFt
          have hpt := HF.out
          have hltz : (k : Int) < (n : Int) := by omega
          have hk0 : (0 : Int) ≤ (k : Int) := by omega
          have q5 : ((r : Int) != (n : Int) - (k : Int) - 1) = false := by have := HK.out; simp; omega
          have q6 : ¬ pt < 0 := by omega
          clear HF
          go_wp2_with fail
          refine (CP.out _ _ _ AM.out).mono ?_
          rintro e w3 ⟨p3, c3, rfl, hP3, hA, hb⟩
          obtain ⟨t1, t2, t3, t4⟩ := t
          obtain ⟨z1, z2, z3, z4⟩ := last
          simp only [] at CFt CAh
          have hBl : B < wr.heap.size := (Array.getElem?_eq_some_iff.1 XM.out).1
          have P3 := Lib.hid (hP3 B hBl)
          have hbx := hp_box w3 (.cells #[.int .i64 t1, .int .i64 t2, .int .u8 t3, .int .i64 t4] 31)
          have M3 := Lib.hid (hA.below hbx)
          have XL3 := Lib.hid ((XM.out.below hb).below hbx)
          have XT3 : Hid (Hp.Box (w3.alloc (.cells #[.int .i64 t1, .int .i64 t2, .int .u8 t3, .int .i64 t4] 31)) w3.heap.size (t1, t2, t3, t4)) := Lib.hid (hp_new w3 _)
          have B3 := Lib.hid (hp_then (hp_then BW.out hb hz) hbx (hp_then BW.out hb hz).size)
          have hB3 : B < w3.heap.size := Nat.lt_of_lt_of_le hBl hb.size
          clear hA hb hbx hP3
          rw [HN.out.2.1]
          go_wp2_with fail
          generalize w3.alloc (.cells #[.int .i64 t1, .int .i64 t2, .int .u8 t3, .int .i64 t4] 31) = W3 at *
          refine (CK.out _ _ _ M3.out).mono ?_
          rintro e w4 ⟨rfl, hb⟩
          have M4 := Lib.hid (M3.out.below hb)
          have XL4 := Lib.hid (XL3.out.below hb)
          have XT4 := Lib.hid (XT3.out.below hb)
          have B4 := Lib.hid (hp_then B3.out hb B3.out.size)
          clear hb
          obtain ⟨x1, x2, x3, x4⟩ := XL4.out.cells
          obtain ⟨y1, y2, y3, y4⟩ := XT4.out.cells
          by_cases hk1 : 0 < k
          · have q7 : decide ((0 : Int) < (k : Int)) = true := by simp; omega
            have HAh := Lib.hid (HT.out.2 hk1)
            rw [HAh.out] at CAh
            go_wp2_with fail
            refine (CAh.out _).mono ?_
            rintro e w5 ⟨rfl, hg⟩
            have hb := hp_grown_below hg
            have M5 := Lib.hid (M4.out.below hb)
            have XL5 := Lib.hid (XL4.out.below hb)
            have XT5 := Lib.hid (XT4.out.below hb)
            have B5 := Lib.hid (hp_then B4.out hb B4.out.size)
            clear hb hg
            clear x1 x2 x3 x4 y1 y2 y3 y4
            obtain ⟨y1, y2, y3, y4⟩ := XT5.out.cells
            go_wp2_with fail
            refine (CFt.out _ (A0.out.below B5.out)).mono ?_
            rintro e w6 ⟨rfl, hb⟩
            have M6 := Lib.hid (M5.out.below hb)
            have XL6 := Lib.hid (XL5.out.below hb)
            have XT6 := Lib.hid (XT5.out.below hb)
            have B6 := Lib.hid (hp_then B5.out hb B5.out.size)
            clear hb y1 y2 y3 y4
            have hfb := Hp.fill_box XL6.out (t1, t2, t3, t4)
            have hfB := Hp.fill_below B6.out hwb B6.out.size (t1, t2, t3, t4)
            have hfA := M6.out.fill P3.out (t1, t2, t3, t4)
            unfold Hp.fillW at hfb hfB hfA
            simp only [] at hfb hfB hfA
            have FB := Lib.hid hfb
            have FW := Lib.hid hfB
            have FA := Lib.hid hfA
            clear hfb hfB hfA
            obtain ⟨x1, x2, x3, x4⟩ := XL6.out.cells
            obtain ⟨y1, y2, y3, y4⟩ := XT6.out.cells
            have fz := hp_box_frozen XL6.out
            go_wp2_with fail
            go_region
            clear x1 x2 x3 x4 y1 y2 y3 y4 fz
            go_wp2_with fail
            exact ⟨⟨k + 1, r, m2, p3, c3, (t1, t2, t3, t4), by have := HK.out; omega, by go_num, rfl, Lib.hid ⟨HN.out.1, FA.out, HN.out.2.1, HN.out.2.2.1, fun _ => HN.out.2.2.2, FB.out, fun _ => P3.out⟩, FW.out⟩, by simp [RowKit.intOf]; omega⟩
          · obtain rfl : k = 0 := by omega
            have q7 : ((r : Int) != (n : Int) - 1) = false := by have := HK.out; simp; omega
            clear x1 x2 x3 x4 y1 y2 y3 y4
            obtain ⟨y1, y2, y3, y4⟩ := XT4.out.cells
            go_wp2_with fail
            refine (CFt.out _ (A0.out.below B4.out)).mono ?_
            rintro e w6 ⟨rfl, hb⟩
            have M6 := Lib.hid (M4.out.below hb)
            have XL6 := Lib.hid (XL4.out.below hb)
            have XT6 := Lib.hid (XT4.out.below hb)
            have B6 := Lib.hid (hp_then B4.out hb B4.out.size)
            clear hb y1 y2 y3 y4
            have hfb := Hp.fill_box XL6.out (t1, t2, t3, t4)
            have hfB := Hp.fill_below B6.out hwb B6.out.size (t1, t2, t3, t4)
            have hfA := M6.out.fill P3.out (t1, t2, t3, t4)
            unfold Hp.fillW at hfb hfB hfA
            simp only [] at hfb hfB hfA
            have FB := Lib.hid hfb
            have FW := Lib.hid hfB
            have FA := Lib.hid hfA
            clear hfb hfB hfA
            obtain ⟨x1, x2, x3, x4⟩ := XL6.out.cells
            obtain ⟨y1, y2, y3, y4⟩ := XT6.out.cells
            have fz := hp_box_frozen XL6.out
            go_wp2_with fail
            go_region
            clear x1 x2 x3 x4 y1 y2 y3 y4 fz
            go_wp2_with fail
            exact ⟨⟨0 + 1, r, m2, p3, c3, (t1, t2, t3, t4), by have := HK.out; omega, by go_num, rfl, Lib.hid ⟨HN.out.1, FA.out, HN.out.2.1, HN.out.2.2.1, fun _ => HN.out.2.2.2, FB.out, fun _ => P3.out⟩, FW.out⟩, by simp [RowKit.intOf]; omega⟩
        · have hk' : k = n := by omega
          have hr : r = 0 := by omega
          subst hr hk'
          have hm : m = [] := List.length_eq_zero_iff.1 HM.out.2.2.1
          have CP := Lib.hid (fun pp cc W (hA : Hp.At W pp []) => by
            have h := hp_Pop [] pp cc W hA (by simp)
            have e : Hp.poC [] = 3 := (show Hp.poC [] = if ([] : List (Int × Int × Int × Int)).length = 0 then 3 else 0 from if_pos (by rw [← hm]; exact HM.out.1)).trans (if_pos rfl)
            rw [e] at h
            exact h)
          have AM := Lib.hid (show Hp.At wr pm [] by rw [← hm]; exact HM.out.2.1)
          generalize Hp.poL [] = L0 at CP
          generalize Hp.poT [] = T0 at CP
          obtain ⟨t1, t2, t3, t4⟩ := T0
          clear HM hk hm
          go_wp2_with fail
          refine (CP.out _ _ _ AM.out).mono ?_
          rintro e w3 ⟨p3, c3, rfl, _, hA, hb⟩
          have B3 := Lib.hid ((hp_then BW.out hb hz).alloc (hp_then BW.out hb hz).size (.cells #[.int .i64 t1, .int .i64 t2, .int .u8 t3, .int .i64 t4] 31))
          clear hA hb
          go_wp2_with fail
          go_ret
          exact ⟨rfl, B3.out⟩
    · have q1 : (Hp.mkC l == 0) = false := by simpa using hz
      have q2 : (Hp.mkC l != 0) = true := by simpa using hz
      rw [Hp.mk_none hz] at CM
      generalize Hp.mkC l = mc at *
      clear hz hA hn
      generalize l.length = n at *
      have q3 : ¬ (100 : Int) < (n : Int) := by omega
      go_enter Try.func4, Try.ntmps4
      go_wp2_with fail
      refine (CL.out _).mono ?_
      rintro e w1 ⟨rfl, hb⟩
      have A1 := Lib.hid (A0.out.below hb)
      have B1 := Lib.hid hb
      clear hb
      go_wp2_with fail
      refine (CM.out _ A1.out).mono ?_
      rintro e w2 ⟨p2, c2, rfl, hA, hb⟩
      have B2 := Lib.hid (hp_then B1.out hb B1.out.size)
      clear hA hb
      go_wp2_with fail
      go_ret
      exact ⟨rfl, B2.out⟩
  · clear hA hn
    generalize l.length = n at *
    have q3 : (100 : Int) < (n : Int) := by omega
    go_enter Try.func4, Try.ntmps4
    go_wp2_with fail
    refine (CL.out _).mono ?_
    rintro e w1 ⟨rfl, hb⟩
    have B1 := Lib.hid hb
    clear hb
    go_wp2_with fail
    go_ret
    exact ⟨rfl, B1.out⟩
end Go.Proofs.Ytaaodbljdpchhaa
