
/-
  The walk of HeapAny: whatever timers are, the law answers true. Condition: a list is of a size that a machine holds.
-/
import Derived.Test.YtaaodbljdpchhaaHeapMakesLaw
namespace Go.Proofs.Ytaaodbljdpchhaa
open Go.RowKit Go.Lib Go.Sort Go.Shelf

theorem Hp.mk_zero {l : List (Int × Int × Int × Int)} (h : Hp.mkC l = 0) : (Hp.sq l).Nodup ∧ l.length ≤ 4096 ∧ Hp.mkL l = Hp.makeF l := by
  unfold Hp.mkC at h
  unfold Hp.mkL
  by_cases ht : Hp.tw l = true
  · rw [if_pos ht] at h; cases h
  · rw [if_neg ht] at h ⊢
    by_cases hl : 4096 < l.length
    · rw [if_pos hl] at h; cases h
    · rw [if_neg hl]
      exact ⟨Hp.tw_false.1 (by simpa using ht), by omega, rfl⟩
theorem Hp.mk_none {l : List (Int × Int × Int × Int)} (h : Hp.mkC l ≠ 0) : Hp.mkL l = [] := by
  unfold Hp.mkC at h
  unfold Hp.mkL
  by_cases ht : Hp.tw l = true
  · rw [if_pos ht]
  · rw [if_neg ht] at h ⊢
    by_cases hl : 4096 < l.length
    · rw [if_pos hl]
    · rw [if_neg hl] at h; exact absurd rfl h
/-- One timer more is pushed onto those ahead of it. -/
theorem Hp.push_next {l m : List (Int × Int × Int × Int)} (hn : (Hp.sq l).Nodup) (hl : l.length ≤ 60) {k : Nat} (hk : k < l.length) (hok : Hp.Ok m) (hp : m.Perm (l.take k)) :
    Hp.puC m l[k].2.1 = 0 ∧ Hp.puL m l[k] = Hp.pushF m l[k] ∧ Hp.Ok (Hp.pushF m l[k]) ∧ (Hp.pushF m l[k]).Perm (l.take (k + 1)) := by
  have hlen : m.length = k := by rw [hp.length_eq, List.length_take]; omega
  have hni : l[k].2.1 ∉ Hp.sq m := fun h => by
    have h2 : l[k].2.1 ∈ Hp.sq (l.take k) := (Hp.sq_perm hp).mem_iff.1 h
    obtain ⟨x, hx, hxe⟩ := List.mem_map.1 h2
    obtain ⟨j, hj, rfl⟩ := List.mem_iff_getElem.1 hx
    rw [List.length_take] at hj
    rw [List.getElem_take] at hxe
    exact List.pairwise_iff_getElem.1 (List.pairwise_map.1 hn) j k (by omega) hk (by omega) hxe
  have hpl := Hp.plc_neg.2 hni
  have hc : Hp.puC m l[k].2.1 = 0 := (show Hp.puC m l[k].2.1 = if 0 ≤ Hp.plc m l[k].2.1 then 4 else if m.length = 4096 then 8 else 0 from if_pos hok).trans ((if_neg (by omega)).trans (if_neg (by omega)))
  refine ⟨hc, if_pos hc, Hp.ok_push hok (by omega) hni, (Hp.pushF_perm m l[k]).trans ?_⟩
  rw [List.take_succ_eq_append_getElem hk]
  exact (hp.cons _).trans (List.perm_append_comm (l₁ := [l[k]]))
set_option maxHeartbeats 4000000 in
set_option maxRecDepth 100000 in
theorem heapAny_law (l : List (Int × Int × Int × Int)) (p : Option Addr) (c : Nat) (w : World) (hA : Hp.At w p l) (hn : l.length ≤ 140737488351232) :
    Calls Try.prog 6 #[.slice p l.length c] w fun e w' => e = .returned (.bool true) ∧ Below w.heap.size w w' := by
  have CL := Lib.hid hp_lives
  have A0 := Lib.hid hA
  by_cases hl : l.length ≤ 60
  · have CM := Lib.hid (fun W (hA : Hp.At W p l) => hp_Make l p c W hA (by omega))
    by_cases hz : Hp.mkC l = 0
    · obtain ⟨hnd, hlen, hmk⟩ := Hp.mk_zero hz
      rw [hz, hmk] at CM
      have hok := Hp.ok_make hnd hlen
      have CS := Lib.hid (fun W p2 c2 (hA : Hp.At W p2 (Hp.makeF l)) => (hp_Sorted _ p2 c2 W hA (by have := hok.1; omega)).mono fun _ _ h => h.got)
      rw [Hp.chk_ok hok, show Hp.soL (Hp.makeF l) = Hp.srt (Hp.makeF l) from if_pos hok, Hp.srt_eq (Hp.makeF_perm l) hnd] at CS
      have CE := Lib.hid (fun W a b n m hA hB => hp_Same_self (Hp.srt l) a b n m W hA hB (by rw [Hp.srt_len]; omega))
      have CP := Lib.hid (fun m k (hk : k < l.length) (hok : Hp.Ok m) (hp : m.Perm (l.take k)) p2 c2 W (hA : Hp.At W p2 m) => by
        have h := hp_Push m l[k] p2 c2 W hA (by have := hok.1; omega)
        rw [(Hp.push_next hnd hl hk hok hp).1, (Hp.push_next hnd hl hk hok hp).2.1] at h
        exact h)
      have HP := Lib.hid (fun m k (hk : k < l.length) (hok : Hp.Ok m) (hp : m.Perm (l.take k)) => (Hp.push_next hnd hl hk hok hp).2.2)
      have CS2 := Lib.hid (fun m (hok : Hp.Ok m) (hp : m.Perm l) p2 c2 W (hA : Hp.At W p2 m) => by
        have h := (hp_Sorted m p2 c2 W hA (by have := hok.1; omega)).mono fun _ _ h => h.got
        rw [Hp.chk_ok hok, show Hp.soL m = Hp.srt m from if_pos hok, Hp.srt_eq hp hnd] at h
        exact h)
      have HSl := Lib.hid (Hp.srt_len l)
      generalize Hp.makeF l = M at *
      generalize Hp.srt l = S at *
      clear hz hnd hlen hmk hok hA
      obtain ⟨n, hnl⟩ : ∃ n, n = l.length := ⟨_, rfl⟩
      have Hn := Lib.hid hnl
      rw [← hnl] at CM hl
      rw [← hnl]
      clear hnl hn
      have q1 : ¬ (60 : Int) < (n : Int) := by omega
      go_enter Try.func6, Try.ntmps6
      go_wp2_with fail
      refine (CL.out _).mono ?_
      rintro e w1 ⟨rfl, hb⟩
      have A1 := Lib.hid (A0.out.below hb)
      have B1 := Lib.hid hb
      clear hb
      go_wp2_with fail
      refine (CM.out _ A1.out).mono ?_
      rintro e w2 ⟨p2, c2, rfl, hA, hb⟩
      have M2 := Lib.hid hA
      have A2 := Lib.hid (A1.out.below hb)
      have B2 := Lib.hid (hp_then B1.out hb B1.out.size)
      clear hA hb
      go_wp2_with fail
      go_loopw [5, 28] (fun v i wr => ∃ (k : Nat) (m : List (Int × Int × Int × Int)) (pm : Option Addr) (cm : Nat), k ≤ n ∧ i = .int .i64 k ∧ v = .slice pm k cm ∧ Hid (Hp.Ok m ∧ m.Perm (l.take k) ∧ Hp.At wr pm m ∧ m.length = k) ∧ Below w2.heap.size w2 wr) (fun _ i _ => n - (RowKit.intOf i).toNat)
      case atStart => exact ⟨0, [], none, 0, Nat.zero_le _, rfl, rfl, Lib.hid ⟨⟨by simp, List.nodup_nil, fun j hj => by simp at hj⟩, by simp, Hp.At.nil _ _, rfl⟩, Below.refl _ _⟩
      case round =>
        obtain ⟨k, m, pm, cm, hk, rfl, rfl, HM, hBw⟩ := hrel
        have BW := Lib.hid hBw
        have hz := hBw.size
        clear hBw
        by_cases hlt : k < n
        · have hkl : k < l.length := by rw [← Hn.out]; exact hlt
          have hltz : (k : Int) < (n : Int) := by omega
          have hk0 : (0 : Int) ≤ (k : Int) := by omega
          obtain ⟨b1, o1, rfl, e1, e2, e3, e4⟩ := (A2.out.below BW.out).get k hkl
          have CPk := Lib.hid (fun p2 c2 W hA => CP.out m k hkl HM.out.1 HM.out.2.1 p2 c2 W hA)
          rw [HM.out.2.2.2] at CPk
          have HPk := Lib.hid (HP.out m k hkl HM.out.1 HM.out.2.1)
          generalize l[k] = x at e1 e2 e3 e4 CPk HPk
          generalize Hp.pushF m x = m2 at CPk HPk
          obtain ⟨x1, x2, x3, x4⟩ := x
          simp only [] at e1 e2 e3 e4 CPk
          have hl2 := HPk.out.2.length_eq
          rw [List.length_take, ← Hn.out] at hl2
          have hl3 : m2.length = k + 1 := by omega
          have HL3 := Lib.hid hl3
          clear hl2 hl3 hkl
          have hbx := hp_box wr (.cells #[.int .i64 x1, .int .i64 x2, .int .u8 x3, .int .i64 x4] 31)
          have AX := Lib.hid (HM.out.2.2.1.below hbx)
          have BX := Lib.hid (BW.out.trans (hbx.mono hz))
          clear hbx
          go_wp2_with fail
          refine (CPk.out _ _ _ AX.out).mono ?_
          rintro e w3 ⟨p3, c3, rfl, hA, hb⟩
          have M3 := Lib.hid hA
          have B3 := Lib.hid (hp_then BX.out hb BX.out.size)
          clear hA hb e1 e2 e3 e4
          rw [HL3.out]
          go_wp2_with fail
          exact ⟨⟨k + 1, m2, p3, c3, by omega, by go_num, rfl, Lib.hid ⟨HPk.out.1, HPk.out.2, M3.out, HL3.out⟩, B3.out⟩, by simp [RowKit.intOf]; omega⟩
        · obtain rfl : k = n := by omega
          have hpm : m.Perm l := by have := HM.out.2.1; rwa [Hn.out, List.take_length] at this
          have CS3 := Lib.hid (fun p2 c2 W hA => CS2.out m HM.out.1 hpm p2 c2 W hA)
          rw [HM.out.2.2.2] at CS3
          have M3 := Lib.hid (M2.out.below BW.out)
          have HS2 := Lib.hid (HSl.out.trans Hn.out.symm)
          rw [HS2.out] at CE
          have B3 := Lib.hid (B2.out.trans (BW.out.mono B2.out.size))
          have N3 := Lib.hid HM.out.2.2.1
          clear hpm HM
          go_wp2_with fail
          refine (CS.out _ _ _ M3.out).mono ?_
          rintro e w4 ⟨p4, c4, rfl, hA, hb⟩
          have S4 := Lib.hid hA
          have N4 := Lib.hid (N3.out.below hb)
          have B4 := Lib.hid (hp_then B3.out hb B3.out.size)
          clear hA hb
          rw [HS2.out]
          go_wp2_with fail
          refine (CS3.out _ _ _ N4.out).mono ?_
          rintro e w5 ⟨p5, c5, rfl, hA, hb⟩
          have T5 := Lib.hid hA
          have S5 := Lib.hid (S4.out.below hb)
          have B5 := Lib.hid (hp_then B4.out hb B4.out.size)
          clear hA hb
          rw [HS2.out]
          go_wp2_with fail
          refine (CE.out _ _ _ _ _ S5.out T5.out).mono ?_
          rintro e w6 ⟨rfl, hb⟩
          have B6 := Lib.hid (hp_then B5.out hb B5.out.size)
          clear hb
          go_wp2_with fail
          go_ret
          exact ⟨rfl, B6.out⟩
    · have q1 : (Hp.mkC l == 0) = false := by simpa using hz
      have q2 : (Hp.mkC l != 0) = true := by simpa using hz
      generalize Hp.mkC l = mc at *
      clear hz hA hn
      generalize l.length = n at *
      have q3 : ¬ (60 : Int) < (n : Int) := by omega
      go_enter Try.func6, Try.ntmps6
      go_wp2_with fail
      refine (CL.out _).mono ?_
      rintro e w1 ⟨rfl, hb⟩
      have A1 := Lib.hid (A0.out.below hb)
      have B1 := Lib.hid hb
      clear hb
      go_wp2_with fail
      refine (CM.out _ A1.out).mono ?_
      rintro e w2 ⟨p2, c2, rfl, hA, hb⟩
      have B2 := Lib.hid (hp_then B1.out hb B1.out.size)
      clear hA hb
      go_wp2_with fail
      go_ret
      exact ⟨rfl, B2.out⟩
  · clear hA hn
    generalize l.length = n at *
    have q3 : (60 : Int) < (n : Int) := by omega
    go_enter Try.func6, Try.ntmps6
    go_wp2_with fail
    refine (CL.out _).mono ?_
    rintro e w1 ⟨rfl, hb⟩
    have B1 := Lib.hid hb
    clear hb
    go_wp2_with fail
    go_ret
    exact ⟨rfl, B1.out⟩
end Go.Proofs.Ytaaodbljdpchhaa
