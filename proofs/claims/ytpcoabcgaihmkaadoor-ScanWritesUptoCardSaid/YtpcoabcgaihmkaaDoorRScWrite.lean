/-
  The walk of the document's own Write of tokens (bellmanref10). Condition: the tokens' texts, and how many they are, are at most 1048576.
-/
import Derived.Test.YtpcoabcgaihmkaaDoorRScCheck
import Derived.Test.YtpcoabcgaihmkaaDoorScanSpacesLaw
namespace Go.Proofs.YtpcoabcgaihmkaaDoor
open Go.RowKit Go.Shelf

namespace Sc
theorem srcT_len2 {t : T} (h : okT t = true) (hs : t.text.size ≤ 1048576) : (srcT t).length ≤ 1048776 := by
  unfold srcT
  by_cases h1 : t.kind = 1
  · rw [if_pos h1, ← Wp.size_len]; omega
  · rw [if_neg h1]
    obtain ⟨_, gj, _, _⟩ := mid_len h h1
    have : (wordT t).length ≤ 136 := by
      unfold wordT
      repeat' split
      all_goals first | omega | (simp [wIf, wEach, wElse, wEnd]; done) | (simp [wIf, wEach, wElse, wEnd]; omega)
    simp only [List.length_append, oo, cc, List.length_cons, List.length_nil]
    omega
theorem full (pre : List UInt8) (wd : ByteArray) (s N : List UInt8) (h : s = oo ++ (wd.data.toList ++ cc)) (hN : N = pre ++ s) : Wp.B pre ++ (((⟨#[123, 123]⟩ : ByteArray) ++ wd) ++ (⟨#[125, 125]⟩ : ByteArray)) = Wp.B N := by
  subst hN h
  rw [show (⟨#[123, 123]⟩ : ByteArray) = Wp.B [123, 123] from rfl, show (⟨#[125, 125]⟩ : ByteArray) = Wp.B [125, 125] from rfl]
  simp only [Wp.B_append, Wp.B_data]
  refine congrArg Wp.B ?_
  simp [oo, cc]
theorem lit_data (a l : List UInt8) : (Wp.B a ++ Wp.B l).data.toList = a ++ l := by rw [Wp.B_append, Wp.B_data, Wp.B_data]
theorem src_kind (t : T) : (t.kind = 2 → srcT t = oo ++ ((Wp.B (joinP t.path)).data.toList ++ cc)) ∧ (t.kind = 3 → srcT t = oo ++ (((⟨#[105, 102, 32]⟩ : ByteArray) ++ Wp.B (joinP t.path)).data.toList ++ cc)) ∧ (t.kind = 5 → srcT t = oo ++ (((⟨#[101, 97, 99, 104, 32]⟩ : ByteArray) ++ Wp.B (joinP t.path)).data.toList ++ cc)) ∧ (t.kind = 4 → srcT t = oo ++ ((⟨#[101, 108, 115, 101]⟩ : ByteArray).data.toList ++ cc)) ∧ (t.kind = 6 → srcT t = oo ++ ((⟨#[101, 110, 100]⟩ : ByteArray).data.toList ++ cc)) := by
  refine ⟨fun h => ?_, fun h => ?_, fun h => ?_, fun h => ?_, fun h => ?_⟩
  · rw [Wp.B_data]; unfold srcT wordT; rw [h]; rfl
  · rw [show (⟨#[105, 102, 32]⟩ : ByteArray) = Wp.B [105, 102, 32] from rfl, lit_data]; unfold srcT wordT; rw [h]; rfl
  · rw [show (⟨#[101, 97, 99, 104, 32]⟩ : ByteArray) = Wp.B [101, 97, 99, 104, 32] from rfl, lit_data]; unfold srcT wordT; rw [h]; rfl
  · unfold srcT wordT; rw [h]; rfl
  · unfold srcT wordT; rw [h]; rfl
end Sc
set_option maxRecDepth 100000 in
set_option maxHeartbeats 4000000 in
theorem refWrite10_any (l : List Sc.T) (p : Option Addr) (c : Nat) (w : World) (hA : Sc.At w p l) (hl : l.length ≤ 1048576) (hts : ∀ t ∈ l, t.text.size ≤ 1048576) :
    Calls Tryd.prog 16 #[.slice p l.length c] w fun e w' => e = .returned (.tuple #[.string (Wp.B (Sc.writeR l).1), .int .i64 (Sc.writeR l).2]) ∧ Below w.heap.size w w' := by
  have HC := Lib.hid (refCheck10_any l p c w hA (by omega))
  cases hok : Sc.okTs l with
  | false =>
    rw [Sc.writeR_bad hok]
    rw [show Sc.chkTs l = 2 by unfold Sc.chkTs; rw [if_neg (by rw [hok]; exact Bool.false_ne_true)]] at HC
    clear hA hts hok
    generalize l.length = n at *
    go_enter Tryd.func16, Tryd.ntmps16
    go_wp2_with fail
    refine HC.out.mono ?_
    rintro e w1 ⟨rfl, hb⟩
    go_wp2_with fail
    go_ret2
    exact ⟨rfl, hb⟩
  | true =>
    rw [show Sc.chkTs l = 0 by unfold Sc.chkTs; rw [if_pos hok]] at HC
    have hall : ∀ t ∈ l, Sc.okT t = true := by
      unfold Sc.okTs at hok
      rw [Bool.and_eq_true, List.all_eq_true] at hok
      exact hok.1
    have HAll := Lib.hid hall
    have HTs := Lib.hid hts
    have HA := Lib.hid hA
    have HSn := Lib.hid (Sc.srcs_snoc l)
    have HTk := Lib.hid (show l.take l.length = l from List.take_length)
    obtain ⟨R, hR⟩ : ∃ R, R = Sc.writeR l := ⟨_, rfl⟩
    have HLong := Lib.hid (fun h => hR.trans (Sc.writeR_long hok h))
    have HOk := Lib.hid (fun h => hR.trans (Sc.writeR_ok hok h))
    rw [← hR]
    obtain ⟨n, hn⟩ : ∃ n, n = l.length := ⟨_, rfl⟩
    rw [← hn] at hl HC HTk ⊢
    have HN := Lib.hid hn
    clear hA hts hok hall hR hn
    go_enter Tryd.func16, Tryd.ntmps16
    go_wp2_with fail
    refine HC.out.mono ?_
    rintro e w1 ⟨rfl, hb⟩
    have HB1 := Lib.hid hb
    clear hb HC
    go_wp2_with fail
    go_loopw [4, 15] (fun t4 t wr => ∃ k : Nat, k ≤ n ∧ t = .int .i64 k ∧ t4 = .string (Wp.B (Sc.srcs (l.take k))) ∧ (Sc.srcs (l.take k)).length ≤ k * 1048776 ∧ Hid (Below w.heap.size w wr)) (fun _ t _ => n - (intOf t).toNat)
    case atStart => exact ⟨0, Nat.zero_le _, rfl, rfl, by simp [Sc.srcs], HB1⟩
    case round =>
      obtain ⟨k, hk, rfl, rfl, hlen, HB⟩ := hrel
      by_cases hlt : k < n
      · have hkl : k < l.length := by rw [← HN.out]; exact hlt
        obtain ⟨b, off, c0, c1, c2, rfl, ⟨e0, e1, e2⟩, y, hy, pn, cn, hsh, ⟨⟨f0, -⟩, f2, f3, f4⟩, hp⟩ := (HA.out.below HB.out) k hkl
        simp only [Value.agg.injEq, Array.mk.injEq, List.cons.injEq, and_true] at hsh
        obtain ⟨rfl, rfl, rfl⟩ := hsh
        have hyk : y = l[k] := (Option.some.inj ((List.getElem?_eq_getElem hkl).symm.trans hy)).symm
        have hym : y ∈ l := by rw [hyk]; exact List.getElem_mem _
        have hoky := HAll.out y hym
        have HBx := Lib.hid ((Below.refl wr.heap.size wr).alloc (Nat.le_refl _) (.cells #[.int .u8 (y.kind : Nat), .string y.text, .slice pn y.path.length cn] 40))
        have HV := Lib.hid (Vl.new wr (.cells #[.int .u8 (y.kind : Nat), .string y.text, .slice pn y.path.length cn] 40))
        have HB2 := Lib.hid (HB.out.trans (HBx.out.mono HB.out.size))
        have HP := Lib.hid (hp.below HBx.out)
        have hsl := Sc.srcT_len2 hoky (HTs.out y hym)
        have hsn : Sc.srcs (l.take (k + 1)) = Sc.srcs (l.take k) ++ Sc.srcT y := by rw [HSn.out k hkl, hyk]
        have hlen2 : (Sc.srcs (l.take (k + 1))).length ≤ (k + 1) * 1048776 := by rw [hsn, List.length_append]; omega
        have hpre : (Wp.B (Sc.srcs (l.take k))).size ≤ 1099746004992 := by rw [Wp.B_size]; omega
        have hk0 : (k : Int) < (n : Int) := by omega
        have Hsn := Lib.hid hsn
        have Hlen2 := Lib.hid hlen2
        obtain ⟨K2, K3, K5, K4, K6⟩ := Sc.src_kind y
        have G1 := Lib.hid (fun (h : y.kind = 1) => (show Wp.B (Sc.srcs (l.take k)) ++ y.text = Wp.B (Sc.srcs (l.take (k + 1))) by
          rw [hsn, Wp.B_append]
          unfold Sc.srcT
          rw [if_pos h]))
        have G2 := Lib.hid (fun (h : y.kind = 2) => Sc.full (Sc.srcs (l.take k)) _ _ _ (K2 h) hsn)
        have G3 := Lib.hid (fun (h : y.kind = 3) => Sc.full (Sc.srcs (l.take k)) _ _ _ (K3 h) hsn)
        have G4 := Lib.hid (fun (h : y.kind = 4) => Sc.full (Sc.srcs (l.take k)) _ _ _ (K4 h) hsn)
        have G5 := Lib.hid (fun (h : y.kind = 5) => Sc.full (Sc.srcs (l.take k)) _ _ _ (K5 h) hsn)
        have G6 := Lib.hid (fun (h : y.kind = 6) => Sc.full (Sc.srcs (l.take k)) _ _ _ (K6 h) hsn)
        have htx := HTs.out y hym
        have HMid := Lib.hid (fun h => Sc.mid_len hoky h)
        have HNm := Lib.hid (fun (h : y.kind ≠ 1) => (show ∀ x ∈ y.path, Vl.nameL x.data.toList = true by
          obtain ⟨-, q | q⟩ := Sc.okT_tag hoky h
          · exact (Sc.pathOk_facts q.2).2.2.1
          · rw [q.2]; simp))
        obtain ⟨v0, v1, v2⟩ := Sc.three_of HV.out
        clear K2 K3 K4 K5 K6 hsn hlen2 hsl hoky hyk hym hy hp f4 f2 hlen HV
        generalize y.path = path at *
        generalize hm : path.length = m at *
        have HM := Lib.hid hm.symm
        clear hm
        generalize y.text = tx at *
        generalize y.kind = kk at *
        obtain ⟨Q, hQ⟩ : ∃ Q, Q = Wp.B (Sc.srcs (l.take (k + 1))) := ⟨_, rfl⟩
        rw [← hQ] at G1 G2 G3 G4 G5 G6
        have HQ := Lib.hid hQ
        clear hQ
        generalize Wp.B (Sc.srcs (l.take k)) = pre at *
        go_upto_region 7 with fail
        clear e0 e1 e2
        generalize (wr.alloc (.cells #[.int .u8 (kk : Nat), .string tx, .slice pn m cn] 40)) = W0 at *
        generalize wr.heap.size = g at *
        clear HBx
        by_cases k1 : kk = 1
        · have g1 := Lib.hid (G1.out k1)
          have q1 : ((kk : Int) == 1) = true := beq_iff_eq.2 (by omega)
          clear G1 G2 G3 G4 G5 G6 HMid HNm
          go_wp2_with fail
          exact ⟨⟨k + 1, by omega, by go_num, by rw [g1.out, HQ.out], Hlen2.out, HB2⟩, by simp [intOf]; omega⟩
        · have q1 : ((kk : Int) == 1) = false := beq_eq_false_iff_ne.2 (by omega)
          obtain ⟨m4, mj, mk6, mk2⟩ := HMid.out k1
          have HJl := Lib.hid (Sc.join_take_len path (HNm.out k1))
          have HJt := Lib.hid (Sc.join_take path)
          have HTkp := Lib.hid (show path.take m = path by rw [HM.out, List.take_length])
          have HNz := Lib.hid (fun (j : Nat) (h : j < path.length) => (show path[j].size ≤ 32 by
            have h2 := HNm.out k1 _ (List.getElem_mem h)
            unfold Vl.nameL at h2
            simp only [Bool.and_eq_true, decide_eq_true_eq] at h2
            rw [Wp.size_len]; exact h2.1.1))
          clear G1 HMid HNm
          go_wp2_with fail
          go_loop [7, 29] (fun t7 t29 => ∃ j : Nat, j ≤ m ∧ t29 = .int .i64 j ∧ t7 = .string (Wp.B (Sc.joinP (path.take j)))) (fun _ t29 => m - (intOf t29).toNat)
          case atStart => exact ⟨0, Nat.zero_le _, rfl, rfl⟩
          case round =>
            obtain ⟨j, hj, rfl, rfl⟩ := hrel
            by_cases hjm : j < m
            · have hjl : j < path.length := by rw [← HM.out]; exact hjm
              have hjk : (Wp.B (Sc.joinP (path.take j))).size ≤ 132 := by
                rw [Wp.B_size]
                have := HJl.out j (by omega)
                omega
              obtain ⟨pb, po, rfl, hcell⟩ := HP.out.get j hjl
              rw [show Wp.mkT path[j] = Value.string path[j] from rfl] at hcell
              have hxs := HNz.out j hjl
              have hjt := HJt.out j hjl
              by_cases h0 : j = 0
              · rw [if_pos h0] at hjt
                have HE := Lib.hid (show Wp.B (Sc.joinP (path.take j)) ++ path[j] = Wp.B (Sc.joinP (path.take (j + 1))) by subst h0; rw [hjt, Wp.B_append]; simp [Sc.joinP])
                generalize path[j] = x at *
                generalize Wp.B (Sc.joinP (path.take j)) = jk at *
                have hk00 : ¬ (0 : Int) < (j : Int) := by omega
                clear hjt h0
                go_wp2_with fail
                exact ⟨⟨j + 1, by omega, by go_num, by rw [HE.out]⟩, by simp [intOf]; omega⟩
              · rw [if_neg h0] at hjt
                have HE := Lib.hid (show (Wp.B (Sc.joinP (path.take j)) ++ (⟨#[46]⟩ : ByteArray)) ++ path[j] = Wp.B (Sc.joinP (path.take (j + 1))) by
                  rw [hjt, show (⟨#[46]⟩ : ByteArray) = Wp.B [46] from rfl, Wp.B_append, Wp.B_data, Wp.B_append, List.append_assoc]; rfl)
                generalize path[j] = x at *
                generalize Wp.B (Sc.joinP (path.take j)) = jk at *
                have hk00 : (0 : Int) < (j : Int) := by omega
                clear hjt h0
                go_wp2_with fail
                exact ⟨⟨j + 1, by omega, by go_num, by rw [HE.out]⟩, by simp [intOf]; omega⟩
            · obtain rfl : j = m := by omega
              rw [HTkp.out]
              have hjs : (Wp.B (Sc.joinP path)).size ≤ 131 := by rw [Wp.B_size]; exact mj
              clear mj HJl HJt HNz
              generalize Wp.B (Sc.joinP path) = jp at *
              rcases (show kk = 2 ∨ kk = 3 ∨ kk = 4 ∨ kk = 5 ∨ kk = 6 by omega) with hK | hK | hK | hK | hK
              · have hG := Lib.hid (G2.out hK)
                have r3 : ((kk : Int) == 3) = false := beq_eq_false_iff_ne.2 (by omega)
                have r5 : ((kk : Int) == 5) = false := beq_eq_false_iff_ne.2 (by omega)
                have r4 : ((kk : Int) == 4) = false := beq_eq_false_iff_ne.2 (by omega)
                have r6 : ((kk : Int) == 6) = false := beq_eq_false_iff_ne.2 (by omega)
                clear G2 G3 G4 G5 G6 k1 q1 mk6 mk2 hK
                go_wp2_with fail
                exact ⟨⟨k + 1, by omega, by go_num, by rw [hG.out, HQ.out], Hlen2.out, HB2⟩, by simp [intOf]; omega⟩
              · have hG := Lib.hid (G3.out hK)
                have r3 : ((kk : Int) == 3) = true := beq_iff_eq.2 (by omega)
                have r5 : ((kk : Int) == 5) = false := beq_eq_false_iff_ne.2 (by omega)
                have r4 : ((kk : Int) == 4) = false := beq_eq_false_iff_ne.2 (by omega)
                have r6 : ((kk : Int) == 6) = false := beq_eq_false_iff_ne.2 (by omega)
                clear G2 G3 G4 G5 G6 k1 q1 mk6 mk2 hK
                go_wp2_with fail
                exact ⟨⟨k + 1, by omega, by go_num, by rw [hG.out, HQ.out], Hlen2.out, HB2⟩, by simp [intOf]; omega⟩
              · have hG := Lib.hid (G4.out hK)
                have r3 : ((kk : Int) == 3) = false := beq_eq_false_iff_ne.2 (by omega)
                have r5 : ((kk : Int) == 5) = false := beq_eq_false_iff_ne.2 (by omega)
                have r4 : ((kk : Int) == 4) = true := beq_iff_eq.2 (by omega)
                have r6 : ((kk : Int) == 6) = false := beq_eq_false_iff_ne.2 (by omega)
                clear G2 G3 G4 G5 G6 k1 q1 mk6 mk2 hK
                go_wp2_with fail
                exact ⟨⟨k + 1, by omega, by go_num, by rw [hG.out, HQ.out], Hlen2.out, HB2⟩, by simp [intOf]; omega⟩
              · have hG := Lib.hid (G5.out hK)
                have r3 : ((kk : Int) == 3) = false := beq_eq_false_iff_ne.2 (by omega)
                have r5 : ((kk : Int) == 5) = true := beq_iff_eq.2 (by omega)
                have r4 : ((kk : Int) == 4) = false := beq_eq_false_iff_ne.2 (by omega)
                have r6 : ((kk : Int) == 6) = false := beq_eq_false_iff_ne.2 (by omega)
                clear G2 G3 G4 G5 G6 k1 q1 mk6 mk2 hK
                go_wp2_with fail
                exact ⟨⟨k + 1, by omega, by go_num, by rw [hG.out, HQ.out], Hlen2.out, HB2⟩, by simp [intOf]; omega⟩
              · have hG := Lib.hid (G6.out hK)
                have r3 : ((kk : Int) == 3) = false := beq_eq_false_iff_ne.2 (by omega)
                have r5 : ((kk : Int) == 5) = false := beq_eq_false_iff_ne.2 (by omega)
                have r4 : ((kk : Int) == 4) = false := beq_eq_false_iff_ne.2 (by omega)
                have r6 : ((kk : Int) == 6) = true := beq_iff_eq.2 (by omega)
                clear G2 G3 G4 G5 G6 k1 q1 mk6 mk2 hK
                go_wp2_with fail
                exact ⟨⟨k + 1, by omega, by go_num, by rw [hG.out, HQ.out], Hlen2.out, HB2⟩, by simp [intOf]; omega⟩
      · obtain rfl : k = n := by omega
        rw [HTk.out] at hlen ⊢
        have hsz : (Wp.B (Sc.srcs l)).size = (Sc.srcs l).length := Wp.B_size _
        by_cases hlong : 1024 < (Sc.srcs l).length
        · obtain rfl := HLong.out hlong
          have h0 : (1024 : Int) < ((Wp.B (Sc.srcs l)).size : Int) := by omega
          generalize Wp.B (Sc.srcs l) = out at *
          clear hsz hlong
          go_wp2_with fail
          go_ret2
          exact ⟨rfl, HB.out⟩
        · obtain rfl := HOk.out hlong
          have h0 : ¬ (1024 : Int) < ((Wp.B (Sc.srcs l)).size : Int) := by omega
          obtain ⟨out, hout⟩ : ∃ o, o = Wp.B (Sc.srcs l) := ⟨_, rfl⟩
          have Hout := Lib.hid hout
          rw [← hout] at h0 ⊢
          clear hsz hlong hout
          go_wp2_with fail
          go_ret2
          have ho := Hout.out
          subst ho
          exact ⟨rfl, HB.out⟩
end Go.Proofs.YtpcoabcgaihmkaaDoor
