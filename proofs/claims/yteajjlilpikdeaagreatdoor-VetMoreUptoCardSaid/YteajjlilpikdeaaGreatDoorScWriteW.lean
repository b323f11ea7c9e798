
/-
  The walk of scan's Write. Conditions: the words' table reads as it is laid, the search's limit is set; the tokens' texts are of a size that the search bears.
-/
import Derived.Test.YteajjlilpikdeaaGreatDoorScChkW
import Derived.Test.YteajjlilpikdeaaGreatDoorScSrcW
import Derived.Test.YteajjlilpikdeaaGreatDoorEsKit
namespace Go.Proofs.YteajjlilpikdeaaGreatDoor
open Go.RowKit Go.Shelf

theorem Sc.srcs_snoc (l : List Sc.T) (k : Nat) (h : k < l.length) : Sc.srcs (l.take (k + 1)) = Sc.srcs (l.take k) ++ Sc.srcT l[k] := by
  unfold Sc.srcs
  rw [List.take_succ_eq_append_getElem h, List.map_append, List.flatten_append]
  simp
theorem Sc.srcs_le (l : List Sc.T) (k : Nat) : (Sc.srcs (l.take k)).length ≤ (Sc.srcs l).length := by
  unfold Sc.srcs
  conv => rhs; rw [← List.take_append_drop k l]
  rw [List.map_append, List.flatten_append, List.length_append]
  omega
theorem Sc.srcT_len {t : Sc.T} (h : Sc.okT t = true) (hs : t.text.size ≤ 4000000000) : (Sc.srcT t).length ≤ 4000000200 := by
  unfold Sc.srcT
  by_cases h1 : t.kind = 1
  · rw [if_pos h1, ← Wp.size_len]; omega
  · rw [if_neg h1]
    obtain ⟨_, gj, _, _⟩ := Sc.mid_len h h1
    have : (Sc.wordT t).length ≤ 136 := by
      unfold Sc.wordT
      repeat' split
      all_goals first | omega | (simp [Sc.wIf, Sc.wEach, Sc.wElse, Sc.wEnd]; done) | (simp [Sc.wIf, Sc.wEach, Sc.wElse, Sc.wEnd]; omega)
    simp only [List.length_append, Sc.oo, Sc.cc, List.length_cons, List.length_nil]
    omega
theorem Sc.writeR_bad {l : List Sc.T} (h : Sc.okTs l = false) : Sc.writeR l = ([], 2) := by unfold Sc.writeR; rw [if_neg (by rw [h]; exact Bool.false_ne_true)]
theorem Sc.writeR_long {l : List Sc.T} (h : Sc.okTs l = true) (hl : 1024 < (Sc.srcs l).length) : Sc.writeR l = ([], 12) := by unfold Sc.writeR; rw [if_pos h, if_pos hl]
theorem Sc.writeR_ok {l : List Sc.T} (h : Sc.okTs l = true) (hl : ¬ 1024 < (Sc.srcs l).length) : Sc.writeR l = (Sc.srcs l, 0) := by unfold Sc.writeR; rw [if_pos h, if_neg hl]
set_option maxRecDepth 100000 in
set_option maxHeartbeats 4000000 in
theorem scWrite_any (l : List Sc.T) (p : Option Addr) (c : Nat) (w : World) (hA : Sc.At w p l) (hl : l.length ≤ 140737488351232) (hts : ∀ t ∈ l, t.text.size ≤ 4000000000) (hT : Sc.Laid w) (hM : Sc.MaxLen w) :
    Calls Tryz.prog 55 #[.slice p l.length c] w fun e w' => e = .returned (.tuple #[.string (Wp.B (Sc.writeR l).1), .int .i64 (Sc.writeR l).2]) ∧ Below w.heap.size w w' := by
  have HC := Lib.hid (scCheck_any l p c w hA hl hts hT hM)
  cases hok : Sc.okTs l with
  | false =>
    rw [Sc.writeR_bad hok]
    rw [show Sc.chkTs l = 2 by unfold Sc.chkTs; rw [if_neg (by rw [hok]; exact Bool.false_ne_true)]] at HC
    clear hA hts hT hM hok
    generalize l.length = n at *
    go_enter Tryz.func55, Tryz.ntmps55
    go_wp2_with fail
    refine HC.out.mono ?_
    rintro e w1 ⟨rfl, hb⟩
    go_wp2_with fail
    go_ret2
    exact ⟨rfl, hb⟩
  | true =>
    rw [show Sc.chkTs l = 0 by unfold Sc.chkTs; rw [if_pos hok]] at HC
    have hall : ∀ t ∈ l, Sc.okT t = true := by
      unfold Sc.okTs at hok
      rw [Bool.and_eq_true, List.all_eq_true] at hok
      exact hok.1
    have HAll := Lib.hid hall
    have HTs := Lib.hid hts
    have HA := Lib.hid hA
    have HT := Lib.hid hT
    have HLe := Lib.hid (Sc.srcs_le l)
    have HSn := Lib.hid (Sc.srcs_snoc l)
    have HTk := Lib.hid (show l.take l.length = l from List.take_length)
    obtain ⟨R, hR⟩ : ∃ R, R = Sc.writeR l := ⟨_, rfl⟩
    have HLong := Lib.hid (fun h => hR.trans (Sc.writeR_long hok h))
    have HOk := Lib.hid (fun h => hR.trans (Sc.writeR_ok hok h))
    rw [← hR]
    obtain ⟨n, hn⟩ : ∃ n, n = l.length := ⟨_, rfl⟩
    rw [← hn] at hl HC HTk ⊢
    have HN := Lib.hid hn
    clear hA hts hT hM hok hall hR hn
    go_enter Tryz.func55, Tryz.ntmps55
    go_wp2_with fail
    refine HC.out.mono ?_
    rintro e w1 ⟨rfl, hb⟩
    have hs1 : w.heap.size ≤ w1.heap.size := hb.size
    have HB1 := Lib.hid (hb.alloc hb.size (.cells #[.pointer none, .slice none 0 0] 111))
    have HNB : Hid (Lib.IsBuilderF 111 5 w.heap.size w1.heap.size (Lib.byteCells []) (w1.alloc (.cells #[.pointer none, .slice none 0 0] 111))) := Lib.hid (Or.inl ⟨hs1, .slice none 0 0, Es.new _ _, World.ownsRowF_nil _ _ _ _, by simp [Value.ownBlock]⟩)
    clear hb HC
    go_wp2_with fail
    go_loopw [15] (fun t wr => ∃ k : Nat, k ≤ n ∧ t = .int .i64 k ∧ (Sc.srcs (l.take k)).length ≤ 1024 ∧ Lib.IsBuilderF 111 5 w.heap.size w1.heap.size (Lib.byteCells (Sc.srcs (l.take k))) wr ∧ Below w.heap.size w wr) (fun t _ => n - (intOf t).toNat)
    case atStart => exact ⟨0, Nat.zero_le _, rfl, by simp [Sc.srcs], HNB.out, HB1.out⟩
    case round =>
      obtain ⟨k, hk, rfl, hlen, hbd, hB⟩ := hrel
      have Hbd := Lib.hid hbd
      have HB := Lib.hid hB
      have hsw : w.heap.size ≤ wr.heap.size := hB.size
      clear hbd hB
      by_cases hlt : k < n
      · have hkl : k < l.length := by rw [← HN.out]; exact hlt
        obtain ⟨b, off, c0, c1, c2, rfl, ⟨e0, e1, e2⟩, y, hy, hTok⟩ := (HA.out.below HB.out) k hkl
        obtain ⟨kk, tt, pn, nn, cn, hsh⟩ := hTok.shape
        simp only [Value.agg.injEq, Array.mk.injEq, List.cons.injEq, and_true] at hsh
        obtain ⟨rfl, rfl, rfl⟩ := hsh
        have hyk : y = l[k] := (Option.some.inj ((List.getElem?_eq_getElem hkl).symm.trans hy)).symm
        have hym : y ∈ l := by rw [hyk]; exact List.getElem_mem _
        have HBx := Lib.hid ((Below.refl wr.heap.size wr).alloc (Nat.le_refl _) (.cells #[.int .u8 kk, .string tt, .slice pn nn cn] 46))
        have HV := Lib.hid (Vl.new wr (.cells #[.int .u8 kk, .string tt, .slice pn nn cn] 46))
        have HB2 := Lib.hid (HB.out.trans (HBx.out.mono HB.out.size))
        have HSrc := Lib.hid (scSource_any y _ (wr.alloc (.cells #[.int .u8 kk, .string tt, .slice pn nn cn] 46)) (hTok.below HBx.out) (HAll.out y hym) (HT.out.below HB2.out))
        have hsl := Sc.srcT_len (HAll.out y hym) (HTs.out y hym)
        have Hsn := Lib.hid (show Sc.srcs (l.take (k + 1)) = Sc.srcs (l.take k) ++ Sc.srcT y by rw [HSn.out k hkl, hyk])
        have HLe1 := Lib.hid (HLe.out (k + 1))
        have Hbd2 := Lib.hid (Es.builder_below Hbd.out HBx.out)
        have hk0 : (k : Int) < (n : Int) := by omega
        clear hyk hym hy hTok Hbd
        obtain ⟨v0, v1, v2⟩ := Sc.three_of HV.out
        generalize Sc.srcT y = sy at *
        generalize Sc.srcs (l.take k) = pre at *
        have hsy : (Wp.B sy).size = sy.length := Wp.B_size sy
        have Hsy := Lib.hid hsy
        clear hsy
        go_wp2_with fail
        refine HSrc.out.mono ?_
        rintro e w2 ⟨rfl, hb2⟩
        have HB3 := Lib.hid (HB2.out.trans (hb2.mono HB2.out.size))
        have hsw2 : w.heap.size ≤ w2.heap.size := HB3.out.size
        have HP := Lib.hid (Es.putString (Wp.B sy) w2 (Es.builder_below Hbd2.out hb2) (by rw [Hsy.out]; omega) hsw2)
        clear hb2 HSrc
        go_wp2_with fail
        refine HP.out.mono ?_
        rintro e w3 ⟨rfl, hp⟩
        have Hp := Lib.hid hp
        have HLn := Lib.hid (Tryz.Builder_Len_f w.heap.size w1.heap.size (Lib.byteCells (pre ++ (Wp.B sy).data.toList)) w3 hp.bld)
        have hll : (Lib.byteCells (pre ++ (Wp.B sy).data.toList)).length = pre.length + sy.length := by rw [Lib.byteCells_length, List.length_append]; rfl
        rw [hll] at HLn
        clear hp hll HP
        go_wp2_with fail
        refine HLn.out.mono ?_
        rintro e w4 ⟨rfl, hw4⟩
        rw [hw4]
        clear hw4 w4 HLn
        by_cases hlong : 1024 < pre.length + sy.length
        · have hr := HLong.out (by have h1 := HLe1.out; rw [Hsn.out, List.length_append] at h1; omega)
          subst hr
          go_wp2_with fail
          go_ret2
          exact ⟨rfl, HB3.out.trans Hp.out.below⟩
        · have hlen2 : (Sc.srcs (l.take (k + 1))).length ≤ 1024 := by rw [Hsn.out, List.length_append]; omega
          have Hlen2 := Lib.hid hlen2
          clear hlen2
          go_wp2_with fail
          exact ⟨⟨k + 1, by omega, by go_num, Hlen2.out, by rw [Hsn.out]; exact Hp.out.bld, HB3.out.trans Hp.out.below⟩, by simp [intOf]; omega⟩
      · obtain rfl : k = n := by omega
        rw [HTk.out] at hlen Hbd
        have hr := HOk.out (by omega)
        subst hr
        have HS := Lib.hid (Tryz.Builder_String_any_k w.heap.size w1.heap.size (Sc.srcs l) wr Hbd.out hsw)
        clear Hbd
        go_wp2_with fail
        refine HS.out.mono ?_
        rintro e w3 ⟨rfl, -, hb3, -⟩
        go_wp2_with fail
        go_ret2
        exact ⟨rfl, HB.out.trans hb3⟩
end Go.Proofs.YteajjlilpikdeaaGreatDoor
