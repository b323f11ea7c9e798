
/-
  The walks of value's reader: its items, and a value. Condition: what is there is of a size that a machine holds.
-/
import Derived.Test.YtckcbdnlligndaaDoorVlSt
namespace Go.Proofs.YtckcbdnlligndaaDoor
open Go.RowKit

set_option maxRecDepth 100000 in
set_option maxHeartbeats 8000000 in
theorem items_any (F g gv k : Nat) (hk : k = 4 ∨ k = 5) (ih : Vl.VCall (F + 1) g) (l : List UInt8) (r : Int) (w : World) (hb : Vl.RBox w g l false r) (hv : w.heap[gv]? = some (.cells #[.int .u8 (k : Nat), .string ⟨#[]⟩, .int .i64 0, .slice none 0 0, .slice none 0 0] 26 (0, 0))) (hgv : g ≠ gv)
    (h0 : 0 ≤ r) (hF : r + 1 ≤ (F + 1 : Nat)) (hr : r ≤ 256) (hl : l.length ≤ 200000000000000) :
    Calls Tryd.prog 73 #[.pointer (some ⟨g, 0, none⟩), .pointer (some ⟨gv, 0, none⟩)] w (Vl.IPost (F + 1) g gv k (Vl.itemsP (Vl.pv (F + 1)) k ⟨l, false, r⟩) w) := by
  have hnum := Lib.hid (vlNum_any g l false r w hb hl)
  obtain ⟨nl1, nl2, _⟩ := Vl.numP_len l false
  have hit : Vl.itemsP (Vl.pv (F + 1)) k ⟨l, false, r⟩ = Vl.loopP (Vl.pv (F + 1)) k (Vl.numP l false).1.toNat [] [] ⟨(Vl.numP l false).2.1, (Vl.numP l false).2.2 || decide ((Vl.numP l false).1 < 0), r⟩ := rfl
  generalize Vl.itemsP (Vl.pv (F + 1)) k ⟨l, false, r⟩ = T at *
  generalize Vl.numP l false = NP at *
  obtain ⟨z, l1, b1⟩ := NP
  simp only [] at *
  obtain ⟨nz1, nz2⟩ := nl2
  have Hit := Lib.hid hit
  clear hit
  have Hv := Lib.hid hv
  have Hb := Lib.hid hb
  have hgl := (Array.getElem?_eq_some_iff.1 hb).1
  have hgvl := (Array.getElem?_eq_some_iff.1 hv).1
  have HI := Lib.hid ih
  have hkB : ((k : Nat) : Int) = 4 ∨ ((k : Nat) : Int) = 5 := by omega
  clear hv hb ih
  go_enter Tryd.func73, Tryd.ntmps73
  go_wp2_with fail
  refine hnum.out.mono ?_
  rintro e w1 ⟨rfl, hr1, hg1⟩
  have hv1 := (hg1.block gv hgvl (fun e => by cases e; exact hgv rfl)).trans Hv.out
  have HR1 := Lib.hid hr1
  have HG1 := Lib.hid hg1
  have HV1 := Lib.hid hv1
  have hs1 := hg1.size
  obtain ⟨c0, c1, c2, f0, f1, f2⟩ := Vl.three_of hr1
  clear hr1 hg1 hv1 hnum
  by_cases hz : z < 0
  · have hT := Hit.out
    rw [decide_eq_true hz, Bool.or_true, Int.toNat_of_nonpos (by omega), Vl.loopP_stop _ _ _ _ _ _ (Or.inl rfl)] at hT
    subst hT
    go_wp2_with fail
    go_loopw [4] (fun mm wr => mm = .int .i64 z ∧ Hid (wr = w1.setCell ⟨g, 1, none⟩ (.bool true))) (fun _ _ => 0)
    case atStart => exact ⟨rfl, Lib.hid rfl⟩
    case round =>
      obtain ⟨rfl, hwr⟩ := hrel
      have hz0 : ¬ (0 : Int) < z := by omega
      go_wp2_with fail
      refine bodyPost_end (Vl.r0 rfl _ _ _) rfl ?_
      have hwr := hwr.out
      subst hwr
      have hg := Vl.set1_grown w1 g 1 (.bool true)
      exact ⟨rfl, _, _, Lib.heap_setCell_same (i := 1) HR1.out (.bool true), (hg.block gv (by omega) (fun e => by cases e; exact hgv rfl)).trans HV1.out, Vl.Rows2.nil _ _ _, ((Vl.Keep2.refl w g gv).step HG1.out (fun x e => by cases e; exact Or.inl rfl)).step hg (fun x e => by cases e; exact Or.inl rfl), Nat.zero_le _, Nat.zero_le _, fun s h => by cases h⟩
  · obtain ⟨N, hN⟩ := Int.eq_ofNat_of_zero_le (show 0 ≤ z by omega)
    have hbd : (b1 || decide (z < 0)) = b1 := by rw [decide_eq_false hz, Bool.or_false]
    subst hN
    have hT := Hit.out
    rw [hbd, Int.toNat_natCast] at hT
    have HT := Lib.hid hT
    clear hT hbd Hit
    go_wp2_with fail
    go_loopw [4] (fun mm wr => ∃ (m : Nat) (is : List Vl.V) (ns : List ByteArray) (st : Vl.St) (vi vn : Value), m ≤ N ∧ mm = .int .i64 m ∧ Hid (Vl.IRel (F + 1) g gv k w wr N m ⟨l1, b1, r⟩ r is ns st vi vn)) (fun mm _ => (intOf mm).toNat)
    case atStart => exact ⟨N, [], [], ⟨l1, b1, r⟩, _, _, Nat.le_refl _, rfl, Lib.hid ⟨HR1.out, HV1.out, Vl.Rows2.nil _ _ _, rfl, (Vl.Keep2.refl w g gv).step HG1.out (fun x e => by cases e; exact Or.inl rfl), by simp, Nat.le_refl _, fun _ => h0, by show -1 ≤ r; omega, hF, by show l1.length ≤ _; omega, fun s h => by cases h⟩⟩
    case round =>
      obtain ⟨m, is, ns, ⟨sl, sb, sr⟩, vi, vn, hmN, rfl, HI2⟩ := hrel
      obtain ⟨d0, d1, d2, e0, e1, e2⟩ := Vl.three_of HI2.out.rb
      by_cases hm : m = 0
      · subst hm
        have hfin := Lib.hid (HI2.out.fin hr (Or.inl rfl))
        rw [← HT.out] at hfin
        go_wp2_with fail
        exact bodyPost_end (Vl.r0 rfl _ _ _) rfl hfin.out
      · obtain ⟨m', rfl⟩ := Nat.exists_eq_succ_of_ne_zero hm
        cases sb with
        | true =>
          have hfin := Lib.hid (HI2.out.fin hr (Or.inr rfl))
          rw [← HT.out] at hfin
          have hm0 : (0 : Int) < ((m' + 1 : Nat) : Int) := by omega
          go_wp2_with fail
          exact bodyPost_end (Vl.r0 rfl _ _ _) rfl hfin.out
        | false =>
          have hm0 : (0 : Int) < ((m' + 1 : Nat) : Int) := by omega
          obtain ⟨q0, q1, q2, q3, q4⟩ := Vl.five_of HI2.out.vb
          obtain ⟨i0, hi, hz0, hz1, hz2⟩ := Vl.infoVal
          rcases hk with rfl | rfl
          · have hS0 : Vl.RState F g gv 4 w wr sl false sr vi vn is ns := ⟨HI2.out.rb, ⟨vi, HI2.out.vb⟩, HI2.out.rows, HI2.out.keep, hgl, hgvl, hgv⟩
            obtain ⟨pvi, cvi, pvn, cvn, rfl, rfl, _⟩ := HI2.out.rows.off
            obtain ⟨cs, hO, _⟩ := HI2.out.rows.items
            have hbd : (is.length : Int) + sr ≤ r := HI2.out.cnt
            have hsr0 : 0 ≤ sr := HI2.out.good rfl
            have hnl : is.length ≤ 256 := by omega
            have HS0 := Lib.hid hS0
            have HO := Lib.hid hO
            have HC0 := Lib.hid (Vl.callAt HI.out hS0.drew hsr0 HI2.out.fuel (by omega) HI2.out.len)
            have HCB := Lib.hid (Vl.callAt HI.out (hS0.alloc (.cells #[.int .u8 0, .string ⟨#[]⟩, .int .i64 0, .slice none 0 0, .slice none 0 0] 26)).drew hsr0 HI2.out.fuel (by omega) HI2.out.len)
            have hwrs : w.heap.size ≤ wr.heap.size := HI2.out.keep.size
            have hgvne : some gv ≠ some g := fun e => hgv (Option.some.inj e).symm
            have hgvr : gv < wr.heap.size := Nat.lt_of_lt_of_le hgvl hwrs
            have hix1 : (is.length : Int) < (is.length : Int) + 1 := by omega
            clear hS0 hO
            go_wp2_with fail
            go_region_law (first
              | (refine step_append_lies _ (by rfl) _ _ _ (by rfl) w.heap.size 26 i0 _ 5 80 Tryd.underlying23 hi hz0 hz1 hz2 rfl (by omega) (.slice pvi is.length cvi) is.length cs4 (by rfl) (hO4) ⟨wr.heap.size, 0, none⟩ 1 1 [.int .u8 0, .string ⟨#[]⟩, .int .i64 0, .slice none 0 0, .slice none 0 0] (by rfl) (by rfl) (World.news_of_block (cs := #[.int .u8 0, .string ⟨#[]⟩, .int .i64 0, .slice none 0 0, .slice none 0 0]) (t := 26) (fr := (0, 0)) zb) (by simp [Value.oneCell']) (by omega) (by unfold maxLen; omega) (by omega) (by have := S4.keep.size; simp; omega) (w4.heap.size) (by simp) ?_; intro g2 cap w5 hown5 hgrow5 hat5 hlt5; have hat : (Value.slice (some ⟨g2, 0, none⟩) (is.length + 1) cap).ownBlock = (Value.slice pvi is.length cvi).ownBlock ∨ (Value.slice (some ⟨g2, 0, none⟩) (is.length + 1) cap).ownBlock = some (w4.heap.size) := (hat5.elim (fun h => Or.inl h.symm) (fun h => Or.inr (by rw [h]; rfl))); have S5 := (S4).app hO4 hown5 hgrow5 hat; have U5 := (U4).app (p := (Value.slice pvi is.length cvi).ownBlock) (p' := (Value.slice (some ⟨g2, 0, none⟩) (is.length + 1) cap).ownBlock) hgrow5 hat; obtain ⟨z0, z1, z2, z3, z4, ⟨y0, y1, y2, y3, y4⟩, x0, x1, x2, x3, x4⟩ := Vl.slots hown5; obtain ⟨⟨vi0, v3⟩, w3⟩ := S5.box3; have PU := Vl.Rows2.put (S5.rows) U5; have hgg := hown5.lt g2 rfl; have hgne : some gv ≠ some g2 := (fun e => by have := Option.some.inj e; omega); have v3b := PU.2.cell v3 hgne; have w3b := (World.frozen?_of_block (a := ⟨gv, 3, none⟩) (PU.2.block gv (Nat.lt_of_lt_of_le hgvl S5.keep.size) hgne)).trans w3)
              | (refine step_append_lies _ (by rfl) _ _ _ (by rfl) w.heap.size 26 i0 _ 5 80 Tryd.underlying23 hi hz0 hz1 hz2 rfl (by omega) (.slice pvi is.length cvi) is.length cs4 (by rfl) (hO4.alloc _) ⟨w4.heap.size, 0, none⟩ 1 1 [.int .u8 0, .string ⟨#[]⟩, .int .i64 0, .slice none 0 0, .slice none 0 0] (by rfl) (by rfl) (World.news_of_block (cs := #[.int .u8 0, .string ⟨#[]⟩, .int .i64 0, .slice none 0 0, .slice none 0 0]) (t := 26) (fr := (0, 0)) (Vl.new w4 _)) (by simp [Value.oneCell']) (by omega) (by unfold maxLen; omega) (by omega) (by have := S4.keep.size; simp; omega) (w4.heap.size + 1) (by simp) ?_; intro g2 cap w5 hown5 hgrow5 hat5 hlt5; have hat : (Value.slice (some ⟨g2, 0, none⟩) (is.length + 1) cap).ownBlock = (Value.slice pvi is.length cvi).ownBlock ∨ (Value.slice (some ⟨g2, 0, none⟩) (is.length + 1) cap).ownBlock = some (w4.alloc (.cells #[.int .u8 0, .string ⟨#[]⟩, .int .i64 0, .slice none 0 0, .slice none 0 0] 26)).heap.size := (hat5.elim (fun h => Or.inl h.symm) (fun h => Or.inr (by rw [h, World.size_alloc]; rfl))); have S5 := (S4.alloc (.cells #[.int .u8 0, .string ⟨#[]⟩, .int .i64 0, .slice none 0 0, .slice none 0 0] 26)).app (hO4.alloc _) hown5 hgrow5 hat; have U5 := (U4.below ((Below.refl w4.heap.size w4).alloc (Nat.le_refl _) (.cells #[.int .u8 0, .string ⟨#[]⟩, .int .i64 0, .slice none 0 0, .slice none 0 0] 26))).app (p := (Value.slice pvi is.length cvi).ownBlock) (p' := (Value.slice (some ⟨g2, 0, none⟩) (is.length + 1) cap).ownBlock) hgrow5 hat; obtain ⟨z0, z1, z2, z3, z4, ⟨y0, y1, y2, y3, y4⟩, x0, x1, x2, x3, x4⟩ := Vl.slots hown5; obtain ⟨⟨vi0, v3⟩, w3⟩ := S5.box3; have PU := Vl.Rows2.put (S5.rows) U5; have hgg := hown5.lt g2 rfl; have hgne : some gv ≠ some g2 := (fun e => by have := Option.some.inj e; omega); have v3b := PU.2.cell v3 hgne; have w3b := (World.frozen?_of_block (a := ⟨gv, 3, none⟩) (PU.2.block gv (Nat.lt_of_lt_of_le hgvl S5.keep.size) hgne)).trans w3)
              | (go_simp; (with_reducible refine (HC0.out).mono ?_); rintro e w4 ⟨k2, t2, i2, pi2, ni2, ci2, pn2, nn2, cn2, rfl, S4, U4, hg4⟩; obtain ⟨cs4, hO4, _⟩ := S4.rows.items; have hgv4 : gv < w4.heap.size := Nat.lt_of_lt_of_le hgvl S4.keep.size; have q3b := hg4.cell (a := ⟨gv, 3, none⟩) (v := .slice pvi is.length cvi) q3 hgvne)
              | (go_simp; (with_reducible refine (HCB.out).mono ?_); rintro e w4 ⟨k2, t2, i2, pi2, ni2, ci2, pn2, nn2, cn2, rfl, S4, U4, hg4⟩; obtain ⟨cs4, hO4, _⟩ := S4.rows.items; have hgv4 : gv < w4.heap.size := Nat.lt_of_lt_of_le hgvl S4.keep.size; have q3b := hg4.cell (a := ⟨gv, 3, none⟩) (v := .slice pvi is.length cvi) (Lib.cell?_alloc_some _ q3) hgvne; have zb := (hg4.block wr.heap.size (by simp) (by intro e; cases e; omega)).trans (Vl.new wr (.cells #[.int .u8 0, .string ⟨#[]⟩, .int .i64 0, .slice none 0 0, .slice none 0 0] 26))))
            all_goals
              have hnl2 : ns.length ≤ is.length := HI2.out.nl
              have EA := S5.endA hgg.1 U5 _ rfl
              have EB := S5.endB hgg.1 U5 _ rfl
              have IA := Lib.hid (HI2.out.turn (Vl.loopP_items _ _ _ _ _ _) (Nat.le_refl _) (by omega) HI2.out.small EA.2.rb EA.1 EA.2.rows EA.2.keep)
              have IB := Lib.hid (HI2.out.turn (Vl.loopP_items _ _ _ _ _ _) (Nat.le_refl _) (by omega) HI2.out.small EB.2.rb EB.1 EB.2.rows EB.2.keep)
              clear EA EB
              go_wp2_with fail
              refine ⟨⟨m', ?_, ?_, ?_, ?_, ?_, by omega, by go_num, ?_⟩, ?_⟩
              rotate_left 5
              first | with_reducible exact IA | with_reducible exact IB
              simp [intOf]
          · have hS0 : Vl.RState F g gv 5 w wr sl false sr vi vn is ns := ⟨HI2.out.rb, ⟨vi, HI2.out.vb⟩, HI2.out.rows, HI2.out.keep, hgl, hgvl, hgv⟩
            obtain ⟨pvi, cvi, pvn, cvn, rfl, rfl, _⟩ := HI2.out.rows.off
            obtain ⟨cs, hO, _⟩ := HI2.out.rows.items
            have hbd : (is.length : Int) + sr ≤ r := HI2.out.cnt
            have hsr0 : 0 ≤ sr := HI2.out.good rfl
            have hnl : is.length ≤ 256 := by omega
            have hnl2 : ns.length ≤ is.length := HI2.out.nl
            have HS0 := Lib.hid hS0
            have HO := Lib.hid hO
            have htl := (Vl.textP_len sl false).1
            have hsll : sl.length ≤ 200000000000000 := HI2.out.len
            have ht5 := (Vl.textP_len sl false).2.1
            have hcall := vlText_any g sl false sr wr.drew HI2.out.rb HI2.out.len
            generalize hTP : Vl.textP sl false = TP at *
            obtain ⟨t5, tl, tb⟩ := TP
            have HTP := Lib.hid hTP
            have HC0 := Lib.hid hcall
            obtain ⟨j0, hj, hy0, hy1, hy2⟩ := Vl.infoText
            have hwrs : w.heap.size ≤ wr.heap.size := HI2.out.keep.size
            have hgvne : some gv ≠ some g := fun e => hgv (Option.some.inj e).symm
            have hgvr : gv < wr.heap.size := Nat.lt_of_lt_of_le hgvl hwrs
            have hix1 : (is.length : Int) < (is.length : Int) + 1 := by omega
            clear hS0 hO hcall hTP
            go_wp2_with fail
            rename_i Q0 K1 hK1 K2 hK2
            have hK : ∀ (x41 x42 : Value) (w6 : World) (pvn6 : Option Addr) (cvn6 : Nat), Vl.RState F g gv 5 w w6 tl tb sr (.slice pvi is.length cvi) (.slice pvn6 (ns.length + 1) cvn6) is (ns ++ [Wp.B t5]) →
                w6.heap[gv]? = some (.cells #[.int .u8 (5 : Nat), .string ⟨#[]⟩, .int .i64 0, .slice pvi is.length cvi, .slice pvn6 (ns.length + 1) cvn6] 26 (0, 0)) →
                Exit.then K2 (Exit.inBlock 1 (Exit.then K1 Q0)) .normal ⟨List.toArray (.pointer (some ⟨g, 0, none⟩) :: .pointer (some ⟨gv, 0, none⟩) :: undef :: undef :: .int .i64 ((m' : Int) + 1) :: .pointer (some ⟨g, 0, none⟩) :: .pointer (some ⟨g, 0, none⟩) :: .pointer (some ⟨g, 0, none⟩) :: .int .i64 (N : Int) :: .int .i64 (N : Int) :: .bool (decide ((N : Int) < 0)) :: undef :: undef :: undef :: undef :: .int .i64 ((m' : Int) + 1) :: .bool true :: .bool true :: .pointer (some ⟨g, 0, none⟩) :: .pointer (some ⟨g, 0, none⟩) :: .pointer (some ⟨g, 0, none⟩) :: .pointer (some ⟨g, 1, none⟩) :: .bool false :: .bool true :: .bool true :: u25 :: u26 :: .pointer (some ⟨gv, 0, none⟩) :: .pointer (some ⟨gv, 0, none⟩) :: .pointer (some ⟨gv, 0, none⟩) :: .int .u8 5 :: .bool true :: .pointer (some ⟨gv, 0, none⟩) :: .pointer (some ⟨gv, 0, none⟩) :: .pointer (some ⟨gv, 0, none⟩) :: .pointer (some ⟨gv, 4, none⟩) :: .slice pvn ns.length cvn :: .pointer (some ⟨g, 0, none⟩) :: .pointer (some ⟨g, 0, none⟩) :: .pointer (some ⟨g, 0, none⟩) :: .string (Wp.B t5) :: x41 :: x42 :: .pointer (some ⟨gv, 0, none⟩) :: .pointer (some ⟨gv, 4, none⟩) :: u45 :: u46 :: u47 :: u48 :: u49 :: u50 :: u51 :: u52 :: u53 :: u54 :: u55 :: u56 :: []), []⟩ w6 := by
              intro x41 x42 w6 pvn6 cvn6 S6 V6
              obtain ⟨q0, q1, q2, q3, q4⟩ := Vl.five_of V6
              have HS6 := Lib.hid S6
              have he6 : Vl.loopP (Vl.pv (F + 1)) 5 (m' + 1) ns is ⟨sl, false, sr⟩ = _ := Vl.loopP_named (Vl.pv (F + 1)) m' ns is sl sr
              rw [HTP.out] at he6
              have HC0 := Lib.hid (Vl.callAt HI.out S6.drew hsr0 HI2.out.fuel (by omega) (by omega))
              have HCB := Lib.hid (Vl.callAt HI.out (S6.alloc (.cells #[.int .u8 0, .string ⟨#[]⟩, .int .i64 0, .slice none 0 0, .slice none 0 0] 26)).drew hsr0 HI2.out.fuel (by omega) (by omega))
              have hw6s : w.heap.size ≤ w6.heap.size := S6.keep.size
              have hgvr6 : gv < w6.heap.size := Nat.lt_of_lt_of_le hgvl hw6s
              have hns6 : (ns ++ [Wp.B t5]).length ≤ is.length + 1 := by simp; exact HI2.out.nl
              have hsm6 : ∀ s ∈ ns ++ [Wp.B t5], s.size ≤ 4105 := fun s hs => by
                rcases List.mem_append.1 hs with h | h
                · exact HI2.out.small s h
                · rw [List.mem_singleton.1 h, Wp.B_size]; exact ht5
              go_wp2_with fail
              go_region_law (first
                | (refine step_append_lies _ (by rfl) _ _ _ (by rfl) w.heap.size 26 i0 _ 5 80 Tryd.underlying23 hi hz0 hz1 hz2 rfl (by omega) (.slice pvi is.length cvi) is.length cs4 (by rfl) (hO4) ⟨w6.heap.size, 0, none⟩ 1 1 [.int .u8 0, .string ⟨#[]⟩, .int .i64 0, .slice none 0 0, .slice none 0 0] (by rfl) (by rfl) (World.news_of_block (cs := #[.int .u8 0, .string ⟨#[]⟩, .int .i64 0, .slice none 0 0, .slice none 0 0]) (t := 26) (fr := (0, 0)) zb) (by simp [Value.oneCell']) (by omega) (by unfold maxLen; omega) (by omega) (by have := S4.keep.size; simp; omega) (w4.heap.size) (by simp) ?_; intro g2 cap w5 hown5 hgrow5 hat5 hlt5; have hat : (Value.slice (some ⟨g2, 0, none⟩) (is.length + 1) cap).ownBlock = (Value.slice pvi is.length cvi).ownBlock ∨ (Value.slice (some ⟨g2, 0, none⟩) (is.length + 1) cap).ownBlock = some (w4.heap.size) := (hat5.elim (fun h => Or.inl h.symm) (fun h => Or.inr (by rw [h]; rfl))); have S5 := (S4).app hO4 hown5 hgrow5 hat; have U5 := (U4).app (p := (Value.slice pvi is.length cvi).ownBlock) (p' := (Value.slice (some ⟨g2, 0, none⟩) (is.length + 1) cap).ownBlock) hgrow5 hat; obtain ⟨z0, z1, z2, z3, z4, ⟨y0, y1, y2, y3, y4⟩, x0, x1, x2, x3, x4⟩ := Vl.slots hown5; obtain ⟨⟨vi0, v3⟩, w3⟩ := S5.box3; have PU := Vl.Rows2.put (S5.rows) U5; have hgg := hown5.lt g2 rfl; have hgne : some gv ≠ some g2 := (fun e => by have := Option.some.inj e; omega); have v3b := PU.2.cell v3 hgne; have w3b := (World.frozen?_of_block (a := ⟨gv, 3, none⟩) (PU.2.block gv (Nat.lt_of_lt_of_le hgvl S5.keep.size) hgne)).trans w3)
                | (refine step_append_lies _ (by rfl) _ _ _ (by rfl) w.heap.size 26 i0 _ 5 80 Tryd.underlying23 hi hz0 hz1 hz2 rfl (by omega) (.slice pvi is.length cvi) is.length cs4 (by rfl) (hO4.alloc _) ⟨w4.heap.size, 0, none⟩ 1 1 [.int .u8 0, .string ⟨#[]⟩, .int .i64 0, .slice none 0 0, .slice none 0 0] (by rfl) (by rfl) (World.news_of_block (cs := #[.int .u8 0, .string ⟨#[]⟩, .int .i64 0, .slice none 0 0, .slice none 0 0]) (t := 26) (fr := (0, 0)) (Vl.new w4 _)) (by simp [Value.oneCell']) (by omega) (by unfold maxLen; omega) (by omega) (by have := S4.keep.size; simp; omega) (w4.heap.size + 1) (by simp) ?_; intro g2 cap w5 hown5 hgrow5 hat5 hlt5; have hat : (Value.slice (some ⟨g2, 0, none⟩) (is.length + 1) cap).ownBlock = (Value.slice pvi is.length cvi).ownBlock ∨ (Value.slice (some ⟨g2, 0, none⟩) (is.length + 1) cap).ownBlock = some (w4.alloc (.cells #[.int .u8 0, .string ⟨#[]⟩, .int .i64 0, .slice none 0 0, .slice none 0 0] 26)).heap.size := (hat5.elim (fun h => Or.inl h.symm) (fun h => Or.inr (by rw [h, World.size_alloc]; rfl))); have S5 := (S4.alloc (.cells #[.int .u8 0, .string ⟨#[]⟩, .int .i64 0, .slice none 0 0, .slice none 0 0] 26)).app (hO4.alloc _) hown5 hgrow5 hat; have U5 := (U4.below ((Below.refl w4.heap.size w4).alloc (Nat.le_refl _) (.cells #[.int .u8 0, .string ⟨#[]⟩, .int .i64 0, .slice none 0 0, .slice none 0 0] 26))).app (p := (Value.slice pvi is.length cvi).ownBlock) (p' := (Value.slice (some ⟨g2, 0, none⟩) (is.length + 1) cap).ownBlock) hgrow5 hat; obtain ⟨z0, z1, z2, z3, z4, ⟨y0, y1, y2, y3, y4⟩, x0, x1, x2, x3, x4⟩ := Vl.slots hown5; obtain ⟨⟨vi0, v3⟩, w3⟩ := S5.box3; have PU := Vl.Rows2.put (S5.rows) U5; have hgg := hown5.lt g2 rfl; have hgne : some gv ≠ some g2 := (fun e => by have := Option.some.inj e; omega); have v3b := PU.2.cell v3 hgne; have w3b := (World.frozen?_of_block (a := ⟨gv, 3, none⟩) (PU.2.block gv (Nat.lt_of_lt_of_le hgvl S5.keep.size) hgne)).trans w3)
                | (go_simp; (with_reducible refine (HC0.out).mono ?_); rintro e w4 ⟨k2, t2, i2, pi2, ni2, ci2, pn2, nn2, cn2, rfl, S4, U4, hg4⟩; obtain ⟨cs4, hO4, _⟩ := S4.rows.items; have hgv4 : gv < w4.heap.size := Nat.lt_of_lt_of_le hgvl S4.keep.size; have q3b := hg4.cell (a := ⟨gv, 3, none⟩) (v := .slice pvi is.length cvi) q3 hgvne)
                | (go_simp; (with_reducible refine (HCB.out).mono ?_); rintro e w4 ⟨k2, t2, i2, pi2, ni2, ci2, pn2, nn2, cn2, rfl, S4, U4, hg4⟩; obtain ⟨cs4, hO4, _⟩ := S4.rows.items; have hgv4 : gv < w4.heap.size := Nat.lt_of_lt_of_le hgvl S4.keep.size; have q3b := hg4.cell (a := ⟨gv, 3, none⟩) (v := .slice pvi is.length cvi) (Lib.cell?_alloc_some _ q3) hgvne; have zb := (hg4.block w6.heap.size (by simp) (by intro e; cases e; omega)).trans (Vl.new w6 (.cells #[.int .u8 0, .string ⟨#[]⟩, .int .i64 0, .slice none 0 0, .slice none 0 0] 26))))
              all_goals
                have EA := S5.endA hgg.1 U5 _ rfl
                have EB := S5.endB hgg.1 U5 _ rfl
                have IA := Lib.hid (HI2.out.turn he6 htl hns6 hsm6 EA.2.rb EA.1 EA.2.rows EA.2.keep)
                have IB := Lib.hid (HI2.out.turn he6 htl hns6 hsm6 EB.2.rb EB.1 EB.2.rows EB.2.keep)
                clear EA EB
                go_wp2_with fail
                refine ⟨⟨m', ?_, ?_, ?_, ?_, ?_, by omega, by go_num, ?_⟩, ?_⟩
                rotate_left 5
                first | with_reducible exact IA | with_reducible exact IB
                simp [intOf]
            go_region_law (first
              | (refine step_append_lies _ (by rfl) _ _ _ (by rfl) w.heap.size 9 j0 _ 1 16 Tryd.underlying24 hj hy0 hy1 hy2 rfl (by omega) (.slice pvn ns.length cvn) ns.length (ns.map Wp.mkT) (by rfl) (S4.rows.names.alloc _) ⟨w4.heap.size, 0, none⟩ 1 1 [.string (Wp.B t5)] (by rfl) (by rfl) (World.news_of_block (cs := #[.string (Wp.B t5)]) (t := 9) (fr := (0, 0)) (Vl.new w4 _)) (by simp [Value.oneCell']) (by omega) (by unfold maxLen; omega) (by omega) (by have := S4.keep.size; simp; omega) (w4.heap.size + 1) (by simp) ?_; intro g2 cap w5 hown5 hgrow5 hat5 hlt5; have hat : (Value.slice (some ⟨g2, 0, none⟩) (ns.length + 1) cap).ownBlock = (Value.slice pvn ns.length cvn).ownBlock ∨ (Value.slice (some ⟨g2, 0, none⟩) (ns.length + 1) cap).ownBlock = some (w4.alloc (.cells #[.string (Wp.B t5)] 9)).heap.size := (hat5.elim (fun h => Or.inl h.symm) (fun h => Or.inr (by rw [h, World.size_alloc]; rfl))); have V6 := (S4.alloc (.cells #[.string (Wp.B t5)] 9)).nameBox (vn' := .slice (some ⟨g2, 0, none⟩) (ns.length + 1) cap) hgrow5 ((((Below.refl w4.heap.size w4).alloc (Nat.le_refl _) (.cells #[.string (Wp.B t5)] 9)).block gv hgv4).trans ((hg4.block gv hgvr hgvne).trans HI2.out.vb)); have S6 := (S4.alloc (.cells #[.string (Wp.B t5)] 9)).nameApp hown5 hgrow5 hat; obtain ⟨v4b, w4b⟩ := (S4.alloc (.cells #[.string (Wp.B t5)] 9)).box4 hgrow5)
              | (go_simp; (with_reducible refine (HC0.out).mono ?_); rintro e w4 ⟨rfl, hrb4, hg4⟩; have S4 := HS0.out.drew.call hrb4 hg4; have hgv4 : gv < w4.heap.size := Nat.lt_of_lt_of_le hgvl S4.keep.size; have q4b := hg4.cell (a := ⟨gv, 4, none⟩) (v := .slice pvn ns.length cvn) q4 hgvne))
            all_goals exact hK _ _ _ _ _ S6 V6
end Go.Proofs.YtckcbdnlligndaaDoor
