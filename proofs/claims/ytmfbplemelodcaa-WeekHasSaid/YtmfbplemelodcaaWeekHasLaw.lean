/-
  The walk of WeekHas: whatever two weeks are, some ranges and a minute, the law answers true. Condition: lists are of a size that a machine holds.
-/
import Derived.Test.YtmfbplemelodcaaWkLives
import Derived.Deep.RegionHeld3
import Derived.Deep.DeepCutAuto
namespace Go.Proofs.Ytmfbplemelodcaa
open Go.RowKit Go.Lib Go.Shelf

theorem Wk.ok_nil : Wk.Ok [] := ⟨by simp, trivial⟩
theorem Wk.ok_fit {l : List (Int × Int)} (h : Wk.Ch (-1) l) : Wk.Ok (Wk.fitL l) := by
  unfold Wk.fitL
  split
  · next h2 => exact ⟨h2, h⟩
  · exact Wk.ok_nil
theorem Wk.fit_has {l : List (Int × Int)} (h : Wk.fitC l = 0) : Wk.fitL l = l := by
  unfold Wk.fitC at h
  unfold Wk.fitL
  split at h
  · next h2 => rw [if_pos h2]
  · cases h
theorem Wk.code_cases (c : Int) : c = 0 ∨ (c == 0) = false := by
  by_cases h : c = 0
  · exact Or.inl h
  · exact Or.inr (by simpa using h)
theorem Wk.has_sets {a b : List (Int × Int)} {m : Int} (ha : Wk.Ok a) (hb : Wk.Ok b) (hm : Wk.Min m) :
    (Wk.chk2 (Wk.andL a b) m = 0 ∧ Wk.chk2 (Wk.orL a b) m = 0 ∧ Wk.chk2 (Wk.notL a) m = 0) ∧
    ((Wk.andC a b = 0 ∧ Wk.hasB (Wk.andL a b) m = (Wk.has a m && Wk.has b m)) ∨ (Wk.andC a b == 0) = false) ∧
    ((Wk.orC a b = 0 ∧ Wk.hasB (Wk.orL a b) m = (Wk.has a m || Wk.has b m)) ∨ (Wk.orC a b == 0) = false) ∧
    ((Wk.notC a = 0 ∧ Wk.hasB (Wk.notL a) m = !Wk.has a m) ∨ (Wk.notC a == 0) = false) := by
  have hB := Wk.both_ch ha.2 hb.2
  have hf : Wk.Fit (a ++ b) := (Wk.Ch.fit ha.2).append (Wk.Ch.fit hb.2)
  obtain ⟨hJ1, hJ2, _⟩ := Wk.jnd_joined hf
  have hG : Wk.Ch (-1) (Wk.gaps 0 a) := Wk.gaps_ch (f := 0) ha.2
  have e1 : Wk.andL a b = Wk.fitL (Wk.both a b) := if_pos ⟨ha, hb⟩
  have e2 : Wk.orL a b = Wk.fitL (Wk.jnd (a ++ b)) := if_pos ⟨ha, hb⟩
  have e3 : Wk.notL a = Wk.fitL (Wk.gaps 0 a) := if_pos ha
  have f1 : Wk.andC a b = Wk.fitC (Wk.both a b) := if_pos ⟨ha, hb⟩
  have f2 : Wk.orC a b = Wk.fitC (Wk.jnd (a ++ b)) := if_pos ⟨ha, hb⟩
  have f3 : Wk.notC a = Wk.fitC (Wk.gaps 0 a) := if_pos ha
  have k : ∀ {l : List (Int × Int)}, Wk.Ch (-1) l → Wk.chk2 (Wk.fitL l) m = 0 := fun h => Wk.chk2_mk (Wk.ok_fit h) hm
  have g : ∀ {l : List (Int × Int)} (_ : Wk.Ch (-1) l), Wk.fitC l = 0 → Wk.hasB (Wk.fitL l) m = Wk.has l m := fun h h0 => by
    rw [show Wk.hasB (Wk.fitL _) m = Wk.has (Wk.fitL _) m from if_pos (k h), Wk.fit_has h0]
  rw [e1, e2, e3, f1, f2, f3]
  refine ⟨⟨k hB, k hJ1, k hG⟩, ?_, ?_, ?_⟩
  · rcases Wk.code_cases (Wk.fitC (Wk.both a b)) with h | h
    · exact Or.inl ⟨h, by rw [g hB h, Wk.both_has]⟩
    · exact Or.inr h
  · rcases Wk.code_cases (Wk.fitC (Wk.jnd (a ++ b))) with h | h
    · exact Or.inl ⟨h, by rw [g hJ1 h, hJ2, Wk.has_append]⟩
    · exact Or.inr h
  · rcases Wk.code_cases (Wk.fitC (Wk.gaps 0 a)) with h | h
    · exact Or.inl ⟨h, by rw [g hG h, Wk.gaps_has (f := 0) ha.2, decide_eq_true hm.1, decide_eq_true hm.2]; rfl⟩
    · exact Or.inr h
theorem Wk.has_make {l : List (Int × Int)} {m : Int} (h : Wk.makeC l = 0) (hm : Wk.Min m) : Wk.chk2 (Wk.makeL l) m = 0 ∧ Wk.hasB (Wk.makeL l) m = l.any fun r => Wk.inW r m := by
  unfold Wk.makeC at h
  split at h
  · next he =>
    split at h
    · next h64 =>
      have e : Wk.makeL l = Wk.jnd (Wk.wraps l) := by
        unfold Wk.makeL; rw [if_pos he, if_pos h64, Wk.fit_has h]
      obtain ⟨hJ1, hJ2, _⟩ := Wk.jnd_joined (Wk.fit_wraps he)
      have hok : Wk.Ok (Wk.jnd (Wk.wraps l)) := by rw [← Wk.fit_has h]; exact Wk.ok_fit hJ1
      rw [e]
      refine ⟨Wk.chk2_mk hok hm, ?_⟩
      rw [show Wk.hasB (Wk.jnd (Wk.wraps l)) m = Wk.has (Wk.jnd (Wk.wraps l)) m from if_pos (Wk.chk2_mk hok hm), hJ2, Wk.has_wraps l hm.1 hm.2]
    · cases h
  · cases h
theorem Wk.any_take (l : List (Int × Int)) (m : Int) (k : Nat) (h : k < l.length) : ((l.take (k + 1)).any fun r => Wk.inW r m) = (((l.take k).any fun r => Wk.inW r m) || Wk.inW l[k] m) := by
  rw [List.take_succ_eq_append_getElem h, List.any_append]
  simp
set_option maxHeartbeats 8000000 in
set_option maxRecDepth 100000 in
theorem weekHas_law (a b l : List (Int × Int)) (p q r : Option Addr) (c d k : Nat) (m : Int) (w : World) (hA : Wk.At w p a) (hB : Wk.At w q b) (hL : Wk.At w r l) (hn : a.length ≤ 140737488351232) (hm : b.length ≤ 140737488351232) (hk : l.length ≤ 140737488351232) :
    Calls Try.prog 5 #[.slice p a.length c, .slice q b.length d, .slice r l.length k, .int .i64 m] w fun e w' => e = .returned (.bool true) ∧ Below w.heap.size w w' := by
  have CL := Lib.hid (fun w => wk_lives w)
  have CH := Lib.hid (fun w hA => wk_Has a p c m w hA hn)
  have CI := Lib.hid (fun w hA => wk_Has b q d m w hA hm)
  have CA := Lib.hid (fun w hA hB => wk_And a b p q c d w hA hB hn hm)
  have CO := Lib.hid (fun w hA hB => wk_Or a b p q c d w hA hB hn hm)
  have CN := Lib.hid (fun w hA => wk_Not a p c w hA hn)
  have CM := Lib.hid (fun w hA => wk_Make l r k w hA hk)
  have AA := Lib.hid hA
  have AB := Lib.hid hB
  have AL := Lib.hid hL
  have HAB := Lib.hid (show Wk.chk2 a m = 0 → Wk.chk2 b m = 0 → _ from fun h1 h2 => Wk.has_sets (Wk.chk2_ok h1).1 (Wk.chk2_ok h2).1 (Wk.chk2_ok h1).2)
  have Hh1 := Lib.hid (show Wk.chk2 a m = 0 → Wk.hasB a m = Wk.has a m from fun h => if_pos h)
  have Hh2 := Lib.hid (show Wk.chk2 b m = 0 → Wk.hasB b m = Wk.has b m from fun h => if_pos h)
  have HM := Lib.hid (fun h hm => Wk.has_make (l := l) (m := m) h hm)
  have CF := Lib.hid (fun (L : List (Int × Int)) p c w hA hn => wk_Has L p c m w hA hn)
  have Hnl := Lib.hid (show (Wk.andL a b).length ≤ 140737488351232 ∧ (Wk.orL a b).length ≤ 140737488351232 ∧ (Wk.notL a).length ≤ 140737488351232 ∧ (Wk.makeL l).length ≤ 140737488351232 by
    have f : ∀ l, (Wk.fitL l).length ≤ 64 := fun l => by unfold Wk.fitL; split <;> simp_all
    unfold Wk.andL Wk.orL Wk.notL Wk.makeL
    refine ⟨?_, ?_, ?_, ?_⟩
    · split
      · have := f (Wk.both a b); omega
      · simp
    · split
      · have := f (Wk.jnd (a ++ b)); omega
      · simp
    · split
      · have := f (Wk.gaps 0 a); omega
      · simp
    · split
      · split
        · have := f (Wk.jnd (Wk.wraps l)); omega
        · simp
      · simp)
  clear hA hB hL hn hm
  obtain ⟨na, hna⟩ : ∃ n, n = a.length := ⟨_, rfl⟩
  obtain ⟨nb, hnb⟩ : ∃ n, n = b.length := ⟨_, rfl⟩
  obtain ⟨nl, hnl⟩ : ∃ n, n = l.length := ⟨_, rfl⟩
  have HNL := Lib.hid hnl
  rw [← hna] at CH CA CO CN
  rw [← hnb] at CI CA CO
  rw [← hnl] at CM hk
  rw [← hna, ← hnb, ← hnl]
  clear hna hnb hnl
  go_enter Try.func5, Try.ntmps5
  go_wp2_with fail
  refine (CL.out _).mono ?_
  rintro e w1 ⟨rfl, hB⟩
  have AA1 := Lib.hid (AA.out.below hB)
  have AB1 := Lib.hid (AB.out.below hB)
  have B1 := Lib.hid hB
  clear hB
  go_wp2_with fail
  refine (CH.out _ AA1.out).mono ?_
  rintro e w2 ⟨rfl, hB⟩
  have AA2 := Lib.hid (AA1.out.below hB)
  have AB2 := Lib.hid (AB1.out.below hB)
  have B2 := Lib.hid (wk_then B1.out hB B1.out.size)
  clear hB
  go_wp2_with fail
  refine (CI.out _ AB2.out).mono ?_
  rintro e w3 ⟨rfl, hB⟩
  have AA3 := Lib.hid (AA2.out.below hB)
  have AB3 := Lib.hid (AB2.out.below hB)
  have B3 := Lib.hid (wk_then B2.out hB B2.out.size)
  clear hB AA1 AB1 AA2 AB2 B1 B2
  obtain ⟨ca, hca⟩ : ∃ x, x = Wk.chk2 a m := ⟨_, rfl⟩
  obtain ⟨cb, hcb⟩ : ∃ x, x = Wk.chk2 b m := ⟨_, rfl⟩
  have HCA := Lib.hid hca
  have HCB := Lib.hid hcb
  rw [← hca] at CH ⊢
  rw [← hcb] at CI ⊢
  clear hca hcb
  obtain ⟨ia, hia⟩ : ∃ x, x = Wk.hasB a m := ⟨_, rfl⟩
  obtain ⟨ib, hib⟩ : ∃ x, x = Wk.hasB b m := ⟨_, rfl⟩
  have HIA := Lib.hid hia
  have HIB := Lib.hid hib
  rw [← hia, ← hib]
  clear hia hib CH CI CL AA AB
  go_upto_region 5 with (fail)
  go_cut [51] (fun s51 wx => s51 = .bool ((ca == 0) && (cb == 0)) ∧ Below w3.heap.size w3 wx)
  case first =>
    cases h1 : (ca == 0) with
    | true =>
      cases h2 : (cb == 0) with
      | true => (go_wp2_with fail; go_meet; exact ⟨by rw [h1, h2]; rfl, Below.refl _ _⟩)
      | false => (go_wp2_with fail; go_meet; exact ⟨by rw [h1, h2]; rfl, Below.refl _ _⟩)
    | false => (go_wp2_with fail; go_meet; exact ⟨by rw [h1]; rfl, Below.refl _ _⟩)
  case rest =>
    obtain ⟨rfl, hB⟩ := hcut
    have AA4 := Lib.hid (AA3.out.below hB)
    have AB4 := Lib.hid (AB3.out.below hB)
    have B4 := Lib.hid (wk_then B3.out hB B3.out.size)
    obtain ⟨w4, hw4⟩ : ∃ w4, w4 = wc := ⟨_, rfl⟩
    subst hw4
    clear hB AA3 AB3 B3
    obtain ⟨V, hV⟩ : ∃ V, V = ((ca == 0) && (cb == 0)) := ⟨_, rfl⟩
    have HV := Lib.hid hV
    rw [← hV]
    clear hV
    go_upto_if 51 with (fail)
    go_cut [] (fun wx => Below w.heap.size w wx)
    case first =>
      cases V with
      | false => (go_wp2_with fail; go_meet; exact B4.out)
      | true =>
        have h0 : ca = 0 ∧ cb = 0 := by have := HV.out; simpa using this.symm
        obtain ⟨h1, h2⟩ := h0
        have h3 := HCA.out.symm.trans h1
        have h4 := HCB.out.symm.trans h2
        obtain ⟨⟨k1, k2, k3⟩, k4, k5, k6⟩ := HAB.out h3 h4
        rw [← Hh1.out h3, ← Hh2.out h4, ← HIA.out, ← HIB.out] at k4 k5
        rw [← Hh1.out h3, ← HIA.out] at k6
        obtain ⟨n1, n2, n3, n4⟩ := Hnl.out
        have F1 := Lib.hid (fun p c w hA => CF.out (Wk.andL a b) p c w hA n1)
        have F2 := Lib.hid (fun p c w hA => CF.out (Wk.orL a b) p c w hA n2)
        have F3 := Lib.hid (fun p c w hA => CF.out (Wk.notL a) p c w hA n3)
        rw [k1] at F1
        rw [k2] at F2
        rw [k3] at F3
        have K4 := Lib.hid k4
        have K5 := Lib.hid k5
        have K6 := Lib.hid k6
        clear h1 h2 h3 h4 k1 k2 k3 k4 k5 k6 n1 n2 n3 n4 HAB Hh1 Hh2 HCA HCB HIA HIB HV Hnl HM CF CM
        generalize Wk.hasB (Wk.andL a b) m = i1 at *
        generalize Wk.hasB (Wk.orL a b) m = i2 at *
        generalize Wk.hasB (Wk.notL a) m = i3 at *
        generalize Wk.andC a b = c1 at *
        generalize Wk.orC a b = c2 at *
        generalize Wk.notC a = c3 at *
        generalize Wk.andL a b = L1 at *
        generalize Wk.orL a b = L2 at *
        generalize Wk.notL a = L3 at *
        go_wp2_with fail
        refine (CA.out _ AA4.out AB4.out).mono ?_
        rintro e w5 ⟨p5, c5, rfl, hA, hB⟩
        have AX5 := Lib.hid hA
        have AA5 := Lib.hid (AA4.out.below hB)
        have AB5 := Lib.hid (AB4.out.below hB)
        have B5 := Lib.hid (wk_then B4.out hB B4.out.size)
        clear hA hB
        go_wp2_with fail
        refine (CO.out _ AA5.out AB5.out).mono ?_
        rintro e w6 ⟨p6, c6, rfl, hA, hB⟩
        have AY6 := Lib.hid hA
        have AX6 := Lib.hid (AX5.out.below hB)
        have AA6 := Lib.hid (AA5.out.below hB)
        have B6 := Lib.hid (wk_then B5.out hB B5.out.size)
        clear hA hB
        go_wp2_with fail
        refine (CN.out _ AA6.out).mono ?_
        rintro e w7 ⟨p7, c7, rfl, hA, hB⟩
        have AZ7 := Lib.hid hA
        have AX7 := Lib.hid (AX6.out.below hB)
        have AY7 := Lib.hid (AY6.out.below hB)
        have B7 := Lib.hid (wk_then B6.out hB B6.out.size)
        clear hA hB
        go_wp2_with fail
        refine (F1.out _ _ _ AX7.out).mono ?_
        rintro e w8 ⟨rfl, hB⟩
        have AY8 := Lib.hid (AY7.out.below hB)
        have AZ8 := Lib.hid (AZ7.out.below hB)
        have B8 := Lib.hid (wk_then B7.out hB B7.out.size)
        clear hB
        go_wp2_with fail
        refine (F2.out _ _ _ AY8.out).mono ?_
        rintro e w9 ⟨rfl, hB⟩
        have AZ9 := Lib.hid (AZ8.out.below hB)
        have B9 := Lib.hid (wk_then B8.out hB B8.out.size)
        clear hB
        go_wp2_with fail
        refine (F3.out _ _ _ AZ9.out).mono ?_
        rintro e w10 ⟨rfl, hB⟩
        have B10 := Lib.hid (wk_then B9.out hB B9.out.size)
        clear hB AA4 AB4 B4 AX5 AA5 AB5 B5 AY6 AX6 AA6 B6 AZ7 AX7 AY7 B7 AY8 AZ8 B8 AZ9 B9 CA CO CN F1 F2 F3
        rcases K4.out with ⟨rfl, rfl⟩ | g1 <;> rcases K5.out with ⟨rfl, rfl⟩ | g2 <;> rcases K6.out with ⟨rfl, rfl⟩ | g3 <;> clear K4 K5 K6 <;> cases ia <;> cases ib <;>
          as_aux_lemma =>
            go_wp2_with fail
            go_meet
            exact B10.out
    case rest =>
      have B5 := Lib.hid hcut
      have AL5 := Lib.hid (AL.out.below hcut)
      obtain ⟨w5, hw5⟩ : ∃ w5, w5 = wc := ⟨_, rfl⟩
      subst hw5
      have F4 := Lib.hid (fun p c w hA => CF.out (Wk.makeL l) p c w hA Hnl.out.2.2.2)
      clear hcut AL AA4 AB4 B4 HAB Hh1 Hh2 HCA HCB HIA HIB HV Hnl CF CA CO CN
      go_wp2_with fail
      refine (CM.out _ AL5.out).mono ?_
      rintro e w6 ⟨p6, c6, rfl, hA, hB⟩
      have AM6 := Lib.hid hA
      have AL6 := Lib.hid (AL5.out.below hB)
      have B6 := Lib.hid (wk_then B5.out hB B5.out.size)
      clear hA hB AL5 B5 CM
      by_cases hc : Wk.makeC l = 0
      · have HM1 := Lib.hid (HM.out hc)
        rw [hc]
        clear hc HM
        by_cases hm1 : m < 0
        · go_wp2_with fail
          go_ret
          exact ⟨rfl, B6.out⟩
        · have hm1' : 0 ≤ m := by omega
          clear hm1
          by_cases hm2 : 10080 ≤ m
          · go_wp2_with fail
            go_ret
            exact ⟨rfl, B6.out⟩
          · have hm2' : m < 10080 := by omega
            obtain ⟨k1, k2⟩ := HM1.out ⟨hm1', hm2'⟩
            rw [k1, k2] at F4
            clear hm2 k1 k2 HM1
            have HAll := Lib.hid (show ((l.take l.length).any fun r => Wk.inW r m) = l.any fun r => Wk.inW r m by rw [List.take_length])
            rw [← HNL.out] at HAll
            generalize Wk.makeL l = M at *
            generalize (l.any fun r => Wk.inW r m) = R at *
            go_wp2_with fail
            go_loopw [27, 147] (fun v i wr => ∃ j : Nat, j ≤ nl ∧ i = .int .i64 j ∧ v = .bool ((l.take j).any fun r => Wk.inW r m) ∧ Below w6.heap.size w6 wr) (fun _ i _ => nl - (RowKit.intOf i).toNat)
            case atStart => exact ⟨0, Nat.zero_le _, rfl, rfl, Below.refl _ _⟩
            case round =>
              obtain ⟨j, hj, rfl, rfl, hBw⟩ := hrel
              have BW := Lib.hid hBw
              have hz := hBw.size
              clear hBw
              by_cases hlt : j < nl
              · have hjl : j < l.length := by rw [← HNL.out]; exact hlt
                obtain ⟨b1, o1, rfl, e1, e2⟩ := (AL6.out.below BW.out).get j hjl
                have HS := Lib.hid (Wk.any_take l m j hjl)
                generalize l[j] = y at e1 e2 HS
                obtain ⟨f, t⟩ := y
                simp only [] at e1 e2 HS
                generalize ((l.take j).any fun r => Wk.inW r m) = v at HS ⊢
                have BX := Lib.hid (BW.out.alloc hz (.cells #[.int .i64 f, .int .i64 t] 38))
                have hltz : (j : Int) < (nl : Int) := by omega
                clear hjl
                have HX := Lib.hid (show Wk.inW (f, t) m = ((decide (f ≤ t) && decide (f ≤ m) && decide (m < t)) || (decide (t < f) && (decide (f ≤ m) || decide (m < t)))) from rfl)
                rw [HX.out] at HS
                clear HX
                cases v with
                | true =>
                  rw [Bool.true_or] at HS
                  go_wp2_with fail
                  exact ⟨⟨j + 1, by omega, by go_num, by rw [HS.out], BX.out⟩, by simp [RowKit.intOf]; omega⟩
                | false =>
                  rw [Bool.false_or] at HS
                  by_cases h1 : f ≤ t
                  · have q1 : (t < f) = False := eq_false (by omega)
                    rw [decide_eq_true h1, decide_eq_false (show ¬ t < f by omega), Bool.true_and, Bool.false_and, Bool.or_false] at HS
                    clear q1
                    by_cases h2 : f ≤ m
                    · rw [decide_eq_true h2, Bool.true_and] at HS
                      by_cases h3 : m < t
                      · rw [decide_eq_true h3] at HS
                        go_wp2_with fail
                        exact ⟨⟨j + 1, by omega, by go_num, by rw [HS.out], BX.out⟩, by simp [RowKit.intOf]; omega⟩
                      · rw [decide_eq_false h3] at HS
                        have q3 : decide (m < t) = false := decide_eq_false h3
                        have q4 : decide (t < f) = false := decide_eq_false (by omega)
                        clear h3
                        go_wp2_with fail
                        exact ⟨⟨j + 1, by omega, by go_num, by rw [HS.out], BX.out⟩, by simp [RowKit.intOf]; omega⟩
                    · rw [decide_eq_false h2, Bool.false_and] at HS
                      have q3 : decide (f ≤ m) = false := decide_eq_false h2
                      have q4 : decide (t < f) = false := decide_eq_false (by omega)
                      clear h2
                      go_wp2_with fail
                      exact ⟨⟨j + 1, by omega, by go_num, by rw [HS.out], BX.out⟩, by simp [RowKit.intOf]; omega⟩
                  · have h1' : t < f := by omega
                    rw [decide_eq_false h1, decide_eq_true h1', Bool.true_and, Bool.false_and, Bool.false_and, Bool.false_or] at HS
                    have q0 : decide (f ≤ t) = false := decide_eq_false h1
                    clear h1
                    by_cases h2 : f ≤ m
                    · rw [decide_eq_true h2, Bool.true_or] at HS
                      go_wp2_with fail
                      exact ⟨⟨j + 1, by omega, by go_num, by rw [HS.out], BX.out⟩, by simp [RowKit.intOf]; omega⟩
                    · rw [decide_eq_false h2, Bool.false_or] at HS
                      have q3 : decide (f ≤ m) = false := decide_eq_false h2
                      clear h2
                      by_cases h3 : m < t
                      · rw [decide_eq_true h3] at HS
                        go_wp2_with fail
                        exact ⟨⟨j + 1, by omega, by go_num, by rw [HS.out], BX.out⟩, by simp [RowKit.intOf]; omega⟩
                      · rw [decide_eq_false h3] at HS
                        have q5 : decide (m < t) = false := decide_eq_false h3
                        clear h3
                        go_wp2_with fail
                        exact ⟨⟨j + 1, by omega, by go_num, by rw [HS.out], BX.out⟩, by simp [RowKit.intOf]; omega⟩
              · obtain rfl : j = nl := by omega
                rw [HAll.out]
                have AM7 := Lib.hid (AM6.out.below BW.out)
                have B7 := Lib.hid (wk_then B6.out BW.out B6.out.size)
                clear AM6 AL6 B6 BW
                go_wp2_with fail
                refine (F4.out _ _ _ AM7.out).mono ?_
                rintro e w8 ⟨rfl, hB⟩
                have B8 := Lib.hid (wk_then B7.out hB B7.out.size)
                clear hB
                go_wp2_with fail
                go_ret
                exact ⟨rfl, B8.out⟩
      · have hc2 : (Wk.makeC l != 0) = true := by simpa using hc
        clear hc HM
        generalize Wk.makeC l = r at *
        generalize (Wk.makeL l).length = ml at *
        go_wp2_with fail
        go_ret
        exact ⟨rfl, B6.out⟩
end Go.Proofs.Ytmfbplemelodcaa
