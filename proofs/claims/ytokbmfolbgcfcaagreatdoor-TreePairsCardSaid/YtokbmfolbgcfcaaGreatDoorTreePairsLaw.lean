
/-
  The walk of TreePairs: of whatever text, the law answers true. Conditions: the words' table and the errors lie as they are laid, the search's limit is set.
-/
import Derived.Test.YtokbmfolbgcfcaaGreatDoorNdLives
import Derived.Test.YtokbmfolbgcfcaaGreatDoorNdW
namespace Go.Proofs.YtokbmfolbgcfcaaGreatDoor
open Go.RowKit

theorem Nd.cnt_snoc (p : Sc.T → Bool) (l : List Sc.T) (k : Nat) (h : k < l.length) : (l.take (k + 1)).countP p = (l.take k).countP p + if p l[k] = true then 1 else 0 := by
  rw [List.take_succ_eq_append_getElem h, List.countP_append, List.countP_singleton]
set_option maxRecDepth 100000 in
set_option maxHeartbeats 4000000 in
theorem treePairs_law (s : ByteArray) (w : World) (a b : Addr) (hs : s.size ≤ 140737488351232) (hT : Sc.Laid w) (hM : Sc.MaxLen w) (hE : Nd.Errs w a b) :
    Calls Tryz.prog 6 #[.string s] w fun e w' => e = .returned (.bool true) ∧ Below w.heap.size w w' := by
  have CL := Lib.hid (lives11_any w a b hT hM hE)
  have CP := Lib.hid (fun W (hb : Below w.heap.size w W) => ndParse_any s W a b (by omega) (hT.below hb) (hM.below hb) (hE.below hb))
  have CT := Lib.hid (fun W (hb : Below w.heap.size w W) => scTokens_any s W (by omega) (hT.below hb) (hM.below hb))
  have CW := Lib.hid (fun W (hb : Below w.heap.size w W) p c (hA : Nd.Row W p (Nd.parseR s.data.toList).1) (h : (Nd.parseR s.data.toList).2 = 0) => (by
    obtain ⟨h1, h2, h3, h4, h5⟩ := Nd.parse_ok h
    have hg := h4
    unfold Nd.good Nd.shapedP at hg
    rw [Bool.and_eq_true, Bool.and_eq_true, decide_eq_true_eq] at hg
    have hl := Nd.cntL_len (Nd.parseR s.data.toList).1
    have := ndPaths_any (Nd.parseR s.data.toList).1 p c W (by omega) hA (fun t ht => by have := (Nd.toks_short h1).2.1 t (h5.mem t ht); omega) (hT.below hb) (hM.below hb)
    rw [Nd.pathsR_eq, Nd.toksR_ok h4] at this
    simp only [h5.words (Nd.all_of h2)] at this
    exact this : Calls Tryz.prog 23 #[.slice p (Nd.parseR s.data.toList).1.length c] W (Nd.PathsPost (Nd.wordsT (Sc.toksR s.data.toList).1, 0) W)))
  have HO := Lib.hid (fun (h : (Nd.parseR s.data.toList).2 = 0) => (by
    obtain ⟨h1, h2, h3, _, _⟩ := Nd.parse_ok h
    have hc := Nd.stk_count _ _ h3
    simp only [List.length_nil, Nat.zero_add, List.count_nil, Nat.add_zero] at hc
    exact ⟨h1, (Nd.toks_short h1).1, hc.1, hc.2⟩ : (Sc.toksR s.data.toList).2 = 0 ∧ (Sc.toksR s.data.toList).1.length ≤ 1024 ∧ Nd.cB (Sc.toksR s.data.toList).1 = Nd.cE (Sc.toksR s.data.toList).1 ∧ Nd.cL (Sc.toksR s.data.toList).1 ≤ Nd.cI (Sc.toksR s.data.toList).1))
  have HWn := Lib.hid (Nd.words_cnt (Sc.toksR s.data.toList).1)
  generalize Nd.wordsT (Sc.toksR s.data.toList).1 = ws at *
  generalize Nd.parseR s.data.toList = R at *
  generalize Sc.toksR s.data.toList = TT at *
  obtain ⟨m, cm⟩ := R
  obtain ⟨tl, ct⟩ := TT
  simp only at CW HO HWn
  clear hT hM hE hs
  go_enter Tryz.func6, Tryz.ntmps6
  go_wp2_with fail
  refine CL.out.mono ?_
  rintro e w1 ⟨rfl, hb⟩
  have B1 := Lib.hid hb
  have C2 := Lib.hid (CP.out w1 hb)
  clear hb CL CP
  go_wp2_with fail
  refine C2.out.mono ?_
  rintro e w2 ⟨v2, rfl, hO2, hb⟩
  obtain ⟨p2, c2, hv2, -, hA2⟩ := hO2.at
  have hv2 : v2 = .slice p2 m.length c2 := hv2
  subst hv2
  have HA2 := Lib.hid (show Nd.Row w2 p2 m from hA2)
  have B2 := Lib.hid (B1.out.trans (hb.mono B1.out.size))
  clear hb hO2 hA2 C2 B1
  by_cases hcm : cm = 0
  · subst hcm
    obtain ⟨hct, hlen, hBE, hLI⟩ := HO.out rfl
    have hct : ct = 0 := hct
    subst hct
    have HBE := Lib.hid hBE
    have HLI := Lib.hid hLI
    have Hlen := Lib.hid hlen
    have C3 := Lib.hid (CT.out w2 B2.out)
    clear HO CT hBE hLI hlen
    go_wp2_with fail
    refine C3.out.mono ?_
    rintro e w3 ⟨v3, rfl, hO3, hb⟩
    obtain ⟨p3, c3, rfl, -, -, hA3⟩ := hO3.atc
    have HA3 := Lib.hid (show Sc.At w3 p3 tl from hA3)
    have B3 := Lib.hid (B2.out.trans (hb.mono B2.out.size))
    have C4 := Lib.hid (CW.out w3 B3.out p2 c2 (HA2.out.below hb) trivial)
    clear hb hO3 hA3 C3 CW HA2 B2
    go_wp2_with fail
    refine C4.out.mono ?_
    rintro e w4 ⟨v4, rfl, hO4, hb⟩
    obtain ⟨p4, c4, rfl, -, -⟩ := Nd.texts_off hO4
    have HA4 := Lib.hid (HA3.out.below hb)
    have B4 := Lib.hid (B3.out.trans (hb.mono B3.out.size))
    clear hb hO4 C4 HA3 B3
    obtain ⟨n, hn⟩ : ∃ n, n = tl.length := ⟨_, rfl⟩
    have Hn := Lib.hid hn
    have hn1 : n ≤ 1024 := by have := Hlen.out; have : tl.length ≤ 1024 := this; omega
    have Hws := Lib.hid (show ws.length = Nd.cP tl from HWn.out)
    generalize hwl : ws.length = wl at *
    clear hwl

    rw [← hn]
    clear hn
    go_wp2_with fail
    go_loopw [9, 10, 11, 12, 13, 15, 37] (fun a9 a10 a11 a12 a13 _ t wr => ∃ k nB nE nI nL nP : Nat, k ≤ n ∧ t = .int .i64 k ∧ a9 = .int .i64 nB ∧ a10 = .int .i64 nE ∧ a11 = .int .i64 nI ∧ a12 = .int .i64 nL ∧ a13 = .int .i64 nP ∧ (nB ≤ k ∧ nE ≤ k ∧ nI ≤ k ∧ nL ≤ k ∧ nP ≤ k) ∧ Hid (nB = Nd.cB (tl.take k) ∧ nE = Nd.cE (tl.take k) ∧ nI = Nd.cI (tl.take k) ∧ nL = Nd.cL (tl.take k) ∧ nP = Nd.cP (tl.take k)) ∧ Hid (Below w4.heap.size w4 wr)) (fun _ _ _ _ _ _ t _ => n - (intOf t).toNat)
    case atStart => exact ⟨0, 0, 0, 0, 0, 0, Nat.zero_le _, rfl, rfl, rfl, rfl, rfl, rfl, ⟨Nat.le_refl _, Nat.le_refl _, Nat.le_refl _, Nat.le_refl _, Nat.le_refl _⟩, Lib.hid (by rw [List.take_zero]; exact ⟨rfl, rfl, rfl, rfl, rfl⟩), Lib.hid (Below.refl _ _)⟩
    case round =>
      obtain ⟨k, nB, nE, nI, nL, nP, hk, rfl, rfl, rfl, rfl, rfl, rfl, ⟨hb1, hb2, hb3, hb4, hb5⟩, HC, HB⟩ := hrel
      by_cases hlt : k < n
      · have hkl : k < tl.length := by rw [← Hn.out]; exact hlt
        obtain ⟨bb, off, pn, cn, rfl, e0, e1, e2, -⟩ := (HA4.out.below HB.out).cells k hkl
        have sB := Nd.cnt_snoc (fun t => decide (t.kind = 3 ∨ t.kind = 5)) tl k hkl
        have sE := Nd.cnt_snoc (fun t => decide (t.kind = 6)) tl k hkl
        have sI := Nd.cnt_snoc (fun t => decide (t.kind = 3)) tl k hkl
        have sL := Nd.cnt_snoc (fun t => decide (t.kind = 4)) tl k hkl
        have sP := Nd.cnt_snoc (fun t => decide (t.path.length ≠ 0)) tl k hkl
        simp only [decide_eq_true_eq] at sB sE sI sL sP
        obtain ⟨h1, h2, h3, h4, h5⟩ := HC.out
        generalize tl[k].kind = kd at *
        generalize tl[k].text = tx at *
        generalize tl[k].path.length = np at *
        have HC2 := Lib.hid (show Nd.cB (tl.take (k + 1)) = nB + (if kd = 3 ∨ kd = 5 then 1 else 0) ∧ Nd.cE (tl.take (k + 1)) = nE + (if kd = 6 then 1 else 0) ∧ Nd.cI (tl.take (k + 1)) = nI + (if kd = 3 then 1 else 0) ∧ Nd.cL (tl.take (k + 1)) = nL + (if kd = 4 then 1 else 0) ∧ Nd.cP (tl.take (k + 1)) = nP + (if np ≠ 0 then 1 else 0) from by
          rw [h1, h2, h3, h4, h5]
          exact ⟨sB, sE, sI, sL, sP⟩)
        clear sB sE sI sL sP h1 h2 h3 h4 h5 HC
        have HV := Lib.hid (Vl.new wr (.cells #[.int .u8 (kd : Nat), .string tx, .slice pn np cn] 46))
        have HBx := Lib.hid (HB.out.alloc HB.out.size (.cells #[.int .u8 (kd : Nat), .string tx, .slice pn np cn] 46))
        obtain ⟨k0, k1, k2⟩ := Sc.three_of HV.out
        have hnp : ((0 : Int) < (np : Int) ∧ Hid (np ≠ 0)) ∨ (¬ (0 : Int) < (np : Int) ∧ Hid (¬ np ≠ 0)) := by
          by_cases h : np = 0
          · right; exact ⟨by omega, Lib.hid (fun h2 => h2 h)⟩
          · left; exact ⟨by omega, Lib.hid h⟩
        rcases hnp with ⟨hp1, hp2⟩ | ⟨hp1, hp2⟩
        all_goals
          by_cases h3 : kd = 3
          · skip
            have HC4 := Lib.hid (fun (hq : np ≠ 0) => (show nB + 1 = Nd.cB (tl.take (k + 1)) ∧ nE = Nd.cE (tl.take (k + 1)) ∧ nI + 1 = Nd.cI (tl.take (k + 1)) ∧ nL = Nd.cL (tl.take (k + 1)) ∧ nP + 1 = Nd.cP (tl.take (k + 1)) from by obtain ⟨g1, g2, g3, g4, g5⟩ := HC2.out; rw [if_pos (by omega)] at g1; rw [if_neg (by omega)] at g2; rw [if_pos (by omega)] at g3; rw [if_neg (by omega)] at g4; rw [if_pos hq] at g5; omega))
            have HC5 := Lib.hid (fun (hq : ¬ np ≠ 0) => (show nB + 1 = Nd.cB (tl.take (k + 1)) ∧ nE = Nd.cE (tl.take (k + 1)) ∧ nI + 1 = Nd.cI (tl.take (k + 1)) ∧ nL = Nd.cL (tl.take (k + 1)) ∧ nP = Nd.cP (tl.take (k + 1)) from by obtain ⟨g1, g2, g3, g4, g5⟩ := HC2.out; rw [if_pos (by omega)] at g1; rw [if_neg (by omega)] at g2; rw [if_pos (by omega)] at g3; rw [if_neg (by omega)] at g4; rw [if_neg hq] at g5; omega))
            have q3 : ((kd : Int) == 3) = true := by rw [beq_iff_eq]; omega
            clear h3
            clear HC2
            go_wp2_with fail
            first | exact ⟨⟨k + 1, nB + 1, nE, nI + 1, nL, nP + 1, by omega, by go_num, by go_num, by go_num, by go_num, by go_num, by go_num, by omega, Lib.hid (HC4.out hp2.out), HBx⟩, by simp [intOf]; omega⟩ | exact ⟨⟨k + 1, nB + 1, nE, nI + 1, nL, nP, by omega, by go_num, by go_num, by go_num, by go_num, by go_num, by go_num, by omega, Lib.hid (HC5.out hp2.out), HBx⟩, by simp [intOf]; omega⟩
          · by_cases h5 : kd = 5
            · skip
              have HC4 := Lib.hid (fun (hq : np ≠ 0) => (show nB + 1 = Nd.cB (tl.take (k + 1)) ∧ nE = Nd.cE (tl.take (k + 1)) ∧ nI = Nd.cI (tl.take (k + 1)) ∧ nL = Nd.cL (tl.take (k + 1)) ∧ nP + 1 = Nd.cP (tl.take (k + 1)) from by obtain ⟨g1, g2, g3, g4, g5⟩ := HC2.out; rw [if_pos (by omega)] at g1; rw [if_neg (by omega)] at g2; rw [if_neg (by omega)] at g3; rw [if_neg (by omega)] at g4; rw [if_pos hq] at g5; omega))
              have HC5 := Lib.hid (fun (hq : ¬ np ≠ 0) => (show nB + 1 = Nd.cB (tl.take (k + 1)) ∧ nE = Nd.cE (tl.take (k + 1)) ∧ nI = Nd.cI (tl.take (k + 1)) ∧ nL = Nd.cL (tl.take (k + 1)) ∧ nP = Nd.cP (tl.take (k + 1)) from by obtain ⟨g1, g2, g3, g4, g5⟩ := HC2.out; rw [if_pos (by omega)] at g1; rw [if_neg (by omega)] at g2; rw [if_neg (by omega)] at g3; rw [if_neg (by omega)] at g4; rw [if_neg hq] at g5; omega))
              have q3 : ((kd : Int) == 3) = false := beq_eq_false_iff_ne.2 (by omega)
              have q5 : ((kd : Int) == 5) = true := by rw [beq_iff_eq]; omega
              clear h3 h5
              clear HC2
              go_wp2_with fail
              first | exact ⟨⟨k + 1, nB + 1, nE, nI, nL, nP + 1, by omega, by go_num, by go_num, by go_num, by go_num, by go_num, by go_num, by omega, Lib.hid (HC4.out hp2.out), HBx⟩, by simp [intOf]; omega⟩ | exact ⟨⟨k + 1, nB + 1, nE, nI, nL, nP, by omega, by go_num, by go_num, by go_num, by go_num, by go_num, by go_num, by omega, Lib.hid (HC5.out hp2.out), HBx⟩, by simp [intOf]; omega⟩
            · by_cases h6 : kd = 6
              · skip
                have HC4 := Lib.hid (fun (hq : np ≠ 0) => (show nB = Nd.cB (tl.take (k + 1)) ∧ nE + 1 = Nd.cE (tl.take (k + 1)) ∧ nI = Nd.cI (tl.take (k + 1)) ∧ nL = Nd.cL (tl.take (k + 1)) ∧ nP + 1 = Nd.cP (tl.take (k + 1)) from by obtain ⟨g1, g2, g3, g4, g5⟩ := HC2.out; rw [if_neg (by omega)] at g1; rw [if_pos (by omega)] at g2; rw [if_neg (by omega)] at g3; rw [if_neg (by omega)] at g4; rw [if_pos hq] at g5; omega))
                have HC5 := Lib.hid (fun (hq : ¬ np ≠ 0) => (show nB = Nd.cB (tl.take (k + 1)) ∧ nE + 1 = Nd.cE (tl.take (k + 1)) ∧ nI = Nd.cI (tl.take (k + 1)) ∧ nL = Nd.cL (tl.take (k + 1)) ∧ nP = Nd.cP (tl.take (k + 1)) from by obtain ⟨g1, g2, g3, g4, g5⟩ := HC2.out; rw [if_neg (by omega)] at g1; rw [if_pos (by omega)] at g2; rw [if_neg (by omega)] at g3; rw [if_neg (by omega)] at g4; rw [if_neg hq] at g5; omega))
                have q3 : ((kd : Int) == 3) = false := beq_eq_false_iff_ne.2 (by omega)
                have q5 : ((kd : Int) == 5) = false := beq_eq_false_iff_ne.2 (by omega)
                have q6 : ((kd : Int) == 6) = true := by rw [beq_iff_eq]; omega
                clear h3 h5 h6
                clear HC2
                go_wp2_with fail
                first | exact ⟨⟨k + 1, nB, nE + 1, nI, nL, nP + 1, by omega, by go_num, by go_num, by go_num, by go_num, by go_num, by go_num, by omega, Lib.hid (HC4.out hp2.out), HBx⟩, by simp [intOf]; omega⟩ | exact ⟨⟨k + 1, nB, nE + 1, nI, nL, nP, by omega, by go_num, by go_num, by go_num, by go_num, by go_num, by go_num, by omega, Lib.hid (HC5.out hp2.out), HBx⟩, by simp [intOf]; omega⟩
              · by_cases h4 : kd = 4
                · skip
                  have HC4 := Lib.hid (fun (hq : np ≠ 0) => (show nB = Nd.cB (tl.take (k + 1)) ∧ nE = Nd.cE (tl.take (k + 1)) ∧ nI = Nd.cI (tl.take (k + 1)) ∧ nL + 1 = Nd.cL (tl.take (k + 1)) ∧ nP + 1 = Nd.cP (tl.take (k + 1)) from by obtain ⟨g1, g2, g3, g4, g5⟩ := HC2.out; rw [if_neg (by omega)] at g1; rw [if_neg (by omega)] at g2; rw [if_neg (by omega)] at g3; rw [if_pos (by omega)] at g4; rw [if_pos hq] at g5; omega))
                  have HC5 := Lib.hid (fun (hq : ¬ np ≠ 0) => (show nB = Nd.cB (tl.take (k + 1)) ∧ nE = Nd.cE (tl.take (k + 1)) ∧ nI = Nd.cI (tl.take (k + 1)) ∧ nL + 1 = Nd.cL (tl.take (k + 1)) ∧ nP = Nd.cP (tl.take (k + 1)) from by obtain ⟨g1, g2, g3, g4, g5⟩ := HC2.out; rw [if_neg (by omega)] at g1; rw [if_neg (by omega)] at g2; rw [if_neg (by omega)] at g3; rw [if_pos (by omega)] at g4; rw [if_neg hq] at g5; omega))
                  have q3 : ((kd : Int) == 3) = false := beq_eq_false_iff_ne.2 (by omega)
                  have q5 : ((kd : Int) == 5) = false := beq_eq_false_iff_ne.2 (by omega)
                  have q6 : ((kd : Int) == 6) = false := beq_eq_false_iff_ne.2 (by omega)
                  have q4 : ((kd : Int) == 4) = true := by rw [beq_iff_eq]; omega
                  clear h3 h5 h6 h4
                  clear HC2
                  go_wp2_with fail
                  first | exact ⟨⟨k + 1, nB, nE, nI, nL + 1, nP + 1, by omega, by go_num, by go_num, by go_num, by go_num, by go_num, by go_num, by omega, Lib.hid (HC4.out hp2.out), HBx⟩, by simp [intOf]; omega⟩ | exact ⟨⟨k + 1, nB, nE, nI, nL + 1, nP, by omega, by go_num, by go_num, by go_num, by go_num, by go_num, by go_num, by omega, Lib.hid (HC5.out hp2.out), HBx⟩, by simp [intOf]; omega⟩
                · skip
                  have HC4 := Lib.hid (fun (hq : np ≠ 0) => (show nB = Nd.cB (tl.take (k + 1)) ∧ nE = Nd.cE (tl.take (k + 1)) ∧ nI = Nd.cI (tl.take (k + 1)) ∧ nL = Nd.cL (tl.take (k + 1)) ∧ nP + 1 = Nd.cP (tl.take (k + 1)) from by obtain ⟨g1, g2, g3, g4, g5⟩ := HC2.out; rw [if_neg (by omega)] at g1; rw [if_neg (by omega)] at g2; rw [if_neg (by omega)] at g3; rw [if_neg (by omega)] at g4; rw [if_pos hq] at g5; omega))
                  have HC5 := Lib.hid (fun (hq : ¬ np ≠ 0) => (show nB = Nd.cB (tl.take (k + 1)) ∧ nE = Nd.cE (tl.take (k + 1)) ∧ nI = Nd.cI (tl.take (k + 1)) ∧ nL = Nd.cL (tl.take (k + 1)) ∧ nP = Nd.cP (tl.take (k + 1)) from by obtain ⟨g1, g2, g3, g4, g5⟩ := HC2.out; rw [if_neg (by omega)] at g1; rw [if_neg (by omega)] at g2; rw [if_neg (by omega)] at g3; rw [if_neg (by omega)] at g4; rw [if_neg hq] at g5; omega))
                  have q3 : ((kd : Int) == 3) = false := beq_eq_false_iff_ne.2 (by omega)
                  have q5 : ((kd : Int) == 5) = false := beq_eq_false_iff_ne.2 (by omega)
                  have q6 : ((kd : Int) == 6) = false := beq_eq_false_iff_ne.2 (by omega)
                  have q4 : ((kd : Int) == 4) = false := beq_eq_false_iff_ne.2 (by omega)
                  clear h3 h5 h6 h4
                  clear HC2
                  go_wp2_with fail
                  first | exact ⟨⟨k + 1, nB, nE, nI, nL, nP + 1, by omega, by go_num, by go_num, by go_num, by go_num, by go_num, by go_num, by omega, Lib.hid (HC4.out hp2.out), HBx⟩, by simp [intOf]; omega⟩ | exact ⟨⟨k + 1, nB, nE, nI, nL, nP, by omega, by go_num, by go_num, by go_num, by go_num, by go_num, by go_num, by omega, Lib.hid (HC5.out hp2.out), HBx⟩, by simp [intOf]; omega⟩
      · obtain rfl : k = n := by omega
        have hc := HC.out
        rw [Hn.out, List.take_length] at hc
        obtain ⟨h1, h2, h3, h4, h5⟩ := hc
        have z1 : nB = nE := by rw [h1, h2]; exact HBE.out
        have z2 : nL ≤ nI := by rw [h3, h4]; exact HLI.out
        have z3 : wl = nP := by rw [h5]; exact Hws.out
        subst z1
        subst z3
        have z4 : (nL : Int) ≤ (nI : Int) := by omega
        clear h1 h2 h3 h4 h5 HC z2
        have HB9 := Lib.hid (B4.out.trans (HB.out.mono B4.out.size))
        go_wp2_with fail
        go_ret
        exact ⟨rfl, HB9.out⟩
  · have q0 : (cm != 0) = true := by rw [bne_iff_ne]; exact hcm
    clear HO CT CW hcm
    go_wp2_with fail
    go_ret
    exact ⟨rfl, B2.out⟩
end Go.Proofs.YtokbmfolbgcfcaaGreatDoor
