
/-
  The walks of the document's answer for nodes: leaf and right. Condition: lists are of a size that a machine holds.
-/
import Derived.Test.YteiccjakaabfnaaGreatDoorZ36
namespace Go.Proofs.YteiccjakaabfnaaGreatDoor
open Go.RowKit

def Nd.leafB (k ts np nk ne : Nat) : Bool := if k = 1 then decide (np + nk + ne = 0) else if k = 2 then decide (ts = 0) && decide (nk + ne = 0) else if k = 3 then decide (ts = 0) else if k = 5 then decide (ts = 0) && decide (ne = 0) else false
theorem Nd.leafB_eq (n : Nd.N) : Nd.leafR n = Nd.leafB n.kind n.text.size n.path.length n.kids.length n.els.length := by
  unfold Nd.leafR Nd.leafB
  split
  · rename_i h; rw [if_pos h]
  · rename_i h; rw [h]; rfl
  · rename_i h; rw [h]; rfl
  · rename_i h; rw [h]; rfl
  · rename_i h1 h2 h3 h5
    rw [if_neg h1, if_neg h2, if_neg h3, if_neg h5]
theorem Nd.text_nil {t : ByteArray} (h : t.size = 0) : t = ⟨#[]⟩ := by
  obtain ⟨d⟩ := t
  have : d = #[] := Array.size_eq_zero_iff.1 h
  rw [this]
theorem Nd.text_ne {t : ByteArray} (h : ¬ t.size = 0) : t.toList.isEmpty = false ∧ ¬ t.toList = [] := by
  have e : ¬ t.toList = [] := fun e => h (by
    rw [Wp.size_len, ← Lib.toList_data, e]
    rfl)
  exact ⟨by cases h2 : t.toList with | nil => exact absurd h2 e | cons a b => rfl, e⟩
set_option maxRecDepth 100000 in
set_option maxHeartbeats 2000000 in
theorem refLeaf11_any (k : Nat) (t : ByteArray) (pp : Option Addr) (np cp : Nat) (pk : Option Addr) (nk ck : Nat) (pe : Option Addr) (ne ce : Nat) (w : World) (h1 : np ≤ 140737488351232) (h2 : nk ≤ 140737488351232) (h3 : ne ≤ 140737488351232) :
    Calls Tryz.prog 154 #[.agg #[.int .u8 k, .string t, .slice pp np cp, .slice pk nk ck, .slice pe ne ce]] w fun e w' => e = .returned (.bool (Nd.leafB k t.size np nk ne)) ∧ Below w.heap.size w w' := by
  by_cases k1 : k = 1
  · subst k1
    have Hl := Lib.hid (show Nd.leafB 1 t.size np nk ne = decide (np + nk + ne = 0) from rfl)
    generalize Nd.leafB 1 t.size np nk ne = r at *
    go_enter Tryz.func154, Tryz.ntmps154
    go_wp2_with fail
    all_goals (go_ret; refine ⟨congrArg (fun b => Ending.returned (Value.bool b)) ?_, (Below.refl _ _).alloc (Nat.le_refl _) _⟩; rw [Hl.out]; (rw [Bool.eq_iff_iff]; first | (simp; done) | (simp; omega) | (simp_all; done) | (trace_state; fail)))
  by_cases k2 : k = 2
  · subst k2
    by_cases ht : t.size = 0
    · obtain rfl := Nd.text_nil ht
      have Hl := Lib.hid (show Nd.leafB 2 (ByteArray.size ⟨#[]⟩) np nk ne = decide (nk + ne = 0) from rfl)
      generalize Nd.leafB 2 (ByteArray.size ⟨#[]⟩) np nk ne = r at *
      clear ht
      go_enter Tryz.func154, Tryz.ntmps154
      go_wp2_with fail
      all_goals (go_ret; refine ⟨congrArg (fun b => Ending.returned (Value.bool b)) ?_, (Below.refl _ _).alloc (Nat.le_refl _) _⟩; rw [Hl.out]; (rw [Bool.eq_iff_iff]; first | (simp; done) | (simp; omega) | (simp_all; done) | (trace_state; fail)))
    · obtain ⟨q, q'⟩ := Nd.text_ne ht
      have Hl := Lib.hid (show Nd.leafB 2 t.size np nk ne = false by unfold Nd.leafB; rw [decide_eq_false ht]; rfl)
      generalize Nd.leafB 2 t.size np nk ne = r at *
      clear ht
      go_enter Tryz.func154, Tryz.ntmps154
      go_wp2_with fail
      all_goals (go_ret; refine ⟨congrArg (fun b => Ending.returned (Value.bool b)) ?_, (Below.refl _ _).alloc (Nat.le_refl _) _⟩; rw [Hl.out]; (first | rfl | (simp [q, q']; done) | (simp_all; done) | skip))
  by_cases k3 : k = 3
  · subst k3
    by_cases ht : t.size = 0
    · obtain rfl := Nd.text_nil ht
      clear ht
      go_enter Tryz.func154, Tryz.ntmps154
      go_wp2_with fail
      go_ret
      exact ⟨rfl, (Below.refl _ _).alloc (Nat.le_refl _) _⟩
    · obtain ⟨q, q'⟩ := Nd.text_ne ht
      have Hl := Lib.hid (show Nd.leafB 3 t.size np nk ne = false by unfold Nd.leafB; rw [decide_eq_false ht]; rfl)
      generalize Nd.leafB 3 t.size np nk ne = r at *
      clear ht
      go_enter Tryz.func154, Tryz.ntmps154
      go_wp2_with fail
      all_goals (go_ret; refine ⟨congrArg (fun b => Ending.returned (Value.bool b)) ?_, (Below.refl _ _).alloc (Nat.le_refl _) _⟩; rw [Hl.out]; (first | rfl | (simp [q, q']; done) | (simp_all; done) | skip))
  by_cases k5 : k = 5
  · subst k5
    by_cases ht : t.size = 0
    · obtain rfl := Nd.text_nil ht
      have Hl := Lib.hid (show Nd.leafB 5 (ByteArray.size ⟨#[]⟩) np nk ne = decide (ne = 0) from rfl)
      generalize Nd.leafB 5 (ByteArray.size ⟨#[]⟩) np nk ne = r at *
      clear ht
      go_enter Tryz.func154, Tryz.ntmps154
      go_wp2_with fail
      all_goals (go_ret; refine ⟨congrArg (fun b => Ending.returned (Value.bool b)) ?_, (Below.refl _ _).alloc (Nat.le_refl _) _⟩; rw [Hl.out]; (rw [Bool.eq_iff_iff]; first | (simp; done) | (simp; omega) | (simp_all; done) | (trace_state; fail)))
    · obtain ⟨q, q'⟩ := Nd.text_ne ht
      have Hl := Lib.hid (show Nd.leafB 5 t.size np nk ne = false by unfold Nd.leafB; rw [decide_eq_false ht]; rfl)
      generalize Nd.leafB 5 t.size np nk ne = r at *
      clear ht
      go_enter Tryz.func154, Tryz.ntmps154
      go_wp2_with fail
      all_goals (go_ret; refine ⟨congrArg (fun b => Ending.returned (Value.bool b)) ?_, (Below.refl _ _).alloc (Nat.le_refl _) _⟩; rw [Hl.out]; (first | rfl | (simp [q, q']; done) | (simp_all; done) | skip))
  have Hl : Nd.leafB k t.size np nk ne = false := by unfold Nd.leafB; rw [if_neg k1, if_neg k2, if_neg k3, if_neg k5]
  rw [Hl]
  have q1 : ((k : Int) == 1) = false := beq_eq_false_iff_ne.2 (by omega)
  have q2 : ((k : Int) == 2) = false := beq_eq_false_iff_ne.2 (by omega)
  have q3 : ((k : Int) == 3) = false := beq_eq_false_iff_ne.2 (by omega)
  have q5 : ((k : Int) == 5) = false := beq_eq_false_iff_ne.2 (by omega)
  go_enter Tryz.func154, Tryz.ntmps154
  go_wp2_with fail
  go_ret
  exact ⟨rfl, (Below.refl _ _).alloc (Nat.le_refl _) _⟩
/-- How many, and whether right: what right hands back. -/
def Nd.RPost (R : Nat × Bool) (w : World) (e : Ending) (w' : World) : Prop := e = .returned (.tuple #[.int .i64 (R.1 : Nat), .bool R.2]) ∧ Below w.heap.size w w'
theorem Nd.rgt_le (d : Nat) (l : List Nd.N) : (Nd.rgt d l).1 ≤ 256 := by
  rw [Nd.rgt_eq]
  split
  · rename_i h
    rw [Bool.and_eq_true, decide_eq_true_eq] at h
    exact h.2
  · exact Nat.zero_le _
set_option maxRecDepth 100000 in
theorem refRight_zero (l : List Nd.N) (q : Option Addr) (c : Nat) (w : World) (hn : l.length ≤ 140737488351232) :
    Calls Tryz.prog 95 #[.slice q l.length c, .int .i64 (0 : Nat)] w (Nd.RPost (Nd.rgt 0 l) w) := by
  by_cases h0 : l.length = 0
  · rw [Nd.rgt, if_pos h0, h0]
    clear h0 hn
    go_enter Tryz.func95, Tryz.ntmps95
    go_wp2_with fail
    go_loopw [6, 8, 9, 10, 11, 12, 22] (fun t6 _ _ _ _ _ t wr => t6 = .int .i64 0 ∧ t = .int .i64 0 ∧ wr = w) (fun _ _ _ _ _ _ _ _ => 0)
    case atStart => exact ⟨rfl, rfl, rfl⟩
    case round =>
      obtain ⟨rfl, rfl, rfl⟩ := hrel
      go_wp2_with fail
      go_ret2
      exact ⟨rfl, Below.refl _ _⟩
  · rw [Nd.rgt, if_neg h0]
    have hp : (0 : Int) < (l.length : Int) := by omega
    generalize l.length = n at *
    clear h0
    go_enter Tryz.func95, Tryz.ntmps95
    go_wp2_with fail
    go_ret2
    exact ⟨rfl, Below.refl _ _⟩
set_option maxRecDepth 100000 in
set_option maxHeartbeats 4000000 in
theorem refRight_step (d : Nat) (l : List Nd.N) (q : Option Addr) (c : Nat) (w0 w : World) (hd : d ≤ 8) (hn : l.length ≤ 140737488351232) (hA : Nd.Row w0 q l) (hB : Below w0.heap.size w0 w)
    (ih : ∀ (l' : List Nd.N) (q' : Option Addr) (c' : Nat) (W : World), l'.length ≤ 140737488351232 → Nd.Row w0 q' l' → Below w0.heap.size w0 W → Calls Tryz.prog 95 #[.slice q' l'.length c', .int .i64 (d : Nat)] W (Nd.RPost (Nd.rgt d l') W)) :
    Calls Tryz.prog 95 #[.slice q l.length c, .int .i64 ((d : Int) + 1)] w (Nd.RPost (Nd.rgt (d + 1) l) w) := by
  have HA := Lib.hid hA
  have HB := Lib.hid hB
  have Hih := Lib.hid ih
  have HR0 : Hid (Nd.rgtAll (Nd.rgt d) (l.drop 0) 0 = Nd.rgt (d + 1) l) := Lib.hid (by rw [List.drop_zero, Nd.rgt])
  have Hend : Hid (∀ m, Nd.rgtAll (Nd.rgt d) (l.drop l.length) m = (m, true)) := Lib.hid (fun m => by rw [List.drop_length, Nd.rgtAll])
  have Hstep : Hid (∀ k (h : k < l.length) m, Nd.rgtAll (Nd.rgt d) (l.drop k) m = if (Nd.rgt d l[k].kids).2 = false ∨ (Nd.rgt d l[k].els).2 = false ∨ Nd.leafR l[k] = false ∨ 256 < m + (1 + (Nd.rgt d l[k].kids).1 + (Nd.rgt d l[k].els).1) then (0, false) else Nd.rgtAll (Nd.rgt d) (l.drop (k + 1)) (m + (1 + (Nd.rgt d l[k].kids).1 + (Nd.rgt d l[k].els).1))) := Lib.hid (fun k h m => by rw [List.drop_eq_getElem_cons h, Nd.rgtAll])
  have Hle := Lib.hid (Nd.rgt_le d)
  generalize Nd.rgt (d + 1) l = R at *
  generalize Nd.rgtAll (Nd.rgt d) = RA at *
  generalize Nd.rgt d = RG at *
  obtain ⟨n, hnl⟩ : ∃ n, n = l.length := ⟨_, rfl⟩
  have HN := Lib.hid hnl
  rw [← hnl] at hn ⊢
  have hwr : IntKind.i64.wrap ((d : Int) + 1 - 1) = (d : Int) := by rw [IntWalk.i64_in _ (by omega)]; omega
  have q0 : (((d : Int) + 1) == 0) = false := beq_eq_false_iff_ne.2 (by omega)
  clear hA hB ih hnl
  by_cases hz : n = 0
  · subst hz
    have E := Hend.out 0
    rw [← HN.out, HR0.out] at E
    subst E
    go_enter Tryz.func95, Tryz.ntmps95
    go_wp2_with fail
    go_loopw [6, 8, 9, 10, 11, 12, 22] (fun t6 _ _ _ _ _ t wr => t6 = .int .i64 0 ∧ t = .int .i64 0 ∧ wr = w) (fun _ _ _ _ _ _ _ _ => 0)
    case atStart => exact ⟨rfl, rfl, rfl⟩
    case round =>
      obtain ⟨rfl, rfl, rfl⟩ := hrel
      go_wp2_with fail
      go_ret2
      exact ⟨rfl, Below.refl _ _⟩
  have hp : (0 : Int) < (n : Int) := by omega
  go_enter Tryz.func95, Tryz.ntmps95
  go_wp2_with fail
  go_loopw [6, 8, 9, 10, 11, 12, 22] (fun t6 _ _ _ _ _ t wr => ∃ k m : Nat, k ≤ n ∧ t = .int .i64 k ∧ t6 = .int .i64 m ∧ m ≤ 256 ∧ Hid (RA (l.drop k) m = R) ∧ Hid (Below w.heap.size w wr)) (fun _ _ _ _ _ _ t _ => n - (intOf t).toNat)
  case atStart => exact ⟨0, 0, Nat.zero_le _, rfl, rfl, Nat.zero_le _, HR0, Lib.hid (Below.refl _ _)⟩
  case round =>
    obtain ⟨k, m, hk, rfl, rfl, hm, HR, HBw⟩ := hrel
    by_cases hlt : k < n
    · have hkl : k < l.length := by rw [← HN.out]; exact hlt
      have hBr := HB.out.trans (HBw.out.mono HB.out.size)
      have HBr := Lib.hid hBr
      obtain ⟨b, off, pp, cp, pk, ck, pe, ce, rfl, h5, hf, hp, hrk, hre⟩ := HA.out.get k hkl
      obtain ⟨e0, e1, e2, e3, e4⟩ := h5.below hBr
      have hst := Hstep.out k hkl m
      rw [HR.out] at hst
      obtain ⟨x, hx⟩ : ∃ x, x = l[k] := ⟨_, rfl⟩
      rw [← hx] at e0 e1 e2 e3 e4 hst hf hrk hre
      rw [Nd.leafB_eq] at hst
      obtain ⟨-, -, f3, f4, f5, -, -, -, -⟩ := hf
      have C1 := Lib.hid (fun W h => Hih.out x.kids pk ck W f4 hrk h)
      have C2 := Lib.hid (fun W h => Hih.out x.els pe ce W f5 hre h)
      have CL := Lib.hid (fun W => refLeaf11_any x.kind x.text pp x.path.length cp pk x.kids.length ck pe x.els.length ce W f3 f4 f5)
      have L1 := Hle.out x.kids
      have L2 := Hle.out x.els
      have HX1 := Lib.hid ((Below.refl wr.heap.size wr).alloc (Nat.le_refl _) (.cells #[.int .u8 (x.kind : Nat), .string x.text, .slice pp x.path.length cp, .slice pk x.kids.length ck, .slice pe x.els.length ce] 37))
      have HV := Lib.hid (Vl.new wr (.cells #[.int .u8 (x.kind : Nat), .string x.text, .slice pp x.path.length cp, .slice pk x.kids.length ck, .slice pe x.els.length ce] 37))
      generalize RG x.kids = K1 at *
      generalize RG x.els = K2 at *
      obtain ⟨a1, b1⟩ := K1
      obtain ⟨a2, b2⟩ := K2
      simp only at hst L1 L2
      generalize Nd.leafB x.kind x.text.size x.path.length x.kids.length x.els.length = lf at *
      generalize x.kids.length = nk at *
      generalize x.els.length = ne at *
      generalize x.path.length = np at *
      generalize x.kind = kd at *
      generalize x.text = tx at *
      have Hst := Lib.hid hst
      have B0 := Lib.hid (HBr.out.trans (HX1.out.mono HBr.out.size))
      have B0w := Lib.hid (HBw.out.trans (HX1.out.mono HBw.out.size))
      clear hst hp hrk hre hBr HBr HX1 h5 HBw hx hkl
      obtain ⟨v0, v1, v2, v3, v4⟩ := Vl.five_of HV.out
      go_wp2_with fail
      refine (C1.out _ B0.out).mono ?_
      rintro e w1 ⟨rfl, hb1⟩
      have B1 := Lib.hid (B0.out.trans (hb1.mono B0.out.size))
      have B1w := Lib.hid (B0w.out.trans (hb1.mono B0w.out.size))
      have HV1 := Lib.hid ((hb1.block _ (Array.getElem?_eq_some_iff.1 HV.out).1).trans HV.out)
      clear v0 v1 v2 v3 v4 e0 e1 e2 e3 e4 hb1 HV B0 B0w C1
      obtain ⟨v0, v1, v2, v3, v4⟩ := Vl.five_of HV1.out
      go_wp2_with fail
      refine (C2.out _ B1.out).mono ?_
      rintro e w2 ⟨rfl, hb2⟩
      have B2 := Lib.hid (B1.out.trans (hb2.mono B1.out.size))
      have B2w := Lib.hid (B1w.out.trans (hb2.mono B1w.out.size))
      have HV2 := Lib.hid ((hb2.block _ (Array.getElem?_eq_some_iff.1 HV1.out).1).trans HV1.out)
      clear v0 v1 v2 v3 v4 hb2 HV1 B1 B1w C2
      obtain ⟨v0, v1, v2, v3, v4⟩ := Vl.five_of HV2.out
      obtain ⟨s1, hs1⟩ : ∃ s, s = 1 + a1 := ⟨_, rfl⟩
      obtain ⟨s2, hs2⟩ : ∃ s, s = s1 + a2 := ⟨_, rfl⟩
      obtain ⟨s3, hs3⟩ : ∃ s, s = m + s2 := ⟨_, rfl⟩
      have hst := Hst.out
      rw [← hs1, ← hs2, ← hs3] at hst
      have hw1 : IntKind.i64.wrap (1 + (a1 : Int)) = (s1 : Int) := by rw [IntWalk.i64_in _ (by omega)]; omega
      have hw2 : IntKind.i64.wrap ((s1 : Int) + (a2 : Int)) = (s2 : Int) := by rw [IntWalk.i64_in _ (by omega)]; omega
      have hw3 : IntKind.i64.wrap ((m : Int) + (s2 : Int)) = (s3 : Int) := by rw [IntWalk.i64_in _ (by omega)]; omega
      have HSt := Lib.hid hst
      clear Hst hst hs1 hs2 hs3 L1 L2
      cases b1 with
      | false =>
        have hst := HSt.out
        rw [if_pos (Or.inl rfl)] at hst
        subst hst
        go_wp2_with fail
        go_ret2
        exact ⟨rfl, B2w.out⟩
      | true =>
        cases b2 with
        | false =>
          have hst := HSt.out
          rw [if_pos (Or.inr (Or.inl rfl))] at hst
          subst hst
          go_wp2_with fail
          go_ret2
          exact ⟨rfl, B2w.out⟩
        | true =>
          go_wp2_with fail
          refine (CL.out _).mono ?_
          rintro e w3 ⟨rfl, hb3⟩
          have B3w := Lib.hid (B2w.out.trans (hb3.mono B2w.out.size))
          clear hb3 CL B2 B2w v0 v1 v2 v3 v4 HV2
          cases lf with
          | false =>
            have hst := HSt.out
            rw [if_pos (Or.inr (Or.inr (Or.inl rfl)))] at hst
            subst hst
            go_wp2_with fail
            go_ret2
            exact ⟨rfl, B3w.out⟩
          | true =>
            by_cases h256 : 256 < s3
            · have hst := HSt.out
              rw [if_pos (Or.inr (Or.inr (Or.inr h256)))] at hst
              subst hst
              have q5 : (256 : Int) < (s3 : Int) := by omega
              go_wp2_with fail
              go_ret2
              exact ⟨rfl, B3w.out⟩
            · have hst := HSt.out
              rw [if_neg (by simp [h256])] at hst
              have HS := Lib.hid hst
              have q5 : ¬ (256 : Int) < (s3 : Int) := by omega
              clear hst
              go_wp2_with fail
              exact ⟨⟨k + 1, s3, by omega, by go_num, rfl, by omega, Lib.hid HS.out.symm, B3w⟩, by simp [intOf]; omega⟩
    · obtain rfl : k = n := by omega
      have E := Hend.out m
      rw [← HN.out, HR.out] at E
      subst E
      go_wp2_with fail
      go_ret2
      exact ⟨rfl, HBw.out⟩
theorem refRight_any : ∀ (d : Nat) (l : List Nd.N) (q : Option Addr) (c : Nat) (w0 w : World), d ≤ 8 → l.length ≤ 140737488351232 → Nd.Row w0 q l → Below w0.heap.size w0 w →
    Calls Tryz.prog 95 #[.slice q l.length c, .int .i64 (d : Nat)] w (Nd.RPost (Nd.rgt d l) w)
  | 0, l, q, c, w0, w, _, hn, _, _ => refRight_zero l q c w hn
  | d + 1, l, q, c, w0, w, hd, hn, hA, hB => by
    have h := refRight_step d l q c w0 w (by omega) hn hA hB (fun l' q' c' W h1 h2 h3 => refRight_any d l' q' c' w0 W (by omega) h1 h2 h3)
    rw [show ((d : Int) + 1) = ((d + 1 : Nat) : Int) by omega] at h
    exact h
end Go.Proofs.YteiccjakaabfnaaGreatDoor
