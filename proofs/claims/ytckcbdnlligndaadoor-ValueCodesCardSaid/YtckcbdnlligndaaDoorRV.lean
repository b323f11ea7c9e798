/-
  The walk of the document's own names (bellmanref09.Named, Name). Condition: a text is of a size that a machine holds.
  The walk of the document's own leaf (bellmanref09.leaf): what a value by itself is to have. Condition: a value's texts and lists are of a size that a machine holds.
  The walk of the document's own right and Check (bellmanref09.right, Check). Condition: a value's texts and lists are of a size that a machine holds.
  The walks of the document's own Check and Holds (bellmanref09.Check, Holds). Condition: a value's texts and lists are of a size that a machine holds.
-/
import Derived.Test.YtckcbdnlligndaaDoorVlAt
import Derived.Test.YtckcbdnlligndaaDoorVlCheck
import Derived.BigQuiet
import Derived.Test.YtckcbdnlligndaaDoorVlFind
import Derived.Test.YtckcbdnlligndaaDoorVlShow
namespace Go.Proofs.YtckcbdnlligndaaDoor
open Go.RowKit

theorem Vl.all_fol (s : ByteArray) (k : Nat) (h : k < s.size) (hf : Vl.fol s[k] = false) : Vl.named s = false := by
  unfold Vl.named Vl.nameL
  have : s.data.toList.all Vl.fol = false := by
    rw [List.all_eq_false]
    refine ⟨s[k], ?_, by rw [hf]; simp⟩
    have hl := Wp.size_len s
    have e : s.data.toList[k]? = some s[k] := by
      rw [Array.getElem?_toList, Array.getElem?_eq_getElem (by exact h)]
      rfl
    exact List.mem_of_getElem? e
  rw [this, Bool.and_false]
set_option maxHeartbeats 1000000 in
set_option maxRecDepth 100000 in
theorem refNamed_any (s : ByteArray) (w : World) (hb : s.size ≤ 9223372036854775807) :
    Calls Tryd.prog 42 #[.string s] w fun e w' => e = .returned (.bool (Vl.named s)) ∧ w' = w := by
  have hlen := Wp.size_len s
  have Hfol := Lib.hid (fun k (h : k < s.size) => Vl.all_fol s k h)
  have Hbad0 := Lib.hid (fun (h : 0 < s.size) (h2 : Vl.low s[0] = false) => (show Vl.named s = false by
    unfold Vl.named Vl.nameL
    rw [Vl.head_get s h, h2, Bool.and_false, Bool.false_and]))
  have Hnil := Lib.hid (fun (h : s.size = 0) => (show Vl.named s = false by
    have : s.data.toList = [] := List.length_eq_zero_iff.1 (by omega)
    unfold Vl.named Vl.nameL
    rw [this]
    rfl))
  have Hlong := Lib.hid (fun (h : 32 < s.size) => (show Vl.named s = false by
    unfold Vl.named Vl.nameL
    rw [decide_eq_false (show ¬ s.data.toList.length ≤ 32 by omega)]
    rfl))
  have Hok := Lib.hid (fun (h : s.size ≤ 32) (h1 : Vl.headLow s.data.toList = true) (h2 : s.data.toList.all Vl.fol = true) => (show Vl.named s = true by
    unfold Vl.named Vl.nameL
    rw [h1, h2, decide_eq_true (by omega)]
    rfl))
  have Hlen := Lib.hid hlen
  generalize Vl.named s = r at *
  clear hlen
  go_enter Tryd.func42, Tryd.ntmps42
  go_wp2_with fail
  go_loop [3] (fun i => ∃ k : Nat, k ≤ s.size ∧ i = .int .i64 k ∧ (s.data.toList.take k).all Vl.fol = true ∧ (0 < k → Vl.headLow s.data.toList = true)) (fun i => s.size - (intOf i).toNat)
  case atStart => exact ⟨0, Nat.zero_le _, rfl, rfl, fun h => absurd h (Nat.lt_irrefl 0)⟩
  case round =>
    obtain ⟨k, hk, rfl, hall, hhd⟩ := hrel
    by_cases hlt : k < s.size
    · have hsn := Vl.all_snoc s k hlt hall
      have Hsn := Lib.hid hsn
      have hbl := s[k].toNat_lt
      have Hhd := Lib.hid (fun (h : Vl.low s[k] = true ∨ 0 < k) => (show Vl.headLow s.data.toList = true by
        by_cases h0 : 0 < k
        · exact hhd h0
        · obtain rfl : k = 0 := by omega
          rw [Vl.head_get s hlt]
          exact h.resolve_right h0))
      have Hf := Lib.hid (show Vl.fol s[k] = ((decide (97 ≤ s[k].toNat) && decide (s[k].toNat ≤ 122)) || (decide (48 ≤ s[k].toNat) && decide (s[k].toNat ≤ 57)) || s[k] == 95) from rfl)
      have Hl := Lib.hid (Vl.low_eq s[k])
      have H0 := Lib.hid (fun (h : k = 0) (h2 : Vl.low s[k] = false) => (show r = false by subst h; exact Hbad0.out hlt h2))
      have HB := Lib.hid (Hfol.out k hlt)
      have Heq : Hid ((s[k] == 95) = decide (s[k].toNat = 95)) := Lib.hid (by
        rw [Bool.eq_iff_iff, beq_iff_eq, decide_eq_true_eq]
        exact ⟨fun h => by rw [h]; rfl, fun h => UInt8.toNat_inj.1 h⟩)
      clear hsn hall hhd Hfol Hbad0 Hnil Hlong Hok Hlen
      generalize Vl.low s[k] = lw at *
      generalize Vl.fol s[k] = fl at *
      generalize (s[k] == 95) = ninefive at *
      generalize hc : s[k].toNat = c at *
      have Hc := Lib.hid hc
      clear hc
      by_cases ha : 97 ≤ c
      · by_cases hz : c ≤ 122
        · have hfl : fl = true := by rw [Hf.out, decide_eq_true ha, decide_eq_true hz]; rfl
          have hlw : lw = true := by rw [Hl.out, decide_eq_true ha, decide_eq_true hz]; rfl
          have Hs2 := Lib.hid (Hsn.out.trans hfl)
          have Hh2 := Lib.hid (Hhd.out (Or.inl hlw))
          clear hfl hlw Hsn Hhd Hf Hl H0 HB Heq
          have hcv := Hc.out
          by_cases hk0 : k = 0
          · subst hk0
            go_wp2_with fail
            refine ⟨⟨0 + 1, by omega, by go_num, Hs2.out, fun _ => Hh2.out⟩, by simp [intOf]; omega⟩
          · have hkn : ((k : Int) == 0) = false := beq_eq_false_iff_ne.2 (by omega)
            go_wp2_with fail
            refine ⟨⟨k + 1, by omega, by go_num, Hs2.out, fun _ => Hh2.out⟩, by simp [intOf]; omega⟩
        · have hfl : fl = false := by rw [Hf.out, decide_eq_false hz, decide_eq_false (show ¬ c ≤ 57 by omega), Heq.out, decide_eq_false (show ¬ c = 95 by omega)]; simp
          obtain rfl := HB.out hfl
          have hne : ((c : Int) != 95) = true := by rw [bne_iff_ne]; omega
          have hdz : decide ((c : Int) ≤ 122) = false := decide_eq_false (by omega)
          clear hfl Hsn Hhd Hf Hl H0 HB Heq
          have hcv := Hc.out
          by_cases hk0 : k = 0
          · subst hk0
            go_wp2_with fail
            go_ret
            exact ⟨rfl, rfl⟩
          · have hkn : ((k : Int) == 0) = false := beq_eq_false_iff_ne.2 (by omega)
            go_wp2_with fail
            go_ret
            exact ⟨rfl, rfl⟩
      · have hlw : lw = false := by rw [Hl.out, decide_eq_false ha]; rfl
        by_cases hk0 : k = 0
        · obtain rfl := H0.out hk0 hlw
          subst hk0
          clear hlw Hsn Hhd Hf Hl H0 HB Heq
          have hcv := Hc.out
          go_wp2_with fail
          go_ret
          exact ⟨rfl, rfl⟩
        · have hkn : ((k : Int) == 0) = false := beq_eq_false_iff_ne.2 (by omega)
          have Hh2 := Lib.hid (Hhd.out (Or.inr (by omega)))
          by_cases h95 : c = 95
          · have hfl : fl = true := by rw [Hf.out, Heq.out, decide_eq_true h95]; simp
            have hne : ((c : Int) != 95) = false := by rw [h95]; rfl
            have Hs2 := Lib.hid (Hsn.out.trans hfl)
            clear hfl hlw Hsn Hhd Hf Hl H0 HB Heq
            have hcv := Hc.out
            go_wp2_with fail
            refine ⟨⟨k + 1, by omega, by go_num, Hs2.out, fun _ => Hh2.out⟩, by simp [intOf]; omega⟩
          · have hne : ((c : Int) != 95) = true := by rw [bne_iff_ne]; omega
            by_cases h48 : 48 ≤ c
            · by_cases h57 : c ≤ 57
              · have hfl : fl = true := by rw [Hf.out, decide_eq_true h48, decide_eq_true h57]; simp
                have Hs2 := Lib.hid (Hsn.out.trans hfl)
                clear hfl hlw Hsn Hhd Hf Hl H0 HB Heq
                have hcv := Hc.out
                go_wp2_with fail
                refine ⟨⟨k + 1, by omega, by go_num, Hs2.out, fun _ => Hh2.out⟩, by simp [intOf]; omega⟩
              · have hfl : fl = false := by rw [Hf.out, decide_eq_false ha, decide_eq_false h57, Heq.out, decide_eq_false h95]; simp
                obtain rfl := HB.out hfl
                clear hfl hlw Hsn Hhd Hf Hl H0 HB Heq Hh2
                have hcv := Hc.out
                go_wp2_with fail
                go_ret
                exact ⟨rfl, rfl⟩
            · have hfl : fl = false := by rw [Hf.out, decide_eq_false ha, decide_eq_false h48, Heq.out, decide_eq_false h95]; simp
              obtain rfl := HB.out hfl
              clear hfl hlw Hsn Hhd Hf Hl H0 HB Heq Hh2
              have hcv := Hc.out
              go_wp2_with fail
              go_ret
              exact ⟨rfl, rfl⟩
    · obtain rfl : k = s.size := by omega
      rw [show s.size = s.data.toList.length from Hlen.out, List.take_length] at hall
      by_cases h0 : s.size = 0
      · obtain rfl := Hnil.out h0
        have he : (s.toList == []) = true := by rw [Vl.empty_eq, decide_eq_true h0]
        have hn : (s.toList != []) = false := by rw [bne, he]; rfl
        clear hall hhd Hfol Hbad0 Hnil Hlong Hok h0
        go_wp2_with fail
        go_ret
        exact ⟨rfl, rfl⟩
      · have he : (s.toList == []) = false := by rw [Vl.empty_eq, decide_eq_false h0]
        have hn : (s.toList != []) = true := by rw [bne, he]; rfl
        by_cases h32 : 32 < s.size
        · obtain rfl := Hlong.out h32
          clear hall hhd Hfol Hbad0 Hnil Hlong Hok
          go_wp2_with fail
          go_ret
          refine ⟨?_, rfl⟩
          simp
          omega
        · obtain rfl := Hok.out (by omega) (hhd (by omega)) hall
          clear hall hhd Hfol Hbad0 Hnil Hlong Hok
          go_wp2_with fail
          go_ret
          refine ⟨?_, rfl⟩
          simp
          omega
end Go.Proofs.YtckcbdnlligndaaDoor
namespace Go.Proofs.YtckcbdnlligndaaDoor
open Go.RowKit

theorem Vl.below_drews {B : Nat} {a w : World} (h : Below B a w) (q : Nat) : Below B a (w.drewN q) := by
  induction q with
  | zero => exact h
  | succ q ih => exact ih.drew
theorem Vl.up_named {x : ByteArray} (h : Vl.named x = true) : Vl.upB ⟨#[]⟩ x = true := by
  have h0 : ¬ x.size = 0 := fun h0 => by
    have : x.data.toList = [] := List.length_eq_zero_iff.1 (by rw [← Wp.size_len]; exact h0)
    unfold Vl.named Vl.nameL at h
    rw [this] at h
    cases h
  unfold Vl.upB
  have e : (⟨#[]⟩ : ByteArray).toList = [] := by rw [Lib.toList_data]
  rw [e]
  have h1 : (x.toList == []) = false := by rw [Vl.empty_eq, decide_eq_false h0]
  rw [h1]
  cases x.toList <;> rfl
set_option maxHeartbeats 2000000 in
set_option maxRecDepth 100000 in
theorem refLeaf_any (k : Nat) (t : ByteArray) (i : Int) (pi : Option Addr) (ni ci : Nat) (pn : Option Addr) (cn : Nat) (l : List ByteArray) (w : World) (hk : k ≤ 255) (ht : t.size ≤ 140737488351232) (hi : Wp.I64 i)
    (hm : l.length ≤ 140737488351232) (hs : ∀ s ∈ l, s.size ≤ 140737488351232) (hA : Wp.At Wp.mkT w pn l) :
    Calls Tryd.prog 104 #[.agg #[.int .u8 k, .string t, .int .i64 i, .slice pi ni ci, .slice pn l.length cn]] w fun e w' => e = .returned (.bool (Vl.leafC k t i ni l)) ∧ Below w.heap.size w w' := by
  have HA := Lib.hid hA
  have HS := Lib.hid hs
  clear hA hs
  have hte := Vl.empty_eq t
  obtain ⟨hi1, hi2⟩ := hi
  by_cases h1 : k = 1
  · subst h1
    have Hl := Lib.hid (show Vl.leafC 1 t i ni l = (decide (t.size ≤ 4096) && decide (i = 0) && decide (ni = 0) && decide (l.length = 0)) from rfl)
    generalize Vl.leafC 1 t i ni l = r at *
    generalize l.length = n at *
    clear HA HS hk
    by_cases h0 : t.size = 0
    · have he : (t.toList == []) = true := by rw [hte, decide_eq_true h0]
      clear hte
      go_enter Tryd.func104, Tryd.ntmps104
      go_wp2_with fail
      go_quiet (fail)
      go_wp2_with fail
      all_goals (go_ret; refine ⟨congrArg (fun b => Ending.returned (Value.bool b)) ?_, Vl.below_drews ((Below.refl _ _).alloc (Nat.le_refl _) _) _⟩; rw [Hl.out]; (rw [Bool.eq_iff_iff]; first | (simp; done) | (simp; omega) | (simp_all; done) | (trace_state; fail)))
    · have he : (t.toList == []) = false := by rw [hte, decide_eq_false h0]
      clear hte
      go_enter Tryd.func104, Tryd.ntmps104
      go_wp2_with fail
      go_quiet (fail)
      go_wp2_with fail
      all_goals (go_ret; refine ⟨congrArg (fun b => Ending.returned (Value.bool b)) ?_, Vl.below_drews ((Below.refl _ _).alloc (Nat.le_refl _) _) _⟩; rw [Hl.out]; (rw [Bool.eq_iff_iff]; first | (simp; done) | (simp; omega) | (simp_all; done) | (trace_state; fail)))
  by_cases h2 : k = 2
  · subst h2
    have Hl := Lib.hid (show Vl.leafC 2 t i ni l = (decide (t.size = 0) && decide (ni = 0) && decide (l.length = 0)) from rfl)
    generalize Vl.leafC 2 t i ni l = r at *
    generalize l.length = n at *
    clear HA HS hk
    by_cases h0 : t.size = 0
    · have he : (t.toList == []) = true := by rw [hte, decide_eq_true h0]
      clear hte
      go_enter Tryd.func104, Tryd.ntmps104
      go_wp2_with fail
      go_quiet (fail)
      go_wp2_with fail
      all_goals (go_ret; refine ⟨congrArg (fun b => Ending.returned (Value.bool b)) ?_, Vl.below_drews ((Below.refl _ _).alloc (Nat.le_refl _) _) _⟩; rw [Hl.out]; (rw [Bool.eq_iff_iff]; first | (simp; done) | (simp; omega) | (simp_all; done) | (trace_state; fail)))
    · have he : (t.toList == []) = false := by rw [hte, decide_eq_false h0]
      clear hte
      go_enter Tryd.func104, Tryd.ntmps104
      go_wp2_with fail
      go_quiet (fail)
      go_wp2_with fail
      all_goals (go_ret; refine ⟨congrArg (fun b => Ending.returned (Value.bool b)) ?_, Vl.below_drews ((Below.refl _ _).alloc (Nat.le_refl _) _) _⟩; rw [Hl.out]; (rw [Bool.eq_iff_iff]; first | (simp; done) | (simp; omega) | (simp_all; done) | (trace_state; fail)))
  by_cases h3 : k = 3
  · subst h3
    have Hl := Lib.hid (show Vl.leafC 3 t i ni l = ((decide (i = 0) || decide (i = 1)) && (decide (t.size = 0) && decide (ni = 0) && decide (l.length = 0))) from rfl)
    generalize Vl.leafC 3 t i ni l = r at *
    generalize l.length = n at *
    clear HA HS hk
    by_cases h0 : t.size = 0
    · have he : (t.toList == []) = true := by rw [hte, decide_eq_true h0]
      clear hte
      go_enter Tryd.func104, Tryd.ntmps104
      go_wp2_with fail
      go_quiet (fail)
      go_wp2_with fail
      all_goals (go_ret; refine ⟨congrArg (fun b => Ending.returned (Value.bool b)) ?_, Vl.below_drews ((Below.refl _ _).alloc (Nat.le_refl _) _) _⟩; rw [Hl.out]; (rw [Bool.eq_iff_iff]; first | (simp; done) | (simp; omega) | (simp_all; done) | (trace_state; fail)))
    · have he : (t.toList == []) = false := by rw [hte, decide_eq_false h0]
      clear hte
      go_enter Tryd.func104, Tryd.ntmps104
      go_wp2_with fail
      go_quiet (fail)
      go_wp2_with fail
      all_goals (go_ret; refine ⟨congrArg (fun b => Ending.returned (Value.bool b)) ?_, Vl.below_drews ((Below.refl _ _).alloc (Nat.le_refl _) _) _⟩; rw [Hl.out]; (rw [Bool.eq_iff_iff]; first | (simp; done) | (simp; omega) | (simp_all; done) | (trace_state; fail)))
  by_cases h4 : k = 4
  · subst h4
    have Hl := Lib.hid (show Vl.leafC 4 t i ni l = (decide (t.size = 0) && decide (i = 0) && decide (l.length = 0)) from rfl)
    generalize Vl.leafC 4 t i ni l = r at *
    generalize l.length = n at *
    clear HA HS hk
    by_cases h0 : t.size = 0
    · have he : (t.toList == []) = true := by rw [hte, decide_eq_true h0]
      clear hte
      go_enter Tryd.func104, Tryd.ntmps104
      go_wp2_with fail
      go_quiet (fail)
      go_wp2_with fail
      all_goals (go_ret; refine ⟨congrArg (fun b => Ending.returned (Value.bool b)) ?_, Vl.below_drews ((Below.refl _ _).alloc (Nat.le_refl _) _) _⟩; rw [Hl.out]; (rw [Bool.eq_iff_iff]; first | (simp; done) | (simp; omega) | (simp_all; done) | (trace_state; fail)))
    · have he : (t.toList == []) = false := by rw [hte, decide_eq_false h0]
      clear hte
      go_enter Tryd.func104, Tryd.ntmps104
      go_wp2_with fail
      go_quiet (fail)
      go_wp2_with fail
      all_goals (go_ret; refine ⟨congrArg (fun b => Ending.returned (Value.bool b)) ?_, Vl.below_drews ((Below.refl _ _).alloc (Nat.le_refl _) _) _⟩; rw [Hl.out]; (rw [Bool.eq_iff_iff]; first | (simp; done) | (simp; omega) | (simp_all; done) | (trace_state; fail)))
  by_cases h5 : k = 5
  · subst h5
    have Hl := Lib.hid (show Vl.leafC 5 t i ni l = (decide (t.size = 0) && decide (i = 0) && decide (l.length = ni) && Vl.namesOk l) from rfl)
    generalize Vl.leafC 5 t i ni l = r at *
    obtain ⟨n, hn⟩ : ∃ n, n = l.length := ⟨_, rfl⟩
    have HN := Lib.hid hn
    rw [← hn] at hm ⊢
    have HN2 := Lib.hid (show r = (decide (t.size = 0) && decide (i = 0) && decide (n = ni) && Vl.namesOk l) by rw [hn]; exact Hl.out)
    obtain ⟨r2, hr2⟩ : ∃ r2, r2 = Vl.namesOk l := ⟨_, rfl⟩
    rw [← hr2] at HN2
    have HR := Lib.hid (show r2 = Vl.rise ⟨#[]⟩ (l.drop 0) from hr2)
    have HAn := Lib.hid (fun nq => HA.out.below (Vl.below_drews ((Below.refl _ _).alloc (Nat.le_refl _) (.cells #[.int .u8 5, .string t, .int .i64 i, .slice pi ni ci, .slice pn n cn] 26)) nq))
    clear hn hr2 Hl hk HA
    have key : ∀ (b1 : Bool), (t.toList == []) = b1 → decide (t.size = 0) = b1 → Calls Tryd.prog 104 #[.agg #[.int .u8 (5 : Nat), .string t, .int .i64 i, .slice pi ni ci, .slice pn n cn]] w fun e w' => e = .returned (.bool r) ∧ Below w.heap.size w w' := by
      intro b1 he hd
      have HD := Lib.hid hd
      clear hte hd
      go_enter Tryd.func104, Tryd.ntmps104
      go_wp2_with fail
      go_quiet (fail)
      go_wp2_with fail
      have HA1 := Lib.hid (HAn.out nq)
      clear HAn
      go_loop [82] (fun s => ∃ (kk : Nat) (x : ByteArray), kk ≤ n ∧ s = .int .i64 kk ∧ Hid (kk = 0 ∧ x = ⟨#[]⟩ ∨ 0 < kk ∧ l[kk - 1]? = some x) ∧ Hid (r2 = Vl.rise x (l.drop kk))) (fun s => n - (intOf s).toNat)
      case atStart => exact ⟨0, _, Nat.zero_le _, rfl, Lib.hid (Or.inl ⟨rfl, rfl⟩), HR⟩
      case round =>
        obtain ⟨kk, x, hkk, rfl, HX, HR⟩ := hrel
        by_cases hlt : kk < n
        · have hkl : kk < l.length := by rw [← HN.out]; exact hlt
          obtain ⟨b, off, rfl, hcell⟩ := HA1.out.get kk hkl
          rw [show Wp.mkT l[kk] = Value.string l[kk] from rfl] at hcell
          have hsx := HS.out l[kk] (List.getElem_mem _)
          have HR2 := Lib.hid (HR.out.trans (Vl.rise_step x l kk hkl))
          have Hy := Lib.hid (show l[kk + 1 - 1]? = some l[kk] from List.getElem?_eq_getElem hkl)
          clear HR
          generalize l[kk] = y at *
          have Hcell := Lib.hid hcell
          clear hkl
          go_wp2_with fail
          refine (refNamed_any y _ (by omega)).mono ?_
          rintro e w1 ⟨rfl, rfl⟩
          cases hx : Vl.named y with
          | false =>
            have e2 := HR2.out
            rw [hx, Bool.false_and, Bool.false_and] at e2
            have e3 : r = false := by rw [HN2.out, e2, Bool.and_false]
            subst e3
            clear e2 HN2 HR2 hx
            go_wp2_with fail
            go_ret
            exact ⟨rfl, Vl.below_drews ((Below.refl _ _).alloc (Nat.le_refl _) _) _⟩
          | true =>
            have e2 := HR2.out
            rw [hx, Bool.true_and] at e2
            rcases HX.out with ⟨hk0, hx0⟩ | ⟨hk0, hx0⟩
            · subst hx0
              rw [Vl.up_named hx, Bool.true_and] at e2
              have HR3 := Lib.hid e2
              clear e2 HR2 hx HX
              subst hk0
              go_wp2_with fail
              refine ⟨⟨trivial, _, _, _, _, _, _, _, _, _, _, _, _, _, _, _, _, _, _, _, _, _, _, _, _, _, _, ?hh, rfl⟩, by simp [intOf]; omega⟩
              exact ⟨1, y, by omega, rfl, Lib.hid (Or.inr ⟨by omega, Hy.out⟩), HR3⟩
            · obtain ⟨kp, rfl⟩ : ∃ kp, kk = kp + 1 := ⟨kk - 1, by omega⟩
              have hkl : kp < l.length := by rw [← HN.out]; omega
              obtain ⟨b', off', hp', hcell2⟩ := HA1.out.get kp hkl
              obtain ⟨rfl, rfl⟩ : b = b' ∧ off = off' := by cases hp'; exact ⟨rfl, rfl⟩
              have hxe : l[kp] = x := by
                have h := hx0
                rw [show kp + 1 - 1 = kp from rfl, List.getElem?_eq_getElem hkl] at h
                exact Option.some.inj h
              rw [show Wp.mkT l[kp] = Value.string l[kp] from rfl, hxe] at hcell2
              have e3 : Vl.upB x y = !(Op.bytesLess y.toList x.toList || y.toList == x.toList) := rfl
              cases hu : (Op.bytesLess y.toList x.toList || y.toList == x.toList) with
              | true =>
                rw [e3, hu, Bool.not_true, Bool.false_and] at e2
                have e4 : r = false := by rw [HN2.out, e2, Bool.and_false]
                subst e4
                clear e2 e3 HN2 HR2 hx HX hxe hx0 hp' hkl
                go_wp2_with fail
                go_ret
                exact ⟨rfl, Vl.below_drews ((Below.refl _ _).alloc (Nat.le_refl _) _) _⟩
              | false =>
                rw [e3, hu, Bool.not_false, Bool.true_and] at e2
                have HR3 := Lib.hid e2
                clear e2 e3 HR2 hx HX hxe hx0 hp' hkl
                go_wp2_with fail
                refine ⟨⟨trivial, _, _, _, _, _, _, _, _, _, _, _, _, _, _, _, _, _, _, _, _, _, _, _, _, _, _, ?hj, rfl⟩, by simp [intOf]; omega⟩
                exact ⟨kp + 1 + 1, y, by omega, by go_num, Lib.hid (Or.inr ⟨by omega, Hy.out⟩), HR3⟩
        · have hkn : kk = n := by omega
          subst kk
          have e2 := HR.out
          rw [HN.out, List.drop_length, Vl.rise] at e2
          subst e2
          have Hl2 : Hid (r = (b1 && decide (i = 0) && decide (n = ni))) := Lib.hid (by rw [HN2.out, HD.out, Bool.and_true])
          clear HR HN2 HX HD
          cases b1 with
          | false =>
            go_wp2_with fail
            all_goals (go_ret; refine ⟨congrArg (fun b => Ending.returned (Value.bool b)) ?_, Vl.below_drews ((Below.refl _ _).alloc (Nat.le_refl _) _) _⟩; rw [Hl2.out]; (rw [Bool.eq_iff_iff]; first | (simp; done) | (simp; omega) | (simp_all; done) | (trace_state; fail)))
          | true =>
            go_wp2_with fail
            all_goals (go_ret; refine ⟨congrArg (fun b => Ending.returned (Value.bool b)) ?_, Vl.below_drews ((Below.refl _ _).alloc (Nat.le_refl _) _) _⟩; rw [Hl2.out]; (rw [Bool.eq_iff_iff]; first | (simp; done) | (simp; omega) | (simp_all; done) | (trace_state; fail)))
    exact key _ rfl hte.symm
  · have hr : Vl.leafC k t i ni l = false := by unfold Vl.leafC; split <;> first | contradiction | rfl
    have e1 : ((k : Int) == 1) = false := beq_eq_false_iff_ne.2 (by omega)
    have e2 : ((k : Int) == 2) = false := beq_eq_false_iff_ne.2 (by omega)
    have e3 : ((k : Int) == 3) = false := beq_eq_false_iff_ne.2 (by omega)
    have e4 : ((k : Int) == 4) = false := beq_eq_false_iff_ne.2 (by omega)
    have e5 : ((k : Int) == 5) = false := beq_eq_false_iff_ne.2 (by omega)
    rw [hr]
    clear hr hte HA HS
    go_enter Tryd.func104, Tryd.ntmps104
    go_wp2_with fail
    go_quiet (fail)
    go_wp2_with fail
    go_ret
    exact ⟨rfl, Vl.below_drews ((Below.refl _ _).alloc (Nat.le_refl _) _) _⟩
end Go.Proofs.YtckcbdnlligndaaDoor
namespace Go.Proofs.YtckcbdnlligndaaDoor
open Go.RowKit

namespace Vl
def rrAll (f : V → Nat × Bool) : List V → Nat → Nat × Bool
  | [], n => (n, true)
  | x :: m, n => if (f x).2 = true ∧ n + (f x).1 ≤ 256 then rrAll f m (n + (f x).1) else (0, false)
def rr : Nat → V → Nat × Bool
  | 0, _ => (0, false)
  | l + 1, v => if leaf v = true then rrAll (rr l) v.items 1 else (0, false)
theorem rr_eq : ∀ (l : Nat) (v : V), rr l v = if okV l v = true ∧ v.cnt ≤ 256 then (v.cnt, true) else (0, false)
  | 0, v => by rw [rr, okV, if_neg (by simp)]
  | l + 1, v => by
    have ih := rr_eq l
    have key : ∀ (m : List V) (n : Nat), n ≤ 256 → rrAll (rr l) m n = if m.all (okV l) = true ∧ n + cntL m ≤ 256 then (n + cntL m, true) else (0, false) := by
      intro m
      induction m with
      | nil => intro n hn; rw [rrAll, cntL_nil, if_pos ⟨rfl, by omega⟩]; rfl
      | cons x m ihm =>
        intro n hn
        rw [rrAll, ih x, cntL_cons, List.all_cons]
        by_cases hx : okV l x = true ∧ x.cnt ≤ 256
        · rw [if_pos hx]
          by_cases h2 : n + x.cnt ≤ 256
          · rw [if_pos ⟨rfl, h2⟩, ihm _ h2, hx.1, Bool.true_and, Nat.add_assoc]
          · rw [if_neg (fun h => h2 h.2), if_neg (fun h => h2 (by have := h.2; omega))]
        · rw [if_neg hx, if_neg (fun h => by simp at h), if_neg (fun h => hx ⟨by have := h.1; rw [Bool.and_eq_true] at this; exact this.1, by have := h.2; omega⟩)]
    rw [rr, okV, V.cnt_eq]
    by_cases hl : leaf v = true
    · rw [if_pos hl, key _ 1 (by omega), hl, Bool.true_and, Nat.add_comm 1]
    · rw [if_neg hl, if_neg (fun h => hl (by have := h.1; rw [Bool.and_eq_true] at this; exact this.1))]
theorem rr_good (v : V) : (rr 8 v).2 = good v := by
  rw [rr_eq]
  unfold good
  by_cases h : okV 8 v = true ∧ v.cnt ≤ 256
  · rw [if_pos h, h.1, decide_eq_true h.2]; rfl
  · rw [if_neg h]
    cases h1 : okV 8 v with
    | false => rfl
    | true => rw [decide_eq_false (fun h2 => h ⟨h1, h2⟩)]; rfl
theorem rr_le (l : Nat) (v : V) : (rr l v).1 ≤ 256 := by
  rw [rr_eq]
  split
  · rename_i h; exact h.2
  · exact Nat.zero_le _
theorem rrAll_bad {f : V → Nat × Bool} {x : V} {m : List V} {n : Nat} (h : ¬ ((f x).2 = true ∧ n + (f x).1 ≤ 256)) : rrAll f (x :: m) n = (0, false) := by rw [rrAll, if_neg h]
theorem rrAll_on {f : V → Nat × Bool} {x : V} {m : List V} {n : Nat} (h : (f x).2 = true) (h2 : n + (f x).1 ≤ 256) : rrAll f (x :: m) n = rrAll f m (n + (f x).1) := by rw [rrAll, if_pos ⟨h, h2⟩]
end Vl
set_option maxRecDepth 100000 in
theorem refRight_zero (d : Nat) (x : Vl.V) (v : Value) (w : World) (hA : Vl.At d w v x) :
    Calls Tryd.prog 67 #[v, .int .i64 0] w fun e w' => e = .returned (.tuple #[.int .i64 ((0 : Nat) : Int), .bool false]) ∧ Below w.heap.size w w' := by
  obtain ⟨k5, t5, i5, pi5, ni5, ci5, pn5, nn5, cn5, rfl⟩ := hA.shape
  clear hA
  go_enter Tryd.func67, Tryd.ntmps67
  go_wp2_with fail
  go_ret2
  exact ⟨rfl, (Below.refl _ _).alloc (Nat.le_refl _) _⟩
set_option maxRecDepth 100000 in
set_option maxHeartbeats 2000000 in
theorem refRight_step (d : Nat) (f : Vl.V → Nat × Bool) (k : Nat) (t : ByteArray) (i : Int) (ns : List Vl.V) (pi : Option Addr) (n ci : Nat) (pn : Option Addr) (nn cn : Nat) (lf : Bool) (T : Nat × Bool) (w : World) (z : Int) (hz1 : 1 ≤ z) (hz2 : z ≤ 8) (q4 : n ≤ 140737488351232) (hN : n = ns.length) (hle : ∀ y, (f y).1 ≤ 256)
    (hLf : ∀ W, Below w.heap.size w W → Calls Tryd.prog 104 #[.agg #[.int .u8 k, .string t, .int .i64 i, .slice pi n ci, .slice pn nn cn]] W fun e w' => e = .returned (.bool lf) ∧ Below W.heap.size W w')
    (hrow : ∀ W, Below w.heap.size w W → Vl.RowIs W pi n (Vl.G d w ns))
    (hih : ∀ y u W, Vl.At d W u y → Calls Tryd.prog 67 #[u, .int .i64 (z - 1)] W fun e w' => e = .returned (.tuple #[.int .i64 ((f y).1 : Nat), .bool (f y).2]) ∧ Below W.heap.size W w')
    (hT : T = if lf = true then Vl.rrAll f ns 1 else (0, false)) :
    Calls Tryd.prog 67 #[.agg #[.int .u8 k, .string t, .int .i64 i, .slice pi n ci, .slice pn nn cn], .int .i64 z] w fun e w' => e = .returned (.tuple #[.int .i64 (T.1 : Nat), .bool T.2]) ∧ Below w.heap.size w w' := by
  have HLf := Lib.hid hLf
  have Hrow := Lib.hid hrow
  have ih := Lib.hid hih
  have Hle := Lib.hid hle
  have HT := Lib.hid hT
  have HN := Lib.hid hN
  have Hb0 := Lib.hid ((Below.refl w.heap.size w).alloc (Nat.le_refl _) (.cells #[.int .u8 k, .string t, .int .i64 i, .slice pi n ci, .slice pn nn cn] 26))
  have HX0 := Lib.hid (Vl.new w (.cells #[.int .u8 k, .string t, .int .i64 i, .slice pi n ci, .slice pn nn cn] 26))
  have hz0 : ((z : Int) == 0) = false := beq_eq_false_iff_ne.2 (by omega)
  clear hLf hrow hih hle hT hN
  go_enter Tryd.func67, Tryd.ntmps67
  go_wp2_with fail
  refine (HLf.out _ Hb0.out).mono ?_
  rintro e w1 ⟨rfl, hb1⟩
  have HB1 := Lib.hid (Hb0.out.trans (hb1.mono Hb0.out.size))
  have hx1 := (hb1.block w.heap.size (Array.getElem?_eq_some_iff.1 HX0.out).1).trans HX0.out
  clear hb1 HLf Hb0 HX0
  cases lf with
  | false =>
    have e : T = (0, false) := HT.out
    subst e
    clear HT hx1
    go_wp2_with fail
    go_ret2
    exact ⟨rfl, HB1.out⟩
  | true =>
    have HR : Hid (T = Vl.rrAll f (ns.drop 0) 1) := Lib.hid HT.out
    obtain ⟨m0, m1, m2, m3, m4⟩ := Vl.five_of hx1
    clear HT hx1
    go_wp2_with fail
    go_loopw [6, 21] (fun a s wr => ∃ (kk : Nat) (c : Nat), kk ≤ n ∧ s = .int .i64 kk ∧ a = .int .i64 c ∧ c ≤ 256 ∧ Hid (T = Vl.rrAll f (ns.drop kk) c) ∧ Hid (Below w.heap.size w wr)) (fun _ s _ => n - (intOf s).toNat)
    case atStart => exact ⟨0, 1, Nat.zero_le _, rfl, rfl, by omega, HR, HB1⟩
    case round =>
      obtain ⟨kk, c, hkk, rfl, rfl, hc, HR, HB⟩ := hrel
      by_cases hlt : kk < n
      · obtain ⟨b2, off2, c0, c1, c2, c3, c4, rfl, ⟨e0, e1, e2, e3, e4⟩, y, hy, hAy⟩ := Hrow.out _ HB.out kk hlt
        obtain ⟨k5, t5, i5, pi5, ni5, ci5, pn5, nn5, cn5, hsh⟩ := hAy.shape
        simp only [Value.agg.injEq, Array.mk.injEq, List.cons.injEq, and_true] at hsh
        obtain ⟨rfl, rfl, rfl, rfl, rfl⟩ := hsh
        have hkl : kk < ns.length := by rw [← HN.out]; exact hlt
        have hye : ns[kk] = y := by rw [List.getElem?_eq_getElem hkl] at hy; exact Option.some.inj hy
        have HR2 := Lib.hid (show T = Vl.rrAll f (y :: ns.drop (kk + 1)) c by rw [← hye, ← List.drop_eq_getElem_cons hkl]; exact HR.out)
        have hby := (Below.refl wr.heap.size wr).alloc (Nat.le_refl _) (.cells #[.int .u8 k5, .string t5, .int .i64 i5, .slice pi5 ni5 ci5, .slice pn5 nn5 cn5] 26)
        have HBy := Lib.hid (HB.out.trans (hby.mono HB.out.size))
        have HC := Lib.hid (ih.out y _ _ ((hAy.below HB.out).below hby))
        have hyl := Hle.out y
        obtain ⟨y0, y1, y2, y3, y4⟩ := Vl.five_of (Vl.new wr (.cells #[.int .u8 k5, .string t5, .int .i64 i5, .slice pi5 ni5 ci5, .slice pn5 nn5 cn5] 26))
        clear hy hAy hkl hye HR hby
        have hj0 : (0 : Int) ≤ (kk : Int) := by omega
        have hj1 : (kk : Int) < (n : Int) := by omega
        go_wp2_with fail
        refine HC.out.mono ?_
        rintro e w4 ⟨rfl, hb4⟩
        have HB4 := Lib.hid (HBy.out.trans (hb4.mono HBy.out.size))
        clear hb4 HC HBy HB y0 y1 y2 y3 y4 e0 e1 e2 e3 e4
        have Hbad := Lib.hid (fun (h : ¬ ((f y).2 = true ∧ c + (f y).1 ≤ 256)) => HR2.out.trans (Vl.rrAll_bad h))
        have Hon := Lib.hid (fun (h : (f y).2 = true) (h2 : c + (f y).1 ≤ 256) => HR2.out.trans (Vl.rrAll_on h h2))
        clear HR2
        generalize (f y).1 = c2 at *
        generalize (f y).2 = b2 at *
        cases b2 with
        | false =>
          have e : T = (0, false) := Hbad.out (fun h => by simp at h)
          subst e
          clear Hbad Hon
          go_wp2_with fail
          go_ret2
          exact ⟨rfl, HB4.out⟩
        | true =>
          by_cases h256 : c + c2 ≤ 256
          · have HR3 := Lib.hid (Hon.out rfl h256)
            clear Hbad Hon
            have hgt : ¬ ((256 : Int) < (c : Int) + (c2 : Int)) := by omega
            go_wp2_with fail
            refine ⟨⟨kk + 1, c + c2, by omega, by go_num, by go_num, h256, HR3, HB4⟩, by simp [intOf]; omega⟩
          · have e : T = (0, false) := Hbad.out (fun h => h256 h.2)
            subst e
            clear Hbad Hon
            have hgt : (256 : Int) < (c : Int) + (c2 : Int) := by omega
            go_wp2_with fail
            go_ret2
            exact ⟨rfl, HB4.out⟩
      · have hkn : kk = n := by omega
        have e := HR.out
        rw [hkn, HN.out, List.drop_length, Vl.rrAll] at e
        subst e
        clear HR
        subst hkn
        go_wp2_with fail
        go_ret2
        exact ⟨rfl, HB.out⟩
theorem refRight_any : ∀ (l d : Nat) (x : Vl.V) (v : Value) (w : World) (z : Int), l ≤ 8 → z = (l : Int) → Vl.At d w v x →
    Calls Tryd.prog 67 #[v, .int .i64 z] w fun e w' => e = .returned (.tuple #[.int .i64 ((Vl.rr l x).1 : Nat), .bool (Vl.rr l x).2]) ∧ Below w.heap.size w w'
  | 0, d, x, v, w, z, _, hz, hA => by
    have hz' : z = 0 := hz
    rw [hz', Vl.rr]
    exact refRight_zero d x v w hA
  | _ + 1, 0, _, _, _, _, _, _, hA => hA.elim
  | l + 1, d + 1, x, v, w, z, hl, hz, hA => by
    obtain ⟨pi, ci, pn, cn, rfl, ⟨q1, q2, q3, q4, q5, q6⟩, hn, hi⟩ := hA
    exact refRight_step d (Vl.rr l) x.kind x.text x.num x.items pi x.items.length ci pn x.names.length cn (Vl.leaf x) (Vl.rr (l + 1) x) w z (by omega) (by omega) q4 rfl (fun y => Vl.rr_le l y)
      (fun W h => refLeaf_any x.kind x.text x.num pi x.items.length ci pn cn x.names W q1 q2 q3 q5 q6 (hn.below h)) (Vl.rowIs hi)
      (fun y u W ha => refRight_any l d y u W (z - 1) (by omega) (by omega) ha) rfl
end Go.Proofs.YtckcbdnlligndaaDoor
namespace Go.Proofs.YtckcbdnlligndaaDoor
open Go.RowKit

theorem Vl.chk_rr (x : Vl.V) : Vl.chk x = if (Vl.rr 8 x).2 = true then 0 else 2 := by rw [Vl.rr_good]; rfl
set_option maxRecDepth 100000 in
theorem refCheck_any (d : Nat) (x : Vl.V) (v : Value) (w : World) (hA : Vl.At d w v x) :
    Calls Tryd.prog 34 #[v] w fun e w' => e = .returned (.int .i64 (Vl.chk x)) ∧ Below w.heap.size w w' := by
  obtain ⟨k1, t1, i1, pi1, ni1, ci1, pn1, nn1, cn1, rfl⟩ := hA.shape
  have hB := (Below.refl w.heap.size w).alloc (Nat.le_refl _) (.cells #[.int .u8 k1, .string t1, .int .i64 i1, .slice pi1 ni1 ci1, .slice pn1 nn1 cn1] 26)
  have HB := Lib.hid hB
  have HC := Lib.hid (refRight_any 8 d x _ _ 8 (by omega) rfl (hA.below hB))
  have hd := Vl.chk_rr x
  rw [hd]
  clear hA hB hd
  generalize (Vl.rr 8 x).1 = c at *
  generalize (Vl.rr 8 x).2 = b at *
  cases b with
  | false =>
    rw [if_neg (by simp)]
    go_enter Tryd.func34, Tryd.ntmps34
    go_wp2_with fail
    refine HC.out.mono ?_
    rintro e w1 ⟨rfl, hb⟩
    have HB1 := Lib.hid (HB.out.trans (hb.mono HB.out.size))
    clear hb
    go_wp2_with fail
    go_ret
    exact ⟨rfl, HB1.out⟩
  | true =>
    rw [if_pos rfl]
    go_enter Tryd.func34, Tryd.ntmps34
    go_wp2_with fail
    refine HC.out.mono ?_
    rintro e w1 ⟨rfl, hb⟩
    have HB1 := Lib.hid (HB.out.trans (hb.mono HB.out.size))
    clear hb
    go_wp2_with fail
    go_ret
    exact ⟨rfl, HB1.out⟩
theorem Vl.holds_leaf {k : Nat} {t : ByteArray} {i : Int} {ni : Nat} {l : List ByteArray} (h : Vl.leafC k t i ni l = true) : Vl.holdsC k t i ni = (!decide (t.size = 0) || !decide (i = 0) || !decide (ni = 0)) := by
  unfold Vl.leafC at h
  unfold Vl.holdsC
  split at h
  · simp only [Bool.and_eq_true, decide_eq_true_eq] at h
    obtain ⟨⟨⟨_, h2⟩, h3⟩, _⟩ := h
    rw [if_pos rfl, h2, h3]
    simp
  · simp only [Bool.and_eq_true, decide_eq_true_eq] at h
    obtain ⟨⟨h1, h2⟩, _⟩ := h
    rw [if_neg (by omega), if_pos (by omega), h1, h2]
    simp
  · simp only [Bool.and_eq_true, decide_eq_true_eq] at h
    obtain ⟨_, ⟨h1, h2⟩, _⟩ := h
    rw [if_neg (by omega), if_pos (by omega), h1, h2]
    simp
  · simp only [Bool.and_eq_true, decide_eq_true_eq] at h
    obtain ⟨⟨h1, h2⟩, _⟩ := h
    rw [if_neg (by omega), if_neg (by omega), h1, h2]
    simp
  · simp only [Bool.and_eq_true, decide_eq_true_eq] at h
    obtain ⟨⟨⟨h1, h2⟩, _⟩, _⟩ := h
    rw [if_neg (by omega), if_neg (by omega), h1, h2]
    simp
  · cases h
theorem Vl.good_leaf {x : Vl.V} (h : Vl.good x = true) : Vl.leafC x.kind x.text x.num x.items.length x.names = true := by
  unfold Vl.good at h
  rw [Bool.and_eq_true] at h
  have h1 := h.1
  rw [Vl.okV, Bool.and_eq_true] at h1
  exact h1.1
end Go.Proofs.YtckcbdnlligndaaDoor
