/-
  The walk of the document's own leaf (bellmanref09.leaf): what a value by itself is to have. Condition: a value's texts and lists are of a size that a machine holds.
-/
import Derived.Test.YtcpebkhpocdeoaaDoorRVlName
import Derived.Test.YtcpebkhpocdeoaaDoorVlCheck
import Derived.BigQuiet
namespace Go.Proofs.YtcpebkhpocdeoaaDoor
open Go.RowKit

theorem Vl.below_drews {B : Nat} {a w : World} (h : Below B a w) (q : Nat) : Below B a (w.drewN q) := by
  induction q with
  | zero => exact h
  | succ q ih => exact ih.drew
theorem Vl.up_named {x : ByteArray} (h : Vl.named x = true) : Vl.upB ⟨#[]⟩ x = true := by
  have h0 : ¬ x.size = 0 := fun h0 => by
    have : x.data.toList = [] := List.length_eq_zero_iff.1 (by rw [← Wp.size_len]; exact h0)
    unfold Vl.named Vl.nameL at h
    rw [this] at h
    cases h
  unfold Vl.upB
  have e : (⟨#[]⟩ : ByteArray).toList = [] := by rw [Lib.toList_data]
  rw [e]
  have h1 : (x.toList == []) = false := by rw [Vl.empty_eq, decide_eq_false h0]
  rw [h1]
  cases x.toList <;> rfl
set_option maxHeartbeats 2000000 in
set_option maxRecDepth 100000 in
theorem refLeaf_any (k : Nat) (t : ByteArray) (i : Int) (pi : Option Addr) (ni ci : Nat) (pn : Option Addr) (cn : Nat) (l : List ByteArray) (w : World) (hk : k ≤ 255) (ht : t.size ≤ 140737488351232) (hi : Wp.I64 i)
    (hm : l.length ≤ 140737488351232) (hs : ∀ s ∈ l, s.size ≤ 140737488351232) (hA : Wp.At Wp.mkT w pn l) :
    Calls Tryd.prog 56 #[.agg #[.int .u8 k, .string t, .int .i64 i, .slice pi ni ci, .slice pn l.length cn]] w fun e w' => e = .returned (.bool (Vl.leafC k t i ni l)) ∧ Below w.heap.size w w' := by
  have HA := Lib.hid hA
  have HS := Lib.hid hs
  clear hA hs
  have hte := Vl.empty_eq t
  obtain ⟨hi1, hi2⟩ := hi
  by_cases h1 : k = 1
  · subst h1
    have Hl := Lib.hid (show Vl.leafC 1 t i ni l = (decide (t.size ≤ 4096) && decide (i = 0) && decide (ni = 0) && decide (l.length = 0)) from rfl)
    generalize Vl.leafC 1 t i ni l = r at *
    generalize l.length = n at *
    clear HA HS hk
    by_cases h0 : t.size = 0
    · have he : (t.toList == []) = true := by rw [hte, decide_eq_true h0]
      clear hte
      go_enter Tryd.func56, Tryd.ntmps56
      go_wp2_with fail
      go_quiet (fail)
      go_wp2_with fail
      all_goals (go_ret; refine ⟨congrArg (fun b => Ending.returned (Value.bool b)) ?_, Vl.below_drews ((Below.refl _ _).alloc (Nat.le_refl _) _) _⟩; rw [Hl.out]; (rw [Bool.eq_iff_iff]; first | (simp; done) | (simp; omega) | (simp_all; done) | (trace_state; fail)))
    · have he : (t.toList == []) = false := by rw [hte, decide_eq_false h0]
      clear hte
      go_enter Tryd.func56, Tryd.ntmps56
      go_wp2_with fail
      go_quiet (fail)
      go_wp2_with fail
      all_goals (go_ret; refine ⟨congrArg (fun b => Ending.returned (Value.bool b)) ?_, Vl.below_drews ((Below.refl _ _).alloc (Nat.le_refl _) _) _⟩; rw [Hl.out]; (rw [Bool.eq_iff_iff]; first | (simp; done) | (simp; omega) | (simp_all; done) | (trace_state; fail)))
  by_cases h2 : k = 2
  · subst h2
    have Hl := Lib.hid (show Vl.leafC 2 t i ni l = (decide (t.size = 0) && decide (ni = 0) && decide (l.length = 0)) from rfl)
    generalize Vl.leafC 2 t i ni l = r at *
    generalize l.length = n at *
    clear HA HS hk
    by_cases h0 : t.size = 0
    · have he : (t.toList == []) = true := by rw [hte, decide_eq_true h0]
      clear hte
      go_enter Tryd.func56, Tryd.ntmps56
      go_wp2_with fail
      go_quiet (fail)
      go_wp2_with fail
      all_goals (go_ret; refine ⟨congrArg (fun b => Ending.returned (Value.bool b)) ?_, Vl.below_drews ((Below.refl _ _).alloc (Nat.le_refl _) _) _⟩; rw [Hl.out]; (rw [Bool.eq_iff_iff]; first | (simp; done) | (simp; omega) | (simp_all; done) | (trace_state; fail)))
    · have he : (t.toList == []) = false := by rw [hte, decide_eq_false h0]
      clear hte
      go_enter Tryd.func56, Tryd.ntmps56
      go_wp2_with fail
      go_quiet (fail)
      go_wp2_with fail
      all_goals (go_ret; refine ⟨congrArg (fun b => Ending.returned (Value.bool b)) ?_, Vl.below_drews ((Below.refl _ _).alloc (Nat.le_refl _) _) _⟩; rw [Hl.out]; (rw [Bool.eq_iff_iff]; first | (simp; done) | (simp; omega) | (simp_all; done) | (trace_state; fail)))
  by_cases h3 : k = 3
  · subst h3
    have Hl := Lib.hid (show Vl.leafC 3 t i ni l = ((decide (i = 0) || decide (i = 1)) && (decide (t.size = 0) && decide (ni = 0) && decide (l.length = 0))) from rfl)
    generalize Vl.leafC 3 t i ni l = r at *
    generalize l.length = n at *
    clear HA HS hk
    by_cases h0 : t.size = 0
    · have he : (t.toList == []) = true := by rw [hte, decide_eq_true h0]
      clear hte
      go_enter Tryd.func56, Tryd.ntmps56
      go_wp2_with fail
      go_quiet (fail)
      go_wp2_with fail
      all_goals (go_ret; refine ⟨congrArg (fun b => Ending.returned (Value.bool b)) ?_, Vl.below_drews ((Below.refl _ _).alloc (Nat.le_refl _) _) _⟩; rw [Hl.out]; (rw [Bool.eq_iff_iff]; first | (simp; done) | (simp; omega) | (simp_all; done) | (trace_state; fail)))
    · have he : (t.toList == []) = false := by rw [hte, decide_eq_false h0]
      clear hte
      go_enter Tryd.func56, Tryd.ntmps56
      go_wp2_with fail
      go_quiet (fail)
      go_wp2_with fail
      all_goals (go_ret; refine ⟨congrArg (fun b => Ending.returned (Value.bool b)) ?_, Vl.below_drews ((Below.refl _ _).alloc (Nat.le_refl _) _) _⟩; rw [Hl.out]; (rw [Bool.eq_iff_iff]; first | (simp; done) | (simp; omega) | (simp_all; done) | (trace_state; fail)))
  by_cases h4 : k = 4
  · subst h4
    have Hl := Lib.hid (show Vl.leafC 4 t i ni l = (decide (t.size = 0) && decide (i = 0) && decide (l.length = 0)) from rfl)
    generalize Vl.leafC 4 t i ni l = r at *
    generalize l.length = n at *
    clear HA HS hk
    by_cases h0 : t.size = 0
    · have he : (t.toList == []) = true := by rw [hte, decide_eq_true h0]
      clear hte
      go_enter Tryd.func56, Tryd.ntmps56
      go_wp2_with fail
      go_quiet (fail)
      go_wp2_with fail
      all_goals (go_ret; refine ⟨congrArg (fun b => Ending.returned (Value.bool b)) ?_, Vl.below_drews ((Below.refl _ _).alloc (Nat.le_refl _) _) _⟩; rw [Hl.out]; (rw [Bool.eq_iff_iff]; first | (simp; done) | (simp; omega) | (simp_all; done) | (trace_state; fail)))
    · have he : (t.toList == []) = false := by rw [hte, decide_eq_false h0]
      clear hte
      go_enter Tryd.func56, Tryd.ntmps56
      go_wp2_with fail
      go_quiet (fail)
      go_wp2_with fail
      all_goals (go_ret; refine ⟨congrArg (fun b => Ending.returned (Value.bool b)) ?_, Vl.below_drews ((Below.refl _ _).alloc (Nat.le_refl _) _) _⟩; rw [Hl.out]; (rw [Bool.eq_iff_iff]; first | (simp; done) | (simp; omega) | (simp_all; done) | (trace_state; fail)))
  by_cases h5 : k = 5
  · subst h5
    have Hl := Lib.hid (show Vl.leafC 5 t i ni l = (decide (t.size = 0) && decide (i = 0) && decide (l.length = ni) && Vl.namesOk l) from rfl)
    generalize Vl.leafC 5 t i ni l = r at *
    obtain ⟨n, hn⟩ : ∃ n, n = l.length := ⟨_, rfl⟩
    have HN := Lib.hid hn
    rw [← hn] at hm ⊢
    have HN2 := Lib.hid (show r = (decide (t.size = 0) && decide (i = 0) && decide (n = ni) && Vl.namesOk l) by rw [hn]; exact Hl.out)
    obtain ⟨r2, hr2⟩ : ∃ r2, r2 = Vl.namesOk l := ⟨_, rfl⟩
    rw [← hr2] at HN2
    have HR := Lib.hid (show r2 = Vl.rise ⟨#[]⟩ (l.drop 0) from hr2)
    have HAn := Lib.hid (fun nq => HA.out.below (Vl.below_drews ((Below.refl _ _).alloc (Nat.le_refl _) (.cells #[.int .u8 5, .string t, .int .i64 i, .slice pi ni ci, .slice pn n cn] 26)) nq))
    clear hn hr2 Hl hk HA
    have key : ∀ (b1 : Bool), (t.toList == []) = b1 → decide (t.size = 0) = b1 → Calls Tryd.prog 56 #[.agg #[.int .u8 (5 : Nat), .string t, .int .i64 i, .slice pi ni ci, .slice pn n cn]] w fun e w' => e = .returned (.bool r) ∧ Below w.heap.size w w' := by
      intro b1 he hd
      have HD := Lib.hid hd
      clear hte hd
      go_enter Tryd.func56, Tryd.ntmps56
      go_wp2_with fail
      go_quiet (fail)
      go_wp2_with fail
      have HA1 := Lib.hid (HAn.out nq)
      clear HAn
      go_loop [82] (fun s => ∃ (kk : Nat) (x : ByteArray), kk ≤ n ∧ s = .int .i64 kk ∧ Hid (kk = 0 ∧ x = ⟨#[]⟩ ∨ 0 < kk ∧ l[kk - 1]? = some x) ∧ Hid (r2 = Vl.rise x (l.drop kk))) (fun s => n - (intOf s).toNat)
      case atStart => exact ⟨0, _, Nat.zero_le _, rfl, Lib.hid (Or.inl ⟨rfl, rfl⟩), HR⟩
      case round =>
        obtain ⟨kk, x, hkk, rfl, HX, HR⟩ := hrel
        by_cases hlt : kk < n
        · have hkl : kk < l.length := by rw [← HN.out]; exact hlt
          obtain ⟨b, off, rfl, hcell⟩ := HA1.out.get kk hkl
          rw [show Wp.mkT l[kk] = Value.string l[kk] from rfl] at hcell
          have hsx := HS.out l[kk] (List.getElem_mem _)
          have HR2 := Lib.hid (HR.out.trans (Vl.rise_step x l kk hkl))
          have Hy := Lib.hid (show l[kk + 1 - 1]? = some l[kk] from List.getElem?_eq_getElem hkl)
          clear HR
          generalize l[kk] = y at *
          have Hcell := Lib.hid hcell
          clear hkl
          go_wp2_with fail
          refine (refNamed_any y _ (by omega)).mono ?_
          rintro e w1 ⟨rfl, rfl⟩
          cases hx : Vl.named y with
          | false =>
            have e2 := HR2.out
            rw [hx, Bool.false_and, Bool.false_and] at e2
            have e3 : r = false := by rw [HN2.out, e2, Bool.and_false]
            subst e3
            clear e2 HN2 HR2 hx
            go_wp2_with fail
            go_ret
            exact ⟨rfl, Vl.below_drews ((Below.refl _ _).alloc (Nat.le_refl _) _) _⟩
          | true =>
            have e2 := HR2.out
            rw [hx, Bool.true_and] at e2
            rcases HX.out with ⟨hk0, hx0⟩ | ⟨hk0, hx0⟩
            · subst hx0
              rw [Vl.up_named hx, Bool.true_and] at e2
              have HR3 := Lib.hid e2
              clear e2 HR2 hx HX
              subst hk0
              go_wp2_with fail
              refine ⟨⟨trivial, _, _, _, _, _, _, _, _, _, _, _, _, _, _, _, _, _, _, _, _, _, _, _, _, _, _, ?hh, rfl⟩, by simp [intOf]; omega⟩
              exact ⟨1, y, by omega, rfl, Lib.hid (Or.inr ⟨by omega, Hy.out⟩), HR3⟩
            · obtain ⟨kp, rfl⟩ : ∃ kp, kk = kp + 1 := ⟨kk - 1, by omega⟩
              have hkl : kp < l.length := by rw [← HN.out]; omega
              obtain ⟨b', off', hp', hcell2⟩ := HA1.out.get kp hkl
              obtain ⟨rfl, rfl⟩ : b = b' ∧ off = off' := by cases hp'; exact ⟨rfl, rfl⟩
              have hxe : l[kp] = x := by
                have h := hx0
                rw [show kp + 1 - 1 = kp from rfl, List.getElem?_eq_getElem hkl] at h
                exact Option.some.inj h
              rw [show Wp.mkT l[kp] = Value.string l[kp] from rfl, hxe] at hcell2
              have e3 : Vl.upB x y = !(Op.bytesLess y.toList x.toList || y.toList == x.toList) := rfl
              cases hu : (Op.bytesLess y.toList x.toList || y.toList == x.toList) with
              | true =>
                rw [e3, hu, Bool.not_true, Bool.false_and] at e2
                have e4 : r = false := by rw [HN2.out, e2, Bool.and_false]
                subst e4
                clear e2 e3 HN2 HR2 hx HX hxe hx0 hp' hkl
                go_wp2_with fail
                go_ret
                exact ⟨rfl, Vl.below_drews ((Below.refl _ _).alloc (Nat.le_refl _) _) _⟩
              | false =>
                rw [e3, hu, Bool.not_false, Bool.true_and] at e2
                have HR3 := Lib.hid e2
                clear e2 e3 HR2 hx HX hxe hx0 hp' hkl
                go_wp2_with fail
                refine ⟨⟨trivial, _, _, _, _, _, _, _, _, _, _, _, _, _, _, _, _, _, _, _, _, _, _, _, _, _, _, ?hj, rfl⟩, by simp [intOf]; omega⟩
                exact ⟨kp + 1 + 1, y, by omega, by go_num, Lib.hid (Or.inr ⟨by omega, Hy.out⟩), HR3⟩
        · have hkn : kk = n := by omega
          subst kk
          have e2 := HR.out
          rw [HN.out, List.drop_length, Vl.rise] at e2
          subst e2
          have Hl2 : Hid (r = (b1 && decide (i = 0) && decide (n = ni))) := Lib.hid (by rw [HN2.out, HD.out, Bool.and_true])
          clear HR HN2 HX HD
          cases b1 with
          | false =>
            go_wp2_with fail
            all_goals (go_ret; refine ⟨congrArg (fun b => Ending.returned (Value.bool b)) ?_, Vl.below_drews ((Below.refl _ _).alloc (Nat.le_refl _) _) _⟩; rw [Hl2.out]; (rw [Bool.eq_iff_iff]; first | (simp; done) | (simp; omega) | (simp_all; done) | (trace_state; fail)))
          | true =>
            go_wp2_with fail
            all_goals (go_ret; refine ⟨congrArg (fun b => Ending.returned (Value.bool b)) ?_, Vl.below_drews ((Below.refl _ _).alloc (Nat.le_refl _) _) _⟩; rw [Hl2.out]; (rw [Bool.eq_iff_iff]; first | (simp; done) | (simp; omega) | (simp_all; done) | (trace_state; fail)))
    exact key _ rfl hte.symm
  · have hr : Vl.leafC k t i ni l = false := by unfold Vl.leafC; split <;> first | contradiction | rfl
    have e1 : ((k : Int) == 1) = false := beq_eq_false_iff_ne.2 (by omega)
    have e2 : ((k : Int) == 2) = false := beq_eq_false_iff_ne.2 (by omega)
    have e3 : ((k : Int) == 3) = false := beq_eq_false_iff_ne.2 (by omega)
    have e4 : ((k : Int) == 4) = false := beq_eq_false_iff_ne.2 (by omega)
    have e5 : ((k : Int) == 5) = false := beq_eq_false_iff_ne.2 (by omega)
    rw [hr]
    clear hr hte HA HS
    go_enter Tryd.func56, Tryd.ntmps56
    go_wp2_with fail
    go_quiet (fail)
    go_wp2_with fail
    go_ret
    exact ⟨rfl, Vl.below_drews ((Below.refl _ _).alloc (Nat.le_refl _) _) _⟩
end Go.Proofs.YtcpebkhpocdeoaaDoor
