
/-
  The walks of value's namesRight and fieldsRight: what a value by itself is to have. Conditions: texts and lists are of a size that a machine holds.
-/
import Derived.Test.YteiccjakaabfnaaGreatDoorZ26
namespace Go.Proofs.YteiccjakaabfnaaGreatDoor
open Go.RowKit

theorem Vl.rise_step (a : ByteArray) (l : List ByteArray) (k : Nat) (h : k < l.length) : Vl.rise a (l.drop k) = (Vl.named l[k] && Vl.upB a l[k] && Vl.rise l[k] (l.drop (k + 1))) := by
  rw [List.drop_eq_getElem_cons h, Vl.rise]
set_option maxHeartbeats 1000000 in
set_option maxRecDepth 100000 in
theorem namesRight_any (p : Option Addr) (c : Nat) (l : List ByteArray) (w : World) (hm : l.length ≤ 140737488351232) (hs : ∀ s ∈ l, s.size ≤ 140737488351232) (hA : Wp.At Wp.mkT w p l) :
    Calls Tryz.prog 194 #[.slice p l.length c] w fun e w' => e = .returned (.bool (Vl.namesOk l)) ∧ w' = w := by
  have HA := Lib.hid hA
  have HS := Lib.hid hs
  obtain ⟨n, hn⟩ : ∃ n, n = l.length := ⟨_, rfl⟩
  have HN := Lib.hid hn
  rw [← hn] at hm ⊢
  obtain ⟨r, hr⟩ : ∃ r, r = Vl.namesOk l := ⟨_, rfl⟩
  have HR := Lib.hid (show r = Vl.rise ⟨#[]⟩ (l.drop 0) from hr)
  rw [← hr]
  clear hA hs hn hr
  go_enter Tryz.func194, Tryz.ntmps194
  go_wp2_with fail
  go_loop [3, 5, 8] (fun a _ t => ∃ (k : Nat) (x : ByteArray), k ≤ n ∧ t = .int .i64 k ∧ a = .string x ∧ Hid (r = Vl.rise x (l.drop k))) (fun _ _ t => n - (intOf t).toNat)
  case atStart => exact ⟨0, _, Nat.zero_le _, rfl, rfl, HR⟩
  case round =>
    obtain ⟨k, a, hk, rfl, rfl, HR⟩ := hrel
    by_cases hlt : k < n
    · have hkl : k < l.length := by rw [← HN.out]; exact hlt
      obtain ⟨b, off, rfl, hcell⟩ := HA.out.get k hkl
      rw [show Wp.mkT l[k] = Value.string l[k] from rfl] at hcell
      have hsx := HS.out l[k] (List.getElem_mem _)
      have HR2 := Lib.hid (HR.out.trans (Vl.rise_step a l k hkl))
      clear HR
      generalize l[k] = x at *
      clear hkl
      go_wp2_with fail
      refine (vlName_any x _ (by omega)).mono ?_
      rintro e w1 ⟨rfl, rfl⟩
      cases hx : Vl.named x with
      | false =>
        have e1 : (Vl.nameC x != 0) = true := by unfold Vl.nameC; rw [hx]; rfl
        have e2 := HR2.out
        rw [hx, Bool.false_and, Bool.false_and] at e2
        subst e2
        go_wp2_with fail
        go_ret
        exact ⟨rfl, rfl⟩
      | true =>
        have e1 : (Vl.nameC x != 0) = false := by unfold Vl.nameC; rw [hx]; rfl
        have e2 := HR2.out
        rw [hx, Bool.true_and] at e2
        have e3 : Vl.upB a x = !(Op.bytesLess x.toList a.toList || x.toList == a.toList) := rfl
        cases hu : (Op.bytesLess x.toList a.toList || x.toList == a.toList) with
        | true =>
          rw [e3, hu, Bool.not_true, Bool.false_and] at e2
          subst e2
          go_wp2_with fail
          go_ret
          exact ⟨rfl, rfl⟩
        | false =>
          rw [e3, hu, Bool.not_false, Bool.true_and] at e2
          have HR3 := Lib.hid e2
          clear e2 e3 HR2
          go_wp2_with fail
          refine ⟨⟨k + 1, x, by omega, by go_num, rfl, HR3⟩, by simp [intOf]; omega⟩
    · obtain rfl : k = n := by omega
      have e2 := HR.out
      rw [HN.out, List.drop_length, Vl.rise] at e2
      subst e2
      clear HR
      go_wp2_with fail
      go_ret
      exact ⟨rfl, rfl⟩
set_option maxHeartbeats 1000000 in
set_option maxRecDepth 100000 in
theorem fieldsRight_any (k : Nat) (t : ByteArray) (i : Int) (pi : Option Addr) (ni ci : Nat) (pn : Option Addr) (cn : Nat) (l : List ByteArray) (w : World) (hk : k ≤ 255) (ht : t.size ≤ 140737488351232) (hi : Wp.I64 i) (hni : ni ≤ 140737488351232)
    (hm : l.length ≤ 140737488351232) (hs : ∀ s ∈ l, s.size ≤ 140737488351232) (hA : Wp.At Wp.mkT w pn l) :
    Calls Tryz.prog 123 #[.agg #[.int .u8 k, .string t, .int .i64 i, .slice pi ni ci, .slice pn l.length cn]] w fun e w' => e = .returned (.bool (Vl.leafC k t i ni l)) ∧ Below w.heap.size w w' := by
  have HA := Lib.hid hA
  have HS := Lib.hid hs
  clear hA hs
  have hte := Vl.empty_eq t
  obtain ⟨hi1, hi2⟩ := hi
  by_cases h1 : k = 1
  · subst h1
    have Hl := Lib.hid (show Vl.leafC 1 t i ni l = (decide (t.size ≤ 4096) && decide (i = 0) && decide (ni = 0) && decide (l.length = 0)) from rfl)
    generalize Vl.leafC 1 t i ni l = r at *
    generalize l.length = n at *
    clear HA HS hk
    by_cases h0 : t.size = 0
    · have he : (t.toList == []) = true := by rw [hte, decide_eq_true h0]
      clear hte
      go_enter Tryz.func123, Tryz.ntmps123
      go_wp2_with fail
      all_goals (go_ret; refine ⟨congrArg (fun b => Ending.returned (Value.bool b)) ?_, (Below.refl _ _).alloc (Nat.le_refl _) _⟩; rw [Hl.out]; (rw [Bool.eq_iff_iff]; first | (simp; done) | (simp; omega) | (simp_all; done) | (trace_state; fail)))
    · have he : (t.toList == []) = false := by rw [hte, decide_eq_false h0]
      clear hte
      go_enter Tryz.func123, Tryz.ntmps123
      go_wp2_with fail
      all_goals (go_ret; refine ⟨congrArg (fun b => Ending.returned (Value.bool b)) ?_, (Below.refl _ _).alloc (Nat.le_refl _) _⟩; rw [Hl.out]; (rw [Bool.eq_iff_iff]; first | (simp; done) | (simp; omega) | (simp_all; done) | (trace_state; fail)))
  by_cases h2 : k = 2
  · subst h2
    have Hl := Lib.hid (show Vl.leafC 2 t i ni l = (decide (t.size = 0) && decide (ni = 0) && decide (l.length = 0)) from rfl)
    generalize Vl.leafC 2 t i ni l = r at *
    generalize l.length = n at *
    clear HA HS hk
    by_cases h0 : t.size = 0
    · have he : (t.toList == []) = true := by rw [hte, decide_eq_true h0]
      clear hte
      go_enter Tryz.func123, Tryz.ntmps123
      go_wp2_with fail
      all_goals (go_ret; refine ⟨congrArg (fun b => Ending.returned (Value.bool b)) ?_, (Below.refl _ _).alloc (Nat.le_refl _) _⟩; rw [Hl.out]; (rw [Bool.eq_iff_iff]; first | (simp; done) | (simp; omega) | (simp_all; done) | (trace_state; fail)))
    · have he : (t.toList == []) = false := by rw [hte, decide_eq_false h0]
      clear hte
      go_enter Tryz.func123, Tryz.ntmps123
      go_wp2_with fail
      all_goals (go_ret; refine ⟨congrArg (fun b => Ending.returned (Value.bool b)) ?_, (Below.refl _ _).alloc (Nat.le_refl _) _⟩; rw [Hl.out]; (rw [Bool.eq_iff_iff]; first | (simp; done) | (simp; omega) | (simp_all; done) | (trace_state; fail)))
  by_cases h3 : k = 3
  · subst h3
    have Hl := Lib.hid (show Vl.leafC 3 t i ni l = ((decide (i = 0) || decide (i = 1)) && (decide (t.size = 0) && decide (ni = 0) && decide (l.length = 0))) from rfl)
    generalize Vl.leafC 3 t i ni l = r at *
    generalize l.length = n at *
    clear HA HS hk
    by_cases h0 : t.size = 0
    · have he : (t.toList == []) = true := by rw [hte, decide_eq_true h0]
      clear hte
      go_enter Tryz.func123, Tryz.ntmps123
      go_wp2_with fail
      all_goals (go_ret; refine ⟨congrArg (fun b => Ending.returned (Value.bool b)) ?_, (Below.refl _ _).alloc (Nat.le_refl _) _⟩; rw [Hl.out]; (rw [Bool.eq_iff_iff]; first | (simp; done) | (simp; omega) | (simp_all; done) | (trace_state; fail)))
    · have he : (t.toList == []) = false := by rw [hte, decide_eq_false h0]
      clear hte
      go_enter Tryz.func123, Tryz.ntmps123
      go_wp2_with fail
      all_goals (go_ret; refine ⟨congrArg (fun b => Ending.returned (Value.bool b)) ?_, (Below.refl _ _).alloc (Nat.le_refl _) _⟩; rw [Hl.out]; (rw [Bool.eq_iff_iff]; first | (simp; done) | (simp; omega) | (simp_all; done) | (trace_state; fail)))
  by_cases h4 : k = 4
  · subst h4
    have Hl := Lib.hid (show Vl.leafC 4 t i ni l = (decide (t.size = 0) && decide (i = 0) && decide (l.length = 0)) from rfl)
    generalize Vl.leafC 4 t i ni l = r at *
    generalize l.length = n at *
    clear HA HS hk
    by_cases h0 : t.size = 0
    · have he : (t.toList == []) = true := by rw [hte, decide_eq_true h0]
      clear hte
      go_enter Tryz.func123, Tryz.ntmps123
      go_wp2_with fail
      all_goals (go_ret; refine ⟨congrArg (fun b => Ending.returned (Value.bool b)) ?_, (Below.refl _ _).alloc (Nat.le_refl _) _⟩; rw [Hl.out]; (rw [Bool.eq_iff_iff]; first | (simp; done) | (simp; omega) | (simp_all; done) | (trace_state; fail)))
    · have he : (t.toList == []) = false := by rw [hte, decide_eq_false h0]
      clear hte
      go_enter Tryz.func123, Tryz.ntmps123
      go_wp2_with fail
      all_goals (go_ret; refine ⟨congrArg (fun b => Ending.returned (Value.bool b)) ?_, (Below.refl _ _).alloc (Nat.le_refl _) _⟩; rw [Hl.out]; (rw [Bool.eq_iff_iff]; first | (simp; done) | (simp; omega) | (simp_all; done) | (trace_state; fail)))
  by_cases h5 : k = 5
  · subst h5
    have Hl := Lib.hid (show Vl.leafC 5 t i ni l = (decide (t.size = 0) && decide (i = 0) && decide (l.length = ni) && Vl.namesOk l) from rfl)
    generalize Vl.leafC 5 t i ni l = r at *
    have Hc := Lib.hid (fun W (h : Below w.heap.size w W) => namesRight_any pn cn l W hm HS.out (HA.out.below h))
    generalize l.length = n at *
    by_cases h0 : t.size = 0
    · have he : (t.toList == []) = true := by rw [hte, decide_eq_true h0]
      clear hte
      by_cases hgo : i = 0 ∧ n = ni
      · obtain ⟨rfl, rfl⟩ := hgo
        have hr : r = Vl.namesOk l := by rw [Hl.out, decide_eq_true h0]; simp
        clear Hl HA HS
        go_enter Tryz.func123, Tryz.ntmps123
        go_wp2_with fail
        refine (Hc.out _ ((Below.refl _ _).alloc (Nat.le_refl _) _)).mono ?_
        rintro e w1 ⟨rfl, rfl⟩
        go_wp2_with fail
        go_ret
        exact ⟨by rw [hr]; rfl, (Below.refl _ _).alloc (Nat.le_refl _) _⟩
      · have hr : r = false := by
          rw [Hl.out, decide_eq_true h0, Bool.true_and]
          by_cases h1 : i = 0
          · rw [decide_eq_false (fun e => hgo ⟨h1, e⟩), Bool.and_false, Bool.false_and]
          · rw [decide_eq_false h1, Bool.false_and, Bool.false_and]
        by_cases h1 : i = 0
        · have hne : ¬ n = ni := fun e => hgo ⟨h1, e⟩
          have hne2 : ((n : Int) == (ni : Int)) = false := beq_eq_false_iff_ne.2 (by omega)
          clear Hl HA HS Hc hgo
          go_enter Tryz.func123, Tryz.ntmps123
          go_wp2_with fail
          go_ret
          exact ⟨by rw [hr]; rfl, (Below.refl _ _).alloc (Nat.le_refl _) _⟩
        · clear Hl HA HS Hc hgo
          go_enter Tryz.func123, Tryz.ntmps123
          go_wp2_with fail
          go_ret
          exact ⟨by rw [hr]; rfl, (Below.refl _ _).alloc (Nat.le_refl _) _⟩
    · have he : (t.toList == []) = false := by rw [hte, decide_eq_false h0]
      have hr : r = false := by rw [Hl.out, decide_eq_false h0, Bool.false_and, Bool.false_and, Bool.false_and]
      clear hte Hl HA HS Hc
      go_enter Tryz.func123, Tryz.ntmps123
      go_wp2_with fail
      go_ret
      exact ⟨by rw [hr]; rfl, (Below.refl _ _).alloc (Nat.le_refl _) _⟩
  · have hr : Vl.leafC k t i ni l = false := by unfold Vl.leafC; split <;> first | contradiction | rfl
    have e1 : ((k : Int) == 1) = false := beq_eq_false_iff_ne.2 (by omega)
    have e2 : ((k : Int) == 2) = false := beq_eq_false_iff_ne.2 (by omega)
    have e3 : ((k : Int) == 3) = false := beq_eq_false_iff_ne.2 (by omega)
    have e4 : ((k : Int) == 4) = false := beq_eq_false_iff_ne.2 (by omega)
    have e5 : ((k : Int) == 5) = false := beq_eq_false_iff_ne.2 (by omega)
    rw [hr]
    clear hr hte HA HS
    go_enter Tryz.func123, Tryz.ntmps123
    go_wp2_with fail
    go_ret
    exact ⟨rfl, (Below.refl _ _).alloc (Nat.le_refl _) _⟩
end Go.Proofs.YteiccjakaabfnaaGreatDoor
