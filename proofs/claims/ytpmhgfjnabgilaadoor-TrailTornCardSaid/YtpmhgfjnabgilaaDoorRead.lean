/-
  The walk of block.Read, at whatever device. Conditions: a device's lists and numbers are of a size that a machine holds.
-/
import Derived.Test.YtpmhgfjnabgilaaDoorHas
import Derived.Test.YtpmhgfjnabgilaaDoorShelf
namespace Go.Proofs.YtpmhgfjnabgilaaDoor
open Go.RowKit

set_option maxRecDepth 100000 in
theorem has_any (pb : Option Addr) (cb : Nat) (pw : Option Addr) (cw : Nat) (bl : List ByteArray) (ws : List (Int × ByteArray)) (fu : Int) (dn : Bool) (a : Nat) (w : World) (hab : Wp.At Wp.mkT w pb bl) (haw : Wp.AtW w pw ws) (ha : a < bl.length) (hb : bl.length ≤ 4096) (hw : ws.length ≤ 4096) :
    Calls Tryd.prog 62 #[.agg #[.slice pb bl.length cb, .slice pw ws.length cw, .int .i64 fu, .bool dn], .int .i64 (a : Int)] w fun e w' => e = .returned (.string (Wp.hasF a ws bl[a])) ∧ Below w.heap.size w w' :=
  (callsIn_wide (n := 3)).1 (has_in Fence.wide 3 trivial trivial trivial rfl (Nat.le_refl _) pb cb pw cw bl ws fu dn a w hab haw ha hb hw)
set_option maxRecDepth 100000 in
set_option maxHeartbeats 400000 in
theorem clone_text (s : ByteArray) (w : World) (hs : s.size ≤ 281474976710656) :
    Calls Tryd.prog 61 #[.string s] w fun e w' => e = .returned (.string s) ∧ Below w.heap.size w w' := by
  go_enter Tryd.func61, Tryd.ntmps61
  go_wp2_with fail
  refine (Tryd.stringslite_Clone s w hs).mono ?_
  rintro e w' ⟨rfl, hb⟩
  go_wp2_with fail
  go_ret
  exact ⟨rfl, hb⟩

set_option maxRecDepth 100000 in
theorem Wp.hasF_size (a : Int) (ws : List (Int × ByteArray)) (s : ByteArray) (h : ∀ x ∈ ws, x.2.size ≤ 64) (hs : s.size ≤ 64) : (Wp.hasF a ws s).size ≤ 64 := by
  induction ws generalizing s with
  | nil => exact hs
  | cons x ws ih =>
    simp only [Wp.hasF, List.foldl_cons]
    refine ih _ (fun y hy => h y (by simp [hy])) ?_
    split
    · exact h x (by simp)
    · exact hs
set_option maxRecDepth 100000 in
set_option maxHeartbeats 1000000 in
/-- Read, at whatever device. -/
theorem Read_any (v : Value) (d : Wp.Dev) (at_ : Int) (w : World) (hv : Wp.DevAt w v d) (hf : d.Fits) :
    Calls Tryd.prog 19 #[v, .int .i64 at_] w fun e w' => e = .returned (.tuple #[.string (d.read at_).1, .int .i64 (d.read at_).2]) ∧ Below w.heap.size w w' := by
  have hbl := hf.bl
  obtain ⟨pb, cb, pw, cw, rfl, hv2, hc⟩ := asks hv hf
  cases hok : d.ok with
  | false =>
    rw [Wp.Dev.chk_bad hok] at hc
    have e1 : d.read at_ = (Wp.B [], 2) := by unfold Wp.Dev.read; rw [if_pos hok]
    rw [e1]
    have Hc := Lib.hid hc
    clear hv hf hok hc hv2 e1
    obtain ⟨bl, ws, fu, dn⟩ := d
    simp only [] at Hc
    go_enter Tryd.func19, Tryd.ntmps19
    go_wp2_with fail
    refine (Hc.out _ ((Below.refl _ _).alloc (Nat.le_refl _) _)).mono ?_
    rintro e w1 ⟨rfl, hb1⟩
    go_wp2_with fail
    go_ret2
    exact ⟨rfl, ((Below.refl _ _).alloc (Nat.le_refl _) _).trans (hb1.mono (by simp))⟩
  | true =>
    obtain ⟨⟨n1, n2, n3⟩, n4, n5⟩ := Wp.Dev.Fits_ok hok
    rw [Wp.Dev.chk_ok hok] at hc
    have e1 : d.read at_ = if d.dn then (Wp.B [], 9) else if Wp.inside d at_ then (d.has at_, 0) else (Wp.B [], 1) := by unfold Wp.Dev.read; rw [if_neg (by rw [hok]; simp)]
    rw [e1]
    have Hc := Lib.hid hc
    have Hv := Lib.hid hv2
    have N4 := Lib.hid n4
    have N5 := Lib.hid n5
    clear hv hf hok hc hv2 e1 n4 n5
    obtain ⟨bl, ws, fu, dn⟩ := d
    simp only [] at Hc Hv n1 n2 n3 hbl N4 N5 ⊢
    cases dn with
    | true =>
      simp only [if_true]
      have hx := alloc_new w (.cells #[.slice pb bl.length cb, .slice pw ws.length cw, .int .i64 fu, .bool true] 25)
      have Hx := Lib.hid hx
      clear hx
      go_enter Tryd.func19, Tryd.ntmps19
      go_wp2_with fail
      refine (Hc.out _ ((Below.refl _ _).alloc (Nat.le_refl _) _)).mono ?_
      rintro e w1 ⟨rfl, hb1⟩
      rw [World.size_alloc] at hb1
      obtain ⟨c0, c1, c2, c3, _, _, _, _⟩ := Wp.four_of ((hb1.block w.heap.size (by omega)).trans Hx.out)
      go_wp2_with fail
      go_ret2
      exact ⟨rfl, (((Below.refl _ _).alloc (Nat.le_refl _) _).trans (hb1.mono (by omega))).alloc (by have := hb1.size; simp at this; omega) _⟩
    | false =>
      simp only [Bool.false_eq_true, if_false]
      cases hin : (decide (0 ≤ at_) && decide (at_ < (bl.length : Int))) with
      | false =>
        rw [if_neg (by rw [show Wp.inside ⟨bl, ws, fu, false⟩ at_ = false from hin]; simp)]
        have hx := alloc_new w (.cells #[.slice pb bl.length cb, .slice pw ws.length cw, .int .i64 fu, .bool false] 25)
        have Hx := Lib.hid hx
        clear hx
        go_enter Tryd.func19, Tryd.ntmps19
        go_wp2_with fail
        refine (Hc.out _ ((Below.refl _ _).alloc (Nat.le_refl _) _)).mono ?_
        rintro e w1 ⟨rfl, hb1⟩
        rw [World.size_alloc] at hb1
        obtain ⟨c0, c1, c2, c3, _, _, _, _⟩ := Wp.four_of ((hb1.block w.heap.size (by omega)).trans Hx.out)
        go_wp2_with fail
        refine (holds_any _ _ _ _ _ _ _ _ _ _ (by omega)).mono ?_
        rintro e w3 ⟨rfl, hb3⟩
        rw [hin]
        go_wp2_with fail
        go_ret2
        exact ⟨rfl, ((((Below.refl _ _).alloc (Nat.le_refl _) _).trans (hb1.mono (by omega))).alloc (by have := hb1.size; simp at this; omega) _).trans (hb3.mono (by have := hb1.size; simp at this ⊢; omega))⟩
      | true =>
        have hin2 : Wp.inside ⟨bl, ws, fu, false⟩ at_ = true := hin
        rw [if_pos hin2]
        have hin3 := hin
        rw [Bool.and_eq_true, decide_eq_true_eq, decide_eq_true_eq] at hin3
        obtain ⟨i0, i1⟩ := hin3
        clear hin2
        obtain ⟨a, rfl⟩ := Int.eq_ofNat_of_zero_le i0
        have ha : a < bl.length := by omega
        have hha : Wp.Dev.has ⟨bl, ws, fu, false⟩ (a : Int) = Wp.hasF a ws bl[a] := by unfold Wp.Dev.has; rw [Int.toNat_natCast, Wp.nth_get _ _ ha]
        have hsz : (Wp.hasF a ws bl[a]).size ≤ 64 := Wp.hasF_size _ _ _ N5.out (N4.out _ (List.getElem_mem _))
        rw [hha]
        have hhas : ∀ w', Below w.heap.size w w' → Calls Tryd.prog 62 #[.agg #[.slice pb bl.length cb, .slice pw ws.length cw, .int .i64 fu, .bool false], .int .i64 (a : Int)] w' fun e w'' => e = .returned (.string (Wp.hasF a ws bl[a])) ∧ Below w'.heap.size w' w'' := by
          intro w' hb
          have hd := Hv.out w' hb
          obtain ⟨pb2, cb2, pw2, cw2, he, h1, h2⟩ := hd
          simp only [Wp.devV, Value.agg.injEq, Array.mk.injEq, List.cons.injEq, Value.slice.injEq, and_true, true_and] at he
          obtain ⟨⟨rfl, rfl⟩, rfl, rfl⟩ := he
          exact has_any pb cb pw cw bl ws fu false a w' h1 h2 ha n1 n2
        generalize Wp.hasF a ws bl[a] = x at *
        have Hhas := Lib.hid hhas
        have hx := alloc_new w (.cells #[.slice pb bl.length cb, .slice pw ws.length cw, .int .i64 fu, .bool false] 25)
        have Hx := Lib.hid hx
        clear hx hhas hha
        go_enter Tryd.func19, Tryd.ntmps19
        go_wp2_with fail
        refine (Hc.out _ ((Below.refl _ _).alloc (Nat.le_refl _) _)).mono ?_
        rintro e w1 ⟨rfl, hb1⟩
        rw [World.size_alloc] at hb1
        obtain ⟨c0, c1, c2, c3, _, _, _, _⟩ := Wp.four_of ((hb1.block w.heap.size (by omega)).trans Hx.out)
        go_wp2_with fail
        refine (holds_any _ _ _ _ _ _ _ _ _ _ (by omega)).mono ?_
        rintro e w3 ⟨rfl, hb3⟩
        rw [hin]
        have hz := (hb3.block w1.heap.size (by simp)).trans (alloc_new w1 (.cells #[.slice pb bl.length cb, .slice pw ws.length cw, .int .i64 fu, .bool false] 92))
        have hB3 : Below w.heap.size w w3 := ((((Below.refl _ _).alloc (Nat.le_refl _) _).trans (hb1.mono (by omega))).alloc (by have := hb1.size; simp at this; omega) _).trans (hb3.mono (by have := hb1.size; simp at this ⊢; omega))
        clear c0 c1 c2 c3
        obtain ⟨c0, c1, c2, c3, _, _, _, _⟩ := Wp.four_of hz
        clear hz
        go_wp2_with fail
        refine (Hhas.out _ hB3).mono ?_
        rintro e w4 ⟨rfl, hb4⟩
        go_wp2_with fail
        refine (clone_text _ _ (by omega)).mono ?_
        rintro e w5 ⟨rfl, hb5⟩
        go_wp2_with fail
        go_ret2
        exact ⟨rfl, (hB3.trans (hb4.mono hB3.size)).trans (hb5.mono (by have := hB3.size; have := hb4.size; omega))⟩
end Go.Proofs.YtpmhgfjnabgilaaDoor
