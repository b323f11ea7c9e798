/-
  The walk of a device's own writing where nothing is written: the power is gone, there is no such block, the data are too long, too much waits. Conditions: the device lies in a box of its own.
-/
import Derived.Test.YtpmhgfjnabgilaaDoorWriteWalk
namespace Go.Proofs.YtpmhgfjnabgilaaDoor
open Go.RowKit

/-- What is answered of a write that writes nothing; 0: it waits. -/
def Wp.Dev.writeNo (d : Wp.Dev) (at_ : Int) (n : Nat) : Int := if d.dn then 9 else if Wp.inside d at_ = false then 1 else if 64 < n then 12 else if d.ws.length = 4096 then 8 else 0
set_option maxRecDepth 100000 in
theorem Wp.write1_no (d : Wp.Dev) (at_ : Int) (data : ByteArray) (h : d.writeNo at_ data.size ≠ 0) : d.write1 at_ data = (d, d.writeNo at_ data.size) := by
  unfold Wp.Dev.writeNo at h ⊢
  unfold Wp.Dev.write1
  split
  · rfl
  · split
    · rfl
    · split
      · rfl
      · split
        · rfl
        · rename_i h1 h2 h3 h4
          simp [h1, h2, h3, h4] at h
set_option maxRecDepth 100000 in
theorem Wp.write1_yes (d : Wp.Dev) (at_ : Int) (data : ByteArray) (h : d.writeNo at_ data.size = 0) : d.dn = false ∧ 0 ≤ at_ ∧ at_ < (d.bl.length : Int) ∧ data.size ≤ 64 ∧ d.ws.length ≠ 4096 ∧ d.write1 at_ data = Wp.Dev.spend { d with ws := d.ws ++ [(at_, Wp.laid (Wp.B []) data data.size)] } := by
  unfold Wp.Dev.writeNo at h
  unfold Wp.Dev.write1
  split at h
  · simp at h
  · split at h
    · simp at h
    · split at h
      · simp at h
      · split at h
        · simp at h
        · rename_i h1 h2 h3 h4
          rw [if_neg h1, if_neg h2, if_neg h3, if_neg h4]
          simp only [Wp.inside, Bool.not_eq_false, Bool.and_eq_true, decide_eq_true_eq] at h2
          exact ⟨by simpa using h1, h2.1, h2.2, by omega, h4, rfl⟩

set_option maxRecDepth 100000 in
set_option maxHeartbeats 1000000 in
theorem write_no (w : World) (g : Nat) (vb vw : Value) (d : Wp.Dev) (at_ : Int) (data : ByteArray) (h : Wp.Box w g vb vw d.fu d.dn)
    (hvb : ∃ p c, vb = .slice p d.bl.length c) (hvw : ∃ p c, vw = .slice p d.ws.length c) (hbl : d.bl.length ≤ 4096) (hws : d.ws.length ≤ 4096) (hdata : data.size ≤ 9223372036854775807) (hno : d.writeNo at_ data.size ≠ 0) :
    Calls Tryd.prog 152 #[.pointer (some ⟨g, 0, none⟩), .int .i64 at_, .string data] w fun e w' => e = .returned (.int .i64 (d.writeNo at_ data.size)) ∧ Below w.heap.size w w' := by
  obtain ⟨pb, cb, rfl⟩ := hvb
  obtain ⟨pw, cw, rfl⟩ := hvw
  obtain ⟨bl, ws, fu, dn⟩ := d
  simp only [Wp.Dev.writeNo] at *
  obtain ⟨c0, c1, c2, c3, f0, f1, f2, f3⟩ := h.facts
  have Hb := Lib.hid h
  clear h
  cases dn with
  | true =>
    simp only [if_true] at *
    go_enter Tryd.func152, Tryd.ntmps152
    go_wp2_with fail
    go_ret
    exact ⟨rfl, Below.refl _ _⟩
  | false =>
    simp only [Bool.false_eq_true, if_false] at *
    cases hin : (decide (0 ≤ at_) && decide (at_ < (bl.length : Int))) with
    | false =>
      have hin2 : Wp.inside ⟨bl, ws, fu, false⟩ at_ = false := hin
      rw [if_pos hin2]
      clear hno hin2
      go_enter Tryd.func152, Tryd.ntmps152
      go_wp2_with fail
      refine (holds_any _ _ _ _ _ _ _ _ _ _ (by omega)).mono ?_
      rintro e w3 ⟨rfl, hb3⟩
      rw [hin]
      go_wp2_with fail
      go_ret
      exact ⟨rfl, hb3⟩
    | true =>
      have hin2 : ¬ Wp.inside ⟨bl, ws, fu, false⟩ at_ = false := by rw [show Wp.inside ⟨bl, ws, fu, false⟩ at_ = true from hin]; simp
      rw [if_neg hin2] at hno ⊢
      clear hin2
      by_cases hl : 64 < data.size
      · rw [if_pos hl]
        clear hno
        go_enter Tryd.func152, Tryd.ntmps152
        go_wp2_with fail
        refine (holds_any _ _ _ _ _ _ _ _ _ _ (by omega)).mono ?_
        rintro e w3 ⟨rfl, hb3⟩
        rw [hin]
        go_wp2_with fail
        go_ret
        exact ⟨rfl, hb3⟩
      · rw [if_neg hl] at hno ⊢
        by_cases hf : ws.length = 4096
        · rw [if_pos hf]
          clear hno
          have hq : ((ws.length : Int) == 4096) = true := beq_iff_eq.2 (by omega)
          have hl' : ¬ (64 : Int) < (data.size : Int) := by omega
          clear hf
          go_enter Tryd.func152, Tryd.ntmps152
          go_wp2_with fail
          refine (holds_any _ _ _ _ _ _ _ _ _ _ (by omega)).mono ?_
          rintro e w3 ⟨rfl, hb3⟩
          rw [hin]
          obtain ⟨d0, d1, d2, d3, _, _, _, _⟩ := (Hb.out.below hb3).facts
          go_wp2_with fail
          go_ret
          exact ⟨rfl, hb3⟩
        · rw [if_neg hf] at hno
          exact absurd rfl hno
end Go.Proofs.YtpmhgfjnabgilaaDoor
