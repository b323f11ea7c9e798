/-
  The walk of the reference's Sum of a week. Condition: a list is of a size that a machine holds.
-/
import Derived.Test.YtpaleljnkejdgaaGreatDoorWkRChk
import Derived.Test.YtpaleljnkejdgaaGreatDoorWkAsk
namespace Go.Proofs.YtpaleljnkejdgaaGreatDoor
open Go.RowKit Go.Lib Go.Shelf

def Wk.SameW (a b : World) : Prop := a = b
theorem Wk.sameW (a : World) : Wk.SameW a a := rfl
/-- How many of the first minutes are had. -/
def Wk.cnt (f : Int → Bool) : Nat → Int
  | 0 => 0
  | k + 1 => Wk.cnt f k + if f (k : Int) = true then 1 else 0
theorem Wk.cnt_bd (f : Int → Bool) (k : Nat) : 0 ≤ Wk.cnt f k ∧ Wk.cnt f k ≤ (k : Int) := by
  induction k with
  | zero => simp [Wk.cnt]
  | succ k ih => unfold Wk.cnt; split <;> omega
def Wk.upTo : List (Int × Int) → Int → Int
  | [], _ => 0
  | r :: l, i => (if i ≤ r.1 then 0 else if i ≤ r.2 then i - r.1 else r.2 - r.1) + Wk.upTo l i
theorem Wk.upTo_succ {a : Int} {l : List (Int × Int)} (h : Wk.Ch a l) (i : Int) : Wk.upTo l (i + 1) = Wk.upTo l i + if Wk.has l i = true then 1 else 0 := by
  induction l generalizing a with
  | nil => simp [Wk.upTo, Wk.has_nil]
  | cons r l ih =>
    obtain ⟨h1, h2, h3, h4⟩ := h
    rw [Wk.upTo, Wk.upTo, ih h4, Wk.has_cons]
    by_cases hr : r.1 ≤ i ∧ i < r.2
    · rw [h4.below (show i ≤ r.2 by omega), show Wk.inR r i = true from Wk.inR_iff.2 hr]
      simp
      split <;> split <;> (try split) <;> (try split) <;> omega
    · rw [show Wk.inR r i = false from Bool.eq_false_iff.2 fun e => hr (Wk.inR_iff.1 e), Bool.false_or]
      split <;> split <;> (try split) <;> (try split) <;> omega
theorem Wk.upTo_zero {a : Int} {l : List (Int × Int)} (h : Wk.Ch a l) (ha : -1 ≤ a) : Wk.upTo l 0 = 0 := by
  induction l generalizing a with
  | nil => rfl
  | cons r l ih =>
    obtain ⟨h1, h2, h3, h4⟩ := h
    rw [Wk.upTo, ih h4 (by omega), if_pos (by omega)]; rfl
theorem Wk.upTo_all {a : Int} {l : List (Int × Int)} (h : Wk.Ch a l) : Wk.upTo l 10080 = Wk.sum l := by
  induction l generalizing a with
  | nil => rfl
  | cons r l ih =>
    obtain ⟨h1, h2, h3, h4⟩ := h
    rw [Wk.upTo, ih h4, Wk.sum, if_neg (by omega)]
    split <;> omega
theorem Wk.cnt_sum {l : List (Int × Int)} (h : Wk.Ch (-1) l) : Wk.cnt (Wk.has l) 10080 = Wk.sum l := by
  have hk : ∀ k : Nat, Wk.cnt (Wk.has l) k = Wk.upTo l (k : Int) := fun k => by
    induction k with
    | zero =>
      have e : ((0 : Nat) : Int) = 0 := rfl
      rw [e, Wk.upTo_zero h (by omega)]; rfl
    | succ k ih => rw [Wk.cnt, ih, show ((k + 1 : Nat) : Int) = (k : Int) + 1 by omega, Wk.upTo_succ h]
  rw [hk]
  exact Wk.upTo_all h
set_option maxHeartbeats 2000000 in
set_option maxRecDepth 100000 in
theorem ref_Sum (l : List (Int × Int)) (p : Option Addr) (c : Nat) (w : World) (hA : Wk.At w p l) (hn : l.length ≤ 140737488351232) :
    Calls Tryz.prog 29 #[.slice p l.length c] w fun e w' => e = .returned (.tuple #[.int .i64 (Wk.sumR l), .int .i64 (Wk.chk l)]) ∧ Below w.heap.size w w' := by
  have CC := Lib.hid (fun w hA => ref_Check l p c w hA hn)
  have AL := Lib.hid hA
  clear hA
  by_cases ho : Wk.Ok l
  · have CM := Lib.hid (fun w hA => ref_Minutes l p c w hA ho)
    rw [show Wk.chk l = 0 from if_pos ho] at CC ⊢
    have HS := Lib.hid (show ∀ k : Nat, k = 10080 → Wk.cnt (Wk.has l) k = Wk.sumR l from fun k hk => by rw [hk, Wk.cnt_sum ho.2]; exact (if_pos ho).symm)
    clear ho hn
    generalize Wk.sumR l = S at *
    generalize Wk.has l = f at *
    generalize l.length = n at *
    go_enter Tryz.func29, Tryz.ntmps29
    go_wp2_with fail
    refine (CC.out _ AL.out).mono ?_
    rintro e w1 ⟨rfl, hB⟩
    have A1 := Lib.hid (AL.out.below hB)
    have B1 := Lib.hid hB
    clear hB
    go_wp2_with fail
    refine (CM.out _ A1.out).mono ?_
    rintro e w3 ⟨v3, rfl, hb, hB⟩
    obtain ⟨g, cap, rfl, _, _⟩ := hb.form
    have HB := Lib.hid hb
    have B3 := Lib.hid (wk_then B1.out hB B1.out.size)
    clear hB hb
    go_wp2_with fail
    go_loopw [4, 13] (fun v i wr => ∃ k : Nat, k ≤ 10080 ∧ i = .int .i64 (k : Int) ∧ v = .int .i64 (Wk.cnt f k) ∧ Wk.SameW wr w3) (fun _ i _ => 10080 - (RowKit.intOf i).toNat)
    case atStart => exact ⟨0, Nat.zero_le _, rfl, rfl, Wk.sameW _⟩
    case round =>
      obtain ⟨k, hk, rfl, rfl, hw⟩ := hrel
      obtain rfl : w3 = wr := Eq.symm hw
      obtain ⟨b1, b2⟩ := Wk.cnt_bd f k
      have hs := Lib.hid (show Wk.cnt f (k + 1) = Wk.cnt f k + if f (k : Int) = true then 1 else 0 from rfl)
      by_cases hlt : k < 10080
      · obtain ⟨c1, c2⟩ := HB.out.cell k hlt
        have hltz : (k : Int) < 10080 := by omega
        have hk0 : (0 : Int) ≤ (k : Int) := by omega
        cases hf : f (k : Int) with
        | true =>
          rw [hf] at c1
          have hs2 := Lib.hid (hs.out.trans (by rw [hf, if_pos rfl]))
          clear hf hs
          generalize Wk.cnt f k = s at *
          go_wp2_with fail
          exact ⟨⟨k + 1, by omega, by go_num, by rw [hs2.out], Wk.sameW _⟩, by simp [RowKit.intOf]; omega⟩
        | false =>
          rw [hf] at c1
          have hs2 := Lib.hid (hs.out.trans (by rw [hf, if_neg (by simp)]))
          clear hf hs
          generalize Wk.cnt f k = s at *
          go_wp2_with fail
          exact ⟨⟨k + 1, by omega, by go_num, by rw [hs2.out, Int.add_zero], Wk.sameW _⟩, by simp [RowKit.intOf]; omega⟩
      · have hk9 := HS.out k (by omega)
        have hk0 : k = 10080 := by omega
        clear hs b1 b2 hlt hk HS
        generalize Wk.cnt f k = s at *
        subst hk9
        subst hk0
        go_wp2_with fail
        go_ret2
        exact ⟨rfl, B3.out⟩
  · rw [show Wk.chk l = 2 from if_neg ho] at CC ⊢
    rw [show Wk.sumR l = 0 from if_neg ho]
    clear ho hn
    generalize l.length = n at *
    go_enter Tryz.func29, Tryz.ntmps29
    go_wp2_with fail
    refine (CC.out _ AL.out).mono ?_
    rintro e w1 ⟨rfl, hB⟩
    have B1 := Lib.hid hB
    clear hB
    go_wp2_with fail
    go_ret2
    exact ⟨rfl, B1.out⟩
end Go.Proofs.YtpaleljnkejdgaaGreatDoor
