/-
  The walks of week's checkBoth and fit: why one of two weeks is not right, and a week that is not too long. Condition: a list is of a size that a machine holds.
-/
import Derived.Test.YtpaleljnkejdgaaGreatDoorWkAsk
namespace Go.Proofs.YtpaleljnkejdgaaGreatDoor
open Go.RowKit Go.Lib Go.Shelf

/-- Why one of two weeks is not right. -/
def Wk.chkB (a b : List (Int × Int)) : Int := if Wk.Ok a ∧ Wk.Ok b then 0 else 2
set_option maxHeartbeats 1000000 in
set_option maxRecDepth 100000 in
theorem wk_checkBoth (a b : List (Int × Int)) (p q : Option Addr) (c d : Nat) (w : World) (hA : Wk.At w p a) (hB : Wk.At w q b) (hn : a.length ≤ 140737488351232) (hm : b.length ≤ 140737488351232) :
    Calls Tryz.prog 34 #[.slice p a.length c, .slice q b.length d] w fun e w' => e = .returned (.int .i64 (Wk.chkB a b)) ∧ Below w.heap.size w w' := by
  have HC := Lib.hid (wk_Check a p c w hA hn)
  have HD := Lib.hid (fun w1 (h : Below w.heap.size w w1) => wk_Check b q d w1 (hB.below h) hm)
  unfold Wk.chkB
  by_cases ho : Wk.Ok a
  · rw [show Wk.chk a = 0 from if_pos ho] at HC
    have e : (if Wk.Ok a ∧ Wk.Ok b then (0 : Int) else 2) = Wk.chk b := by unfold Wk.chk; by_cases h : Wk.Ok b <;> simp [ho, h]
    rw [e]
    clear ho e
    generalize Wk.chk b = r at *
    generalize a.length = n at *
    generalize b.length = m at *
    go_enter Tryz.func34, Tryz.ntmps34
    go_wp2_with fail
    refine HC.out.mono ?_
    rintro e w1 ⟨rfl, hb⟩
    have HB1 := Lib.hid hb
    clear hb
    go_wp2_with fail
    refine (HD.out _ HB1.out).mono ?_
    rintro e w2 ⟨rfl, hb⟩
    go_wp2_with fail
    go_ret
    exact ⟨rfl, wk_then HB1.out hb HB1.out.size⟩
  · rw [show Wk.chk a = 2 from if_neg ho] at HC
    rw [if_neg (fun h => ho h.1)]
    clear ho HD
    generalize a.length = n at *
    generalize b.length = m at *
    go_enter Tryz.func34, Tryz.ntmps34
    go_wp2_with fail
    refine HC.out.mono ?_
    rintro e w1 ⟨rfl, hb⟩
    go_wp2_with fail
    go_ret
    exact ⟨rfl, hb⟩
/-- What fit hands back of a week: it, or none, if it is too long. -/
def Wk.fitC (l : List (Int × Int)) : Int := if l.length ≤ 64 then 0 else 12
def Wk.fitL (l : List (Int × Int)) : List (Int × Int) := if l.length ≤ 64 then l else []
theorem wk_fit (l : List (Int × Int)) (p : Option Addr) (c : Nat) (w : World) (hA : Wk.At w p l) (hn : l.length ≤ 100000) :
    Calls Tryz.prog 35 #[.slice p l.length c] w fun e w' => (∃ p' c', e = .returned (.tuple #[.slice p' (Wk.fitL l).length c', .int .i64 (Wk.fitC l)]) ∧ Wk.At w p' (Wk.fitL l)) ∧ w = w' := by
  unfold Wk.fitL Wk.fitC
  by_cases h : l.length ≤ 64
  · rw [if_pos h, if_pos h]
    have HA := Lib.hid hA
    clear hA
    generalize l.length = n at *
    go_enter Tryz.func35, Tryz.ntmps35
    go_wp2_with fail
    go_ret2
    exact ⟨⟨p, c, rfl, HA.out⟩, rfl⟩
  · rw [if_neg h, if_neg h]
    have h2 : 64 < l.length := by omega
    clear h hA
    generalize l.length = n at *
    go_enter Tryz.func35, Tryz.ntmps35
    go_wp2_with fail
    go_ret2
    exact ⟨⟨none, 0, rfl, Wk.At.nil _ _⟩, rfl⟩
end Go.Proofs.YtpaleljnkejdgaaGreatDoor
