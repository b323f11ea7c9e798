
/-
  The words that tags begin with, in their table, and the walks of scan's kindOf and hasPath. Condition: the table reads as it is laid.
-/
import Derived.Test.YteajjlilpikdeaaGreatDoorScAt
import Derived.Test.YteajjlilpikdeaaGreatDoorScA
import Derived.Lib.BufferMore
namespace Go.Proofs.YteajjlilpikdeaaGreatDoor
open Go.RowKit

namespace Sc
def kw : Nat → ByteArray
  | 3 => ⟨#[105, 102]⟩
  | 4 => ⟨#[101, 108, 115, 101]⟩
  | 5 => ⟨#[101, 97, 99, 104]⟩
  | 6 => ⟨#[101, 110, 100]⟩
  | _ => ⟨#[]⟩
def kws : Array Value := #[.string ⟨#[]⟩, .string ⟨#[]⟩, .string ⟨#[]⟩, .string ⟨#[105, 102]⟩, .string ⟨#[101, 108, 115, 101]⟩, .string ⟨#[101, 97, 99, 104]⟩, .string ⟨#[101, 110, 100]⟩]
/-- The table as it is laid. -/
def Laid (w : World) : Prop := ∃ t fr, w.heap[2]? = some (.cells kws t fr)
theorem Laid.below {w w' : World} (h : Laid w) (hb : Below w.heap.size w w') : Laid w' := by
  obtain ⟨t, fr, h⟩ := h
  exact ⟨t, fr, (hb.block _ (Array.getElem?_eq_some_iff.1 h).1).trans h⟩
theorem Laid.cells {w : World} (h : Laid w) : w.cell? ⟨2, 0, none⟩ = some (.string ⟨#[]⟩) ∧ w.cell? ⟨2, 1, none⟩ = some (.string ⟨#[]⟩) ∧ w.cell? ⟨2, 2, none⟩ = some (.string ⟨#[]⟩) ∧ w.cell? ⟨2, 3, none⟩ = some (.string ⟨#[105, 102]⟩) ∧
    w.cell? ⟨2, 4, none⟩ = some (.string ⟨#[101, 108, 115, 101]⟩) ∧ w.cell? ⟨2, 5, none⟩ = some (.string ⟨#[101, 97, 99, 104]⟩) ∧ w.cell? ⟨2, 6, none⟩ = some (.string ⟨#[101, 110, 100]⟩) := by
  obtain ⟨t, fr, h⟩ := h
  exact ⟨by rw [Lib.cell_of_heap h]; rfl, by rw [Lib.cell_of_heap h]; rfl, by rw [Lib.cell_of_heap h]; rfl, by rw [Lib.cell_of_heap h]; rfl, by rw [Lib.cell_of_heap h]; rfl, by rw [Lib.cell_of_heap h]; rfl, by rw [Lib.cell_of_heap h]; rfl⟩
theorem kw_index (k : Nat) (hk : k < 7) (w : World) : (Instr.index 151 (.agg kws) (.int .i64 (k : Int))).run Tryz.prog w = .ok (.string (kw k)) w := by
  have hs : ∀ W, Sem.run Tryz.prog (sizeOf 9) W = .ok 1 W := fun W => Tryz.sizeOf9 W
  have hg : ∀ W, Sem.run Tryz.prog (isAgg 9) W = .ok false W := fun W => Tryz.isAgg9 W
  have hk2 : k = 0 ∨ k = 1 ∨ k = 2 ∨ k = 3 ∨ k = 4 ∨ k = 5 ∨ k = 6 := by omega
  rcases hk2 with rfl | rfl | rfl | rfl | rfl | rfl | rfl <;>
    simp [Instr.index, run_underlying Tryz.underlying151, asIntOf, hs, hg, part, Sem.run_bind, Result.andThen, kws, kw]
theorem kw_none (s : List UInt8) (h : ∀ j, j < 7 → s = (kw j).data.toList → s = []) : kindW s = 2 := by
  have key : ∀ j, j < 7 → (kw j).data.toList ≠ [] → s ≠ (kw j).data.toList := fun j hj hne e => hne (by rw [← e]; exact h j hj e)
  have h3 := key 3 (by omega) (by decide)
  have h4 := key 4 (by omega) (by decide)
  have h5 := key 5 (by omega) (by decide)
  have h6 := key 6 (by omega) (by decide)
  unfold kindW
  rw [if_neg (show ¬ s = wIf from h3), if_neg (show ¬ s = wElse from h4), if_neg (show ¬ s = wEach from h5), if_neg (show ¬ s = wEnd from h6)]
theorem kw_some (s : List UInt8) (k : Nat) (hk : k < 7) (h : s = (kw k).data.toList) (hne : s ≠ []) : kindW s = k := by
  have hk2 : k = 0 ∨ k = 1 ∨ k = 2 ∨ k = 3 ∨ k = 4 ∨ k = 5 ∨ k = 6 := by omega
  rcases hk2 with rfl | rfl | rfl | rfl | rfl | rfl | rfl
  · exact absurd h hne
  · exact absurd h hne
  · exact absurd h hne
  all_goals (subst h; decide)
theorem kindW_le (s : List UInt8) : kindW s ≤ 6 := by
  unfold kindW
  repeat' split
  all_goals omega
end Sc
set_option maxRecDepth 100000 in
set_option maxHeartbeats 1000000 in
theorem scKindOf_any (s : ByteArray) (w : World) (hT : Sc.Laid w) :
    Calls Tryz.prog 113 #[.string s] w fun e w' => e = .returned (.int .u8 ((Sc.kindW s.data.toList : Nat) : Int)) ∧ w' = w := by
  have HX := Lib.hid Sc.kw_index
  unfold Sc.kws at HX
  have HY := Lib.hid (fun k hk => Sc.kw_some s.data.toList k hk)
  have HZ := Lib.hid (Sc.kw_none s.data.toList)
  obtain ⟨R, hR⟩ : ∃ R, R = Sc.kindW s.data.toList := ⟨_, rfl⟩
  rw [← hR] at HY HZ ⊢
  obtain ⟨m0, m1, m2, m3, m4, m5, m6⟩ := hT.cells
  clear hR hT
  go_enter Tryz.func113, Tryz.ntmps113
  go_wp2_with fail
  clear m0 m1 m2 m3 m4 m5 m6
  go_loop [6] (fun i => ∃ k : Nat, k ≤ 7 ∧ i = .int .i64 k ∧ Hid (∀ j, j < k → s.data.toList = (Sc.kw j).data.toList → s.data.toList = [])) (fun i => 7 - (intOf i).toNat)
  case atStart => exact ⟨0, by omega, rfl, Lib.hid (fun j hj => absurd hj (by omega))⟩
  case round =>
    obtain ⟨k, hk, rfl, HN⟩ := hrel
    by_cases hlt : k < 7
    · have hix := HX.out k hlt
      have hye := HY.out k hlt
      by_cases hnm : s.data.toList = (Sc.kw k).data.toList ∧ s.data.toList ≠ []
      · have hr := hye hnm.1 hnm.2
        have q1 : (s.toList == (Sc.kw k).toList) = true := by rw [beq_iff_eq, Lib.toList_data, Lib.toList_data]; exact hnm.1
        have q2 : (s.toList != []) = true := by rw [bne_iff_ne, Lib.toList_data]; exact hnm.2
        have q3 : (s.toList == []) = false := by rw [beq_eq_false_iff_ne, Lib.toList_data]; exact hnm.2
        have hk0 : (0 : Int) ≤ (k : Int) := by omega
        have hk1 : (k : Int) < 7 := by omega
        have hk2 : IntKind.u8.wrap (k : Int) = (k : Int) := by rw [IntWalk.u8_in _ (by omega)]
        have HR := Lib.hid hr
        clear hnm hye HX HY HZ HN hr
        generalize Sc.kw k = nk at *
        go_wp2_with fail
        go_ret
        exact ⟨by rw [HR.out]; rfl, rfl⟩
      · have HN2 := Lib.hid (show ∀ j, j < k + 1 → s.data.toList = (Sc.kw j).data.toList → s.data.toList = [] from fun j hj e => by
          by_cases h : j < k
          · exact HN.out j h e
          · obtain rfl : j = k := by omega
            cases hs : s.data.toList with
            | nil => rfl
            | cons a t => exact absurd ⟨e, by rw [hs]; simp⟩ hnm)
        have q : (s.toList == (Sc.kw k).toList) = false ∨ ((s.toList == (Sc.kw k).toList) = true ∧ (s.toList != []) = false ∧ (s.toList == []) = true) := by
          by_cases e : s.data.toList = (Sc.kw k).data.toList
          · right
            have hs : s.data.toList = [] := by
              cases hs : s.data.toList with
              | nil => rfl
              | cons a t => exact absurd ⟨e, by rw [hs]; simp⟩ hnm
            refine ⟨by rw [beq_iff_eq, Lib.toList_data, Lib.toList_data]; exact e, ?_, ?_⟩
            · rw [Lib.toList_data, hs]; rfl
            · rw [Lib.toList_data, hs]; rfl
          · left
            rw [beq_eq_false_iff_ne, Lib.toList_data, Lib.toList_data]
            exact e
        have hk1 : (k : Int) < 7 := by omega
        clear hnm hye HX HY HZ HN
        generalize Sc.kw k = nk at hix q
        rcases q with q1 | ⟨q1, q2, q3⟩
        · go_wp2_with fail
          exact ⟨⟨k + 1, by omega, by go_num, HN2⟩, by simp [intOf]; omega⟩
        · go_wp2_with fail
          exact ⟨⟨k + 1, by omega, by go_num, HN2⟩, by simp [intOf]; omega⟩
    · obtain rfl : k = 7 := by omega
      have hr := HZ.out HN.out
      subst hr
      go_wp2_with fail
      go_ret
      exact ⟨rfl, rfl⟩
def Sc.hasP (k : Nat) : Bool := decide (k = 2) || decide (k = 3) || decide (k = 5)
set_option maxRecDepth 100000 in
theorem scHasPath_any (k : Nat) (w : World) :
    Calls Tryz.prog 117 #[.int .u8 k] w fun e w' => e = .returned (.bool (Sc.hasP k)) ∧ w' = w := by
  by_cases h2 : k = 2
  · subst h2
    go_enter Tryz.func117, Tryz.ntmps117
    go_wp2_with fail
    go_ret
    exact ⟨rfl, rfl⟩
  · by_cases h3 : k = 3
    · subst h3
      go_enter Tryz.func117, Tryz.ntmps117
      go_wp2_with fail
      go_ret
      exact ⟨rfl, rfl⟩
    · by_cases h5 : k = 5
      · subst h5
        go_enter Tryz.func117, Tryz.ntmps117
        go_wp2_with fail
        go_ret
        exact ⟨rfl, rfl⟩
      · have e : Sc.hasP k = false := by unfold Sc.hasP; rw [decide_eq_false h2, decide_eq_false h3, decide_eq_false h5]; rfl
        have q2 : ((k : Int) == 2) = false := beq_eq_false_iff_ne.2 (by omega)
        have q3 : ((k : Int) == 3) = false := beq_eq_false_iff_ne.2 (by omega)
        have q5 : ((k : Int) == 5) = false := beq_eq_false_iff_ne.2 (by omega)
        rw [e]
        go_enter Tryz.func117, Tryz.ntmps117
        go_wp2_with fail
        go_ret
        exact ⟨rfl, rfl⟩
end Go.Proofs.YteajjlilpikdeaaGreatDoor
