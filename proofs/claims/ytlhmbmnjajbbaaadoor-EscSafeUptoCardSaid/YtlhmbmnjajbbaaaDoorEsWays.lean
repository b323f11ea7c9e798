
/-
  The walks of esc's Most, Name and Named, and of the document's own. Condition: the table of the channels reads as it is laid.
-/
import Derived.Test.YtlhmbmnjajbbaaaDoorEsFromM
import Derived.Lib.BufferMore
import Derived.IntWalk
namespace Go.Proofs.YtlhmbmnjajbbaaaDoor
open Go.RowKit

namespace Es
def nm (k : Nat) : ByteArray := if k = 1 then ⟨#[112, 117, 115, 104]⟩ else if k = 2 then ⟨#[101, 109, 97, 105, 108]⟩ else if k = 3 then ⟨#[115, 109, 115]⟩ else ⟨#[]⟩
def mx (k : Nat) : Int := if k = 1 then 256 else if k = 2 then 2048 else if k = 3 then 160 else 0
def wys : Array Value := #[.string ⟨#[]⟩, .int .i64 0, .string ⟨#[112, 117, 115, 104]⟩, .int .i64 256, .string ⟨#[101, 109, 97, 105, 108]⟩, .int .i64 2048, .string ⟨#[115, 109, 115]⟩, .int .i64 160]
/-- The table of the channels reads as it is laid. -/
def Ways (w : World) : Prop := ∃ t fr, w.heap[0]? = some (.cells wys t fr)
theorem Ways.below {w w' : World} (h : Ways w) (hb : Below w.heap.size w w') : Ways w' := by
  obtain ⟨t, fr, h⟩ := h
  exact ⟨t, fr, (hb.block _ (Array.getElem?_eq_some_iff.1 h).1).trans h⟩
theorem Ways.cells {w : World} (h : Ways w) : w.cell? ⟨0, 2, none⟩ = some (.string ⟨#[112, 117, 115, 104]⟩) ∧ w.cell? ⟨0, 3, none⟩ = some (.int .i64 256) ∧ w.cell? ⟨0, 4, none⟩ = some (.string ⟨#[101, 109, 97, 105, 108]⟩) ∧
    w.cell? ⟨0, 5, none⟩ = some (.int .i64 2048) ∧ w.cell? ⟨0, 6, none⟩ = some (.string ⟨#[115, 109, 115]⟩) ∧ w.cell? ⟨0, 7, none⟩ = some (.int .i64 160) := by
  obtain ⟨t, fr, h⟩ := h
  exact ⟨by rw [Lib.cell_of_heap h]; rfl, by rw [Lib.cell_of_heap h]; rfl, by rw [Lib.cell_of_heap h]; rfl, by rw [Lib.cell_of_heap h]; rfl, by rw [Lib.cell_of_heap h]; rfl, by rw [Lib.cell_of_heap h]; rfl⟩
theorem Ways.cells0 {w : World} (h : Ways w) : w.cell? ⟨0, 0, none⟩ = some (.string ⟨#[]⟩) ∧ w.cell? ⟨0, 1, none⟩ = some (.int .i64 0) := by
  obtain ⟨t, fr, h⟩ := h
  exact ⟨by rw [Lib.cell_of_heap h]; rfl, by rw [Lib.cell_of_heap h]; rfl⟩
theorem way_index (k : Nat) (hk : k < 4) (w : World) : (Instr.index 42 (.agg wys) (.int .i64 (k : Int))).run Tryd.prog w = .ok (.agg #[.string (nm k), .int .i64 (mx k)]) w := by
  have hs : ∀ W, Sem.run Tryd.prog (sizeOf 41) W = .ok 2 W := fun W => Tryd.sizeOf41 W
  have hg : ∀ W, Sem.run Tryd.prog (isAgg 41) W = .ok true W := fun W => Tryd.isAgg41 W
  have hk2 : k = 0 ∨ k = 1 ∨ k = 2 ∨ k = 3 := by omega
  rcases hk2 with rfl | rfl | rfl | rfl
  · simp [Instr.index, run_underlying Tryd.underlying42, asIntOf, hs, hg, part, Sem.run_bind, Result.andThen, wys, nm, mx]
  · simp [Instr.index, run_underlying Tryd.underlying42, asIntOf, hs, hg, part, Sem.run_bind, Result.andThen, wys, nm, mx]
  · simp [Instr.index, run_underlying Tryd.underlying42, asIntOf, hs, hg, part, Sem.run_bind, Result.andThen, wys, nm, mx]
  · simp [Instr.index, run_underlying Tryd.underlying42, asIntOf, hs, hg, part, Sem.run_bind, Result.andThen, wys, nm, mx]
def mostR (c : Nat) : Int × Int := if c = 1 then (256, 0) else if c = 2 then (2048, 0) else if c = 3 then (160, 0) else (0, 1)
def nameR (c : Nat) : ByteArray × Int := if c = 1 then (⟨#[112, 117, 115, 104]⟩, 0) else if c = 2 then (⟨#[101, 109, 97, 105, 108]⟩, 0) else if c = 3 then (⟨#[115, 109, 115]⟩, 0) else (⟨#[]⟩, 1)
def namedR (s : ByteArray) : Nat × Int := if s = nm 1 then (1, 0) else if s = nm 2 then (2, 0) else if s = nm 3 then (3, 0) else (0, 13)
theorem named_yes (s : ByteArray) (k : Nat) (h0 : k ≠ 0) (h4 : k < 4) (h : s = nm k) : namedR s = (k, 0) := by
  subst h
  have hk : k = 1 ∨ k = 2 ∨ k = 3 := by omega
  rcases hk with rfl | rfl | rfl <;> decide
theorem named_no (s : ByteArray) (h : ∀ j, j < 4 → j ≠ 0 → s ≠ nm j) : namedR s = (0, 13) := by
  unfold namedR
  rw [if_neg (h 1 (by decide) (by decide)), if_neg (h 2 (by decide) (by decide)), if_neg (h 3 (by decide) (by decide))]
theorem isT (k : Nat) (h0 : k ≠ 0) (h4 : k < 4) : (decide (k = 1) || decide (k = 2) || decide (k = 3)) = true := by
  have hk : k = 1 ∨ k = 2 ∨ k = 3 := by omega
  rcases hk with rfl | rfl | rfl <;> rfl
end Es
set_option maxRecDepth 100000 in
theorem esMost_any (c : Nat) (w : World) (hW : Es.Ways w) : Calls Tryd.prog 13 #[.int .u8 (c : Int)] w fun e w' => e = .returned (.tuple #[.int .i64 (Es.mostR c).1, .int .i64 (Es.mostR c).2]) ∧ w' = w := by
  obtain ⟨m2, m3, m4, m5, m6, m7⟩ := hW.cells
  clear hW
  by_cases h1 : c = 1
  · subst h1
    have HI := Lib.hid (show ∀ W, Calls Tryd.prog 26 #[.int .u8 1] W fun e w' => e = .returned (.bool true) ∧ w' = W from esIs_any 1)
    go_enter Tryd.func13, Tryd.ntmps13
    go_wp2_with fail
    refine (HI.out _).mono ?_
    rintro e w0 ⟨rfl, hw0⟩
    rw [hw0]
    clear hw0 w0
    go_wp2_with fail
    go_ret2
    exact ⟨rfl, rfl⟩
  by_cases h2 : c = 2
  · subst h2
    have HI := Lib.hid (show ∀ W, Calls Tryd.prog 26 #[.int .u8 2] W fun e w' => e = .returned (.bool true) ∧ w' = W from esIs_any 2)
    go_enter Tryd.func13, Tryd.ntmps13
    go_wp2_with fail
    refine (HI.out _).mono ?_
    rintro e w0 ⟨rfl, hw0⟩
    rw [hw0]
    clear hw0 w0
    go_wp2_with fail
    go_ret2
    exact ⟨rfl, rfl⟩
  by_cases h3 : c = 3
  · subst h3
    have HI := Lib.hid (show ∀ W, Calls Tryd.prog 26 #[.int .u8 3] W fun e w' => e = .returned (.bool true) ∧ w' = W from esIs_any 3)
    go_enter Tryd.func13, Tryd.ntmps13
    go_wp2_with fail
    refine (HI.out _).mono ?_
    rintro e w0 ⟨rfl, hw0⟩
    rw [hw0]
    clear hw0 w0
    go_wp2_with fail
    go_ret2
    exact ⟨rfl, rfl⟩
  rw [show Es.mostR c = (0, 1) by unfold Es.mostR; rw [if_neg h1, if_neg h2, if_neg h3]]
  have HI := Lib.hid (fun W => esIs_any c W)
  rw [decide_eq_false h1, decide_eq_false h2, decide_eq_false h3] at HI
  go_enter Tryd.func13, Tryd.ntmps13
  go_wp2_with fail
  refine (HI.out _).mono ?_
  rintro e w0 ⟨rfl, hw0⟩
  rw [hw0]
  clear hw0 w0
  go_wp2_with fail
  go_ret2
  exact ⟨rfl, rfl⟩
set_option maxRecDepth 100000 in
theorem esName_any (c : Nat) (w : World) (hW : Es.Ways w) : Calls Tryd.prog 15 #[.int .u8 (c : Int)] w fun e w' => e = .returned (.tuple #[.string (Es.nameR c).1, .int .i64 (Es.nameR c).2]) ∧ Below w.heap.size w w' := by
  obtain ⟨m2, m3, m4, m5, m6, m7⟩ := hW.cells
  clear hW
  by_cases h1 : c = 1
  · subst h1
    have HI := Lib.hid (show ∀ W, Calls Tryd.prog 26 #[.int .u8 1] W fun e w' => e = .returned (.bool true) ∧ w' = W from esIs_any 1)
    have HC := Lib.hid (esClone_any ⟨#[112, 117, 115, 104]⟩ w (by decide))
    go_enter Tryd.func15, Tryd.ntmps15
    go_wp2_with fail
    refine (HI.out _).mono ?_
    rintro e w0 ⟨rfl, hw0⟩
    rw [hw0]
    clear hw0 w0
    go_wp2_with fail
    refine HC.out.mono ?_
    rintro e w1 ⟨rfl, hb⟩
    go_wp2_with fail
    go_ret2
    exact ⟨rfl, hb⟩
  by_cases h2 : c = 2
  · subst h2
    have HI := Lib.hid (show ∀ W, Calls Tryd.prog 26 #[.int .u8 2] W fun e w' => e = .returned (.bool true) ∧ w' = W from esIs_any 2)
    have HC := Lib.hid (esClone_any ⟨#[101, 109, 97, 105, 108]⟩ w (by decide))
    go_enter Tryd.func15, Tryd.ntmps15
    go_wp2_with fail
    refine (HI.out _).mono ?_
    rintro e w0 ⟨rfl, hw0⟩
    rw [hw0]
    clear hw0 w0
    go_wp2_with fail
    refine HC.out.mono ?_
    rintro e w1 ⟨rfl, hb⟩
    go_wp2_with fail
    go_ret2
    exact ⟨rfl, hb⟩
  by_cases h3 : c = 3
  · subst h3
    have HI := Lib.hid (show ∀ W, Calls Tryd.prog 26 #[.int .u8 3] W fun e w' => e = .returned (.bool true) ∧ w' = W from esIs_any 3)
    have HC := Lib.hid (esClone_any ⟨#[115, 109, 115]⟩ w (by decide))
    go_enter Tryd.func15, Tryd.ntmps15
    go_wp2_with fail
    refine (HI.out _).mono ?_
    rintro e w0 ⟨rfl, hw0⟩
    rw [hw0]
    clear hw0 w0
    go_wp2_with fail
    refine HC.out.mono ?_
    rintro e w1 ⟨rfl, hb⟩
    go_wp2_with fail
    go_ret2
    exact ⟨rfl, hb⟩
  rw [show Es.nameR c = (⟨#[]⟩, 1) by unfold Es.nameR; rw [if_neg h1, if_neg h2, if_neg h3]]
  have HI := Lib.hid (fun W => esIs_any c W)
  rw [decide_eq_false h1, decide_eq_false h2, decide_eq_false h3] at HI
  go_enter Tryd.func15, Tryd.ntmps15
  go_wp2_with fail
  refine (HI.out _).mono ?_
  rintro e w0 ⟨rfl, hw0⟩
  rw [hw0]
  clear hw0 w0
  go_wp2_with fail
  go_ret2
  exact ⟨rfl, Below.refl _ _⟩
set_option maxRecDepth 100000 in
set_option maxHeartbeats 1000000 in
theorem esNamed_any (s : ByteArray) (w : World) (hW : Es.Ways w) : Calls Tryd.prog 17 #[.string s] w fun e w' => e = .returned (.tuple #[.int .u8 ((Es.namedR s).1 : Nat), .int .i64 (Es.namedR s).2]) ∧ Below w.heap.size w w' := by
  have HX := Lib.hid Es.way_index
  unfold Es.wys at HX
  have HY := Lib.hid (Es.named_yes s)
  have HNo := Lib.hid (Es.named_no s)
  have HI := Lib.hid (fun k W => esIs_any k W)
  obtain ⟨R, hR⟩ : ∃ R, R = Es.namedR s := ⟨_, rfl⟩
  rw [← hR] at HY HNo ⊢
  obtain ⟨m0, m1⟩ := hW.cells0
  obtain ⟨m2, m3, m4, m5, m6, m7⟩ := hW.cells
  clear hR hW
  go_enter Tryd.func17, Tryd.ntmps17
  go_wp2_with fail
  clear m0 m1 m2 m3 m4 m5 m6 m7
  go_loopw [8] (fun i wr => ∃ k : Nat, k ≤ 4 ∧ i = .int .i64 k ∧ (∀ j, j < k → j ≠ 0 → s ≠ Es.nm j) ∧ Below w.heap.size w wr) (fun i _ => 4 - (intOf i).toNat)
  case atStart => exact ⟨0, by omega, rfl, fun j hj => absurd hj (by omega), Below.refl _ _⟩
  case round =>
    obtain ⟨k, hk, rfl, hno, hB⟩ := hrel
    have HB := Lib.hid hB
    have HN := Lib.hid hno
    clear hB hno
    by_cases hlt : k < 4
    · have hix := HX.out k hlt
      have HBa := Lib.hid (HB.out.alloc HB.out.size (.cells #[.string (Es.nm k), .int .i64 (Es.mx k)] 41))
      have hk2 : IntKind.u8.wrap (k : Int) = (k : Int) := by rw [IntWalk.u8_in _ (by omega)]
      have hcl : (wr.alloc (.cells #[.string (Es.nm k), .int .i64 (Es.mx k)] 41)).cell? ⟨wr.heap.size, 0, none⟩ = some (.string (Es.nm k)) := by rw [World.cell?_alloc_at _ _ _ _ rfl]; rfl
      by_cases h0 : k = 0
      · have HI2 := Lib.hid (show ∀ W, Calls Tryd.prog 26 #[.int .u8 (k : Int)] W fun e w' => e = .returned (.bool false) ∧ w' = W from fun W => by
          have := HI.out k W
          rwa [h0] at this ⊢)
        have HN2 := Lib.hid (show ∀ j, j < k + 1 → j ≠ 0 → s ≠ Es.nm j from fun j hj hj0 => absurd hj (by omega))
        clear h0
        go_wp2_with fail
        refine (HI2.out _).mono ?_
        rintro e w0 ⟨rfl, hw0⟩
        rw [hw0]
        clear hw0 w0
        go_wp2_with fail
        exact ⟨⟨k + 1, by omega, by go_num, HN2.out, HBa.out⟩, by simp [intOf]; omega⟩
      · have HI2 := Lib.hid (show ∀ W, Calls Tryd.prog 26 #[.int .u8 (k : Int)] W fun e w' => e = .returned (.bool true) ∧ w' = W from fun W => by
          have := HI.out k W
          rwa [Es.isT k h0 hlt] at this)
        by_cases he : s = Es.nm k
        · have hr := HY.out k h0 hlt he
          subst hr
          rw [← he] at hix HBa hcl
          clear he h0 HY HNo HX HI HN
          go_wp2_with fail
          refine (HI2.out _).mono ?_
          rintro e w0 ⟨rfl, hw0⟩
          rw [hw0]
          clear hw0 w0
          go_wp2_with fail
          go_ret2
          exact ⟨rfl, HBa.out⟩
        · have HN2 := Lib.hid (show ∀ j, j < k + 1 → j ≠ 0 → s ≠ Es.nm j from fun j hj hj0 => by
            by_cases h : j < k
            · exact HN.out j h hj0
            · obtain rfl : j = k := by omega
              exact he)
          have q : ((Es.nm k).toList == s.toList) = false := by
            rw [beq_eq_false_iff_ne, Lib.toList_data, Lib.toList_data]
            exact fun h => he (by rw [← Wp.B_of s, ← h, Wp.B_of])
          clear he h0 HY HNo HX HI HN
          generalize Es.nm k = x at *
          generalize Es.mx k = y at *
          go_wp2_with fail
          refine (HI2.out _).mono ?_
          rintro e w0 ⟨rfl, hw0⟩
          rw [hw0]
          clear hw0 w0
          go_wp2_with fail
          exact ⟨⟨k + 1, by omega, by go_num, HN2.out, HBa.out⟩, by simp [intOf]; omega⟩
    · obtain rfl : k = 4 := by omega
      have hr := HNo.out HN.out
      subst hr
      clear HY HNo HX HI HN
      go_wp2_with fail
      go_ret2
      exact ⟨rfl, HB.out⟩
end Go.Proofs.YtlhmbmnjajbbaaaDoor
