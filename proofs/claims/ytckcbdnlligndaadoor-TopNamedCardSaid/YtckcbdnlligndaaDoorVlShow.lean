
/-
  The walks of value's Show and Holds. Conditions: a value's texts and lists are of a size that a machine holds; the library's table of powers of ten reads as it is laid.
-/
import Derived.Test.YtckcbdnlligndaaDoorVlAsk
import Derived.Test.YtckcbdnlligndaaDoorShelf
import Derived.Lib.AppendIntMem
import Derived.Lib.LaidTab
import Derived.Lib.ItoaLen
namespace Go.Proofs.YtckcbdnlligndaaDoor
open Go.RowKit

/-- The library's table, as it is laid. -/
def Vl.Tab (w : World) : Prop := Lib.TabIs Tryd.prog w "internal/strconv.uint64pow10" .u64 Lib.pow10Tab
def Vl.textL (k : Nat) (t : ByteArray) (i : Int) (ni : Nat) : ByteArray := if k = 1 then t else if k = 2 then Wp.B (Lib.itoa i) else if k = 3 then (if i = 0 then Wp.B [110, 111] else Wp.B [121, 101, 115]) else Wp.B (Lib.itoa ni)
def Vl.holdsC (k : Nat) (t : ByteArray) (i : Int) (ni : Nat) : Bool := if k = 1 then !decide (t.size = 0) else if k = 2 ∨ k = 3 then !decide (i = 0) else !decide (ni = 0)
set_option maxRecDepth 100000 in
set_option maxHeartbeats 1000000 in
theorem text_of (k : Nat) (t : ByteArray) (i : Int) (pi : Option Addr) (ni ci : Nat) (pn : Option Addr) (nn cn : Nat) (w : World) (hk : k ≤ 255) (hi : Wp.I64 i) (hni : ni ≤ 140737488351232) (hT : ∀ W, Below w.heap.size w W → Vl.Tab W) :
    Calls Tryd.prog 82 #[.agg #[.int .u8 k, .string t, .int .i64 i, .slice pi ni ci, .slice pn nn cn]] w fun e w' => e = .returned (.string (Vl.textL k t i ni)) ∧ Below w.heap.size w w' := by
  have hb0 := (Below.refl w.heap.size w).alloc (Nat.le_refl _) (.cells #[.int .u8 k, .string t, .int .i64 i, .slice pi ni ci, .slice pn nn cn] 26)
  have HT := Lib.hid (hT _ hb0)
  have Hb := Lib.hid hb0
  have hsz : w.heap.size ≤ (w.alloc (.cells #[.int .u8 k, .string t, .int .i64 i, .slice pi ni ci, .slice pn nn cn] 26)).heap.size := hb0.size
  clear hb0 hT
  obtain ⟨hi1, hi2⟩ := hi
  by_cases h1 : k = 1
  · subst h1
    rw [show Vl.textL 1 t i ni = t from rfl]
    go_enter Tryd.func82, Tryd.ntmps82
    go_wp2_with fail
    go_ret
    exact ⟨rfl, Hb.out⟩
  · have e1 : ((k : Int) == 1) = false := beq_eq_false_iff_ne.2 (by omega)
    by_cases h2 : k = 2
    · subst h2
      rw [show Vl.textL 2 t i ni = Wp.B (Lib.itoa i) from rfl]
      have hc := Lib.hid (Tryd.strconv_FormatInt_10 i hi1 hi2 _ HT.out)
      go_enter Tryd.func82, Tryd.ntmps82
      go_wp2_with fail
      refine hc.out.mono ?_
      rintro e w1 ⟨rfl, q, os, rfl⟩
      have hfin := Lib.hid (Hb.out.trans (Lib.below_grow w.heap.size (w.alloc (.cells #[.int .u8 2, .string t, .int .i64 i, .slice pi ni ci, .slice pn nn cn] 26)) hsz q os))
      go_wp2_with fail
      go_ret
      exact ⟨rfl, hfin.out⟩
    · have e2 : ((k : Int) == 2) = false := beq_eq_false_iff_ne.2 (by omega)
      by_cases h3 : k = 3
      · subst h3
        by_cases hi0 : i = 0
        · subst hi0
          rw [show Vl.textL 3 t 0 ni = ⟨#[110, 111]⟩ from rfl]
          go_enter Tryd.func82, Tryd.ntmps82
          go_wp2_with fail
          go_ret
          exact ⟨rfl, Hb.out⟩
        · rw [show Vl.textL 3 t i ni = ⟨#[121, 101, 115]⟩ by unfold Vl.textL; rw [if_neg (by decide), if_neg (by decide), if_pos rfl, if_neg hi0]; rfl]
          have e3 : (i == 0) = false := beq_eq_false_iff_ne.2 hi0
          go_enter Tryd.func82, Tryd.ntmps82
          go_wp2_with fail
          go_ret
          exact ⟨rfl, Hb.out⟩
      · have e3 : ((k : Int) == 3) = false := beq_eq_false_iff_ne.2 (by omega)
        rw [show Vl.textL k t i ni = Wp.B (Lib.itoa ni) by unfold Vl.textL; rw [if_neg h1, if_neg h2, if_neg h3]]
        have hc := Lib.hid (Tryd.strconv_Itoa (ni : Int) (by omega) (by omega) _ HT.out)
        go_enter Tryd.func82, Tryd.ntmps82
        go_wp2_with fail
        refine hc.out.mono ?_
        rintro e w1 ⟨rfl, q, os, rfl⟩
        have hfin := Lib.hid (Hb.out.trans (Lib.below_grow w.heap.size (w.alloc (.cells #[.int .u8 k, .string t, .int .i64 i, .slice pi ni ci, .slice pn nn cn] 26)) hsz q os))
        go_wp2_with fail
        go_ret
        exact ⟨rfl, hfin.out⟩
set_option maxRecDepth 100000 in
set_option maxHeartbeats 1000000 in
theorem holds_of (k : Nat) (t : ByteArray) (i : Int) (pi : Option Addr) (ni ci : Nat) (pn : Option Addr) (nn cn : Nat) (w : World) (hk : k ≤ 255) (hni : ni ≤ 140737488351232) :
    Calls Tryd.prog 83 #[.agg #[.int .u8 k, .string t, .int .i64 i, .slice pi ni ci, .slice pn nn cn]] w fun e w' => e = .returned (.bool (Vl.holdsC k t i ni)) ∧ Below w.heap.size w w' := by
  have Hb := Lib.hid ((Below.refl w.heap.size w).alloc (Nat.le_refl _) (.cells #[.int .u8 k, .string t, .int .i64 i, .slice pi ni ci, .slice pn nn cn] 26))
  by_cases h1 : k = 1
  · subst h1
    have hte : t.toList.isEmpty = decide (t.size = 0) := by rw [← Vl.empty_eq]; cases t.toList <;> rfl
    rw [show Vl.holdsC 1 t i ni = !decide (t.size = 0) from rfl, ← hte]
    clear hte
    go_enter Tryd.func83, Tryd.ntmps83
    go_wp2_with fail
    go_ret
    exact ⟨rfl, Hb.out⟩
  · have e1 : ((k : Int) == 1) = false := beq_eq_false_iff_ne.2 (by omega)
    by_cases h23 : k = 2 ∨ k = 3
    · rw [show Vl.holdsC k t i ni = !decide (i = 0) by unfold Vl.holdsC; rw [if_neg h1, if_pos h23]]
      have hi : (i != 0) = !decide (i = 0) := by by_cases h : i = 0 <;> simp [h]
      rw [← hi]
      clear hi
      rcases h23 with rfl | rfl
      · go_enter Tryd.func83, Tryd.ntmps83
        go_wp2_with fail
        go_ret
        exact ⟨rfl, Hb.out⟩
      · go_enter Tryd.func83, Tryd.ntmps83
        go_wp2_with fail
        go_ret
        exact ⟨rfl, Hb.out⟩
    · have e2 : ((k : Int) == 2) = false := beq_eq_false_iff_ne.2 (by omega)
      have e3 : ((k : Int) == 3) = false := beq_eq_false_iff_ne.2 (by omega)
      rw [show Vl.holdsC k t i ni = !decide (ni = 0) by unfold Vl.holdsC; rw [if_neg h1, if_neg h23]]
      have hd : decide (0 < ni) = !decide (ni = 0) := by
        by_cases h : ni = 0
        · subst h; rfl
        · rw [decide_eq_true (show 0 < ni by omega), decide_eq_false h]; rfl
      rw [← hd]
      clear hd
      go_enter Tryd.func83, Tryd.ntmps83
      go_wp2_with fail
      go_ret
      exact ⟨rfl, Hb.out⟩
/-- Show, of whatever value. -/
def Vl.showR (x : Vl.V) : ByteArray × Int := if Vl.good x then (Vl.textL x.kind x.text x.num x.items.length, 0) else (⟨#[]⟩, 2)
def Vl.holdsR (x : Vl.V) : Bool × Int := if Vl.good x then (Vl.holdsC x.kind x.text x.num x.items.length, 0) else (false, 2)
theorem Vl.textL_size (k : Nat) (t : ByteArray) (i : Int) (ni : Nat) (ht : t.size ≤ 140737488351232) (hi : Wp.I64 i) (hn : ni ≤ 140737488351232) : (Vl.textL k t i ni).size ≤ 281474976710656 := by
  have h1 := Lib.itoa_length_le i hi.1 hi.2
  have h2 := Lib.itoa_length_le (ni : Int) (by omega) (by omega)
  unfold Vl.textL
  split
  · omega
  · split
    · rw [Wp.B_size]; omega
    · split
      · split <;> decide
      · rw [Wp.B_size]; omega
set_option maxRecDepth 100000 in
set_option maxHeartbeats 1000000 in
theorem vlShow_any (d : Nat) (x : Vl.V) (v : Value) (w : World) (hA : Vl.At d w v x) (hT : ∀ W, Below w.heap.size w W → Vl.Tab W) :
    Calls Tryd.prog 44 #[v] w fun e w' => e = .returned (.tuple #[.string (Vl.showR x).1, .int .i64 (Vl.showR x).2]) ∧ Below w.heap.size w w' := by
  have hck := Lib.hid (fun W (h : Below w.heap.size w W) => vlCheck_any d x v W (hA.below h))
  cases d with
  | zero => exact hA.elim
  | succ d =>
    obtain ⟨pi, ci, pn, cn, rfl, ⟨q1, q2, q3, q4, q5, q6⟩, hrest⟩ := hA
    have htx := Lib.hid (fun W (h : Below w.heap.size w W) => text_of x.kind x.text x.num pi x.items.length ci pn x.names.length cn W q1 q3 q4 (fun W2 h2 => hT W2 (h.trans (h2.mono h.size))))
    have hsz := Vl.textL_size x.kind x.text x.num x.items.length q2 q3 q4
    obtain ⟨T, hT2⟩ : ∃ T, T = Vl.showR x := ⟨_, rfl⟩
    have HT := Lib.hid (show T = if Vl.good x then (Vl.textL x.kind x.text x.num x.items.length, 0) else (⟨#[]⟩, 2) from hT2)
    rw [← hT2]
    rw [show Vl.chk x = if Vl.good x then 0 else 2 from rfl] at hck
    clear hT2 hrest hT q1 q2 q3 q4 q5 q6
    generalize Vl.textL x.kind x.text x.num x.items.length = tx at *
    generalize x.items.length = ni at *
    generalize x.names.length = nn at *
    generalize x.kind = k at *
    generalize x.text = t at *
    generalize x.num = i at *
    have Hb := Lib.hid ((Below.refl w.heap.size w).alloc (Nat.le_refl _) (.cells #[.int .u8 k, .string t, .int .i64 i, .slice pi ni ci, .slice pn nn cn] 26))
    have hs0 : w.heap.size < (w.alloc (.cells #[.int .u8 k, .string t, .int .i64 i, .slice pi ni ci, .slice pn nn cn] 26)).heap.size := by simp
    have Hx := Lib.hid (Vl.new w (.cells #[.int .u8 k, .string t, .int .i64 i, .slice pi ni ci, .slice pn nn cn] 26))
    go_enter Tryd.func44, Tryd.ntmps44
    go_wp2_with fail
    refine (hck.out _ Hb.out).mono ?_
    rintro e w1 ⟨rfl, hb1⟩
    obtain ⟨m0, m1, m2, m3, m4⟩ := Vl.five_of ((hb1.block w.heap.size hs0).trans Hx.out)
    have HB1 := Lib.hid (Hb.out.trans (hb1.mono (by omega)))
    clear hb1
    cases hg : Vl.good x with
    | false =>
      have hTe : T = (⟨#[]⟩, 2) := by rw [HT.out, hg]; rfl
      subst hTe
      go_wp2_with fail
      go_ret2
      exact ⟨rfl, HB1.out⟩
    | true =>
      have hTe : T = (tx, 0) := by rw [HT.out, hg]; rfl
      subst hTe
      go_wp2_with fail
      refine (htx.out _ HB1.out).mono ?_
      rintro e w2 ⟨rfl, hb2⟩
      have HB2 := Lib.hid (HB1.out.trans (hb2.mono HB1.out.size))
      clear hb2
      go_wp2_with fail
      refine (vlClone_any tx _ hsz).mono ?_
      rintro e w3 ⟨rfl, hb3⟩
      have HB3 := Lib.hid (HB2.out.trans (hb3.mono HB2.out.size))
      clear hb3
      go_wp2_with fail
      go_ret2
      exact ⟨rfl, HB3.out⟩
set_option maxRecDepth 100000 in
set_option maxHeartbeats 1000000 in
theorem vlHolds_any (d : Nat) (x : Vl.V) (v : Value) (w : World) (hA : Vl.At d w v x) :
    Calls Tryd.prog 45 #[v] w fun e w' => e = .returned (.tuple #[.bool (Vl.holdsR x).1, .int .i64 (Vl.holdsR x).2]) ∧ Below w.heap.size w w' := by
  have hck := Lib.hid (fun W (h : Below w.heap.size w W) => vlCheck_any d x v W (hA.below h))
  cases d with
  | zero => exact hA.elim
  | succ d =>
    obtain ⟨pi, ci, pn, cn, rfl, ⟨q1, q2, q3, q4, q5, q6⟩, hrest⟩ := hA
    have htx := Lib.hid (fun W => holds_of x.kind x.text x.num pi x.items.length ci pn x.names.length cn W q1 q4)
    obtain ⟨T, hT2⟩ : ∃ T, T = Vl.holdsR x := ⟨_, rfl⟩
    have HT := Lib.hid (show T = if Vl.good x then (Vl.holdsC x.kind x.text x.num x.items.length, 0) else (false, 2) from hT2)
    rw [← hT2]
    rw [show Vl.chk x = if Vl.good x then 0 else 2 from rfl] at hck
    clear hT2 hrest q1 q2 q3 q4 q5 q6
    generalize Vl.holdsC x.kind x.text x.num x.items.length = tx at *
    generalize x.items.length = ni at *
    generalize x.names.length = nn at *
    generalize x.kind = k at *
    generalize x.text = t at *
    generalize x.num = i at *
    have Hb := Lib.hid ((Below.refl w.heap.size w).alloc (Nat.le_refl _) (.cells #[.int .u8 k, .string t, .int .i64 i, .slice pi ni ci, .slice pn nn cn] 26))
    have hs0 : w.heap.size < (w.alloc (.cells #[.int .u8 k, .string t, .int .i64 i, .slice pi ni ci, .slice pn nn cn] 26)).heap.size := by simp
    have Hx := Lib.hid (Vl.new w (.cells #[.int .u8 k, .string t, .int .i64 i, .slice pi ni ci, .slice pn nn cn] 26))
    go_enter Tryd.func45, Tryd.ntmps45
    go_wp2_with fail
    refine (hck.out _ Hb.out).mono ?_
    rintro e w1 ⟨rfl, hb1⟩
    obtain ⟨m0, m1, m2, m3, m4⟩ := Vl.five_of ((hb1.block w.heap.size hs0).trans Hx.out)
    have HB1 := Lib.hid (Hb.out.trans (hb1.mono (by omega)))
    clear hb1
    cases hg : Vl.good x with
    | false =>
      have hTe : T = (false, 2) := by rw [HT.out, hg]; rfl
      subst hTe
      go_wp2_with fail
      go_ret2
      exact ⟨rfl, HB1.out⟩
    | true =>
      have hTe : T = (tx, 0) := by rw [HT.out, hg]; rfl
      subst hTe
      go_wp2_with fail
      refine (htx.out _).mono ?_
      rintro e w2 ⟨rfl, hb2⟩
      have HB2 := Lib.hid (HB1.out.trans (hb2.mono HB1.out.size))
      clear hb2
      go_wp2_with fail
      go_ret2
      exact ⟨rfl, HB2.out⟩
end Go.Proofs.YtckcbdnlligndaaDoor
