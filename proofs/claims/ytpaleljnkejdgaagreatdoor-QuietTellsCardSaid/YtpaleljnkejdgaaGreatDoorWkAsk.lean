/-
  The walks of week's check, Has and Sum: why a week can't be asked of a minute, whether it has it, and how many it has. Condition: a week's list is of a size that a machine holds.
-/
import Derived.Test.YtpaleljnkejdgaaGreatDoorWkGaps
namespace Go.Proofs.YtpaleljnkejdgaaGreatDoor
open Go.RowKit Go.Lib Go.Shelf

def Wk.Min (m : Int) : Prop := 0 ≤ m ∧ m < 10080
instance Wk.decMin (m : Int) : Decidable (Wk.Min m) := by unfold Wk.Min; infer_instance
/-- Why a week can't be asked of a minute. -/
def Wk.chk2 (l : List (Int × Int)) (m : Int) : Int := if Wk.Ok l then (if Wk.Min m then 0 else 1) else 2
set_option maxHeartbeats 1000000 in
set_option maxRecDepth 100000 in
theorem wk_check (l : List (Int × Int)) (p : Option Addr) (c : Nat) (m : Int) (w : World) (hA : Wk.At w p l) (hn : l.length ≤ 140737488351232) :
    Calls Tryz.prog 43 #[.slice p l.length c, .int .i64 m] w fun e w' => e = .returned (.int .i64 (Wk.chk2 l m)) ∧ Below w.heap.size w w' := by
  have HC := Lib.hid (wk_Check l p c w hA hn)
  clear hA
  unfold Wk.chk2
  by_cases ho : Wk.Ok l
  · rw [if_pos ho]
    rw [show Wk.chk l = 0 from if_pos ho] at HC
    clear ho
    generalize l.length = n at *
    by_cases h1 : 0 ≤ m
    · by_cases h2 : m < 10080
      · rw [if_pos ⟨h1, h2⟩]
        go_enter Tryz.func43, Tryz.ntmps43
        go_wp2_with fail
        refine HC.out.mono ?_
        rintro e w1 ⟨rfl, hb⟩
        go_wp2_with fail
        go_ret
        exact ⟨rfl, hb⟩
      · rw [if_neg (fun h => h2 h.2)]
        have h3 : 10080 ≤ m := by omega
        clear h2
        go_enter Tryz.func43, Tryz.ntmps43
        go_wp2_with fail
        refine HC.out.mono ?_
        rintro e w1 ⟨rfl, hb⟩
        go_wp2_with fail
        go_ret
        exact ⟨rfl, hb⟩
    · rw [if_neg (fun h => h1 h.1)]
      have h3 : m < 0 := by omega
      clear h1
      go_enter Tryz.func43, Tryz.ntmps43
      go_wp2_with fail
      refine HC.out.mono ?_
      rintro e w1 ⟨rfl, hb⟩
      go_wp2_with fail
      go_ret
      exact ⟨rfl, hb⟩
  · rw [if_neg ho]
    rw [show Wk.chk l = 2 from if_neg ho] at HC
    clear ho
    generalize l.length = n at *
    go_enter Tryz.func43, Tryz.ntmps43
    go_wp2_with fail
    refine HC.out.mono ?_
    rintro e w1 ⟨rfl, hb⟩
    go_wp2_with fail
    go_ret
    exact ⟨rfl, hb⟩
set_option maxHeartbeats 1000000 in
set_option maxRecDepth 100000 in
theorem wk_has1 (f t m : Int) (B : Nat) (W : World) (hB : W.heap[B]? = some (.cells #[.int .i64 m] 3 (0, 0))) :
    Calls Tryz.prog 44 #[.agg #[.int .i64 f, .int .i64 t], .pointer (some ⟨B, 0, none⟩)] W fun e w' => e = .returned (.bool (Wk.inR (f, t) m)) ∧ Below W.heap.size W w' := by
  obtain ⟨c1, c2, c3⟩ := wk_one_of hB
  have hne : W.heap.size ≠ B := by omega
  have hne2 : B ≠ W.heap.size := by omega
  have HB := Lib.hid (wk_box W (.cells #[.int .i64 f, .int .i64 t] 56))
  clear hB
  unfold Wk.inR
  simp only []
  by_cases h1 : f ≤ m
  · rw [decide_eq_true h1, Bool.true_and]
    go_enter Tryz.func44, Tryz.ntmps44
    go_wp2_with fail
    go_ret
    exact ⟨rfl, HB.out⟩
  · have q1 : decide (f ≤ m) = false := decide_eq_false h1
    rw [q1, Bool.false_and]
    have q2 : m < f := by omega
    go_enter Tryz.func44, Tryz.ntmps44
    go_wp2_with fail
    go_ret
    exact ⟨rfl, HB.out⟩
/-- A search that keeps a box, and all that was there. -/
def Wk.Kept (w0 : World) (k : Nat) (W : World) : Prop := Below w0.heap.size w0 W ∧ k = k
theorem Wk.any_has (l : List (Int × Int)) (m : Int) : (∃ k, k < l.length ∧ Wk.inR (l.getD k (0, 0)) m = true) → Wk.has l m = true := by
  rintro ⟨k, hk, h⟩
  rw [List.getD_eq_getElem?_getD, List.getElem?_eq_getElem hk] at h
  exact List.any_eq_true.2 ⟨_, List.getElem_mem hk, h⟩
theorem Wk.none_has (l : List (Int × Int)) (m : Int) (h : ∀ k, k < l.length → Wk.inR (l.getD k (0, 0)) m = false) : Wk.has l m = false := by
  apply Bool.eq_false_iff.2
  intro hh
  obtain ⟨x, hx, h2⟩ := List.any_eq_true.1 hh
  obtain ⟨k, hk, rfl⟩ := List.getElem_of_mem hx
  have := h k hk
  rw [List.getD_eq_getElem?_getD, List.getElem?_eq_getElem hk] at this
  simp only [Option.getD_some] at this
  rw [this] at h2
  cases h2
/-- What Has tells. -/
def Wk.hasB (l : List (Int × Int)) (m : Int) : Bool := if Wk.chk2 l m = 0 then Wk.has l m else false
set_option maxHeartbeats 1000000 in
set_option maxRecDepth 100000 in
theorem wk_Has (l : List (Int × Int)) (p : Option Addr) (c : Nat) (m : Int) (w : World) (hA : Wk.At w p l) (hn : l.length ≤ 140737488351232) :
    Calls Tryz.prog 22 #[.slice p l.length c, .int .i64 m] w fun e w' => e = .returned (.tuple #[.bool (Wk.hasB l m), .int .i64 (Wk.chk2 l m)]) ∧ Below w.heap.size w w' := by
  have hb0 := wk_box w (.cells #[.int .i64 m] 3)
  have HX := Lib.hid (wk_new w (.cells #[.int .i64 m] 3))
  have HC := Lib.hid (wk_check l p c m (w.alloc (.cells #[.int .i64 m] 3)) (hA.below hb0) hn)
  have HA := Lib.hid hA
  have HB := Lib.hid hb0
  clear hA hb0
  unfold Wk.hasB
  by_cases hc : Wk.chk2 l m = 0
  · rw [if_pos hc]
    rw [hc] at HC ⊢
    clear hc
    have HH : ∀ w2, Below (w.alloc (.cells #[.int .i64 m] 3)).heap.size (w.alloc (.cells #[.int .i64 m] 3)) w2 → Calls Tryz.prog 45 #[.slice p l.length c, .func (.func 44) #[] #[.pointer (some ⟨w.heap.size, 0, none⟩)]] w2 fun e w' => e = .returned (.bool (Wk.has l m)) ∧ Below w2.heap.size w2 w' := fun w2 h2 => by
      have hx2 := (h2.block w.heap.size (by rw [World.size_alloc]; omega)).trans HX.out
      have hA2 := (HA.out.below HB.out).below h2
      have hs2 : w.heap.size < w2.heap.size := by have := h2.size; rw [World.size_alloc] at this; omega
      refine (wk_contains l p c 44 #[.pointer (some ⟨w.heap.size, 0, none⟩)] (enters_of Tryz.func44 (by kernel_rfl) rfl) w2 (fun k => Wk.inR (l.getD k (0, 0)) m) (Wk.Kept w2) hn (fun k W hI => hA2.below hI.1)
        (fun k hk W hI => by
          have := wk_has1 l[k].1 l[k].2 m w.heap.size W ((hI.1.block _ hs2).trans hx2)
          rw [List.getD_eq_getElem?_getD, List.getElem?_eq_getElem hk]
          exact this.mono fun e w' ⟨h1, h3⟩ => ⟨h1, wk_then hI.1 h3 hI.1.size, rfl⟩) ⟨Below.refl _ _, rfl⟩).mono ?_
      rintro e w' (⟨k, h1, h3, rfl, h4⟩ | ⟨h1, rfl, h4⟩)
      · exact ⟨by rw [Wk.any_has l m ⟨k, h1, h3⟩], h4.1⟩
      · exact ⟨by rw [Wk.none_has l m h1], h4.1⟩
    have HH' := Lib.hid HH
    clear HH HA HX
    generalize Wk.has l m = r at *
    generalize l.length = n at *
    go_enter Tryz.func22, Tryz.ntmps22
    go_wp2_with fail
    refine HC.out.mono ?_
    rintro e w1 ⟨rfl, hb⟩
    have HB1 := Lib.hid hb
    clear hb
    go_wp2_with fail
    refine (HH'.out _ HB1.out).mono ?_
    rintro e w2 ⟨rfl, hb⟩
    go_wp2_with fail
    go_ret2
    have e1 := HB1.out
    rw [World.size_alloc] at e1
    exact ⟨rfl, wk_then (wk_then HB.out (by rw [World.size_alloc]; exact e1) (by rw [World.size_alloc]; omega)) hb (by have := e1.size; rw [World.size_alloc] at this; omega)⟩
  · rw [if_neg hc]
    have hc2 : (Wk.chk2 l m != 0) = true := by simpa using hc
    clear hc HX HA
    generalize Wk.chk2 l m = r at *
    generalize l.length = n at *
    go_enter Tryz.func22, Tryz.ntmps22
    go_wp2_with fail
    refine HC.out.mono ?_
    rintro e w1 ⟨rfl, hb⟩
    rw [World.size_alloc] at hb
    go_wp2_with fail
    go_ret2
    exact ⟨rfl, HB.out.trans (hb.mono (by omega))⟩
/-- What Sum tells. -/
def Wk.sumR (l : List (Int × Int)) : Int := if Wk.Ok l then Wk.sum l else 0
theorem Wk.sum_take (l : List (Int × Int)) (k : Nat) (h : k < l.length) : Wk.sum (l.take (k + 1)) = Wk.sum (l.take k) + (l[k].2 - l[k].1) := by
  rw [List.take_succ_eq_append_getElem h, Wk.sum_append]
  simp [Wk.sum]
theorem Wk.Ch.take {a : Int} {l : List (Int × Int)} (h : Wk.Ch a l) (k : Nat) : Wk.Ch a (l.take k) := by
  induction l generalizing a k with
  | nil => simp [Wk.Ch]
  | cons r l ih =>
    cases k with
    | zero => trivial
    | succ k => obtain ⟨h1, h2, h3, h4⟩ := h; exact ⟨h1, h2, h3, ih h4 k⟩
set_option maxHeartbeats 1000000 in
set_option maxRecDepth 100000 in
theorem wk_Sum (l : List (Int × Int)) (p : Option Addr) (c : Nat) (w : World) (hA : Wk.At w p l) (hn : l.length ≤ 140737488351232) :
    Calls Tryz.prog 28 #[.slice p l.length c] w fun e w' => e = .returned (.tuple #[.int .i64 (Wk.sumR l), .int .i64 (Wk.chk l)]) ∧ Below w.heap.size w w' := by
  have HC := Lib.hid (wk_Check l p c w hA hn)
  have HA := Lib.hid hA
  clear hA
  unfold Wk.sumR
  by_cases ho : Wk.Ok l
  · rw [show Wk.chk l = 0 from if_pos ho] at HC ⊢
    rw [if_pos ho]
    obtain ⟨n, hnl⟩ : ∃ n, n = l.length := ⟨_, rfl⟩
    have Hn := Lib.hid hnl
    have HO := Lib.hid ho
    rw [← hnl] at hn HC
    rw [← hnl]
    clear hnl ho
    go_enter Tryz.func28, Tryz.ntmps28
    go_wp2_with fail
    refine HC.out.mono ?_
    rintro e w1 ⟨rfl, hb⟩
    have HB1 := Lib.hid hb
    clear hb
    go_wp2_with fail
    go_loopw [5, 15] (fun v i wr => ∃ k : Nat, k ≤ n ∧ i = .int .i64 k ∧ v = .int .i64 (Wk.sum (l.take k)) ∧ Below w.heap.size w wr) (fun _ i _ => n - (RowKit.intOf i).toNat)
    case atStart => exact ⟨0, Nat.zero_le _, rfl, rfl, HB1.out⟩
    case round =>
      obtain ⟨k, hk, rfl, rfl, hB⟩ := hrel
      have HB := Lib.hid hB
      have hz := hB.size
      clear hB
      by_cases hlt : k < n
      · have hkl : k < l.length := by rw [← Hn.out]; exact hlt
        obtain ⟨b, off, rfl, e1, e2⟩ := (HA.out.below HB.out).get k hkl
        have HS := Lib.hid (Wk.sum_take l k hkl)
        obtain ⟨s1, s2⟩ := Wk.sum_bd (HO.out.2.take k) (by omega) (by omega)
        have hall := HO.out.2.all l[k] (List.getElem_mem hkl)
        generalize l[k] = y at e1 e2 HS hall
        generalize Wk.sum (l.take k) = s at *
        obtain ⟨y1, y2⟩ := y
        simp only [] at e1 e2 HS hall
        obtain ⟨a1, a2, a3⟩ := hall
        have BX := Lib.hid (HB.out.alloc hz (.cells #[.int .i64 y1, .int .i64 y2] 56))
        clear hkl
        have hltz : (k : Int) < (n : Int) := by omega
        go_wp2_with fail
        exact ⟨⟨k + 1, by omega, by go_num, by rw [HS.out], BX.out⟩, by simp [RowKit.intOf]; omega⟩
      · obtain rfl : k = n := by omega
        have HS := Lib.hid (show l.take k = l by rw [Hn.out, List.take_length])
        go_wp2_with fail
        go_ret2
        rw [HS.out]
        exact ⟨rfl, HB.out⟩
  · rw [show Wk.chk l = 2 from if_neg ho] at HC ⊢
    rw [if_neg ho]
    clear ho HA
    generalize l.length = n at *
    go_enter Tryz.func28, Tryz.ntmps28
    go_wp2_with fail
    refine HC.out.mono ?_
    rintro e w1 ⟨rfl, hb⟩
    go_wp2_with fail
    go_ret2
    exact ⟨rfl, hb⟩
end Go.Proofs.YtpaleljnkejdgaaGreatDoor
