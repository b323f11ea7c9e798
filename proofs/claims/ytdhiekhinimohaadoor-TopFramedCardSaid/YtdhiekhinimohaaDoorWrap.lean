/-
  The walks of wire's calls on lists (Nums, GetNums, Texts, GetTexts), and of the comparison of two lists that are one. Conditions: numbers fit 64 bits, texts take at most 2^48 bytes.
-/
import Derived.Test.YtdhiekhinimohaaDoorGetTwo
import Derived.Test.YtdhiekhinimohaaDoorPutTwo
namespace Go.Proofs.YtdhiekhinimohaaDoor
open Go.RowKit

def Wp.numsR (l : List Int) : List UInt8 × Int := if 1024 < l.length then ([], 12) else (Wp.listB Wp.numB l, 0)
def Wp.longs (l : List ByteArray) : Bool := decide (1024 < l.length) || l.any fun x => decide (4096 < x.size)
def Wp.textsR (l : List ByteArray) : List UInt8 × Int := if Wp.longs l then ([], 12) else (Wp.listB Wp.textBs l, 0)

theorem clo_any (n : Int) (w : World) (h1 : -9223372036854775808 ≤ n) (h2 : n ≤ 9223372036854775807) :
    Calls Tryd.prog 37 #[.int .i64 n] w fun e w' => e = .returned (.tuple #[.string (Wp.B (Wp.numB n)), .int .i64 0]) ∧ Below w.heap.size w w' := by
  go_enter Tryd.func37, Tryd.ntmps37
  go_wp2_with fail
  refine (num_any _ _ h1 h2).mono ?_
  rintro e w1 ⟨rfl, hb⟩
  go_wp2_with fail
  go_ret2
  exact ⟨rfl, hb⟩
set_option maxHeartbeats 400000 in
theorem nums_any (p : Option Addr) (c : Nat) (l : List Int) (w : World) (hm : l.length ≤ 9223372036854775807) (hl : Wp.At Wp.mkN w p l) (hx : ∀ x ∈ l, Wp.I64 x) :
    Calls Tryd.prog 22 #[.slice p l.length c] w fun e w' => e = .returned (.tuple #[.string (Wp.B (Wp.numsR l).1), .int .i64 (Wp.numsR l).2]) ∧ Below w.heap.size w w' := by
  by_cases h : 1024 < l.length
  · rw [show Wp.numsR l = ([], 12) from if_pos h]
    have hc := fun f w => put_long_nums p l.length c f w h hm
    generalize l.length = n at *
    clear h hl
    go_enter Tryd.func22, Tryd.ntmps22
    go_wp2_with fail
    refine (hc _ _).mono ?_
    rintro e w1 ⟨rfl, hb⟩
    go_wp2_with fail
    go_ret2
    exact ⟨rfl, hb⟩
  · rw [show Wp.numsR l = (Wp.listB Wp.numB l, 0) from if_neg h]
    have hc := put_nums _ p c l w (by omega) hl (fun x _ => by have := Wp.numB_len x; omega) (fun x h w => clo_any x w (hx x h).1 (hx x h).2) rfl
    generalize l.length = n at *
    clear h hl
    go_enter Tryd.func22, Tryd.ntmps22
    go_wp2_with fail
    refine hc.mono ?_
    rintro e w1 ⟨rfl, hb⟩
    go_wp2_with fail
    go_ret2
    exact ⟨rfl, hb⟩
set_option maxHeartbeats 400000 in
theorem texts_any (p : Option Addr) (c : Nat) (l : List ByteArray) (w : World) (hm : l.length ≤ 9223372036854775807) (hl : Wp.At Wp.mkT w p l) (hx : ∀ x ∈ l, x.size ≤ 281474976710656) :
    Calls Tryd.prog 21 #[.slice p l.length c] w fun e w' => e = .returned (.tuple #[.string (Wp.B (Wp.textsR l).1), .int .i64 (Wp.textsR l).2]) ∧ Below w.heap.size w w' := by
  by_cases h : 1024 < l.length
  · rw [show Wp.textsR l = ([], 12) from if_pos (by simp [Wp.longs, h])]
    have hc := fun f w => put_long_texts p l.length c f w h hm
    generalize l.length = n at *
    clear h hl
    go_enter Tryd.func21, Tryd.ntmps21
    go_wp2_with fail
    refine (hc _ _).mono ?_
    rintro e w1 ⟨rfl, hb⟩
    go_wp2_with fail
    go_ret2
    exact ⟨rfl, hb⟩
  · cases h2 : l.any fun x => decide (4096 < x.size) with
    | true =>
      rw [show Wp.textsR l = ([], 12) from if_pos (by simp only [Wp.longs, h2, Bool.or_true])]
      have hc := put_bad p c l w (by omega) hl hx (by simpa using h2)
      generalize l.length = n at *
      clear h hl h2 hx
      go_enter Tryd.func21, Tryd.ntmps21
      go_wp2_with fail
      refine hc.mono ?_
      rintro e w1 ⟨rfl, hb⟩
      go_wp2_with fail
      go_ret2
      exact ⟨rfl, hb⟩
    | false =>
      rw [show Wp.textsR l = (Wp.listB Wp.textBs l, 0) from if_neg (by simp only [Wp.longs, h2, Bool.or_false, decide_eq_true_eq]; exact h)]
      have hs : ∀ x ∈ l, x.size ≤ 4096 := by
        intro x hx
        rw [List.any_eq_false] at h2
        have := h2 x hx
        simpa using this
      have hc := put_texts _ p c l w (by omega) hl (fun x h => by have := Wp.textB_len x.data.toList; have := hs x h; rw [← Wp.size_len] at *; unfold Wp.textBs; omega) (fun x h w => by
        have h3 := text_any x w (hx x h)
        rw [if_neg (by have := hs x h; omega)] at h3
        exact h3) rfl
      generalize l.length = n at *
      clear h hl h2 hx hs
      go_enter Tryd.func21, Tryd.ntmps21
      go_wp2_with fail
      refine hc.mono ?_
      rintro e w1 ⟨rfl, hb⟩
      go_wp2_with fail
      go_ret2
      exact ⟨rfl, hb⟩

set_option maxHeartbeats 400000 in
theorem getnums_any (s : ByteArray) (w : World) (hs : s.size ≤ 281474976710656) :
    Calls Tryd.prog 24 #[.string s] w fun e w' => ∃ p c, e = .returned (.tuple #[.slice p (Wp.getList Wp.getNum s.data.toList).1.length c, .string (Wp.B (Wp.getList Wp.getNum s.data.toList).2.1), .int .i64 (Wp.getList Wp.getNum s.data.toList).2.2]) ∧ Wp.At Wp.mkN w' p (Wp.getList Wp.getNum s.data.toList).1 ∧ Below w.heap.size w w' := by
  have hc := getList_nums s w hs
  obtain ⟨G, hG⟩ : ∃ G, G = Wp.getList Wp.getNum s.data.toList := ⟨_, rfl⟩
  rw [← hG] at hc ⊢
  clear hG
  go_enter Tryd.func24, Tryd.ntmps24
  go_wp2_with fail
  refine hc.mono ?_
  rintro e w1 ⟨v, rfl, ho, hb⟩
  obtain ⟨p, cc, rfl, hat⟩ := owns_at ho
  clear ho hc
  have Hat := Lib.hid hat
  clear hat
  go_wp2_with fail
  go_ret3
  exact ⟨p, cc, rfl, Hat.out, hb⟩

set_option maxHeartbeats 400000 in
theorem gettexts_any (s : ByteArray) (w : World) (hs : s.size ≤ 281474976710656) :
    Calls Tryd.prog 23 #[.string s] w fun e w' => ∃ p c, e = .returned (.tuple #[.slice p (Wp.getList Wp.getT s.data.toList).1.length c, .string (Wp.B (Wp.getList Wp.getT s.data.toList).2.1), .int .i64 (Wp.getList Wp.getT s.data.toList).2.2]) ∧ Wp.At Wp.mkT w' p (Wp.getList Wp.getT s.data.toList).1 ∧ Below w.heap.size w w' := by
  have hc := getList_texts s w hs
  obtain ⟨G, hG⟩ : ∃ G, G = Wp.getList Wp.getT s.data.toList := ⟨_, rfl⟩
  rw [← hG] at hc ⊢
  clear hG
  go_enter Tryd.func23, Tryd.ntmps23
  go_wp2_with fail
  refine hc.mono ?_
  rintro e w1 ⟨v, rfl, ho, hb⟩
  obtain ⟨p, cc, rfl, hat⟩ := owns_at ho
  clear ho hc
  have Hat := Lib.hid hat
  clear hat
  go_wp2_with fail
  go_ret3
  exact ⟨p, cc, rfl, Hat.out, hb⟩
end Go.Proofs.YtdhiekhinimohaaDoor
