
/-
  The walk of esc's undone, over whatever tells the byte that a text begins with. Condition: a text of at most 2^24 bytes.
-/
import Derived.Test.YtlhmbmnjajbbaaaDoorEsKit
import Derived.Test.YtlhmbmnjajbbaaaDoorEsPlain
import Derived.Test.YtlhmbmnjajbbaaaDoorShelf
import Derived.WalkKit
namespace Go.Proofs.YtlhmbmnjajbbaaaDoor
open Go.RowKit

theorem Es.pre_le {a l : List UInt8} (h : a.isPrefixOf l = true) : a.length ≤ l.length := (List.isPrefixOf_iff_prefix.1 h).length_le
theorem Es.first_le (m : Bool) (l : List UInt8) (h : l ≠ []) : (Es.first m l).2 ≤ l.length := by
  have h1 : 1 ≤ l.length := by cases l with
    | nil => exact absurd rfl h
    | cons a l => simp
  cases m with
  | true =>
    show (Es.firstM l).2 ≤ _
    unfold Es.firstM
    repeat' split
    all_goals first | (next hp => have := Es.pre_le hp; simpa [Es.nameN] using this) | exact h1
  | false =>
    show (Es.firstP l).2 ≤ _
    unfold Es.firstP
    repeat' split
    all_goals first | exact absurd rfl h | simp
theorem Es.drop_slice (r : List UInt8) (n : Nat) (h : n ≤ r.length) (W : World) : (Instr.sliceAt 9 (.string (Wp.B r)) (some (.int .i64 (n : Int))) none none).run Tryd.prog W = .ok (.string (Wp.B (r.drop n))) W := by
  rw [run_sliceAt_string (h := Tryd.underlying9), run_slice_string_l (ht := Tryd.underlying9) (h0 := by omega) (h1 := by rw [Wp.B_size]; omega), Int.toNat_natCast, Wp.extract_B, Wp.B_data, Wp.B_size]
  rw [List.take_of_length_le (by rw [List.length_drop]; omega)]
set_option maxRecDepth 100000 in
set_option maxHeartbeats 1000000 in
theorem esUndonePush (s : List UInt8) (w : World) (hs : s.length ≤ 16777216)
    (hF : ∀ W r, Below w.heap.size w W → r ≠ [] → r.length ≤ 16777216 → Calls Tryd.prog 34 #[.string (Wp.B r)] W fun e w' => e = .returned (.tuple #[.int .u8 ((Es.first false r).1.toNat : Nat), .int .i64 ((Es.first false r).2 : Nat)]) ∧ Below W.heap.size W w') :
    Calls Tryd.prog 33 #[.string (Wp.B s), .func (Fn.func 34) #[] #[]] w fun e w' => e = .returned (.string (Wp.B (Es.und false s))) ∧ Below w.heap.size w w' := by
  have HF := Lib.hid hF
  have HB0 := Lib.hid ((Below.refl w.heap.size w).alloc (Nat.le_refl _) (.cells #[.pointer none, .slice none 0 0] 45))
  have HNB := Lib.hid (Es.newBuilder w)
  obtain ⟨T, hT⟩ : ∃ T, T = Es.und false s := ⟨_, rfl⟩
  rw [← hT]
  have HT := Lib.hid hT
  clear hT hF
  go_enter Tryd.func33, Tryd.ntmps33
  go_wp2_with fail
  go_loopw [0] (fun t0 wr => ∃ (r pre : List UInt8), t0 = .string (Wp.B r) ∧ T = pre ++ Es.und false r ∧ pre.length + r.length ≤ 16777216 ∧ Lib.IsBuilderF 45 5 w.heap.size w.heap.size (Lib.byteCells pre) wr ∧ Below w.heap.size w wr) (fun t0 _ => match t0 with | .string b => b.size | _ => 0)
  case atStart => exact ⟨s, [], rfl, HT.out, by simpa using hs, HNB.out, HB0.out⟩
  case round =>
    obtain ⟨r, pre, rfl, ht, hl, hbd, hB⟩ := hrel
    have Hbd := Lib.hid hbd
    have HB := Lib.hid hB
    have Ht := Lib.hid ht
    have hsw : w.heap.size ≤ wr.heap.size := hB.size
    clear hbd hB ht
    by_cases hr : r = []
    · subst hr
      have hq1 : ((Wp.B []).toList == []) = true := by rw [Lib.toList_data]; rfl
      have hq2 : ((Wp.B []).toList != []) = false := by rw [Lib.toList_data]; rfl
      obtain rfl : pre = T := by rw [Ht.out, Es.und_nil, List.append_nil]
      clear Ht HT
      have HS := Lib.hid (Tryd.Builder_String_any_k w.heap.size w.heap.size pre wr Hbd.out hsw)
      generalize Wp.B [] = em at *
      go_wp2_with fail
      refine HS.out.mono ?_
      rintro e w3 ⟨rfl, -, hb3, -⟩
      go_wp2_with fail
      go_ret
      exact ⟨rfl, HB.out.trans hb3⟩
    · have hq1 : ((Wp.B r).toList == []) = false := by rw [beq_eq_false_iff_ne, Lib.toList_data]; exact hr
      have hq2 : ((Wp.B r).toList != []) = true := by rw [bne_iff_ne, Lib.toList_data]; exact hr
      have HC := Lib.hid (HF.out wr r HB.out hr (by omega))
      have hle := Es.first_le false r hr
      have hge := Es.first_pos false r
      have HT2 := Lib.hid (show T = (pre ++ [UInt8.ofNat (Es.first false r).1.toNat]) ++ Es.und false (r.drop (Es.first false r).2) by rw [Ht.out, Es.und_step false r hr, UInt8.ofNat_toNat]; simp)
      have hb8 := (Es.first false r).1.toNat_lt
      have hsl := Es.drop_slice r (Es.first false r).2 hle
      have HL := Lib.hid (show (r.drop (Es.first false r).2).length = r.length - (Es.first false r).2 from List.length_drop)
      have hsz : (Wp.B r).size = r.length := Wp.B_size r
      have Hsz := Lib.hid hsz
      have Hsd := Lib.hid (Wp.B_size (r.drop (Es.first false r).2))
      clear Ht HT HNB hr hsz
      generalize (Es.first false r).1.toNat = b at *
      generalize (Es.first false r).2 = n at *
      generalize r.drop n = r2 at *
      go_wp2_with fail
      refine HC.out.mono ?_
      rintro e w1 ⟨rfl, hb1⟩
      have Hb1 := Lib.hid (HB.out.trans (hb1.mono HB.out.size))
      have hsw1 : w.heap.size ≤ w1.heap.size := Hb1.out.size
      have HP := Lib.hid (Es.putByte b (by omega) w1 (Es.builder_below Hbd.out hb1) (by omega) hsw1)
      clear hb1 HC
      go_wp2_with fail
      refine HP.out.mono ?_
      rintro e w2 ⟨rfl, hp⟩
      have Hp := Lib.hid hp
      clear hp HP
      go_wp2_with fail
      refine ⟨⟨r2, pre ++ [UInt8.ofNat b], rfl, HT2.out, ?_, Hp.out.bld, Hb1.out.trans Hp.out.below⟩, ?_⟩
      · have := HL.out
        rw [List.length_append, List.length_singleton]
        omega
      · have h1 := HL.out
        have h2 := Hsz.out
        have h3 := Hsd.out
        show (Wp.B r2).size < (Wp.B r).size
        omega
set_option maxRecDepth 100000 in
set_option maxHeartbeats 1000000 in
theorem esUndoneMail (s : List UInt8) (w : World) (hs : s.length ≤ 16777216)
    (hF : ∀ W r, Below w.heap.size w W → r ≠ [] → r.length ≤ 16777216 → Calls Tryd.prog 35 #[.string (Wp.B r)] W fun e w' => e = .returned (.tuple #[.int .u8 ((Es.first true r).1.toNat : Nat), .int .i64 ((Es.first true r).2 : Nat)]) ∧ Below W.heap.size W w') :
    Calls Tryd.prog 33 #[.string (Wp.B s), .func (Fn.func 35) #[] #[]] w fun e w' => e = .returned (.string (Wp.B (Es.und true s))) ∧ Below w.heap.size w w' := by
  have HF := Lib.hid hF
  have HB0 := Lib.hid ((Below.refl w.heap.size w).alloc (Nat.le_refl _) (.cells #[.pointer none, .slice none 0 0] 45))
  have HNB := Lib.hid (Es.newBuilder w)
  obtain ⟨T, hT⟩ : ∃ T, T = Es.und true s := ⟨_, rfl⟩
  rw [← hT]
  have HT := Lib.hid hT
  clear hT hF
  go_enter Tryd.func33, Tryd.ntmps33
  go_wp2_with fail
  go_loopw [0] (fun t0 wr => ∃ (r pre : List UInt8), t0 = .string (Wp.B r) ∧ T = pre ++ Es.und true r ∧ pre.length + r.length ≤ 16777216 ∧ Lib.IsBuilderF 45 5 w.heap.size w.heap.size (Lib.byteCells pre) wr ∧ Below w.heap.size w wr) (fun t0 _ => match t0 with | .string b => b.size | _ => 0)
  case atStart => exact ⟨s, [], rfl, HT.out, by simpa using hs, HNB.out, HB0.out⟩
  case round =>
    obtain ⟨r, pre, rfl, ht, hl, hbd, hB⟩ := hrel
    have Hbd := Lib.hid hbd
    have HB := Lib.hid hB
    have Ht := Lib.hid ht
    have hsw : w.heap.size ≤ wr.heap.size := hB.size
    clear hbd hB ht
    by_cases hr : r = []
    · subst hr
      have hq1 : ((Wp.B []).toList == []) = true := by rw [Lib.toList_data]; rfl
      have hq2 : ((Wp.B []).toList != []) = false := by rw [Lib.toList_data]; rfl
      obtain rfl : pre = T := by rw [Ht.out, Es.und_nil, List.append_nil]
      clear Ht HT
      have HS := Lib.hid (Tryd.Builder_String_any_k w.heap.size w.heap.size pre wr Hbd.out hsw)
      generalize Wp.B [] = em at *
      go_wp2_with fail
      refine HS.out.mono ?_
      rintro e w3 ⟨rfl, -, hb3, -⟩
      go_wp2_with fail
      go_ret
      exact ⟨rfl, HB.out.trans hb3⟩
    · have hq1 : ((Wp.B r).toList == []) = false := by rw [beq_eq_false_iff_ne, Lib.toList_data]; exact hr
      have hq2 : ((Wp.B r).toList != []) = true := by rw [bne_iff_ne, Lib.toList_data]; exact hr
      have HC := Lib.hid (HF.out wr r HB.out hr (by omega))
      have hle := Es.first_le true r hr
      have hge := Es.first_pos true r
      have HT2 := Lib.hid (show T = (pre ++ [UInt8.ofNat (Es.first true r).1.toNat]) ++ Es.und true (r.drop (Es.first true r).2) by rw [Ht.out, Es.und_step true r hr, UInt8.ofNat_toNat]; simp)
      have hb8 := (Es.first true r).1.toNat_lt
      have hsl := Es.drop_slice r (Es.first true r).2 hle
      have HL := Lib.hid (show (r.drop (Es.first true r).2).length = r.length - (Es.first true r).2 from List.length_drop)
      have hsz : (Wp.B r).size = r.length := Wp.B_size r
      have Hsz := Lib.hid hsz
      have Hsd := Lib.hid (Wp.B_size (r.drop (Es.first true r).2))
      clear Ht HT HNB hr hsz
      generalize (Es.first true r).1.toNat = b at *
      generalize (Es.first true r).2 = n at *
      generalize r.drop n = r2 at *
      go_wp2_with fail
      refine HC.out.mono ?_
      rintro e w1 ⟨rfl, hb1⟩
      have Hb1 := Lib.hid (HB.out.trans (hb1.mono HB.out.size))
      have hsw1 : w.heap.size ≤ w1.heap.size := Hb1.out.size
      have HP := Lib.hid (Es.putByte b (by omega) w1 (Es.builder_below Hbd.out hb1) (by omega) hsw1)
      clear hb1 HC
      go_wp2_with fail
      refine HP.out.mono ?_
      rintro e w2 ⟨rfl, hp⟩
      have Hp := Lib.hid hp
      clear hp HP
      go_wp2_with fail
      refine ⟨⟨r2, pre ++ [UInt8.ofNat b], rfl, HT2.out, ?_, Hp.out.bld, Hb1.out.trans Hp.out.below⟩, ?_⟩
      · have := HL.out
        rw [List.length_append, List.length_singleton]
        omega
      · have h1 := HL.out
        have h2 := Hsz.out
        have h3 := Hsd.out
        show (Wp.B r2).size < (Wp.B r).size
        omega
end Go.Proofs.YtlhmbmnjajbbaaaDoor
