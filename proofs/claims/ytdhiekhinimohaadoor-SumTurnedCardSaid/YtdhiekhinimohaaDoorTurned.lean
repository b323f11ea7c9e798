/-
  The law SumTurned: data of which one byte is another have another sum; so the frame with that byte is none. Conditions: the table reads as it is laid, the text takes at most 2^47 bytes.
-/
import Derived.Test.YtdhiekhinimohaaDoorLives
import Derived.Test.YtdhiekhinimohaaDoorSumBack
import Derived.Lib.ConvBytes
import Derived.Laws.IdiomStrings
namespace Go.Proofs.YtdhiekhinimohaaDoor
open Go.RowKit

/-- The early ways: nothing is asked. -/
theorem turned_no (s : ByteArray) (at' : Int) (n : Nat) (_hs : s.size ≤ 140737488351232) (ha : Wp.I64 at') (hn : n < 256) (hno : n = 0 ∨ at' < 0 ∨ (s.size : Int) ≤ at') (w : World) (hL : Sp.Laid w) :
    Calls Tryd.prog 7 #[.string s, .int .i64 at', .int .u8 (n : Int)] w fun e w' => e = .returned (.bool true) ∧ Below w.heap.size w w' := by
  have HL := Lib.hid hL
  have a1 := ha.1
  have a2 := ha.2
  clear hL ha
  by_cases h0 : n = 0
  · have hb : ((n : Int) == 0) = true := by rw [beq_iff_eq]; omega
    clear hno h0
    go_enter Tryd.func7, Tryd.ntmps7
    go_wp2_with fail
    refine (lives_any _ HL.out).mono ?_
    rintro e w1 ⟨rfl, b1⟩
    go_wp2_with fail
    go_ret
    exact ⟨rfl, b1⟩
  · have hb : ((n : Int) == 0) = false := by rw [beq_eq_false_iff_ne]; omega
    by_cases h1 : at' < 0
    · clear hno h0
      go_enter Tryd.func7, Tryd.ntmps7
      go_wp2_with fail
      refine (lives_any _ HL.out).mono ?_
      rintro e w1 ⟨rfl, b1⟩
      go_wp2_with fail
      go_ret
      exact ⟨rfl, b1⟩
    · have h2 : (s.size : Int) ≤ at' := by omega
      clear hno h0
      go_enter Tryd.func7, Tryd.ntmps7
      go_wp2_with fail
      refine (lives_any _ HL.out).mono ?_
      rintro e w1 ⟨rfl, b1⟩
      go_wp2_with fail
      go_ret
      exact ⟨rfl, b1⟩

theorem bytesWorld_below (w : World) (e : TypeId) (s : ByteArray) : Below w.heap.size w (Lib.bytesWorld w e s) :=
  ⟨rfl, rfl, rfl, by rw [Lib.bytesWorld_size]; omega, fun k hk => Lib.bytesWorld_at_old w e s k hk⟩
theorem bytesWorld_free (w : World) (e : TypeId) (s : ByteArray) (j : Nat) (hj : j < s.size) : (Lib.bytesWorld w e s).frozen? ⟨w.heap.size, j, none⟩ = false := by
  unfold World.frozen?
  rw [Lib.bytesWorld_at_new]
  have : j < (Lib.bytesCells w e s).size := by simp [Lib.bytesCells]; omega
  simp
  omega
/-- The byte turned, in the list of all. -/
theorem Sp.cut_at (s : ByteArray) (k : Nat) (hk : k < s.size) : s.data.toList = s.data.toList.take k ++ s[k] :: s.data.toList.drop (k + 1) := by
  have h : k < s.data.toList.length := by rw [← Wp.size_len]; exact hk
  have h1 := List.take_append_drop k s.data.toList
  rw [List.drop_eq_getElem_cons h, Wp.getElem_data s k hk] at h1
  exact h1.symm
theorem Sp.back_conv (w : World) (s : ByteArray) (k cap : Nat) (Y : UInt8) (hk : k < s.size) :
    (convert 36 9 (.slice (some ⟨w.heap.size, 0, none⟩) s.size cap)).run Tryd.prog ((Lib.bytesWorld w 5 s).setCell ⟨w.heap.size, k, none⟩ (.int .u8 (Y.toNat : Int))) =
      .ok (.string (Wp.B (s.data.toList.take k ++ Y :: s.data.toList.drop (k + 1)))) ((Lib.bytesWorld w 5 s).setCell ⟨w.heap.size, k, none⟩ (.int .u8 (Y.toNat : Int))) := by
  have hkl : k < s.data.toList.length := by rw [← Wp.size_len]; exact hk
  have hl : (s.data.toList.take k ++ Y :: s.data.toList.drop (k + 1)).length = s.size := by
    rw [List.length_append, List.length_cons, List.length_take, List.length_drop, Wp.size_len]; omega
  have h := run_convert_bytes_back (P := Tryd.prog) ((Lib.bytesWorld w 5 s).setCell ⟨w.heap.size, k, none⟩ (.int .u8 (Y.toNat : Int))) 36 9 5 ⟨w.heap.size, 0, none⟩ cap
    (s.data.toList.take k ++ Y :: s.data.toList.drop (k + 1)) Tryd.underlying36 Tryd.underlying5 Tryd.underlying9 (fun j hj => by
      have e : (⟨w.heap.size, 0, none⟩ : Addr).add j = ⟨w.heap.size, j, none⟩ := by simp [Addr.add]; omega
      rw [e]
      have hj2 : j < s.size := by rw [← hl]; exact hj
      have hc := Lib.bytesWorld_at_new w 5 s
      have hc2 : ((Lib.bytesWorld w 5 s).setCell ⟨w.heap.size, k, none⟩ (.int .u8 (Y.toNat : Int))).heap[w.heap.size]? = some (.cells ((Lib.bytesCells w 5 s).setIfInBounds k (.int .u8 (Y.toNat : Int))) 5 ((Lib.bytesCells w 5 s).size, (Lib.bytesCells w 5 s).size + 1)) := by
        simp [World.setCell, Array.getElem?_modify, hc]
      rw [Lib.cell_of_heap hc2 j, Array.getElem?_setIfInBounds]
      have hsz : (Lib.bytesCells w 5 s).size = s.size + (grownCap w s.size 0 5 - s.size) := by simp [Lib.bytesCells]
      by_cases hjk : k = j
      · subst hjk
        rw [if_pos rfl, if_pos (by omega)]
        rw [List.getElem_append_right (by rw [List.length_take]; omega)]
        have h3 : k - (s.data.toList.take k).length = 0 := by rw [List.length_take]; omega
        simp only [h3, List.getElem_cons_zero]
      · rw [if_neg hjk]
        have h1 := Lib.bytesWorld_cell w 5 s j hj2
        rw [Lib.cell_of_heap hc j] at h1
        rw [h1]
        have hjl : j < s.data.toList.length := by rw [← Wp.size_len]; exact hj2
        have h2 : (s.data.toList.take k ++ Y :: s.data.toList.drop (k + 1))[j] = s.data.toList[j] := by
          by_cases c : j < k
          · rw [List.getElem_append_left (by rw [List.length_take]; omega), List.getElem_take]
          · rw [List.getElem_append_right (by rw [List.length_take]; omega)]
            have h3 : j - (s.data.toList.take k).length = (j - k - 1) + 1 := by rw [List.length_take]; omega
            simp only [h3, List.getElem_cons_succ, List.getElem_drop]
            congr 1
            omega
        rw [h2]
        simp [List.getD, List.getElem?_eq_getElem hjl])
  rw [hl] at h
  exact h

set_option maxHeartbeats 4000000 in
theorem turned_yes (s : ByteArray) (k n : Nat) (hk : k < s.size) (hs : s.size ≤ 140737488351232) (hn : n < 256) (hn0 : n ≠ 0) (w : World) (hL : Sp.Laid w) :
    Calls Tryd.prog 7 #[.string s, .int .i64 (k : Int), .int .u8 (n : Int)] w fun e w' => e = .returned (.bool true) ∧ Below w.heap.size w w' := by
  have HL := Lib.hid hL
  have h0 : ((n : Int) == 0) = false := by rw [beq_eq_false_iff_ne]; omega
  obtain ⟨x, hx⟩ : ∃ x, x = s[k] := ⟨_, rfl⟩
  have hxl := x.toNat_lt
  have hy : x.toNat ^^^ n < 256 := Nat.xor_lt_two_pow (n := 8) hxl hn
  obtain ⟨Y, hY⟩ : ∃ Y, Y = UInt8.ofNat (x.toNat ^^^ n) := ⟨_, rfl⟩
  have hYn : Y.toNat = x.toNat ^^^ n := by rw [hY, UInt8.toNat_ofNat']; omega
  have hxor : bits BinOp.xor IntKind.u8 (x.toNat : Int) (n : Int) = (Y.toNat : Int) := by rw [u8_xor_nat _ _ (by omega) hn, hYn]
  have hne : x ≠ Y := by
    intro c
    rw [← c] at hYn
    have h2 : x.toNat ^^^ 0 = x.toNat ^^^ n := by rw [Nat.xor_zero]; exact hYn
    exact hn0 (Sp.xor_lc _ _ _ h2).symm
  have hcut := Sp.cut_at s k hk
  rw [← hx] at hcut
  obtain ⟨T, hT⟩ : ∃ T, T = s.data.toList.take k ++ Y :: s.data.toList.drop (k + 1) := ⟨_, rfl⟩
  have hback := fun w1 cap => Sp.back_conv w1 s k cap Y hk
  rw [← hT] at hback
  have hTl : T.length = s.size := by rw [hT, List.length_append, List.length_cons, List.length_take, List.length_drop, ← Wp.size_len]; omega
  have hsum : Sp.on 0 s.data.toList ≠ Sp.on 0 T := by rw [hT]; conv => lhs; rw [hcut]
                                                      exact Sp.on_turned 0 _ x Y _ hne
  have hof1 := fun w hL => of_any s w hL (by omega)
  have hof2 := fun w hL => of_any (Wp.B T) w hL (by rw [Wp.B_size]; omega)
  rw [Wp.B_data] at hof2
  obtain ⟨u1, hu1⟩ : ∃ u1, u1 = Sp.on 0 s.data.toList := ⟨_, rfl⟩
  obtain ⟨u2, hu2⟩ : ∃ u2, u2 = Sp.on 0 T := ⟨_, rfl⟩
  rw [← hu1] at hof1
  rw [← hu2] at hof2
  rw [← hu1, ← hu2] at hsum
  have hq1 : ((u1 : Int) == (u2 : Int)) = false := by rw [beq_eq_false_iff_ne]; omega
  have hq2 : ((u1 : Int) != (u2 : Int)) = true := by rw [bne_iff_ne]; omega
  have hBT : (Wp.B T).size ≤ s.size := by rw [Wp.B_size]; omega
  have Hback := Lib.hid hback
  have Hof1 := Lib.hid hof1
  have Hof2 := Lib.hid hof2
  have hshort : s.size ≤ 32768 → (∀ w, Sp.Laid w → Calls Tryd.prog 9 #[.string s] w fun e w' => e = .returned (.tuple #[.string (Wp.B (Sp.frameB s.data.toList)), .int .i64 0]) ∧ Below w.heap.size w w') ∧
      (∀ w, Sp.Laid w → Calls Tryd.prog 11 #[.string ((Wp.B (Sp.frameB s.data.toList)).extract 0 ((Wp.B (Sp.frameB s.data.toList)).size - s.size) ++ Wp.B T)] w fun e w' => e = .returned (.tuple #[.string ⟨#[]⟩, .string ⟨#[]⟩, .int .i64 6]) ∧ Below w.heap.size w w') ∧
      (Wp.B (Sp.frameB s.data.toList)).size ≤ 13 + s.size ∧ s.size ≤ (Wp.B (Sp.frameB s.data.toList)).size := fun h => by
    have z1 := Sp.frame_size s
    have z2 : (Wp.B (Sp.frameB s.data.toList)).size = (Wp.numB s.data.toList.length ++ Sp.four (Sp.on 0 s.data.toList)).length + s.size := by
      rw [Wp.B_size, Sp.frameB, List.length_append, Wp.size_len]
    refine ⟨fun w hL => ?_, fun w hL => ?_, z1, by omega⟩
    · have h1 := frame_any s w hL (by omega)
      rw [show Sp.frameR s = (Sp.frameB s.data.toList, 0) from if_neg (by omega)] at h1
      exact h1
    · have h1 := next_any ((Wp.B (Sp.frameB s.data.toList)).extract 0 ((Wp.B (Sp.frameB s.data.toList)).size - s.size) ++ Wp.B T) w hL (by rw [ByteArray.size_append, ByteArray.size_extract]; omega)
      have h2 : Sp.nx ((Wp.B (Sp.frameB s.data.toList)).extract 0 ((Wp.B (Sp.frameB s.data.toList)).size - s.size) ++ Wp.B T) = ([], [], 6) := by
        rw [Sp.nx, Wp.data_append, Wp.data_extract, Wp.B_data, Wp.B_data, List.drop_zero, Nat.sub_zero, z2, Nat.add_sub_cancel, Sp.frameB, List.take_left' rfl, hT]
        conv => lhs; arg 1; arg 1; rw [hcut]
        exact Sp.nextR_turned _ x Y _ hne (by rw [← hcut, ← Wp.size_len]; exact h)
      rw [h2] at h1
      exact h1
  have hlong : 32768 < s.size → (∀ w, Sp.Laid w → Calls Tryd.prog 9 #[.string s] w fun e w' => e = .returned (.tuple #[.string ⟨#[]⟩, .int .i64 12]) ∧ Below w.heap.size w w') := fun h w hL => by
    have h1 := frame_any s w hL (by omega)
    rw [show Sp.frameR s = ([], 12) from if_pos h] at h1
    exact h1
  have hk2 : (k : Int) < (s.size : Int) := by omega
  have hxs : (s.data.toList.getD k 0) = x := by
    have hkl : k < s.data.toList.length := by rw [← Wp.size_len]; exact hk
    rw [hx, List.getD, List.getElem?_eq_getElem hkl, Wp.getElem_data s k hk]; rfl
  have Hxs := Lib.hid hxs
  clear hL hof1 hof2 hback hx hY hYn hcut hT hTl hu1 hu2 hne hsum hn0 hy hxs
  by_cases hl : 32768 < s.size
  · have CF := Lib.hid (hlong hl)
    clear hlong hshort
    go_enter Tryd.func7, Tryd.ntmps7
    go_wp2_with fail
    refine (lives_any _ HL.out).mono ?_
    rintro e w1 ⟨rfl, b1⟩
    have hconv := Lib.run_convert_string_bytes (P := Tryd.prog) w1 9 36 5 s Tryd.underlying9 Tryd.underlying36 Tryd.underlying5
    have hb2 := bytesWorld_below w1 5 s
    have hfr := bytesWorld_free w1 5 s k hk
    have hce := Lib.bytesWorld_cell w1 5 s k hk
    rw [Hxs.out] at hce
    have hbk := Hback.out w1 (grownCap w1 s.size 0 5)
    obtain ⟨W2, hW2⟩ : ∃ W2, W2 = Lib.bytesWorld w1 5 s := ⟨_, rfl⟩
    obtain ⟨cap, hcap⟩ : ∃ c, c = grownCap w1 s.size 0 5 := ⟨_, rfl⟩
    rw [← hW2] at hconv hb2 hfr hce hbk
    rw [← hcap] at hconv hbk
    clear hW2 hcap
    have b3 := hb2.setCell (p := ⟨w1.heap.size, k, none⟩) (Nat.le_refl _) (.int .u8 (Y.toNat : Int))
    have a3 := below_then b1 b3 b1.size
    have HL3 := Lib.hid (HL.out.below a3)
    go_wp2_with fail
    refine (CF.out _ HL3.out).mono ?_
    rintro e w4 ⟨rfl, b4⟩
    have a4 := below_then a3 b4 a3.size
    have HL4 := Lib.hid (HL3.out.below b4)
    go_wp2_with fail
    refine (Hof1.out _ HL4.out).mono ?_
    rintro e w5 ⟨rfl, rfl⟩
    go_wp2_with fail
    refine (Hof2.out _ HL4.out).mono ?_
    rintro e w6 ⟨rfl, rfl⟩
    go_wp2_with fail
    go_ret
    exact ⟨rfl, a4⟩
  · obtain ⟨cf, cn, z1, z2⟩ := hshort (by omega)
    obtain ⟨FF, hFF⟩ : ∃ FF, FF = Wp.B (Sp.frameB s.data.toList) := ⟨_, rfl⟩
    rw [← hFF] at cf cn z1 z2
    have CF := Lib.hid cf
    have CN := Lib.hid cn
    clear hlong hshort cf cn hFF
    go_enter Tryd.func7, Tryd.ntmps7
    go_wp2_with fail
    refine (lives_any _ HL.out).mono ?_
    rintro e w1 ⟨rfl, b1⟩
    have hconv := Lib.run_convert_string_bytes (P := Tryd.prog) w1 9 36 5 s Tryd.underlying9 Tryd.underlying36 Tryd.underlying5
    have hb2 := bytesWorld_below w1 5 s
    have hfr := bytesWorld_free w1 5 s k hk
    have hce := Lib.bytesWorld_cell w1 5 s k hk
    rw [Hxs.out] at hce
    have hbk := Hback.out w1 (grownCap w1 s.size 0 5)
    obtain ⟨W2, hW2⟩ : ∃ W2, W2 = Lib.bytesWorld w1 5 s := ⟨_, rfl⟩
    obtain ⟨cap, hcap⟩ : ∃ c, c = grownCap w1 s.size 0 5 := ⟨_, rfl⟩
    rw [← hW2] at hconv hb2 hfr hce hbk
    rw [← hcap] at hconv hbk
    clear hW2 hcap
    have b3 := hb2.setCell (p := ⟨w1.heap.size, k, none⟩) (Nat.le_refl _) (.int .u8 (Y.toNat : Int))
    have a3 := below_then b1 b3 b1.size
    have HL3 := Lib.hid (HL.out.below a3)
    go_wp2_with fail
    refine (CF.out _ HL3.out).mono ?_
    rintro e w4 ⟨rfl, b4⟩
    have a4 := below_then a3 b4 a3.size
    have HL4 := Lib.hid (HL3.out.below b4)
    go_wp2_with fail
    refine (CN.out _ HL4.out).mono ?_
    rintro e w5 ⟨rfl, b5⟩
    have a5 := below_then a4 b5 a4.size
    have HL5 := Lib.hid (HL4.out.below b5)
    go_wp2_with fail
    refine (Hof1.out _ HL5.out).mono ?_
    rintro e w6 ⟨rfl, rfl⟩
    go_wp2_with fail
    refine (Hof2.out _ HL5.out).mono ?_
    rintro e w7 ⟨rfl, rfl⟩
    go_wp2_with fail
    go_ret
    exact ⟨rfl, a5⟩

theorem turned_any (s : ByteArray) (a : Int) (n : Nat) (hs : s.size ≤ 140737488351232) (ha : Wp.I64 a) (hn : n < 256) (w : World) (hL : Sp.Laid w) :
    Calls Tryd.prog 7 #[.string s, .int .i64 a, .int .u8 (n : Int)] w fun e w' => e = .returned (.bool true) ∧ Below w.heap.size w w' := by
  by_cases hno : n = 0 ∨ a < 0 ∨ (s.size : Int) ≤ a
  · exact turned_no s a n hs ha hn hno w hL
  · obtain ⟨k, rfl⟩ := Int.eq_ofNat_of_zero_le (by omega : 0 ≤ a)
    exact turned_yes s k n (by omega) hs hn (by omega) w hL
end Go.Proofs.YtdhiekhinimohaaDoor
