/-
  The law SumBack: what was framed is told next, and what was behind it stays; what is told next has its frame. Conditions: the table reads as it is laid, each text takes at most 2^47 bytes.
-/
import Derived.Test.YtdhiekhinimohaaDoorLives
namespace Go.Proofs.YtdhiekhinimohaaDoor
open Go.RowKit

theorem Sp.frame_size (s : ByteArray) : (Wp.B (Sp.frameB s.data.toList)).size ≤ 13 + s.size := by
  have := Wp.numB_len s.data.toList.length
  rw [Wp.B_size, Sp.frameB, List.length_append, List.length_append, Sp.four_len, Wp.size_len]
  omega
theorem Sp.nx_put (s more : ByteArray) (h : s.size ≤ 32768) : Sp.nx (Wp.B (Sp.frameB s.data.toList) ++ more) = (s.data.toList, more.data.toList, 0) := by
  rw [Sp.nx, Wp.data_append, Wp.B_data, Sp.nextR_put _ _ (by rw [← Wp.size_len]; exact h)]

set_option maxHeartbeats 2000000 in
theorem sback_any (s more : ByteArray) (hs : s.size ≤ 140737488351232) (hm : more.size ≤ 140737488351232) (w : World) (hL : Sp.Laid w) :
    Calls Tryd.prog 5 #[.string s, .string more] w fun e w' => e = .returned (.bool true) ∧ Below w.heap.size w w' := by
  have HL := Lib.hid hL
  have hs2 : s.size ≤ 281474976710656 := by omega
  have hm2 : more.size ≤ 281474976710656 := by omega
  clear hL
  obtain ⟨⟨t, r, er⟩, hg⟩ : ∃ g, Sp.nx more = g := ⟨_, rfl⟩
  have c3 := fun w hL => next_any more w hL hm2
  rw [hg] at c3
  have C3 := Lib.hid c3
  simp only [] at C3
  clear c3
  have hput : s.size ≤ 32768 → (∀ w, Sp.Laid w → Calls Tryd.prog 9 #[.string s] w fun e w' => e = .returned (.tuple #[.string (Wp.B (Sp.frameB s.data.toList)), .int .i64 0]) ∧ Below w.heap.size w w') ∧
      (∀ w, Sp.Laid w → Calls Tryd.prog 11 #[.string (Wp.B (Sp.frameB s.data.toList) ++ more)] w fun e w' => e = .returned (.tuple #[.string s, .string more, .int .i64 0]) ∧ Below w.heap.size w w') := fun h => by
    refine ⟨fun w hL => ?_, fun w hL => ?_⟩
    · have h1 := frame_any s w hL hs2
      rw [show Sp.frameR s = (Sp.frameB s.data.toList, 0) from if_neg (by omega)] at h1
      exact h1
    · have h1 := next_any (Wp.B (Sp.frameB s.data.toList) ++ more) w hL (by rw [ByteArray.size_append]; have := Sp.frame_size s; omega)
      rw [Sp.nx_put s more h] at h1
      simp only [Wp.B_of] at h1
      exact h1
  have hlong : 32768 < s.size → (∀ w, Sp.Laid w → Calls Tryd.prog 9 #[.string s] w fun e w' => e = .returned (.tuple #[.string ⟨#[]⟩, .int .i64 12]) ∧ Below w.heap.size w w') := fun h w hL => by
    have h1 := frame_any s w hL hs2
    rw [show Sp.frameR s = ([], 12) from if_pos h] at h1
    exact h1
  have zs := Sp.frame_size s
  have hend : er = 0 → (∀ w, Sp.Laid w → Calls Tryd.prog 9 #[.string (Wp.B t)] w fun e w' => e = .returned (.tuple #[.string (Wp.B (Sp.frameB t)), .int .i64 0]) ∧ Below w.heap.size w w') ∧ (Wp.B (Sp.frameB t)).size ≤ 13 + 32768 ∧ (Wp.B r).size ≤ more.size ∧ Hid (Wp.B (Sp.frameB t) ++ Wp.B r = more) := fun h => by
    subst h
    have hg' : Sp.nextR more.data.toList = (t, r, 0) := hg
    obtain ⟨h1, h2⟩ := Sp.nextR_ok _ _ _ hg'
    refine ⟨fun w hL => ?_, ?_, ?_, ?_⟩
    · have h3 := frame_any (Wp.B t) w hL (by rw [Wp.B_size]; omega)
      rw [show Sp.frameR (Wp.B t) = (Sp.frameB (Wp.B t).data.toList, 0) from if_neg (by rw [Wp.B_size]; omega)] at h3
      exact h3
    · have h3 := Sp.frame_size (Wp.B t)
      rw [Wp.B_data, Wp.B_size] at h3
      rw [Wp.B_size] at *
      omega
    · rw [Wp.B_size, Wp.size_len, ← h1, List.length_append]; omega
    · exact (show Wp.B (Sp.frameB t) ++ Wp.B r = more by rw [Wp.B_append, Wp.B_data, h1, Wp.B_of])
  have hbad : er ≠ 0 → t = [] ∧ r = [] := fun h => Sp.nextR_bad more.data.toList t r er hg h
  clear hg
  by_cases hl : 32768 < s.size
  · have C1 := Lib.hid (hlong hl)
    clear hput hlong
    by_cases he : er = 0
    · obtain ⟨c4, z1, z2, HE⟩ := hend he
      subst he
      have C4 := Lib.hid c4
      clear c4 hend hbad
      go_enter Tryd.func5, Tryd.ntmps5
      go_wp2_with fail
      refine (lives_any _ HL.out).mono ?_
      rintro e w1 ⟨rfl, b1⟩
      have a1 := b1
      go_wp2_with fail
      refine (C1.out _ (HL.out.below a1)).mono ?_
      rintro e w2 ⟨rfl, b2⟩
      have a2 := below_then a1 b2 a1.size
      go_wp2_with fail
      refine (C3.out _ (HL.out.below a2)).mono ?_
      rintro e w3 ⟨rfl, b3⟩
      have a3 := below_then a2 b3 a2.size
      go_wp2_with fail
      refine (C4.out _ (HL.out.below a3)).mono ?_
      rintro e w4 ⟨rfl, b4⟩
      have a4 := below_then a3 b4 a3.size
      go_wp2_with fail
      go_ret
      refine ⟨?_, a4⟩
      show Ending.returned (.bool ((Wp.B (Sp.frameB t) ++ Wp.B r).toList == more.toList)) = _
      rw [HE.out]
      simp
    · obtain ⟨rfl, rfl⟩ := hbad he
      have hb1 : (er != 0) = true := by rw [bne_iff_ne]; exact he
      have hb2 : (er == 0) = false := by rw [beq_eq_false_iff_ne]; exact he
      have he0 : (Wp.B []).toList.isEmpty = true := by rw [Lib.toList_data]; rfl
      have he1 : (Wp.B []).toList = [] := by rw [Lib.toList_data]; rfl
      clear hend hbad he
      go_enter Tryd.func5, Tryd.ntmps5
      go_wp2_with fail
      refine (lives_any _ HL.out).mono ?_
      rintro e w1 ⟨rfl, b1⟩
      have a1 := b1
      go_wp2_with fail
      refine (C1.out _ (HL.out.below a1)).mono ?_
      rintro e w2 ⟨rfl, b2⟩
      have a2 := below_then a1 b2 a1.size
      go_wp2_with fail
      refine (C3.out _ (HL.out.below a2)).mono ?_
      rintro e w3 ⟨rfl, b3⟩
      have a3 := below_then a2 b3 a2.size
      go_wp2_with fail
      go_ret
      exact ⟨rfl, a3⟩
  · obtain ⟨c1, c2⟩ := hput (by omega)
    have C1 := Lib.hid c1
    have C2 := Lib.hid c2
    clear hput hlong c1 c2
    by_cases he : er = 0
    · obtain ⟨c4, z1, z2, HE⟩ := hend he
      subst he
      have C4 := Lib.hid c4
      clear c4 hend hbad
      go_enter Tryd.func5, Tryd.ntmps5
      go_wp2_with fail
      refine (lives_any _ HL.out).mono ?_
      rintro e w1 ⟨rfl, b1⟩
      have a1 := b1
      go_wp2_with fail
      refine (C1.out _ (HL.out.below a1)).mono ?_
      rintro e w2 ⟨rfl, b2⟩
      have a2 := below_then a1 b2 a1.size
      go_wp2_with fail
      refine (C2.out _ (HL.out.below a2)).mono ?_
      rintro e w3 ⟨rfl, b3⟩
      have a3 := below_then a2 b3 a2.size
      go_wp2_with fail
      refine (C3.out _ (HL.out.below a3)).mono ?_
      rintro e w4 ⟨rfl, b4⟩
      have a4 := below_then a3 b4 a3.size
      go_wp2_with fail
      refine (C4.out _ (HL.out.below a4)).mono ?_
      rintro e w5 ⟨rfl, b5⟩
      have a5 := below_then a4 b5 a4.size
      go_wp2_with fail
      go_ret
      refine ⟨?_, a5⟩
      show Ending.returned (.bool ((Wp.B (Sp.frameB t) ++ Wp.B r).toList == more.toList)) = _
      rw [HE.out]
      simp
    · obtain ⟨rfl, rfl⟩ := hbad he
      have hb1 : (er != 0) = true := by rw [bne_iff_ne]; exact he
      have hb2 : (er == 0) = false := by rw [beq_eq_false_iff_ne]; exact he
      have he0 : (Wp.B []).toList.isEmpty = true := by rw [Lib.toList_data]; rfl
      have he1 : (Wp.B []).toList = [] := by rw [Lib.toList_data]; rfl
      clear hend hbad he
      go_enter Tryd.func5, Tryd.ntmps5
      go_wp2_with fail
      refine (lives_any _ HL.out).mono ?_
      rintro e w1 ⟨rfl, b1⟩
      have a1 := b1
      go_wp2_with fail
      refine (C1.out _ (HL.out.below a1)).mono ?_
      rintro e w2 ⟨rfl, b2⟩
      have a2 := below_then a1 b2 a1.size
      go_wp2_with fail
      refine (C2.out _ (HL.out.below a2)).mono ?_
      rintro e w3 ⟨rfl, b3⟩
      have a3 := below_then a2 b3 a2.size
      go_wp2_with fail
      refine (C3.out _ (HL.out.below a3)).mono ?_
      rintro e w4 ⟨rfl, b4⟩
      have a4 := below_then a3 b4 a3.size
      go_wp2_with fail
      go_ret
      exact ⟨rfl, a4⟩
end Go.Proofs.YtdhiekhinimohaaDoor
