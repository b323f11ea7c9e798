/-
  The walks of the document's own frames (bellmanref02: Frame, Next): they are those that Sp's plain functions tell. Condition: the bytes are at most 2^48.
-/
import Derived.Test.YtdhiekhinimohaaDoorSumRef
import Derived.Test.YtdhiekhinimohaaDoorSumNext
import Derived.Test.YtdhiekhinimohaaDoorRef
namespace Go.Proofs.YtdhiekhinimohaaDoor
open Go.RowKit

set_option maxHeartbeats 400000 in
theorem rframe_any (s : ByteArray) (w : World) (hs : s.size ≤ 281474976710656) :
    Calls Tryd.prog 10 #[.string s] w fun e w' => e = .returned (.tuple #[.string (Wp.B (Sp.frameR s).1), .int .i64 (Sp.frameR s).2]) ∧ Below w.heap.size w w' := by
  by_cases h : 32768 < s.size
  · rw [show Sp.frameR s = ([], 12) from if_pos h]
    go_enter Tryd.func10, Tryd.ntmps10
    go_wp2_with fail
    go_ret2
    exact ⟨rfl, Below.refl _ _⟩
  · rw [show Sp.frameR s = (Sp.frameB s.data.toList, 0) from if_neg h]
    have ln := Wp.numB_len s.size
    rw [← Wp.B_size] at ln
    have hol := Sp.on_lt 0 s.data.toList
    have hfr := Lib.hid (show Wp.B (Wp.numB s.size) ++ Wp.B (Sp.four (Sp.on 0 s.data.toList)) ++ s = Wp.B (Sp.frameB s.data.toList) by
      rw [Wp.B_append, Wp.B_append, Wp.B_data, Sp.frameB, ← Wp.size_len])
    obtain ⟨v, hv⟩ : ∃ v, v = Sp.on 0 s.data.toList := ⟨_, rfl⟩
    have Hof := Lib.hid (fun w => rof_any s w hs)
    rw [← hv] at hol hfr Hof
    clear hv
    have l4 : (Wp.B (Sp.four v)).size = 4 := Wp.B_size _
    have L4 := Lib.hid l4
    have l4' : (Wp.B (Sp.four v)).size ≤ 4 := by omega
    clear l4
    go_enter Tryd.func10, Tryd.ntmps10
    go_wp2_with fail
    refine (rnum_any _ _ (by omega) (by omega)).mono ?_
    rintro e w1 ⟨rfl, b1⟩
    go_wp2_with fail
    refine (Hof.out _).mono ?_
    rintro e w2 ⟨rfl, rfl⟩
    go_wp2_with fail
    refine (rfour_any _ _ hol).mono ?_
    rintro e w3 ⟨rfl, b3⟩
    go_wp2_with fail
    go_ret2
    refine ⟨?_, below_then b1 b3 b1.size⟩
    rw [← hfr.out]
    rfl


set_option maxHeartbeats 2000000 in
theorem rnext_any (s : ByteArray) (w : World) (hs : s.size ≤ 281474976710656) :
    Calls Tryd.prog 12 #[.string s] w fun e w' => e = .returned (.tuple #[.string (Wp.B (Sp.nx s).1), .string (Wp.B (Sp.nx s).2.1), .int .i64 (Sp.nx s).2.2]) ∧ Below w.heap.size w w' := by
  obtain ⟨⟨n, r, er⟩, hg⟩ : ∃ g, Wp.gn s = g := ⟨_, rfl⟩
  have hg' : Wp.getNum s.data.toList = (n, r, er) := hg
  have hN := Sp.nextR_eq s.data.toList n r er hg'
  have hc := fun w => rgetNum_any s w hs
  have hrl := Wp.gn_rest s _ _ _ hg
  rw [hg] at hc
  simp only [] at hc
  have Hc := Lib.hid hc
  obtain ⟨G, hG⟩ : ∃ G, G = Sp.nx s := ⟨_, rfl⟩
  have hN2 : G = _ := hG.trans hN
  rw [← hG]
  have hB : (Wp.B r).size = r.length := Wp.B_size _
  have hrB : (Wp.B r).size ≤ s.size := by omega
  clear hG hN hg hg' hc
  by_cases he : er = 0
  · subst he
    rw [if_neg (by simp)] at hN2
    by_cases hn : n < 0
    · rw [if_pos hn] at hN2
      have HN := Lib.hid hN2
      clear hN2 hB
      go_enter Tryd.func12, Tryd.ntmps12
      go_wp2_with fail
      refine (Hc.out _).mono ?_
      rintro e w1 ⟨rfl, b1⟩
      go_wp2_with fail
      go_ret3
      exact ⟨by rw [HN.out]; rfl, b1⟩
    rw [if_neg hn] at hN2
    by_cases hn2 : 32768 < n
    · rw [if_pos hn2] at hN2
      have HN := Lib.hid hN2
      clear hN2 hB
      go_enter Tryd.func12, Tryd.ntmps12
      go_wp2_with fail
      refine (Hc.out _).mono ?_
      rintro e w1 ⟨rfl, b1⟩
      go_wp2_with fail
      go_ret3
      exact ⟨by rw [HN.out]; rfl, b1⟩
    rw [if_neg hn2] at hN2
    obtain ⟨N, rfl⟩ := Int.eq_ofNat_of_zero_le (by omega : 0 ≤ n)
    rw [Int.toNat_natCast] at hN2
    by_cases h5 : (r.length : Int) < 4 + (N : Int)
    · rw [if_pos h5] at hN2
      have HN := Lib.hid hN2
      have h5' : ((Wp.B r).size : Int) < 4 + (N : Int) := by omega
      clear hN2 h5 hB
      go_enter Tryd.func12, Tryd.ntmps12
      go_wp2_with fail
      refine (Hc.out _).mono ?_
      rintro e w1 ⟨rfl, b1⟩
      go_wp2_with fail
      go_ret3
      exact ⟨by rw [HN.out]; rfl, b1⟩
    rw [if_neg h5] at hN2
    obtain ⟨D, hD⟩ : ∃ D, D = (Wp.B r).extract 4 (4 + N) := ⟨_, rfl⟩
    have hDd : D.data.toList = (r.drop 4).take N := by
      rw [hD, Wp.data_extract, Wp.B_data]
      congr 1
      omega
    obtain ⟨Q, hQ⟩ : ∃ Q, Q = (Wp.B r).extract 0 4 := ⟨_, rfl⟩
    have hQd : Q.data.toList = r.take 4 := by
      rw [hQ, Wp.data_extract, Wp.B_data, List.drop_zero]
    obtain ⟨E, hE⟩ : ∃ E, E = (Wp.B r).extract (4 + N) (Wp.B r).size := ⟨_, rfl⟩
    have hEd : E.data.toList = r.drop (4 + N) := by
      rw [hE, Wp.data_extract, Wp.B_data]
      exact List.take_of_length_le (by rw [List.length_drop]; omega)
    rw [← hDd, ← hQd, ← hEd] at hN2
    have hDs : D.size ≤ 281474976710656 := by rw [hD, ByteArray.size_extract]; omega
    have hvl := Sp.on_lt 0 D.data.toList
    have hof := fun W => rof_any D W hDs
    obtain ⟨v, hv⟩ : ∃ v, v = Sp.on 0 D.data.toList := ⟨_, rfl⟩
    rw [← hv] at hN2 hvl hof
    have hsb := fun W => rfour_any v W hvl
    have hcmp : ((Wp.B (Sp.four v)).toList == Q.toList) = decide (Sp.four v = Q.data.toList) := by
      rw [Lib.toList_data, Lib.toList_data, Wp.B_data, Bool.eq_iff_iff, beq_iff_eq, decide_eq_true_eq]
    have Hcmp := Lib.hid hcmp
    have HD := Lib.hid hD
    have HQ := Lib.hid hQ
    have HE := Lib.hid hE
    have hge : 4 + (N : Int) ≤ ((Wp.B r).size : Int) := by omega
    have hge2 : 4 + N ≤ (Wp.B r).size := by omega
    clear hDd hQd hEd hv hcmp hD hQ hE h5 hB
    by_cases hq : Sp.four v = Q.data.toList
    · rw [if_neg (by simpa using hq)] at hN2
      rw [decide_eq_true hq] at Hcmp
      have HN := Lib.hid hN2
      clear hN2 hq
      go_enter Tryd.func12, Tryd.ntmps12
      go_wp2_with fail
      refine (Hc.out _).mono ?_
      rintro e w1 ⟨rfl, b1⟩
      go_wp2_with fail
      rw [← HD.out]
      have q1 : (4 : Int) ≤ ((Wp.B r).size : Int) := by omega
      go_region_with (first | (go_at_call 15; (with_reducible refine (hof _).mono ?_); rintro e w2 ⟨rfl, rfl⟩) | (go_at_call 29; (with_reducible refine (hsb _).mono ?_); rintro e w2 ⟨rfl, b2⟩))
      clear q1
      simp only [← HQ.out, Hcmp.out]
      go_wp2_with fail
      have q1 : (4 + (N : Int)).toNat = 4 + N := by omega
      have q2 : (0 : Int) ≤ 4 + (N : Int) := by omega
      have q3 : IntKind.i64.wrap (4 + (N : Int)) = 4 + (N : Int) := IntWalk.i64_in _ (by omega)
      go_quiet (fail)
      clear q1 q2 q3
      go_wp2_with fail
      go_ret3
      rw [HN.out, Wp.B_of, Wp.B_of]
      refine ⟨by rw [HE.out]; rfl, below_drewN (b1.drew.trans (b2.mono b1.drew.size)) _⟩
    · rw [if_pos hq] at hN2
      rw [decide_eq_false hq] at Hcmp
      have HN := Lib.hid hN2
      clear hN2 hq
      go_enter Tryd.func12, Tryd.ntmps12
      go_wp2_with fail
      refine (Hc.out _).mono ?_
      rintro e w1 ⟨rfl, b1⟩
      go_wp2_with fail
      rw [← HD.out]
      have q1 : (4 : Int) ≤ ((Wp.B r).size : Int) := by omega
      go_region_with (first | (go_at_call 15; (with_reducible refine (hof _).mono ?_); rintro e w2 ⟨rfl, rfl⟩) | (go_at_call 29; (with_reducible refine (hsb _).mono ?_); rintro e w2 ⟨rfl, b2⟩))
      clear q1
      simp only [← HQ.out, Hcmp.out]
      go_wp2_with fail
      go_ret3
      refine ⟨by rw [HN.out]; rfl, ?_⟩
      exact b1.drew.trans (b2.mono b1.drew.size)
  · have hb1 : (er != 0) = true := by rw [bne_iff_ne]; exact he
    rw [if_pos he] at hN2
    have HN := Lib.hid hN2
    clear hN2 he hB
    go_enter Tryd.func12, Tryd.ntmps12
    go_wp2_with fail
    refine (Hc.out _).mono ?_
    rintro e w1 ⟨rfl, b1⟩
    go_wp2_with fail
    go_ret3
    exact ⟨by rw [HN.out]; rfl, b1⟩
end Go.Proofs.YtdhiekhinimohaaDoor
