
/-
  The walk of sum.Next: the frame that bytes begin with, or why there is none. Conditions: the table reads as it is laid, the bytes are at most 2^48.
-/
import Derived.Test.YtpmhgfjnabgilabDoorSumFrame
namespace Go.Proofs.YtpmhgfjnabgilabDoor
open Go.RowKit

def Sp.nx (s : ByteArray) : List UInt8 × List UInt8 × Int := Sp.nextR s.data.toList
set_option maxHeartbeats 2000000 in
theorem next_any (s : ByteArray) (w : World) (hL : Sp.Laid w) (hs : s.size ≤ 281474976710656) :
    Calls Tryd.prog 100 #[.string s] w fun e w' => e = .returned (.tuple #[.string (Wp.B (Sp.nx s).1), .string (Wp.B (Sp.nx s).2.1), .int .i64 (Sp.nx s).2.2]) ∧ Below w.heap.size w w' := by
  obtain ⟨⟨n, r, er⟩, hg⟩ : ∃ g, Wp.gn s = g := ⟨_, rfl⟩
  have hg' : Wp.getNum s.data.toList = (n, r, er) := hg
  have hN := Sp.nextR_eq s.data.toList n r er hg'
  have hR := Sp.lenR_eq s n r er hg
  have hc := fun w => readLength_any s w hs
  obtain ⟨G, hG⟩ : ∃ G, G = Sp.nx s := ⟨_, rfl⟩
  have hN2 : G = _ := hG.trans hN
  rw [← hG]
  obtain ⟨_, _, _, hok⟩ := Sp.gn_first s n r er hg _ rfl
  have hok2 := fun (h : er = 0) => (hok h).2
  clear hG hN hok hg hg'
  by_cases he : er = 0
  · subst he
    obtain ⟨hln, hrs, hsr⟩ := hok2 rfl
    clear hok2
    rw [if_neg (by simp)] at hR hN2
    by_cases hn : n < 0
    · rw [if_pos hn] at hR hN2
      rw [hR] at hc
      have HN := Lib.hid hN2
      have Hc := Lib.hid hc
      clear hR hN2 hc hL hsr
      go_enter Tryd.func100, Tryd.ntmps100
      go_wp2_with fail
      refine (Hc.out _).mono ?_
      rintro e w1 ⟨rfl, b1⟩
      go_wp2_with fail
      go_ret3
      exact ⟨by rw [HN.out]; rfl, b1⟩
    rw [if_neg hn] at hR hN2
    by_cases hn2 : 32768 < n
    · rw [if_pos hn2] at hR hN2
      rw [hR] at hc
      have HN := Lib.hid hN2
      have Hc := Lib.hid hc
      clear hR hN2 hc hL hsr
      go_enter Tryd.func100, Tryd.ntmps100
      go_wp2_with fail
      refine (Hc.out _).mono ?_
      rintro e w1 ⟨rfl, b1⟩
      go_wp2_with fail
      go_ret3
      exact ⟨by rw [HN.out]; rfl, b1⟩
    rw [if_neg hn2] at hR hN2
    obtain ⟨N, rfl⟩ := Int.eq_ofNat_of_zero_le (by omega : 0 ≤ n)
    obtain ⟨h, hh⟩ : ∃ h, h = (Wp.numB (N : Int)).length := ⟨_, rfl⟩
    rw [← hh] at hln hrs hR
    rw [hR] at hc
    rw [Int.toNat_natCast] at hN2
    have Hc := Lib.hid hc
    simp only [] at Hc
    clear hc hR
    by_cases h5 : (r.length : Int) < 4 + (N : Int)
    · rw [if_pos h5] at hN2
      have HN := Lib.hid hN2
      have h5' : (s.size : Int) < (h : Int) + 4 + (N : Int) := by omega
      clear hN2 hL hsr h5
      go_enter Tryd.func100, Tryd.ntmps100
      go_wp2_with fail
      refine (Hc.out _).mono ?_
      rintro e w1 ⟨rfl, b1⟩
      go_wp2_with fail
      go_ret3
      exact ⟨by rw [HN.out]; rfl, b1⟩
    rw [if_neg h5] at hN2
    have hdr : s.data.toList.drop h = r := by rw [hsr, hh, List.drop_left' rfl]
    obtain ⟨D, hD⟩ : ∃ D, D = s.extract (h + 4) (h + 4 + N) := ⟨_, rfl⟩
    have hDd : D.data.toList = (r.drop 4).take N := by
      rw [hD, Wp.data_extract, ← List.drop_drop, hdr]
      congr 1
      omega
    obtain ⟨Q, hQ⟩ : ∃ Q, Q = s.extract h (h + 4) := ⟨_, rfl⟩
    have hQd : Q.data.toList = r.take 4 := by
      rw [hQ, Wp.data_extract, hdr]
      congr 1
      omega
    obtain ⟨E, hE⟩ : ∃ E, E = s.extract (h + 4 + N) s.size := ⟨_, rfl⟩
    have hEd : E.data.toList = r.drop (4 + N) := by
      rw [hE, Wp.data_extract, show h + 4 + N = h + (4 + N) by omega, ← List.drop_drop, hdr]
      exact List.take_of_length_le (by rw [List.length_drop]; omega)
    rw [← hDd, ← hQd, ← hEd] at hN2
    have hDs : D.size ≤ 281474976710656 := by rw [hD, ByteArray.size_extract]; omega
    have hEs : E.size ≤ 281474976710656 := by rw [hE, ByteArray.size_extract]; omega
    have hvl := Sp.on_lt 0 D.data.toList
    have hof := fun W hW => of_any D W hW hDs
    obtain ⟨v, hv⟩ : ∃ v, v = Sp.on 0 D.data.toList := ⟨_, rfl⟩
    rw [← hv] at hN2 hvl hof
    have hsb := fun W => sumBytes_any v W hvl
    have hcmp : (Q.toList == (Wp.B (Sp.four v)).toList) = decide (Sp.four v = Q.data.toList) := by
      rw [Lib.toList_data, Lib.toList_data, Wp.B_data, Bool.eq_iff_iff, beq_iff_eq, decide_eq_true_eq]
      exact eq_comm
    have Hcmp := Lib.hid hcmp
    have HD := Lib.hid hD
    have HQ := Lib.hid hQ
    have HE := Lib.hid hE
    have HL := Lib.hid hL
    have hcl1 := fun W => clone_any D W hDs
    rw [hE] at hEs
    have hcl2 := fun W => clone_any (s.extract (h + 4 + N) s.size) W hEs
    have hge : (h : Int) + 4 + (N : Int) ≤ (s.size : Int) := by omega
    have hge2 : h + 4 + N ≤ s.size := by omega
    clear hsr hdr hDd hQd hEd hv hD hQ hE hL h5 hh hrs hcmp
    by_cases hq : Sp.four v = Q.data.toList
    · rw [if_neg (by simpa using hq)] at hN2
      rw [decide_eq_true hq] at Hcmp
      have HN := Lib.hid hN2
      clear hN2 hq
      go_enter Tryd.func100, Tryd.ntmps100
      go_wp2_with fail
      refine (Hc.out _).mono ?_
      rintro e w1 ⟨rfl, b1⟩
      go_wp2_with fail
      rw [← HD.out]
      have hLd := (HL.out.below b1).drew
      have q1 : ((h : Int) + 4).toNat = h + 4 := by omega
      have q2 : (0 : Int) ≤ (h : Int) + 4 := by omega
      have q3 : (h : Int) + 4 ≤ (s.size : Int) := by omega
      have q4 : (h : Int) ≤ (h : Int) + 4 := by omega
      have q5 : (0 : Int) ≤ (h : Int) := by omega
      go_region_with (first | (go_at_call 130; (with_reducible refine (hof _ hLd).mono ?_); rintro e w2 ⟨rfl, rfl⟩) | (go_at_call 129; (with_reducible refine (hsb _).mono ?_); rintro e w2 ⟨rfl, b2⟩))
      clear q1 q2 q3 q4 q5
      simp only [← HQ.out, Hcmp.out]
      go_wp2_with fail
      have q1 : ((h : Int) + 4 + (N : Int)).toNat = h + 4 + N := by omega
      have q2 : (0 : Int) ≤ (h : Int) + 4 + (N : Int) := by omega
      have q3 : IntKind.i64.wrap ((h : Int) + 4 + (N : Int)) = (h : Int) + 4 + (N : Int) := IntWalk.i64_in _ (by omega)
      have q4 : (h : Int) + 4 + (N : Int) ≤ (s.size : Int) := by omega
      go_region_with (first | (go_at_call 27; (with_reducible refine (hcl1 _).mono ?_); rintro e w3 ⟨rfl, b3⟩) | (go_at_call 27; (with_reducible refine (hcl2 _).mono ?_); rintro e w4 ⟨rfl, b4⟩))
      clear q1 q2 q3 q4
      go_wp2_with fail
      go_ret3
      rw [HN.out, Wp.B_of, Wp.B_of]
      refine ⟨by rw [HE.out]; rfl, ?_⟩
      have a2 := b1.drew.trans (b2.mono b1.drew.size)
      have a3 := a2.drew.trans (b3.mono a2.drew.size)
      exact below_then a3 b4 a3.size
    · rw [if_pos hq] at hN2
      rw [decide_eq_false hq] at Hcmp
      have HN := Lib.hid hN2
      clear hN2 hq hcl1 hcl2
      go_enter Tryd.func100, Tryd.ntmps100
      go_wp2_with fail
      refine (Hc.out _).mono ?_
      rintro e w1 ⟨rfl, b1⟩
      go_wp2_with fail
      rw [← HD.out]
      have hLd := (HL.out.below b1).drew
      have q1 : ((h : Int) + 4).toNat = h + 4 := by omega
      have q2 : (0 : Int) ≤ (h : Int) + 4 := by omega
      have q3 : (h : Int) + 4 ≤ (s.size : Int) := by omega
      have q4 : (h : Int) ≤ (h : Int) + 4 := by omega
      have q5 : (0 : Int) ≤ (h : Int) := by omega
      go_region_with (first | (go_at_call 130; (with_reducible refine (hof _ hLd).mono ?_); rintro e w2 ⟨rfl, rfl⟩) | (go_at_call 129; (with_reducible refine (hsb _).mono ?_); rintro e w2 ⟨rfl, b2⟩))
      clear q1 q2 q3 q4 q5
      simp only [← HQ.out, Hcmp.out]
      go_wp2_with fail
      go_ret3
      refine ⟨by rw [HN.out]; rfl, ?_⟩
      exact b1.drew.trans (b2.mono b1.drew.size)
  · have hb1 : (er != 0) = true := by rw [bne_iff_ne]; exact he
    rw [if_pos he] at hR hN2
    rw [hR] at hc
    have HN := Lib.hid hN2
    have Hc := Lib.hid hc
    clear hR hN2 hc hL he hok2
    go_enter Tryd.func100, Tryd.ntmps100
    go_wp2_with fail
    refine (Hc.out _).mono ?_
    rintro e w1 ⟨rfl, b1⟩
    go_wp2_with fail
    go_ret3
    exact ⟨by rw [HN.out]; rfl, b1⟩
end Go.Proofs.YtpmhgfjnabgilabDoor
