
/-
  The walks of the document's own answers for texts (bellmanref01: Text, many, GetText): each hands back what Wp's plain functions say. Conditions: a text takes at most 2^48 bytes.
-/
import Derived.Test.YtckcbdnlligndaaDoorRef
namespace Go.Proofs.YtckcbdnlligndaaDoor
open Go.RowKit

set_option maxHeartbeats 400000 in
theorem rtext_any (s : ByteArray) (w : World) (hl : s.size ≤ 281474976710656) :
    Calls Tryd.prog 68 #[.string s] w fun e w' => e = .returned (if 4096 < s.size then .tuple #[.string ⟨#[]⟩, .int .i64 12] else .tuple #[.string (Wp.B (Wp.textB s.data.toList)), .int .i64 0]) ∧ Below w.heap.size w w' := by
  by_cases h : 4096 < s.size
  · rw [if_pos h]
    go_enter Tryd.func68, Tryd.ntmps68
    go_wp2_with fail
    go_ret2
    exact ⟨rfl, Below.refl _ _⟩
  · rw [if_neg h]
    have hB := Wp.numB_len s.size
    rw [← Wp.B_size] at hB
    have hT := Lib.hid (show Wp.B (Wp.numB s.size) ++ s = Wp.B (Wp.textB s.data.toList) by rw [Wp.B_append, Wp.textB, ← Wp.size_len])
    go_enter Tryd.func68, Tryd.ntmps68
    go_wp2_with fail
    refine (rnum_any _ _ (by omega) (by omega)).mono ?_
    rintro e w1 ⟨rfl, hb⟩
    go_wp2_with fail
    go_ret2
    exact ⟨by rw [← hT.out]; rfl, hb⟩

set_option maxHeartbeats 400000 in
theorem rmany_any (s : ByteArray) (most : Int) (w : World) (hl : s.size ≤ 281474976710656) (_hm : most ≤ 4096) :
    Calls Tryd.prog 109 #[.string s, .int .i64 most] w fun e w' => e = .returned (.tuple #[.int .i64 (Wp.gl s most).1, .string (Wp.B (Wp.gl s most).2.1), .int .i64 (Wp.gl s most).2.2]) ∧ Below w.heap.size w w' := by
  have hc := fun w => rgetNum_any s w hl
  obtain ⟨⟨n, r, er⟩, hg⟩ : ∃ g, Wp.gn s = g := ⟨_, rfl⟩
  rw [hg] at hc
  have hgl := Wp.gl_eq s most _ _ _ hg
  simp only [] at hc
  clear hg
  by_cases he : er = 0
  · subst he
    rw [if_neg (by simp)] at hgl
    by_cases hn : n < 0
    · rw [if_pos hn] at hgl
      have Hgl := Lib.hid hgl
      clear hgl
      go_enter Tryd.func109, Tryd.ntmps109
      go_wp2_with fail
      refine (hc _).mono ?_
      rintro e w1 ⟨rfl, hb⟩
      go_wp2_with fail
      go_ret3
      exact ⟨by rw [Hgl.out]; rfl, hb⟩
    · rw [if_neg hn] at hgl
      by_cases hn2 : most < n
      · rw [if_pos hn2] at hgl
        have Hgl := Lib.hid hgl
        clear hgl
        go_enter Tryd.func109, Tryd.ntmps109
        go_wp2_with fail
        refine (hc _).mono ?_
        rintro e w1 ⟨rfl, hb⟩
        go_wp2_with fail
        go_ret3
        exact ⟨by rw [Hgl.out]; rfl, hb⟩
      · rw [if_neg hn2] at hgl
        have Hgl := Lib.hid hgl
        clear hgl
        go_enter Tryd.func109, Tryd.ntmps109
        go_wp2_with fail
        refine (hc _).mono ?_
        rintro e w1 ⟨rfl, hb⟩
        go_wp2_with fail
        go_ret3
        exact ⟨by rw [Hgl.out]; rfl, hb⟩
  · have hb1 : (er != 0) = true := by rw [bne_iff_ne]; exact he
    rw [if_pos he] at hgl
    have Hgl := Lib.hid hgl
    clear hgl he
    go_enter Tryd.func109, Tryd.ntmps109
    go_wp2_with fail
    refine (hc _).mono ?_
    rintro e w1 ⟨rfl, hb⟩
    go_wp2_with fail
    go_ret3
    exact ⟨by rw [Hgl.out]; rfl, hb⟩

set_option maxHeartbeats 400000 in
theorem rgetText_any (s : ByteArray) (w : World) (hl : s.size ≤ 281474976710656) :
    Calls Tryd.prog 75 #[.string s] w fun e w' => e = .returned (.tuple #[.string (Wp.B (Wp.gt s).1), .string (Wp.B (Wp.gt s).2.1), .int .i64 (Wp.gt s).2.2]) ∧ Below w.heap.size w w' := by
  have hc := fun w => rmany_any s 4096 w hl (by omega)
  obtain ⟨⟨n, r, er⟩, hg⟩ : ∃ g, Wp.gl s 4096 = g := ⟨_, rfl⟩
  rw [hg] at hc
  have hgt := Wp.gt_eq s _ _ _ hg
  have hbd := fun (h : er = 0) => Wp.gl_bounds s 4096 n r (by rw [hg, h])
  simp only [] at hc
  clear hg
  by_cases he : er = 0
  · obtain ⟨hn0, hn1, hr⟩ := hbd he
    subst he
    clear hbd
    obtain ⟨m, rfl⟩ := Int.eq_ofNat_of_zero_le hn0
    rw [if_neg (by simp), Int.toNat_natCast] at hgt
    rw [← Wp.B_size] at hr
    by_cases hn : (r.length : Int) < (m : Int)
    · rw [if_pos hn] at hgt
      rw [← Wp.B_size] at hn
      have Hgt := Lib.hid hgt
      clear hgt
      go_enter Tryd.func75, Tryd.ntmps75
      go_wp2_with fail
      refine (hc _).mono ?_
      rintro e w1 ⟨rfl, hb⟩
      go_wp2_with fail
      go_ret3
      exact ⟨by rw [Hgt.out]; rfl, hb⟩
    · rw [if_neg hn] at hgt
      rw [← Wp.B_size] at hn
      have Hgt := Lib.hid hgt
      clear hgt
      have hm : m ≤ (Wp.B r).size := by omega
      have He1 := Lib.hid (show (Wp.B r).extract 0 m = Wp.B (r.take m) by rw [Wp.extract_B]; rfl)
      have He2 := Lib.hid (show (Wp.B r).extract m (Wp.B r).size = Wp.B (r.drop m) by rw [Wp.extract_B, Wp.B_data, Wp.B_size, List.take_of_length_le (by rw [List.length_drop]; omega)])
      go_enter Tryd.func75, Tryd.ntmps75
      go_wp2_with fail
      refine (hc _).mono ?_
      rintro e w1 ⟨rfl, hb⟩
      go_wp2_with fail
      go_quiet (fail)
      go_wp2_with fail
      go_ret3
      rw [Hgt.out]
      show Ending.returned (.tuple #[.string ((Wp.B r).extract 0 m), .string ((Wp.B r).extract m (Wp.B r).size), .int .i64 0]) = _ ∧ _
      rw [He1.out, He2.out]
      exact ⟨rfl, below_drewN hb _⟩
  · have hb1 : (er != 0) = true := by rw [bne_iff_ne]; exact he
    rw [if_pos he] at hgt
    have Hgt := Lib.hid hgt
    clear hgt he hbd
    go_enter Tryd.func75, Tryd.ntmps75
    go_wp2_with fail
    refine (hc _).mono ?_
    rintro e w1 ⟨rfl, hb⟩
    go_wp2_with fail
    go_ret3
    exact ⟨by rw [Hgt.out]; rfl, hb⟩

end Go.Proofs.YtckcbdnlligndaaDoor
