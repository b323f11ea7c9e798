
/-
  The walks of sum.Frame and sum.readLength: a frame's bytes, and how many bytes of data a frame tells. Conditions: the table reads as it is laid, a text takes at most 2^48 bytes.
-/
import Derived.Test.YtpmhgfjnabgilabDoorSumBytes
import Derived.Test.YtpmhgfjnabgilabDoorNextPlain
namespace Go.Proofs.YtpmhgfjnabgilabDoor
open Go.RowKit

theorem Sp.Laid.drew {w : World} (h : Sp.Laid w) : Sp.Laid w.drew := h.below (Below.refl _ _).drew
def Sp.frameR (s : ByteArray) : List UInt8 × Int := if 32768 < s.size then ([], 12) else (Sp.frameB s.data.toList, 0)
set_option maxHeartbeats 400000 in
theorem frame_any (s : ByteArray) (w : World) (hL : Sp.Laid w) (hs : s.size ≤ 281474976710656) :
    Calls Tryd.prog 94 #[.string s] w fun e w' => e = .returned (.tuple #[.string (Wp.B (Sp.frameR s).1), .int .i64 (Sp.frameR s).2]) ∧ Below w.heap.size w w' := by
  by_cases h : 32768 < s.size
  · rw [show Sp.frameR s = ([], 12) from if_pos h]
    go_enter Tryd.func94, Tryd.ntmps94
    go_wp2_with fail
    go_ret2
    exact ⟨rfl, Below.refl _ _⟩
  · rw [show Sp.frameR s = (Sp.frameB s.data.toList, 0) from if_neg h]
    have HL := Lib.hid hL
    clear hL
    have ln := Wp.numB_len s.size
    rw [← Wp.B_size] at ln
    have hol := Sp.on_lt 0 s.data.toList
    have hfr := Lib.hid (show Wp.B (Wp.numB s.size) ++ Wp.B (Sp.four (Sp.on 0 s.data.toList)) ++ s = Wp.B (Sp.frameB s.data.toList) by
      rw [Wp.B_append, Wp.B_append, Wp.B_data, Sp.frameB, ← Wp.size_len])
    obtain ⟨v, hv⟩ : ∃ v, v = Sp.on 0 s.data.toList := ⟨_, rfl⟩
    have Hof := Lib.hid (fun w hw => of_any s w hw hs)
    rw [← hv] at hol hfr Hof
    clear hv
    have l4 : (Wp.B (Sp.four v)).size = 4 := Wp.B_size _
    have L4 := Lib.hid l4
    have l4' : (Wp.B (Sp.four v)).size ≤ 4 := by omega
    clear l4
    go_enter Tryd.func94, Tryd.ntmps94
    go_wp2_with fail
    refine (num_any _ _ (by omega) (by omega)).mono ?_
    rintro e w1 ⟨rfl, b1⟩
    go_wp2_with fail
    refine (Hof.out _ (HL.out.below b1)).mono ?_
    rintro e w2 ⟨rfl, rfl⟩
    go_wp2_with fail
    refine (sumBytes_any _ _ hol).mono ?_
    rintro e w3 ⟨rfl, b3⟩
    go_wp2_with fail
    go_ret2
    refine ⟨?_, below_then b1 b3 b1.size⟩
    rw [← hfr.out]
    rfl

/-- How many bytes of data there are, how many bytes tell that, and why there is no such number. -/
def Sp.lenR (s : ByteArray) : Int × Int × Int :=
  if (Wp.gn s).2.2 ≠ 0 then (0, 0, (Wp.gn s).2.2) else if (Wp.gn s).1 < 0 then (0, 0, 7) else if 32768 < (Wp.gn s).1 then (0, 0, 12) else ((Wp.gn s).1, (Wp.numB (Wp.gn s).1).length, 0)
theorem Sp.lenR_eq (s : ByteArray) (n : Int) (r : List UInt8) (e : Int) (h : Wp.gn s = (n, r, e)) :
    Sp.lenR s = if e ≠ 0 then (0, 0, e) else if n < 0 then (0, 0, 7) else if 32768 < n then (0, 0, 12) else (n, ((Wp.numB n).length : Int), 0) := by
  unfold Sp.lenR
  rw [h]
set_option maxHeartbeats 1000000 in
theorem readLength_any (s : ByteArray) (w : World) (hs : s.size ≤ 281474976710656) :
    Calls Tryd.prog 132 #[.string s] w fun e w' => e = .returned (.tuple #[.int .i64 (Sp.lenR s).1, .int .i64 (Sp.lenR s).2.1, .int .i64 (Sp.lenR s).2.2]) ∧ Below w.heap.size w w' := by
  obtain ⟨⟨n, r, er⟩, hg⟩ : ∃ g, Wp.gn s = g := ⟨_, rfl⟩
  have hR := Sp.lenR_eq s n r er hg
  obtain ⟨m, hm⟩ : ∃ m, m = min s.size 9 := ⟨_, rfl⟩
  have hmi : min (s.size : Int) 9 = (m : Int) := by omega
  have hm9 : m ≤ 9 := by omega
  have hms : m ≤ s.size := by omega
  obtain ⟨r9, h9, hl9, hok⟩ := Sp.gn_first s n r er hg m hm
  have hc := fun w => getNum_any (s.extract 0 m) w (by rw [ByteArray.size_extract]; omega)
  rw [h9] at hc
  simp only [] at hc
  have hsz : ((s.extract 0 m).size : Int) = m := by rw [ByteArray.size_extract]; omega
  have hszn : (s.extract 0 m).size = m := by omega
  have hB9 : (Wp.B r9).size = r9.length := Wp.B_size _
  have Hc := Lib.hid hc
  have Hok := Lib.hid hok
  have HB9 := Lib.hid hB9
  rw [← Wp.B_size] at hl9
  clear hg hm h9 hc hok hB9
  by_cases he : er = 0
  · subst he
    have Hok2 := Lib.hid (Hok.out rfl)
    clear Hok
    rw [if_neg (by simp)] at hR
    by_cases hn : n < 0
    · rw [if_pos hn] at hR
      have HR := Lib.hid hR
      clear hR
      go_enter Tryd.func132, Tryd.ntmps132
      go_wp2_with fail
      refine (Hc.out _).mono ?_
      rintro e w1 ⟨rfl, b1⟩
      go_wp2_with fail
      go_ret3
      exact ⟨by rw [HR.out]; rfl, b1⟩
    · rw [if_neg hn] at hR
      by_cases hn2 : 32768 < n
      · rw [if_pos hn2] at hR
        have HR := Lib.hid hR
        clear hR
        go_enter Tryd.func132, Tryd.ntmps132
        go_wp2_with fail
        refine (Hc.out _).mono ?_
        rintro e w1 ⟨rfl, b1⟩
        go_wp2_with fail
        go_ret3
        exact ⟨by rw [HR.out]; rfl, b1⟩
      · rw [if_neg hn2] at hR
        have HR := Lib.hid hR
        clear hR
        go_enter Tryd.func132, Tryd.ntmps132
        go_wp2_with fail
        refine (Hc.out _).mono ?_
        rintro e w1 ⟨rfl, b1⟩
        go_wp2_with fail
        go_ret3
        refine ⟨?_, b1⟩
        have h1 := Hok2.out.1
        rw [HR.out, show ((Wp.numB n).length : Int) = (m : Int) - ((Wp.B r9).size : Int) by rw [HB9.out]; omega]
        rfl
  · have hb1 : (er != 0) = true := by rw [bne_iff_ne]; exact he
    rw [if_pos he] at hR
    have HR := Lib.hid hR
    clear hR he
    go_enter Tryd.func132, Tryd.ntmps132
    go_wp2_with fail
    refine (Hc.out _).mono ?_
    rintro e w1 ⟨rfl, b1⟩
    go_wp2_with fail
    go_ret3
    exact ⟨by rw [HR.out]; rfl, b1⟩
end Go.Proofs.YtpmhgfjnabgilabDoor
