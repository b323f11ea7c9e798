/-
  The walk of layer 8's examples (bellmanlaw08.lives): they are answered as the document says. Condition: the calendar's table reads as it is laid.
-/
import Derived.Test.YtpaleljnkejdgaaGreatDoorQtAsk
import Derived.StillTailTactics
namespace Go.Proofs.YtpaleljnkejdgaaGreatDoor
open Go.RowKit Go.Lib Go.Shelf

theorem Qt.at_lit (w : World) (l : List (Int × Int)) (cs : Array Value) (t : TypeId) (h : cs.toList = Wk.rcs l) : Wk.At (w.alloc (.cells cs t)) (some ⟨w.heap.size, 0, none⟩) l := by
  refine Or.inr ⟨w.heap.size, 0, rfl, fun i hi => ?_⟩
  have hg := Wk.rcs_get l i hi
  rw [← h] at hg
  have hn := wk_new w (.cells cs t)
  rw [Lib.cell_of_heap hn, Lib.cell_of_heap hn]
  simp only [Nat.zero_add]
  rw [← Array.getElem?_toList, ← Array.getElem?_toList]
  exact hg
def Qt.Z0 : Wp.Zn := ⟨0, 0, ⟨0, 0, 0, 0⟩, ⟨0, 0, 0, 0⟩⟩
def Qt.l0 : List (Int × Int) := [(0, 420), (1320, 1860)]
theorem Qt.Z0_ok : Wp.ZnOk Qt.Z0 := ⟨⟨by decide, by decide, by decide, by decide⟩, Or.inl ⟨rfl, rfl, rfl⟩⟩
theorem Qt.Z0_ofs (t : Int) : Wp.ofs Qt.Z0 t = 0 := Wp.ofs_plain rfl t
theorem Qt.Z0_loc (t : Int) : Qt.loc Qt.Z0 t = t := by unfold Qt.loc; rw [Qt.Z0_ofs]; omega
theorem Qt.l0_ok : Wk.Ok Qt.l0 := ⟨by decide, by unfold Qt.l0; simp [Wk.Ch]⟩
theorem Qt.full_ok : Wk.Ok [(0, 10080)] := ⟨by decide, by simp [Wk.Ch]⟩
theorem Qt.nil_ok : Wk.Ok [] := ⟨by decide, by simp [Wk.Ch]⟩
theorem Qt.Z0_end {t : Int} (h : Wp.isT t = true) : Qt.End Qt.Z0 t 253402300800 := by
  obtain ⟨h1, h2⟩ := Qt.isT_iff.1 h
  refine ⟨by omega, Int.le_refl _, fun u hu1 hu2 => ⟨by rw [Qt.Z0_ofs, Qt.Z0_ofs], ?_⟩⟩
  rw [Qt.Z0_loc, Qt.Z0_loc, h, Qt.isT_iff]
  omega
theorem Qt.Z0_sr {t n : Int} {b : Bool} (h : Wp.isT t = true) (hv : Wk.nextV Qt.l0 b ≠ []) (hn : Wk.nextN Qt.l0 (Wp.weekD t) b = n) (r : Int) (hr : (if n = 0 then t else t - (t + 62135596800) % 60 + n * 60) = r) (hb : r < 253402300800) : Qt.Sr Qt.Z0 Qt.l0 t b r 0 := by
  obtain ⟨h1, h2⟩ := Qt.isT_iff.1 h
  have hf : Qt.firV Qt.Z0 Qt.l0 t b = r := by
    unfold Qt.firV
    rw [Qt.Z0_loc, if_pos h, hn]
    exact hr
  have hs : Qt.Step Qt.Z0 Qt.l0 t b t := ⟨Int.le_refl _, h2, fun u a1 a2 => by omega⟩
  have := hs.hit Qt.l0_ok hv h1 (Qt.Z0_end h) (by rw [hf]; exact hb)
  rwa [hf] at this
theorem qtL_In (p : Option Addr) (c : Nat) (w : World) (hL : Cv.Laid w) (hA : Wk.At w p Qt.l0) :
    Calls Tryz.prog 6 #[.agg (Qt.hC Qt.Z0 p 2 c), .int .i64 342000] w fun e w' => e = .returned (.tuple #[.bool true, .int .i64 0]) ∧ Below w.heap.size w w' := by
  have q := qt_In Qt.Z0 Qt.l0 p c 342000 w hL hA (by decide)
  rw [show Qt.chk2 Qt.Z0 Qt.l0 342000 = 0 from Qt.chk2_mk Qt.Z0_ok Qt.l0_ok (by decide), show Qt.inB Qt.Z0 Qt.l0 342000 = true by
    unfold Qt.inB
    rw [if_pos (Qt.chk2_mk Qt.Z0_ok Qt.l0_ok (by decide))]
    unfold Qt.at_
    rw [Qt.Z0_loc]
    decide +kernel] at q
  exact q
theorem qtL_low (p : Option Addr) (c : Nat) (w : World) (hL : Cv.Laid w) (hA : Wk.At w p Qt.l0) :
    Calls Tryz.prog 6 #[.agg (Qt.hC Qt.Z0 p 2 c), .int .i64 (-4611686018427387904)] w fun e w' => e = .returned (.tuple #[.bool false, .int .i64 1]) ∧ Below w.heap.size w w' := by
  have q := qt_In Qt.Z0 Qt.l0 p c (-4611686018427387904) w hL hA (by decide)
  have h1 : Qt.chk2 Qt.Z0 Qt.l0 (-4611686018427387904) = 1 := by
    unfold Qt.chk2
    rw [if_pos (Qt.chk_ok Qt.Z0_ok Qt.l0_ok), if_neg (by decide)]
  rw [h1, show Qt.inB Qt.Z0 Qt.l0 (-4611686018427387904) = false by unfold Qt.inB; rw [if_neg (by rw [h1]; decide)]] at q
  exact q
theorem qtL_Free (p : Option Addr) (c : Nat) (w : World) (hL : Cv.Laid w) (hA : Wk.At w p Qt.l0) :
    Calls Tryz.prog 8 #[.agg (Qt.hC Qt.Z0 p 2 c), .int .i64 342000] w fun e w' => e = .returned (.tuple #[.int .i64 370800, .int .i64 0]) ∧ Below w.heap.size w w' := by
  refine (qt_Free Qt.Z0 Qt.l0 p c 342000 w hL hA (by decide)).mono ?_
  rintro e w' ⟨r, k, rfl, hs, hb⟩
  have h0 : Qt.chk2 Qt.Z0 Qt.l0 342000 = 0 := Qt.chk2_mk Qt.Z0_ok Qt.l0_ok (by decide)
  have hv : Wk.nextV Qt.l0 false ≠ [] := by decide +kernel
  rcases hs with ⟨h, _⟩ | ⟨_, h, _⟩ | ⟨_, _, h⟩
  · exact absurd h0 h
  · exact absurd h hv
  · obtain ⟨rfl, rfl⟩ := h.one (Qt.Z0_sr (n := 480) (by decide) hv (by decide +kernel) 370800 (by decide) (by decide))
    exact ⟨rfl, hb⟩
theorem qtL_Busy (p : Option Addr) (c : Nat) (w : World) (hL : Cv.Laid w) (hA : Wk.At w p Qt.l0) :
    Calls Tryz.prog 10 #[.agg (Qt.hC Qt.Z0 p 2 c), .int .i64 378000] w fun e w' => e = .returned (.tuple #[.int .i64 864000, .int .i64 0]) ∧ Below w.heap.size w w' := by
  refine (qt_Busy Qt.Z0 Qt.l0 p c 378000 w hL hA (by decide)).mono ?_
  rintro e w' ⟨r, k, rfl, hs, hb⟩
  have h0 : Qt.chk2 Qt.Z0 Qt.l0 378000 = 0 := Qt.chk2_mk Qt.Z0_ok Qt.l0_ok (by decide)
  have hv : Wk.nextV Qt.l0 true ≠ [] := by decide +kernel
  rcases hs with ⟨h, _⟩ | ⟨_, h, _⟩ | ⟨_, _, h⟩
  · exact absurd h0 h
  · exact absurd h hv
  · obtain ⟨rfl, rfl⟩ := h.one (Qt.Z0_sr (n := 8100) (by decide) hv (by decide +kernel) 864000 (by decide) (by decide))
    exact ⟨rfl, hb⟩
theorem qtL_Longest (p : Option Addr) (c : Nat) (w : World) (hA : Wk.At w p Qt.l0) :
    Calls Tryz.prog 12 #[.agg (Qt.hC Qt.Z0 p 2 c)] w fun e w' => e = .returned (.tuple #[.int .i64 115200, .int .i64 0]) ∧ Below w.heap.size w w' := by
  have q := qt_Longest Qt.Z0 Qt.l0 p c w hA (by decide)
  have h0 := Qt.chk_ok Qt.Z0_ok Qt.l0_ok
  rw [show Qt.lonN Qt.Z0 Qt.l0 = 115200 by unfold Qt.lonN; rw [if_pos h0]; decide +kernel, show Qt.lonC Qt.Z0 Qt.l0 = 0 by unfold Qt.lonC; rw [if_pos h0]; decide +kernel] at q
  exact q
theorem qtL_full (p : Option Addr) (c : Nat) (w : World) (hL : Cv.Laid w) (hA : Wk.At w p [(0, 10080)]) :
    Calls Tryz.prog 8 #[.agg (Qt.hC Qt.Z0 p 1 c), .int .i64 0] w fun e w' => e = .returned (.tuple #[.int .i64 0, .int .i64 3]) ∧ Below w.heap.size w w' := by
  refine (qt_Free Qt.Z0 [(0, 10080)] p c 0 w hL hA (by decide)).mono ?_
  rintro e w' ⟨r, k, rfl, hs, hb⟩
  have h0 : Qt.chk2 Qt.Z0 [(0, 10080)] 0 = 0 := Qt.chk2_mk Qt.Z0_ok Qt.full_ok (by decide)
  have hv : Wk.nextV [(0, 10080)] false = [] := by decide +kernel
  rcases hs with ⟨h, _⟩ | ⟨_, _, rfl, rfl⟩ | ⟨_, h, _⟩
  · exact absurd h0 h
  · exact ⟨rfl, hb⟩
  · exact absurd hv h
theorem qtL_none (p : Option Addr) (c : Nat) (w : World) (hL : Cv.Laid w) :
    Calls Tryz.prog 10 #[.agg (Qt.hC Qt.Z0 p 0 c), .int .i64 0] w fun e w' => e = .returned (.tuple #[.int .i64 0, .int .i64 3]) ∧ Below w.heap.size w w' := by
  refine (qt_Busy Qt.Z0 [] p c 0 w hL (Wk.At.nil w p) (by decide)).mono ?_
  rintro e w' ⟨r, k, rfl, hs, hb⟩
  have h0 : Qt.chk2 Qt.Z0 [] 0 = 0 := Qt.chk2_mk Qt.Z0_ok Qt.nil_ok (by decide)
  rcases hs with ⟨h, _⟩ | ⟨_, _, rfl, rfl⟩ | ⟨_, h, _⟩
  · exact absurd h0 h
  · exact ⟨rfl, hb⟩
  · exact absurd rfl h
theorem qtL_Check (p : Option Addr) (c : Nat) (w : World) (hA : Wk.At w p Qt.l0) :
    Calls Tryz.prog 15 #[.agg (Qt.hC Qt.Z0 p 2 c)] w fun e w' => e = .returned (.int .i64 0) ∧ Below w.heap.size w w' := by
  have q := qt_Check Qt.Z0 Qt.l0 p c w hA (by decide)
  rw [Qt.chk_ok Qt.Z0_ok Qt.l0_ok] at q
  exact q
set_option maxHeartbeats 4000000 in
set_option maxRecDepth 100000 in
theorem qt_lives (w : World) (hL : Cv.Laid w) : Calls Tryz.prog 14 #[] w fun e w' => e = .returned (.bool true) ∧ Below w.heap.size w w' := by
  have HS := Lib.hid (Qt.at_lit w Qt.l0 #[.int .i64 0, .int .i64 420, .int .i64 1320, .int .i64 1860] 56 rfl)
  have b0 := wk_box w (.cells #[.int .i64 0, .int .i64 420, .int .i64 1320, .int .i64 1860] 56)
  have sz : (w.alloc (.cells #[.int .i64 0, .int .i64 420, .int .i64 1320, .int .i64 1860] 56)).heap.size = w.heap.size + 1 := World.size_alloc ..
  have b1 := wk_box (w.alloc (.cells #[.int .i64 0, .int .i64 420, .int .i64 1320, .int .i64 1860] 56)) (.cells #[.int .i64 0, .int .i64 0, .int .i64 0, .int .i64 0, .int .i64 0, .int .i64 0, .int .i64 0, .int .i64 0, .int .i64 0, .int .i64 0, .slice (some ⟨w.heap.size, 0, none⟩) 2 2] 28)
  have x0 := wk_new (w.alloc (.cells #[.int .i64 0, .int .i64 420, .int .i64 1320, .int .i64 1860] 56)) (.cells #[.int .i64 0, .int .i64 0, .int .i64 0, .int .i64 0, .int .i64 0, .int .i64 0, .int .i64 0, .int .i64 0, .int .i64 0, .int .i64 0, .slice (some ⟨w.heap.size, 0, none⟩) 2 2] 28)
  rw [sz] at x0
  have a0 : Wk.At ((w.alloc (.cells #[.int .i64 0, .int .i64 420, .int .i64 1320, .int .i64 1860] 56)).alloc (.cells #[.int .i64 0, .int .i64 0, .int .i64 0, .int .i64 0, .int .i64 0, .int .i64 0, .int .i64 0, .int .i64 0, .int .i64 0, .int .i64 0, .slice (some ⟨w.heap.size, 0, none⟩) 2 2] 28)) (some ⟨w.heap.size, 0, none⟩) Qt.l0 := HS.out.below b1
  have B0 := Lib.hid (wk_then b0 b1 b0.size)
  have X0 := Lib.hid x0
  have AA0 := Lib.hid a0
  have L0 := Lib.hid (hL.below B0.out)
  clear hL HS b0 b1 sz x0 a0
  obtain ⟨w0, hw0⟩ : ∃ w0, (w.alloc (.cells #[.int .i64 0, .int .i64 420, .int .i64 1320, .int .i64 1860] 56)).alloc (.cells #[.int .i64 0, .int .i64 0, .int .i64 0, .int .i64 0, .int .i64 0, .int .i64 0, .int .i64 0, .int .i64 0, .int .i64 0, .int .i64 0, .slice (some ⟨w.heap.size, 0, none⟩) 2 2] 28) = w0 := ⟨_, rfl⟩
  rw [hw0] at B0 X0 AA0 L0
  have Hw0 := Lib.hid hw0
  clear hw0
  go_enter Tryz.func14, Tryz.ntmps14
  obtain ⟨c0, c1, c2, c3, c4, c5, c6, c7, c8, c9, c10⟩ := Qt.eleven_of (Hw0.out ▸ X0.out)
  go_wp2_with fail
  rw [Hw0.out]
  clear c0 c1 c2 c3 c4 c5 c6 c7 c8 c9 c10 Hw0
  refine (qtL_In (some ⟨w.heap.size, 0, none⟩) 2 _ L0.out AA0.out).mono ?_
  rintro e w1 ⟨rfl, hb⟩
  have B1 := Lib.hid (wk_then B0.out hb B0.out.size)
  have X1 := Lib.hid ((hb.block (w.heap.size + 1) (Qt.lt_of X0.out)).trans X0.out)
  have AA1 := Lib.hid (AA0.out.below hb)
  have L1 := Lib.hid (L0.out.below hb)
  clear hb B0 X0 AA0 L0
  obtain ⟨c0, c1, c2, c3, c4, c5, c6, c7, c8, c9, c10⟩ := Qt.eleven_of X1.out
  go_wp2_with fail
  clear c0 c1 c2 c3 c4 c5 c6 c7 c8 c9 c10
  refine (qtL_Free (some ⟨w.heap.size, 0, none⟩) 2 _ L1.out AA1.out).mono ?_
  rintro e w2 ⟨rfl, hb⟩
  have B2 := Lib.hid (wk_then B1.out hb B1.out.size)
  have X2 := Lib.hid ((hb.block (w.heap.size + 1) (Qt.lt_of X1.out)).trans X1.out)
  have AA2 := Lib.hid (AA1.out.below hb)
  have L2 := Lib.hid (L1.out.below hb)
  clear hb B1 X1 AA1 L1
  obtain ⟨c0, c1, c2, c3, c4, c5, c6, c7, c8, c9, c10⟩ := Qt.eleven_of X2.out
  go_wp2_with fail
  clear c0 c1 c2 c3 c4 c5 c6 c7 c8 c9 c10
  refine (qtL_Busy (some ⟨w.heap.size, 0, none⟩) 2 _ L2.out AA2.out).mono ?_
  rintro e w3 ⟨rfl, hb⟩
  have B3 := Lib.hid (wk_then B2.out hb B2.out.size)
  have X3 := Lib.hid ((hb.block (w.heap.size + 1) (Qt.lt_of X2.out)).trans X2.out)
  have AA3 := Lib.hid (AA2.out.below hb)
  have L3 := Lib.hid (L2.out.below hb)
  clear hb B2 X2 AA2 L2
  obtain ⟨c0, c1, c2, c3, c4, c5, c6, c7, c8, c9, c10⟩ := Qt.eleven_of X3.out
  go_wp2_with fail
  clear c0 c1 c2 c3 c4 c5 c6 c7 c8 c9 c10
  refine (qtL_Longest (some ⟨w.heap.size, 0, none⟩) 2 _ AA3.out).mono ?_
  rintro e w4 ⟨rfl, hb⟩
  have B4 := Lib.hid (wk_then B3.out hb B3.out.size)
  have X4 := Lib.hid ((hb.block (w.heap.size + 1) (Qt.lt_of X3.out)).trans X3.out)
  have AA4 := Lib.hid (AA3.out.below hb)
  have L4 := Lib.hid (L3.out.below hb)
  clear hb B3 X3 AA3 L3
  have bx := wk_box w4 (.cells #[.int .i64 0, .int .i64 10080] 56)
  have AL := Lib.hid (Qt.at_lit w4 [(0, 10080)] #[.int .i64 0, .int .i64 10080] 56 rfl)
  have B5 := Lib.hid (wk_then B4.out bx B4.out.size)
  have X5 := Lib.hid ((bx.block (w.heap.size + 1) (Qt.lt_of X4.out)).trans X4.out)
  have AA5 := Lib.hid (AA4.out.below bx)
  have L5 := Lib.hid (L4.out.below bx)
  clear bx B4 X4 AA4 L4
  obtain ⟨c0, c1, c2, c3, c4, c5, c6, c7, c8, c9, c10⟩ := Qt.eleven_of X5.out
  go_wp2_with fail
  clear c0 c1 c2 c3 c4 c5 c6 c7 c8 c9 c10
  refine (qtL_full (some ⟨w4.heap.size, 0, none⟩) 1 _ L5.out AL.out).mono ?_
  rintro e w6 ⟨rfl, hb⟩
  have B6 := Lib.hid (wk_then B5.out hb B5.out.size)
  have X6 := Lib.hid ((hb.block (w.heap.size + 1) (Qt.lt_of X5.out)).trans X5.out)
  have AA6 := Lib.hid (AA5.out.below hb)
  have L6 := Lib.hid (L5.out.below hb)
  clear hb B5 X5 AA5 L5
  clear AL
  obtain ⟨c0, c1, c2, c3, c4, c5, c6, c7, c8, c9, c10⟩ := Qt.eleven_of X6.out
  go_wp2_with fail
  clear c0 c1 c2 c3 c4 c5 c6 c7 c8 c9 c10
  refine (qtL_none none 0 _ L6.out).mono ?_
  rintro e w7 ⟨rfl, hb⟩
  have B7 := Lib.hid (wk_then B6.out hb B6.out.size)
  have X7 := Lib.hid ((hb.block (w.heap.size + 1) (Qt.lt_of X6.out)).trans X6.out)
  have AA7 := Lib.hid (AA6.out.below hb)
  have L7 := Lib.hid (L6.out.below hb)
  clear hb B6 X6 AA6 L6
  obtain ⟨c0, c1, c2, c3, c4, c5, c6, c7, c8, c9, c10⟩ := Qt.eleven_of X7.out
  go_wp2_with fail
  clear c0 c1 c2 c3 c4 c5 c6 c7 c8 c9 c10
  refine (qtL_low (some ⟨w.heap.size, 0, none⟩) 2 _ L7.out AA7.out).mono ?_
  rintro e w8 ⟨rfl, hb⟩
  have B8 := Lib.hid (wk_then B7.out hb B7.out.size)
  have X8 := Lib.hid ((hb.block (w.heap.size + 1) (Qt.lt_of X7.out)).trans X7.out)
  have AA8 := Lib.hid (AA7.out.below hb)
  have L8 := Lib.hid (L7.out.below hb)
  clear hb B7 X7 AA7 L7
  obtain ⟨c0, c1, c2, c3, c4, c5, c6, c7, c8, c9, c10⟩ := Qt.eleven_of X8.out
  go_wp2_with fail
  clear c0 c1 c2 c3 c4 c5 c6 c7 c8 c9 c10
  refine (qtL_Check (some ⟨w.heap.size, 0, none⟩) 2 _ AA8.out).mono ?_
  rintro e w9 ⟨rfl, hb⟩
  have B9 := Lib.hid (wk_then B8.out hb B8.out.size)
  have X9 := Lib.hid ((hb.block (w.heap.size + 1) (Qt.lt_of X8.out)).trans X8.out)
  have AA9 := Lib.hid (AA8.out.below hb)
  have L9 := Lib.hid (L8.out.below hb)
  clear hb B8 X8 AA8 L8
  go_wp2_with fail
  go_ret
  exact ⟨rfl, B9.out⟩
end Go.Proofs.YtpaleljnkejdgaaGreatDoor
