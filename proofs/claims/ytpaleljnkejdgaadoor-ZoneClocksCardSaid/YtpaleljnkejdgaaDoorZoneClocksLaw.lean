/-
  The law ZoneClocks: whatever a zone is, any time has the offset, the local moment and the next switch that the document says; it is right or not; any name has its zone, or none. Conditions: the calendar's table and the table of names read as they are laid.
-/
import Derived.Test.YtpaleljnkejdgaaDoorRZonLoc
import Derived.Test.YtpaleljnkejdgaaDoorRZonNxt
import Derived.Test.YtpaleljnkejdgaaDoorRZonNamed
import Derived.Test.YtpaleljnkejdgaaDoorZonLives
import Derived.Deep.RegionHeld3
namespace Go.Proofs.YtpaleljnkejdgaaDoor
open Go.RowKit

theorem Wp.NextIs.one {z : Wp.Zn} {t n e n' e' : Int} (h : Wp.NextIs z t n e) (h' : Wp.NextIs z t n' e') : n = n' ∧ e = e' := by
  rcases h with ⟨a1, a2, a3⟩ | ⟨a1, a2, a3, a4⟩ | ⟨a1, a2, a3, a4⟩ <;> rcases h' with ⟨b1, b2, b3⟩ | ⟨b1, b2, b3, b4⟩ | ⟨b1, b2, b3, b4⟩
  · exact ⟨by omega, by omega⟩
  · exact absurd b1 a1
  · exact absurd b1 a1
  · exact absurd a1 b1
  · exact ⟨a3.one b3, by omega⟩
  · rcases b2 with b2 | b2
    · exact absurd b2 a2
    · exact (a3.not b2).elim
  · exact absurd a1 b1
  · rcases a2 with a2 | a2
    · exact absurd a2 b2
    · exact (b3.not a2).elim
  · exact ⟨by omega, by omega⟩
theorem Zt.at_some (nm : ByteArray) : ∃ z e, Zt.At nm z e := by
  by_cases h : ∃ k, k < 8 ∧ nm = Zt.nm k
  · have key : ∀ n : Nat, (∃ k, k < n ∧ k < 8 ∧ nm = Zt.nm k) → ∃ k, k < 8 ∧ nm = Zt.nm k ∧ ∀ j, j < k → nm ≠ Zt.nm j := by
      intro n
      induction n with
      | zero => rintro ⟨k, hk, _⟩; omega
      | succ n ih =>
        rintro ⟨k, hk, hk8, he⟩
        by_cases hl : ∃ j, j < n ∧ j < 8 ∧ nm = Zt.nm j
        · exact ih hl
        · refine ⟨k, hk8, he, fun j hj hj2 => hl ⟨j, by omega, by omega, hj2⟩⟩
    obtain ⟨k, hk, he⟩ := h
    obtain ⟨k, h1, h2, h3⟩ := key 8 ⟨k, hk, hk, he⟩
    exact ⟨Zt.zn k, 0, Or.inl ⟨k, h1, h2, h3, rfl, rfl⟩⟩
  · exact ⟨Wp.Zn.zero, 13, Or.inr ⟨fun j hj he => h ⟨j, hj, he⟩, rfl, rfl⟩⟩
set_option maxRecDepth 100000 in
set_option maxHeartbeats 16000000 in
theorem zoneClocks_any (z : Wp.Zn) (t : Int) (nm : ByteArray) (w : World) (hL : Zt.Both w) :
    Calls Tryd.prog 6 #[.agg (Wp.zoneC z), .int .i64 t, .string nm] w fun e w' => e = .returned (.bool true) ∧ Below w.heap.size w w' := by
  have A0 := Lib.hid (fun w hL => zonLives_any w hL)
  have A1 := Lib.hid (fun w (hL : Zt.Both w) => zon_Offset z t w hL.cv)
  have R1 := Lib.hid (fun w => rzon_Offset z t w)
  have A2 := Lib.hid (fun w (hL : Zt.Both w) => zon_Local z t w hL.cv)
  have R2 := Lib.hid (fun w => rzon_Local z t w)
  have A3 := Lib.hid (show ∀ w, Zt.Both w → Calls Tryd.prog 23 #[.agg (Wp.zoneC z), .int .i64 t] w (fun e w' => ∃ n r, e = .returned (.tuple #[.int .i64 n, .int .i64 r]) ∧ Wp.NextIs z t n r ∧ Below w.heap.size w w') from fun w hL => zon_Next z t w hL.cv)
  have R3 := Lib.hid (show ∀ w, Calls Tryd.prog 24 #[.agg (Wp.zoneC z), .int .i64 t] w (fun e w' => ∃ n r, e = .returned (.tuple #[.int .i64 n, .int .i64 r]) ∧ Wp.NextIs z t n r ∧ Below w.heap.size w w') from fun w => rzon_Next z t w)
  obtain ⟨zn, en, hAt⟩ := Zt.at_some nm
  have A4 := Lib.hid (fun w (hL : Zt.Both w) => zon_Named nm zn en w hL.zt hAt)
  have R4 := Lib.hid (fun w => rzon_Named nm zn en w hAt)
  have A5 := Lib.hid (fun w => zon_Check z w)
  have R5 := Lib.hid (fun w => rzon_Check z w)
  have HN := Lib.hid (fun n r n' r' (h : Wp.NextIs z t n r) (h' : Wp.NextIs z t n' r') => h.one h')
  clear hAt
  generalize Wp.NextIs z t = NI at *
  generalize (Wp.offR z t).1 = of1 at *
  generalize (Wp.offR z t).2 = of2 at *
  generalize (Wp.locR z t).2 = lc at *
  generalize (Wp.locR z t).1 = lm at *
  generalize Wp.chkR z = ck at *
  obtain ⟨base, save, ⟨fm, fn, fw, fi⟩, ⟨tm, tn, tw, ti⟩⟩ := z
  obtain ⟨nb, ns, ⟨n1, n2, n3, n4⟩, ⟨n5, n6, n7, n8⟩⟩ := zn
  obtain ⟨Y, MO, D, HO, MI, SS, K⟩ := lm
  unfold Wp.zoneC at A1 A2 A3 A4 A5 R1 R2 R3 R4 R5 ⊢
  unfold Wp.momC at A2 R2
  simp only [] at A1 A2 A3 A4 A5 R1 R2 R3 R4 R5 ⊢
  have HL := Lib.hid hL
  clear hL
  have X0 := Lib.hid (cv_new w (.cells #[.int .i64 base, .int .i64 save, .int .i64 fm, .int .i64 fn, .int .i64 fw, .int .i64 fi, .int .i64 tm, .int .i64 tn, .int .i64 tw, .int .i64 ti] 48))
  have B0 := Lib.hid (Wp.below_box w (.cells #[.int .i64 base, .int .i64 save, .int .i64 fm, .int .i64 fn, .int .i64 fw, .int .i64 fi, .int .i64 tm, .int .i64 tn, .int .i64 tw, .int .i64 ti] 48))
  go_enter Tryd.func6, Tryd.ntmps6
  go_wp2_with fail
  refine (A1.out _ (HL.out.below B0.out)).mono ?_
  rintro e w1 ⟨rfl, hb⟩
  have B1' := Lib.hid (cv_then B0.out hb B0.out.size)
  have X1' := (hb.block w.heap.size (Array.getElem?_eq_some_iff.1 X0.out).1).trans X0.out
  have B1 := B1'
  have X1 := Lib.hid X1'
  clear hb A1 B1' B0 X1' X0
  obtain ⟨c0, c1, c2, c3, c4, c5, c6, c7, c8, c9⟩ := Wp.ten_of X1.out
  go_wp2_with fail
  refine (R1.out _).mono ?_
  rintro e w2 ⟨rfl, hb⟩
  have B2' := Lib.hid (cv_then B1.out hb B1.out.size)
  have X2' := (hb.block w.heap.size (Array.getElem?_eq_some_iff.1 X1.out).1).trans X1.out
  have B2 := B2'
  have X2 := Lib.hid X2'
  clear hb R1 B2' B1 X2' X1 c0 c1 c2 c3 c4 c5 c6 c7 c8 c9
  obtain ⟨c0, c1, c2, c3, c4, c5, c6, c7, c8, c9⟩ := Wp.ten_of X2.out
  go_wp2_with fail
  refine (A2.out _ (HL.out.below B2.out)).mono ?_
  rintro e w3 ⟨rfl, hb⟩
  have B3' := Lib.hid (cv_then B2.out hb B2.out.size)
  have X3' := (hb.block w.heap.size (Array.getElem?_eq_some_iff.1 X2.out).1).trans X2.out
  obtain ⟨g3, hg3⟩ : ∃ g, g = w3.heap.size := ⟨_, rfl⟩
  have B3 := Lib.hid (B3'.out.alloc B3'.out.size (.cells #[.int .i64 Y, .int .i64 MO, .int .i64 D, .int .i64 HO, .int .i64 MI, .int .i64 SS, .int .i64 K] 52))
  have X3 := Lib.hid ((cv_past w3 (.cells #[.int .i64 Y, .int .i64 MO, .int .i64 D, .int .i64 HO, .int .i64 MI, .int .i64 SS, .int .i64 K] 52) _ (Array.getElem?_eq_some_iff.1 X3').1).trans X3')
  have G33 := Lib.hid (cv_new w3 (.cells #[.int .i64 Y, .int .i64 MO, .int .i64 D, .int .i64 HO, .int .i64 MI, .int .i64 SS, .int .i64 K] 52))
  clear hb A2 B3' B2 X3' X2 c0 c1 c2 c3 c4 c5 c6 c7 c8 c9 hg3
  obtain ⟨c0, c1, c2, c3, c4, c5, c6, c7, c8, c9⟩ := Wp.ten_of X3.out
  go_wp2_with fail
  refine (R2.out _).mono ?_
  rintro e w4 ⟨rfl, hb⟩
  have B4' := Lib.hid (cv_then B3.out hb B3.out.size)
  have X4' := (hb.block w.heap.size (Array.getElem?_eq_some_iff.1 X3.out).1).trans X3.out
  have G34' := (hb.block w3.heap.size (Array.getElem?_eq_some_iff.1 G33.out).1).trans G33.out
  obtain ⟨g4, hg4⟩ : ∃ g, g = w4.heap.size := ⟨_, rfl⟩
  have B4 := Lib.hid (B4'.out.alloc B4'.out.size (.cells #[.int .i64 Y, .int .i64 MO, .int .i64 D, .int .i64 HO, .int .i64 MI, .int .i64 SS, .int .i64 K] 52))
  have X4 := Lib.hid ((cv_past w4 (.cells #[.int .i64 Y, .int .i64 MO, .int .i64 D, .int .i64 HO, .int .i64 MI, .int .i64 SS, .int .i64 K] 52) _ (Array.getElem?_eq_some_iff.1 X4').1).trans X4')
  have G34 := Lib.hid ((cv_past w4 (.cells #[.int .i64 Y, .int .i64 MO, .int .i64 D, .int .i64 HO, .int .i64 MI, .int .i64 SS, .int .i64 K] 52) _ (Array.getElem?_eq_some_iff.1 G34').1).trans G34')
  have G44 := Lib.hid (cv_new w4 (.cells #[.int .i64 Y, .int .i64 MO, .int .i64 D, .int .i64 HO, .int .i64 MI, .int .i64 SS, .int .i64 K] 52))
  clear hb R2 B4' B3 X4' X3 G34' G33 c0 c1 c2 c3 c4 c5 c6 c7 c8 c9 hg4
  obtain ⟨c0, c1, c2, c3, c4, c5, c6, c7, c8, c9⟩ := Wp.ten_of X4.out
  go_wp2_with fail
  refine (A3.out _ (HL.out.below B4.out)).mono ?_
  rintro e w5 ⟨x5, y5, rfl, hs5, hb⟩
  have B5' := Lib.hid (cv_then B4.out hb B4.out.size)
  have X5' := (hb.block w.heap.size (Array.getElem?_eq_some_iff.1 X4.out).1).trans X4.out
  have G35' := (hb.block w3.heap.size (Array.getElem?_eq_some_iff.1 G34.out).1).trans G34.out
  have G45' := (hb.block w4.heap.size (Array.getElem?_eq_some_iff.1 G44.out).1).trans G44.out
  have HS5 := Lib.hid hs5
  clear hs5
  have B5 := B5'
  have X5 := Lib.hid X5'
  have G35 := Lib.hid G35'
  have G45 := Lib.hid G45'
  clear hb A3 B5' B4 X5' X4 G35' G34 G45' G44 c0 c1 c2 c3 c4 c5 c6 c7 c8 c9
  obtain ⟨c0, c1, c2, c3, c4, c5, c6, c7, c8, c9⟩ := Wp.ten_of X5.out
  go_wp2_with fail
  refine (R3.out _).mono ?_
  rintro e w6 ⟨x6, y6, rfl, hs6, hb⟩
  have B6' := Lib.hid (cv_then B5.out hb B5.out.size)
  have X6' := (hb.block w.heap.size (Array.getElem?_eq_some_iff.1 X5.out).1).trans X5.out
  have G36' := (hb.block w3.heap.size (Array.getElem?_eq_some_iff.1 G35.out).1).trans G35.out
  have G46' := (hb.block w4.heap.size (Array.getElem?_eq_some_iff.1 G45.out).1).trans G45.out
  have HS6 := Lib.hid hs6
  clear hs6
  have B6 := B6'
  have X6 := Lib.hid X6'
  have G36 := Lib.hid G36'
  have G46 := Lib.hid G46'
  clear hb R3 B6' B5 X6' X5 G36' G35 G46' G45 c0 c1 c2 c3 c4 c5 c6 c7 c8 c9
  obtain ⟨ex, ey⟩ := HN.out _ _ _ _ HS5.out HS6.out
  subst ex ey
  clear HN HS5 HS6
  go_wp2_with fail
  refine (A4.out _ (HL.out.below B6.out)).mono ?_
  rintro e w7 ⟨rfl, hb⟩
  have B7' := Lib.hid (cv_then B6.out hb B6.out.size)
  have X7' := (hb.block w.heap.size (Array.getElem?_eq_some_iff.1 X6.out).1).trans X6.out
  have G37' := (hb.block w3.heap.size (Array.getElem?_eq_some_iff.1 G36.out).1).trans G36.out
  have G47' := (hb.block w4.heap.size (Array.getElem?_eq_some_iff.1 G46.out).1).trans G46.out
  obtain ⟨g7, hg7⟩ : ∃ g, g = w7.heap.size := ⟨_, rfl⟩
  have B7 := Lib.hid (B7'.out.alloc B7'.out.size (.cells #[.int .i64 nb, .int .i64 ns, .int .i64 n1, .int .i64 n2, .int .i64 n3, .int .i64 n4, .int .i64 n5, .int .i64 n6, .int .i64 n7, .int .i64 n8] 48))
  have X7 := Lib.hid ((cv_past w7 (.cells #[.int .i64 nb, .int .i64 ns, .int .i64 n1, .int .i64 n2, .int .i64 n3, .int .i64 n4, .int .i64 n5, .int .i64 n6, .int .i64 n7, .int .i64 n8] 48) _ (Array.getElem?_eq_some_iff.1 X7').1).trans X7')
  have G37 := Lib.hid ((cv_past w7 (.cells #[.int .i64 nb, .int .i64 ns, .int .i64 n1, .int .i64 n2, .int .i64 n3, .int .i64 n4, .int .i64 n5, .int .i64 n6, .int .i64 n7, .int .i64 n8] 48) _ (Array.getElem?_eq_some_iff.1 G37').1).trans G37')
  have G47 := Lib.hid ((cv_past w7 (.cells #[.int .i64 nb, .int .i64 ns, .int .i64 n1, .int .i64 n2, .int .i64 n3, .int .i64 n4, .int .i64 n5, .int .i64 n6, .int .i64 n7, .int .i64 n8] 48) _ (Array.getElem?_eq_some_iff.1 G47').1).trans G47')
  have G77 := Lib.hid (cv_new w7 (.cells #[.int .i64 nb, .int .i64 ns, .int .i64 n1, .int .i64 n2, .int .i64 n3, .int .i64 n4, .int .i64 n5, .int .i64 n6, .int .i64 n7, .int .i64 n8] 48))
  clear hb A4 B7' B6 X7' X6 G37' G36 G47' G46 hg7
  go_wp2_with fail
  refine (R4.out _).mono ?_
  rintro e w8 ⟨rfl, hb⟩
  have B8' := Lib.hid (cv_then B7.out hb B7.out.size)
  have X8' := (hb.block w.heap.size (Array.getElem?_eq_some_iff.1 X7.out).1).trans X7.out
  have G38' := (hb.block w3.heap.size (Array.getElem?_eq_some_iff.1 G37.out).1).trans G37.out
  have G48' := (hb.block w4.heap.size (Array.getElem?_eq_some_iff.1 G47.out).1).trans G47.out
  have G78' := (hb.block w7.heap.size (Array.getElem?_eq_some_iff.1 G77.out).1).trans G77.out
  obtain ⟨g8, hg8⟩ : ∃ g, g = w8.heap.size := ⟨_, rfl⟩
  have B8 := Lib.hid (B8'.out.alloc B8'.out.size (.cells #[.int .i64 nb, .int .i64 ns, .int .i64 n1, .int .i64 n2, .int .i64 n3, .int .i64 n4, .int .i64 n5, .int .i64 n6, .int .i64 n7, .int .i64 n8] 48))
  have X8 := Lib.hid ((cv_past w8 (.cells #[.int .i64 nb, .int .i64 ns, .int .i64 n1, .int .i64 n2, .int .i64 n3, .int .i64 n4, .int .i64 n5, .int .i64 n6, .int .i64 n7, .int .i64 n8] 48) _ (Array.getElem?_eq_some_iff.1 X8').1).trans X8')
  have G38 := Lib.hid ((cv_past w8 (.cells #[.int .i64 nb, .int .i64 ns, .int .i64 n1, .int .i64 n2, .int .i64 n3, .int .i64 n4, .int .i64 n5, .int .i64 n6, .int .i64 n7, .int .i64 n8] 48) _ (Array.getElem?_eq_some_iff.1 G38').1).trans G38')
  have G48 := Lib.hid ((cv_past w8 (.cells #[.int .i64 nb, .int .i64 ns, .int .i64 n1, .int .i64 n2, .int .i64 n3, .int .i64 n4, .int .i64 n5, .int .i64 n6, .int .i64 n7, .int .i64 n8] 48) _ (Array.getElem?_eq_some_iff.1 G48').1).trans G48')
  have G78 := Lib.hid ((cv_past w8 (.cells #[.int .i64 nb, .int .i64 ns, .int .i64 n1, .int .i64 n2, .int .i64 n3, .int .i64 n4, .int .i64 n5, .int .i64 n6, .int .i64 n7, .int .i64 n8] 48) _ (Array.getElem?_eq_some_iff.1 G78').1).trans G78')
  have G88 := Lib.hid (cv_new w8 (.cells #[.int .i64 nb, .int .i64 ns, .int .i64 n1, .int .i64 n2, .int .i64 n3, .int .i64 n4, .int .i64 n5, .int .i64 n6, .int .i64 n7, .int .i64 n8] 48))
  clear hb R4 B8' B7 X8' X7 G38' G37 G48' G47 G78' G77 hg8
  go_wp2_with fail
  obtain ⟨c0, c1, c2, c3, c4, c5, c6, c7, c8, c9⟩ := Wp.ten_of X8.out
  have lc := (Array.getElem?_eq_some_iff.1 X8.out).1
  obtain ⟨d0, d1, d2, d3, d4, d5, d6⟩ := Wp.seven_of G38.out
  have ld := (Array.getElem?_eq_some_iff.1 G38.out).1
  obtain ⟨p0, p1, p2, p3, p4, p5, p6⟩ := Wp.seven_of G48.out
  have lp := (Array.getElem?_eq_some_iff.1 G48.out).1
  obtain ⟨q0, q1, q2, q3, q4, q5, q6, q7, q8, q9⟩ := Wp.ten_of G78.out
  have lq := (Array.getElem?_eq_some_iff.1 G78.out).1
  obtain ⟨r0, r1, r2, r3, r4, r5, r6, r7, r8, r9⟩ := Wp.ten_of G88.out
  have lr := (Array.getElem?_eq_some_iff.1 G88.out).1
  have E0 := Lib.hid B8.out.drew
  obtain ⟨W, hW⟩ : ∃ W, W = w8.alloc (.cells #[.int .i64 nb, .int .i64 ns, .int .i64 n1, .int .i64 n2, .int .i64 n3, .int .i64 n4, .int .i64 n5, .int .i64 n6, .int .i64 n7, .int .i64 n8] 48) := ⟨_, rfl⟩
  rw [← hW] at B8 E0 c0 c1 c2 c3 c4 c5 c6 c7 c8 c9 d0 d1 d2 d3 d4 d5 d6 p0 p1 p2 p3 p4 p5 p6 q0 q1 q2 q3 q4 q5 q6 q7 q8 q9 r0 r1 r2 r3 r4 r5 r6 r7 r8 r9 lc ld lp lq lr ⊢
  clear hW X8 G38 G48 G78 G88
  go_region_held3 (fun w' => w'.cell? ⟨w.heap.size, 0, none⟩ = some (.int .i64 base) ∧ w'.cell? ⟨w.heap.size, 1, none⟩ = some (.int .i64 save) ∧ w'.cell? ⟨w.heap.size, 2, none⟩ = some (.int .i64 fm) ∧ w'.cell? ⟨w.heap.size, 3, none⟩ = some (.int .i64 fn) ∧ w'.cell? ⟨w.heap.size, 4, none⟩ = some (.int .i64 fw) ∧ w'.cell? ⟨w.heap.size, 5, none⟩ = some (.int .i64 fi) ∧ w'.cell? ⟨w.heap.size, 6, none⟩ = some (.int .i64 tm) ∧ w'.cell? ⟨w.heap.size, 7, none⟩ = some (.int .i64 tn) ∧ w'.cell? ⟨w.heap.size, 8, none⟩ = some (.int .i64 tw) ∧ w'.cell? ⟨w.heap.size, 9, none⟩ = some (.int .i64 ti) ∧ w'.cell? ⟨w3.heap.size, 0, none⟩ = some (.int .i64 Y) ∧ w'.cell? ⟨w3.heap.size, 1, none⟩ = some (.int .i64 MO) ∧ w'.cell? ⟨w3.heap.size, 2, none⟩ = some (.int .i64 D) ∧ w'.cell? ⟨w3.heap.size, 3, none⟩ = some (.int .i64 HO) ∧ w'.cell? ⟨w3.heap.size, 4, none⟩ = some (.int .i64 MI) ∧ w'.cell? ⟨w3.heap.size, 5, none⟩ = some (.int .i64 SS) ∧ w'.cell? ⟨w3.heap.size, 6, none⟩ = some (.int .i64 K) ∧ w'.cell? ⟨w4.heap.size, 0, none⟩ = some (.int .i64 Y) ∧ w'.cell? ⟨w4.heap.size, 1, none⟩ = some (.int .i64 MO) ∧ w'.cell? ⟨w4.heap.size, 2, none⟩ = some (.int .i64 D) ∧ w'.cell? ⟨w4.heap.size, 3, none⟩ = some (.int .i64 HO) ∧ w'.cell? ⟨w4.heap.size, 4, none⟩ = some (.int .i64 MI) ∧ w'.cell? ⟨w4.heap.size, 5, none⟩ = some (.int .i64 SS) ∧ w'.cell? ⟨w4.heap.size, 6, none⟩ = some (.int .i64 K) ∧ w'.cell? ⟨w7.heap.size, 0, none⟩ = some (.int .i64 nb) ∧ w'.cell? ⟨w7.heap.size, 1, none⟩ = some (.int .i64 ns) ∧ w'.cell? ⟨w7.heap.size, 2, none⟩ = some (.int .i64 n1) ∧ w'.cell? ⟨w7.heap.size, 3, none⟩ = some (.int .i64 n2) ∧ w'.cell? ⟨w7.heap.size, 4, none⟩ = some (.int .i64 n3) ∧ w'.cell? ⟨w7.heap.size, 5, none⟩ = some (.int .i64 n4) ∧ w'.cell? ⟨w7.heap.size, 6, none⟩ = some (.int .i64 n5) ∧ w'.cell? ⟨w7.heap.size, 7, none⟩ = some (.int .i64 n6) ∧ w'.cell? ⟨w7.heap.size, 8, none⟩ = some (.int .i64 n7) ∧ w'.cell? ⟨w7.heap.size, 9, none⟩ = some (.int .i64 n8) ∧ w'.cell? ⟨w8.heap.size, 0, none⟩ = some (.int .i64 nb) ∧ w'.cell? ⟨w8.heap.size, 1, none⟩ = some (.int .i64 ns) ∧ w'.cell? ⟨w8.heap.size, 2, none⟩ = some (.int .i64 n1) ∧ w'.cell? ⟨w8.heap.size, 3, none⟩ = some (.int .i64 n2) ∧ w'.cell? ⟨w8.heap.size, 4, none⟩ = some (.int .i64 n3) ∧ w'.cell? ⟨w8.heap.size, 5, none⟩ = some (.int .i64 n4) ∧ w'.cell? ⟨w8.heap.size, 6, none⟩ = some (.int .i64 n5) ∧ w'.cell? ⟨w8.heap.size, 7, none⟩ = some (.int .i64 n6) ∧ w'.cell? ⟨w8.heap.size, 8, none⟩ = some (.int .i64 n7) ∧ w'.cell? ⟨w8.heap.size, 9, none⟩ = some (.int .i64 n8))
    (first
      | (go_keep; done)
      | (exact ⟨(e7.cell (p := ⟨w.heap.size, 0, none⟩) lc).trans c0, (e7.cell (p := ⟨w.heap.size, 1, none⟩) lc).trans c1, (e7.cell (p := ⟨w.heap.size, 2, none⟩) lc).trans c2, (e7.cell (p := ⟨w.heap.size, 3, none⟩) lc).trans c3, (e7.cell (p := ⟨w.heap.size, 4, none⟩) lc).trans c4, (e7.cell (p := ⟨w.heap.size, 5, none⟩) lc).trans c5, (e7.cell (p := ⟨w.heap.size, 6, none⟩) lc).trans c6, (e7.cell (p := ⟨w.heap.size, 7, none⟩) lc).trans c7, (e7.cell (p := ⟨w.heap.size, 8, none⟩) lc).trans c8, (e7.cell (p := ⟨w.heap.size, 9, none⟩) lc).trans c9, (e7.cell (p := ⟨w3.heap.size, 0, none⟩) ld).trans d0, (e7.cell (p := ⟨w3.heap.size, 1, none⟩) ld).trans d1, (e7.cell (p := ⟨w3.heap.size, 2, none⟩) ld).trans d2, (e7.cell (p := ⟨w3.heap.size, 3, none⟩) ld).trans d3, (e7.cell (p := ⟨w3.heap.size, 4, none⟩) ld).trans d4, (e7.cell (p := ⟨w3.heap.size, 5, none⟩) ld).trans d5, (e7.cell (p := ⟨w3.heap.size, 6, none⟩) ld).trans d6, (e7.cell (p := ⟨w4.heap.size, 0, none⟩) lp).trans p0, (e7.cell (p := ⟨w4.heap.size, 1, none⟩) lp).trans p1, (e7.cell (p := ⟨w4.heap.size, 2, none⟩) lp).trans p2, (e7.cell (p := ⟨w4.heap.size, 3, none⟩) lp).trans p3, (e7.cell (p := ⟨w4.heap.size, 4, none⟩) lp).trans p4, (e7.cell (p := ⟨w4.heap.size, 5, none⟩) lp).trans p5, (e7.cell (p := ⟨w4.heap.size, 6, none⟩) lp).trans p6, (e7.cell (p := ⟨w7.heap.size, 0, none⟩) lq).trans q0, (e7.cell (p := ⟨w7.heap.size, 1, none⟩) lq).trans q1, (e7.cell (p := ⟨w7.heap.size, 2, none⟩) lq).trans q2, (e7.cell (p := ⟨w7.heap.size, 3, none⟩) lq).trans q3, (e7.cell (p := ⟨w7.heap.size, 4, none⟩) lq).trans q4, (e7.cell (p := ⟨w7.heap.size, 5, none⟩) lq).trans q5, (e7.cell (p := ⟨w7.heap.size, 6, none⟩) lq).trans q6, (e7.cell (p := ⟨w7.heap.size, 7, none⟩) lq).trans q7, (e7.cell (p := ⟨w7.heap.size, 8, none⟩) lq).trans q8, (e7.cell (p := ⟨w7.heap.size, 9, none⟩) lq).trans q9, (e7.cell (p := ⟨w8.heap.size, 0, none⟩) lr).trans r0, (e7.cell (p := ⟨w8.heap.size, 1, none⟩) lr).trans r1, (e7.cell (p := ⟨w8.heap.size, 2, none⟩) lr).trans r2, (e7.cell (p := ⟨w8.heap.size, 3, none⟩) lr).trans r3, (e7.cell (p := ⟨w8.heap.size, 4, none⟩) lr).trans r4, (e7.cell (p := ⟨w8.heap.size, 5, none⟩) lr).trans r5, (e7.cell (p := ⟨w8.heap.size, 6, none⟩) lr).trans r6, (e7.cell (p := ⟨w8.heap.size, 7, none⟩) lr).trans r7, (e7.cell (p := ⟨w8.heap.size, 8, none⟩) lr).trans r8, (e7.cell (p := ⟨w8.heap.size, 9, none⟩) lr).trans r9⟩))
    (first
      | (go_at_call 27; (with_reducible refine (A0.out _ (HL.out.below E0.out)).mono ?_); rintro e w9 ⟨rfl, hb9⟩; have e7 : Below W.heap.size W w9 := (Below.refl _ W).drew.trans hb9)
      | (go_at_call 28; (with_reducible refine (A5.out _).mono ?_); rintro e w10 ⟨rfl, hb10⟩; have e8 := e7.trans (hb10.mono e7.size); clear e7; have e7 := e8; clear e8)
      | (go_at_call 29; (with_reducible refine (R5.out _).mono ?_); rintro e w11 ⟨rfl, hb11⟩; have e8 := e7.trans (hb11.mono e7.size); clear e7; have e7 := e8; clear e8))
  have B9 := Lib.hid (cv_then B8.out e7 B8.out.size)
  clear c0 c1 c2 c3 c4 c5 c6 c7 c8 c9 d0 d1 d2 d3 d4 d5 d6 p0 p1 p2 p3 p4 p5 p6 q0 q1 q2 q3 q4 q5 q6 q7 q8 q9 r0 r1 r2 r3 r4 r5 r6 r7 r8 r9
  go_wp2_with fail
  go_ret
  exact ⟨rfl, B9.out⟩
end Go.Proofs.YtpaleljnkejdgaaDoor
