/-
  The walk of quiet's search from the clocks' change to their next one: the first time that is quiet, or is not, or none. Conditions: the calendar's table reads as it is laid; zone, week and time are right, and the week has such a minute.
-/
import Derived.Test.YtpaleljnkejdgaaGreatDoorQtFirst
import Derived.WalkMore
import Derived.ScopeJumps
namespace Go.Proofs.YtpaleljnkejdgaaGreatDoor
open Go.RowKit Go.Lib Go.Shelf

theorem Qt.lt_of {w : World} {g : Nat} {o : Obj} (h : w.heap[g]? = some o) : g < w.heap.size := (Array.getElem?_eq_some_iff.1 h).1
def Qt.SrPost (z : Wp.Zn) (l : List (Int × Int)) (t : Int) (b : Bool) (w : World) (e : Ending) (w' : World) : Prop := ∃ r c, e = .returned (.tuple #[.int .i64 r, .int .i64 c]) ∧ Qt.Sr z l t b r c ∧ Below w.heap.size w w'
/-- What holds at each step: ahead of the time there was none. -/
def Qt.Step (z : Wp.Zn) (l : List (Int × Int)) (t0 : Int) (b : Bool) (t : Int) : Prop := t0 ≤ t ∧ t ≤ 253402300799 ∧ ∀ u, t0 ≤ u → u < t → Qt.at_ z l u = !b
theorem Qt.Step.hit {z : Wp.Zn} {l : List (Int × Int)} {t0 t x : Int} {b : Bool} (h : Qt.Step z l t0 b t) (ho : Wk.Ok l) (hv : Wk.nextV l b ≠ []) (h0 : -62135596800 ≤ t0) (hE : Qt.End z t x) (hx : Qt.firV z l t b < x) : Qt.Sr z l t0 b (Qt.firV z l t b) 0 := by
  obtain ⟨a1, a2, a3⟩ := h
  obtain ⟨f1, f2, f3⟩ := (Qt.first_spec ho hv (by omega) hE).1 hx
  have := hE.2.1
  refine Or.inl ⟨rfl, by omega, by omega, f2, fun u h1 h2 => ?_⟩
  by_cases h : u < t
  · exact a3 u h1 h
  · exact f3 u (by omega) h2
theorem Qt.Step.on {z : Wp.Zn} {l : List (Int × Int)} {t0 t x : Int} {b : Bool} (h : Qt.Step z l t0 b t) (ho : Wk.Ok l) (hv : Wk.nextV l b ≠ []) (h0 : -62135596800 ≤ t0) (hE : Qt.End z t x) (hx : ¬ Qt.firV z l t b < x) : ∀ u, t0 ≤ u → u < x → Qt.at_ z l u = !b := by
  obtain ⟨a1, a2, a3⟩ := h
  have f := (Qt.first_spec ho hv (by omega) hE).2 hx
  intro u h1 h2
  by_cases h : u < t
  · exact a3 u h1 h
  · exact f u (by omega) h2
/-- What holds at each jump, over the whole frame. -/
def Qt.Jmp (Z : Wp.Zn) (l : List (Int × Int)) (t : Int) (b : Bool) (w : World) (z : Wp.Zn) (p : Option Addr) (n c : Nat) (a' : Act) (w' : World) : Prop :=
  ∃ (tt : Int) (u8 u9 u10 u11 u12 u13 u14 u15 u16 u17 u18 u19 u20 u21 u22 u23 : Value), a' = { tmps := #[.agg (Qt.hC z p n c), .int .i64 tt, .bool b, .pointer (some ⟨w.heap.size, 0, none⟩), undef, undef, .int .i64 0, .int .i64 0, u8, u9, u10, u11, u12, u13, u14, u15, u16, u17, u18, u19, u20, u21, u22, u23], defers := [] } ∧ Qt.Step Z l t b tt ∧ Below w.heap.size w w' ∧ w'.heap[w.heap.size]? = some (.cells (Qt.hC z p n c) 45 (0, 0))
set_option maxHeartbeats 4000000 in
set_option maxRecDepth 100000 in
theorem qt_hsearch (z : Wp.Zn) (l : List (Int × Int)) (p : Option Addr) (c : Nat) (t : Int) (b : Bool) (w : World) (hL : Cv.Laid w) (hA : Wk.At w p l) (hz : Wp.ZnOk z) (ho : Wk.Ok l) (ht : Wp.isT t = true) (hv : Wk.nextV l b ≠ []) :
    Calls Tryz.prog 49 #[.agg (Qt.hC z p l.length c), .int .i64 t, .bool b] w (Qt.SrPost z l t b w) := by
  obtain ⟨t1, t2⟩ := Qt.isT_iff.1 ht
  have AS0 := Lib.hid (fun w1 tt (h1 : -62135596800 ≤ tt) (h2 : tt ≤ 253402300799) (hb : Below w.heap.size w w1) => qt_steady z p l.length c tt w1 (hL.below hb) hz (Qt.isT_iff.2 ⟨h1, h2⟩))
  have AF0 := Lib.hid (fun w1 tt (h1 : -62135596800 ≤ tt) (h2 : tt ≤ 253402300799) (hb : Below w.heap.size w w1) => qt_first z l p c tt b w1 (hL.below hb) (hA.below hb) hz ho (Qt.isT_iff.2 ⟨h1, h2⟩))
  clear hL hA hz ht
  obtain ⟨Z, hZ⟩ : ∃ Z, Z = z := ⟨_, rfl⟩
  have AS1 := Lib.hid (show ∀ w1 tt, -62135596800 ≤ tt → tt ≤ 253402300799 → Below w.heap.size w w1 → Calls Tryz.prog 70 #[.agg (Qt.hC z p l.length c), .int .i64 tt] w1 (Qt.EndPost Z tt w1) by rw [hZ]; exact AS0.out)
  have AF1 := Lib.hid (show ∀ w1 tt, -62135596800 ≤ tt → tt ≤ 253402300799 → Below w.heap.size w w1 → Calls Tryz.prog 71 #[.agg (Qt.hC z p l.length c), .int .i64 tt, .bool b] w1 (fun e w' => e = .returned (.int .i64 (Qt.firV Z l tt b)) ∧ Below w1.heap.size w1 w') by rw [hZ]; exact AF0.out)
  have hP : Qt.SrPost z l t b w = Qt.SrPost Z l t b w := by rw [hZ]
  rw [hP]
  clear hZ hP AS0 AF0
  generalize l.length = n at *
  obtain ⟨base, save, ⟨fm, fn, fw, fi⟩, ⟨tm, tn, tw, ti⟩⟩ := z
  have hc : Qt.hC ⟨base, save, ⟨fm, fn, fw, fi⟩, ⟨tm, tn, tw, ti⟩⟩ p n c = #[.int .i64 base, .int .i64 save, .int .i64 fm, .int .i64 fn, .int .i64 fw, .int .i64 fi, .int .i64 tm, .int .i64 tn, .int .i64 tw, .int .i64 ti, .slice p n c] := rfl
  have AS := Lib.hid AS1.out
  have AF := Lib.hid AF1.out
  rw [hc] at AS AF ⊢
  have Hc := Lib.hid hc
  clear hc AS1 AF1
  have X0 := Lib.hid (wk_new w (.cells #[.int .i64 base, .int .i64 save, .int .i64 fm, .int .i64 fn, .int .i64 fw, .int .i64 fi, .int .i64 tm, .int .i64 tn, .int .i64 tw, .int .i64 ti, .slice p n c] 45))
  have B0 := Lib.hid (wk_box w (.cells #[.int .i64 base, .int .i64 save, .int .i64 fm, .int .i64 fn, .int .i64 fw, .int .i64 fi, .int .i64 tm, .int .i64 tn, .int .i64 tw, .int .i64 ti, .slice p n c] 45))
  obtain ⟨w0, hw0⟩ : ∃ w0, w.alloc (.cells #[.int .i64 base, .int .i64 save, .int .i64 fm, .int .i64 fn, .int .i64 fw, .int .i64 fi, .int .i64 tm, .int .i64 tn, .int .i64 tw, .int .i64 ti, .slice p n c] 45) = w0 := ⟨_, rfl⟩
  rw [hw0] at X0 B0
  have Hw0 := Lib.hid hw0
  clear hw0
  go_enter Tryz.func49, Tryz.ntmps49
  go_wp2_with fail
  rw [Hw0.out]
  refine wp_scope_jumps 0 (fun a' w' => Qt.Jmp Z l t b w ⟨base, save, ⟨fm, fn, fw, fi⟩, ⟨tm, tn, tw, ti⟩⟩ p n c a' w') (fun a' _ => (253402300800 - RowKit.intOf (a'.tmps.getD 1 undef)).toNat) rfl ?_ ?_
  · go_wp2_with fail
    go_step3
    have HStep := Lib.hid (show Qt.Step Z l t b t from ⟨Int.le_refl _, t2, fun u h1 h2 => by omega⟩)
    obtain ⟨c0, c1, c2, c3, c4, c5, c6, c7, c8, c9, c10⟩ := Qt.eleven_of (X0.out)
    go_wp2_with fail
    refine (AS.out w0 t t1 t2 B0.out).mono ?_
    rintro e wa ⟨x, rfl, hE, hb⟩
    have HEnd := Lib.hid hE
    have hx0 := hE.1
    have BA := Lib.hid (wk_then (B0.out) hb (B0.out).size)
    have XA := Lib.hid ((hb.block w.heap.size (Qt.lt_of (X0.out))).trans (X0.out))
    clear c0 c1 c2 c3 c4 c5 c6 c7 c8 c9 c10 hb hE
    obtain ⟨c0, c1, c2, c3, c4, c5, c6, c7, c8, c9, c10⟩ := Qt.eleven_of XA.out
    go_wp2_with fail
    refine (AF.out wa t t1 t2 BA.out).mono ?_
    rintro e wb ⟨rfl, hb⟩
    have BB := Lib.hid (wk_then BA.out hb BA.out.size)
    have XB := Lib.hid ((hb.block w.heap.size (Qt.lt_of XA.out)).trans XA.out)
    clear c0 c1 c2 c3 c4 c5 c6 c7 c8 c9 c10 hb
    have HHit := Lib.hid (fun h => (HStep.out).hit ho hv t1 HEnd.out h)
    have HOn := Lib.hid (fun h => (HStep.out).on ho hv t1 HEnd.out h)
    have hx1 := HEnd.out.2.1
    generalize Qt.firV Z l t b = F at *
    by_cases hF : F < x
    · have HR := Lib.hid (HHit.out hF)
      clear HHit HOn
      go_wp2_with fail
      simp only [Exit.jump]
      go_ret2
      exact ⟨F, 0, rfl, HR.out, BB.out⟩
    · have HO2 := Lib.hid (HOn.out hF)
      have hF2 : x ≤ F := by omega
      clear HHit HOn hF
      by_cases hx : x < 253402300800
      · go_wp2_with fail
        go_step3
        exact ⟨rfl, x, _, _, _, _, _, _, _, _, _, _, _, _, _, _, _, _, by rw [Hc.out], ⟨by omega, by omega, HO2.out⟩, BB.out, by rw [Hc.out]; exact XB.out⟩
      · have hx2 : 253402300800 ≤ x := by omega
        have HR := Lib.hid (show Qt.Sr Z l t b 0 3 from Or.inr ⟨rfl, rfl, fun u h1 h2 => HO2.out u h1 (by omega)⟩)
        clear hx
        go_wp2_with fail
        simp only [Exit.jump]
        go_ret2
        exact ⟨0, 3, rfl, HR.out, BB.out⟩
  · rintro a' wr ⟨tt, u8, u9, u10, u11, u12, u13, u14, u15, u16, u17, u18, u19, u20, u21, u22, u23, rfl, hS, hB, hX⟩
    have HStep := Lib.hid hS
    have s1 : -62135596800 ≤ tt := by have := hS.1; omega
    have s2 := hS.2.1
    have BR := Lib.hid hB
    rw [Hc.out] at hX ⊢
    have XR := Lib.hid hX
    clear hS hB hX
    obtain ⟨c0, c1, c2, c3, c4, c5, c6, c7, c8, c9, c10⟩ := Qt.eleven_of (XR.out)
    go_wp2_with fail
    refine (AS.out wr tt s1 s2 BR.out).mono ?_
    rintro e wa ⟨x, rfl, hE, hb⟩
    have HEnd := Lib.hid hE
    have hx0 := hE.1
    have BA := Lib.hid (wk_then (BR.out) hb (BR.out).size)
    have XA := Lib.hid ((hb.block w.heap.size (Qt.lt_of (XR.out))).trans (XR.out))
    clear c0 c1 c2 c3 c4 c5 c6 c7 c8 c9 c10 hb hE
    obtain ⟨c0, c1, c2, c3, c4, c5, c6, c7, c8, c9, c10⟩ := Qt.eleven_of XA.out
    go_wp2_with fail
    refine (AF.out wa tt s1 s2 BA.out).mono ?_
    rintro e wb ⟨rfl, hb⟩
    have BB := Lib.hid (wk_then BA.out hb BA.out.size)
    have XB := Lib.hid ((hb.block w.heap.size (Qt.lt_of XA.out)).trans XA.out)
    clear c0 c1 c2 c3 c4 c5 c6 c7 c8 c9 c10 hb
    have HHit := Lib.hid (fun h => (HStep.out).hit ho hv t1 HEnd.out h)
    have HOn := Lib.hid (fun h => (HStep.out).on ho hv t1 HEnd.out h)
    have hx1 := HEnd.out.2.1
    generalize Qt.firV Z l tt b = F at *
    by_cases hF : F < x
    · have HR := Lib.hid (HHit.out hF)
      clear HHit HOn
      go_wp2_with fail
      simp only [Exit.jump]
      go_ret2
      exact ⟨F, 0, rfl, HR.out, BB.out⟩
    · have HO2 := Lib.hid (HOn.out hF)
      have hF2 : x ≤ F := by omega
      clear HHit HOn hF
      by_cases hx : x < 253402300800
      · go_wp2_with fail
        go_step3
        exact ⟨rfl, ⟨x, _, _, _, _, _, _, _, _, _, _, _, _, _, _, _, _, by rw [Hc.out], ⟨by have := HStep.out.1; omega, by omega, HO2.out⟩, BB.out, by rw [Hc.out]; exact XB.out⟩, by simp [RowKit.intOf]; omega⟩
      · have hx2 : 253402300800 ≤ x := by omega
        have HR := Lib.hid (show Qt.Sr Z l t b 0 3 from Or.inr ⟨rfl, rfl, fun u h1 h2 => HO2.out u h1 (by omega)⟩)
        clear hx
        go_wp2_with fail
        simp only [Exit.jump]
        go_ret2
        exact ⟨0, 3, rfl, HR.out, BB.out⟩
end Go.Proofs.YtpaleljnkejdgaaGreatDoor
