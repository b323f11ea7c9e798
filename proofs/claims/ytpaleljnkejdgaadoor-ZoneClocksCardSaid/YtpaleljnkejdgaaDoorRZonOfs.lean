/-
  The walks of the document's own offset and next switch of a zone (bellmanref06). No condition but those that the theorems state.
-/
import Derived.Test.YtpaleljnkejdgaaDoorRZonArnd
import Derived.Test.YtpaleljnkejdgaaDoorZonNext
namespace Go.Proofs.YtpaleljnkejdgaaDoor
open Go.RowKit

set_option maxRecDepth 100000 in
set_option maxHeartbeats 2000000 in
theorem rzon_around_none (z : Wp.Zn) (t : Int) (m : Wp.Mom) (w : World) (hs : z.save = 0) (hm : Wp.IsOf t m) :
    Calls Tryd.prog 53 #[.agg (Wp.zoneC z), .int .i64 t] w fun e w' => e = .returned (.tuple #[.slice none 0 0, .slice none 0 0]) ∧ Below w.heap.size w w' := by
  obtain ⟨hY1, hY2, _, _⟩ := hm.year
  have A1 := Lib.hid (fun w => rciv_Of_yes t m w hm)
  clear hm
  obtain ⟨Y, MO, D, HO, MI, SS, K⟩ := m
  obtain ⟨base, save, ⟨fm, fn, fw, fi⟩, ⟨tm, tn, tw, ti⟩⟩ := z
  simp only [] at hs hY1 hY2
  subst hs
  unfold Wp.momC at A1
  unfold Wp.zoneC
  simp only [] at *
  have B00 := Lib.hid (Wp.below_box w (.cells #[.int .i64 base, .int .i64 0, .int .i64 fm, .int .i64 fn, .int .i64 fw, .int .i64 fi, .int .i64 tm, .int .i64 tn, .int .i64 tw, .int .i64 ti] 48))
  have X00 := Lib.hid (cv_new w (.cells #[.int .i64 base, .int .i64 0, .int .i64 fm, .int .i64 fn, .int .i64 fw, .int .i64 fi, .int .i64 tm, .int .i64 tn, .int .i64 tw, .int .i64 ti] 48))
  go_enter Tryd.func53, Tryd.ntmps53
  go_wp2_with fail
  refine (A1.out _).mono ?_
  rintro e w1 ⟨rfl, b1'⟩
  rw [World.size_alloc] at b1'
  have S1 : w.heap.size + 1 ≤ w1.heap.size := by have := b1'.size; rw [World.size_alloc] at this; omega
  have B0 := Lib.hid ((B00.out.trans (b1'.mono (by omega))).alloc (by omega) (.cells #[.int .i64 Y, .int .i64 MO, .int .i64 D, .int .i64 HO, .int .i64 MI, .int .i64 SS, .int .i64 K] 52))
  have XB := Lib.hid ((cv_past w1 (.cells #[.int .i64 Y, .int .i64 MO, .int .i64 D, .int .i64 HO, .int .i64 MI, .int .i64 SS, .int .i64 K] 52) w.heap.size (by omega)).trans ((b1'.block w.heap.size (by omega)).trans X00.out))
  have YB := Lib.hid (cv_new w1 (.cells #[.int .i64 Y, .int .i64 MO, .int .i64 D, .int .i64 HO, .int .i64 MI, .int .i64 SS, .int .i64 K] 52))
  obtain ⟨wB, hwB⟩ : ∃ wB, w1.alloc (.cells #[.int .i64 Y, .int .i64 MO, .int .i64 D, .int .i64 HO, .int .i64 MI, .int .i64 SS, .int .i64 K] 52) = wB := ⟨_, rfl⟩
  rw [hwB] at B0 XB YB
  have HwB := Lib.hid hwB
  clear hwB b1' X00 B00 A1
  go_wp2_with fail
  rw [HwB.out]
  clear HwB
  obtain ⟨c0, c1, c2, c3, c4, c5, c6, c7, c8, c9⟩ := Wp.ten_of XB.out
  obtain ⟨d0, d1, d2, d3, d4, d5, d6⟩ := Wp.seven_of YB.out
  go_loopw [8, 9, 10] (fun v bv yv wr => v = .slice none 0 0 ∧ bv = .slice none 0 0 ∧ yv = .int .i64 (Y - 2) ∧ wr = wB) (fun _ _ _ _ => 0)
  case atStart => exact ⟨rfl, rfl, rfl, rfl⟩
  case round =>
    obtain ⟨rfl, rfl, rfl, rfl⟩ := hrel
    have hle : Y - 2 ≤ Y + 2 := by omega
    go_wp2_with fail
    go_ret2
    exact ⟨rfl, B0.out⟩
/-- The document's list of switches, whatever zone is right. -/
def Wp.ArndAny (z : Wp.Zn) (t : Int) (w : World) (e : Ending) (w' : World) : Prop := ∃ L v b, e = .returned (.tuple #[v, b]) ∧ ((z.save = 0 ∧ L = []) ∨ (z.save ≠ 0 ∧ ∃ Y, Wp.YearOf t Y ∧ Wp.Arnd z Y L)) ∧ Ar.Own w' w.heap.size v b L ∧ Below w.heap.size w w'
theorem rzon_around_any (z : Wp.Zn) (t : Int) (w : World) (hz : Wp.ZnOk z) (ht : Wp.isT t = true) :
    Calls Tryd.prog 53 #[.agg (Wp.zoneC z), .int .i64 t] w (Wp.ArndAny z t w) := by
  obtain ⟨m, hm⟩ := Wp.isOf_ex ht
  by_cases hs : z.save = 0
  · refine (rzon_around_none z t m w hs hm).mono ?_
    rintro e w' ⟨rfl, hb⟩
    exact ⟨[], _, _, rfl, Or.inl ⟨hs, rfl⟩, Ar.Own.nil _ _, hb⟩
  · refine (rzon_around z t m w hz hs hm).mono ?_
    rintro e w' ⟨L, v, b, rfl, hA, hO, hb⟩
    exact ⟨L, v, b, rfl, Or.inr ⟨hs, m.y, hm.year, hA⟩, hO, hb⟩
theorem Wp.arnd_ofs {z : Wp.Zn} {t : Int} {L : List (Int × Bool)} (hz : Wp.ZnOk z) (h : (z.save = 0 ∧ L = []) ∨ (z.save ≠ 0 ∧ ∃ Y, Wp.YearOf t Y ∧ Wp.Arnd z Y L)) : Wp.ofs z t = (if Wp.lastB L t false = true then z.base + z.save else z.base) ∧ L.length ≤ 10 := by
  rcases h with ⟨hs, rfl⟩ | ⟨hs, Y, hY, hA⟩
  · exact ⟨by rw [Wp.ofs_plain hs]; rfl, by simp⟩
  · exact ⟨(Wp.ofs_eq hz hs (hA.off hz hs hY)).symm, hA.len⟩
theorem Wp.arnd_next {z : Wp.Zn} {t : Int} {L : List (Int × Bool)} (hz : Wp.ZnOk z) (ht : Wp.isT t = true) (h : (z.save = 0 ∧ L = []) ∨ (z.save ≠ 0 ∧ ∃ Y, Wp.YearOf t Y ∧ Wp.Arnd z Y L)) :
    (∀ (k : Nat) (hk : k < L.length), t < L[k].1 → (∀ i (hi : i < L.length), i < k → L[i].1 ≤ t) → Wp.NextIs z t L[k].1 0) ∧ ((∀ i (hi : i < L.length), L[i].1 ≤ t) → Wp.NextIs z t 0 3) := by
  have hc := Wp.chk2R_mk hz ht
  rcases h with ⟨hs, rfl⟩ | ⟨hs, Y, hY, hA⟩
  · exact ⟨fun k hk => absurd hk (by simp), fun _ => Or.inr (Or.inr ⟨hc, Or.inl hs, rfl, rfl⟩)⟩
  · exact ⟨fun k hk h1 h2 => Or.inr (Or.inl ⟨hc, hs, hA.next hz hs hY k hk h1 h2, rfl⟩), fun h2 => Or.inr (Or.inr ⟨hc, Or.inr (hA.noNext hz hs hY h2), rfl, rfl⟩)⟩
theorem Ar.getA (L : List (Int × Bool)) (k : Nat) (hk : k < L.length) : (Ar.A L)[k]'(by rw [Ar.lenA]; exact hk) = L[k].1 := by unfold Ar.A; rw [List.getElem_map]
theorem Ar.getB (L : List (Int × Bool)) (k : Nat) (hk : k < L.length) : (Ar.B L)[k]'(by rw [Ar.lenB]; exact hk) = L[k].2 := by unfold Ar.B; rw [List.getElem_map]
set_option maxRecDepth 100000 in
set_option maxHeartbeats 4000000 in
theorem rzon_Offset (z : Wp.Zn) (t : Int) (w : World) :
    Calls Tryd.prog 20 #[.agg (Wp.zoneC z), .int .i64 t] w fun e w' => e = .returned (.tuple #[.int .i64 (Wp.offR z t).1, .int .i64 (Wp.offR z t).2]) ∧ Below w.heap.size w w' := by
  have A1 := Lib.hid (fun w => rzon_Check z w)
  have A2 := Lib.hid (fun w => rciv_Is t w)
  have hr : (Wp.chkR z = 0 ∧ Wp.ZnOk z) ∨ Wp.chkR z = 2 := by
    by_cases h : Wp.ZnOk z
    · exact Or.inl ⟨Wp.chkR_ok h, h⟩
    · exact Or.inr (Wp.chkR_no h)
  have hO : Wp.offR z t = if Wp.chk2R z t = 0 then (Wp.ofs z t, 0) else (0, Wp.chk2R z t) := rfl
  have h2 : Wp.chk2R z t = if Wp.chkR z = 0 then (if Wp.isT t = true then 0 else 1) else 2 := rfl
  rcases hr with ⟨hr, hz⟩ | hr
  · rw [hr] at A1
    cases ht : Wp.isT t with
    | true =>
      rw [show Wp.offR z t = (Wp.ofs z t, 0) from hO.trans (if_pos (by rw [h2, if_pos hr, if_pos ht]))]
      rw [ht] at A2
      have A3 := Lib.hid (show ∀ w, Calls Tryd.prog 53 #[.agg (Wp.zoneC z), .int .i64 t] w (fun e w' => ∃ L v b, e = .returned (.tuple #[v, b]) ∧ (Wp.ofs z t = (if Wp.lastB L t false = true then z.base + z.save else z.base) ∧ L.length ≤ 10) ∧ Ar.Own w' w.heap.size v b L ∧ Below w.heap.size w w') from fun w => (rzon_around_any z t w hz ht).mono fun e w' ⟨L, v, b, h1, h2, h3, h4⟩ => ⟨L, v, b, h1, Wp.arnd_ofs hz h2, h3, h4⟩)
      have hb := hz.1
      obtain ⟨b1, b2, b3, b4⟩ := hb
      clear hO h2 hr hz ht
      generalize Wp.ofs z t = o at *
      obtain ⟨base, save, ⟨fm, fn, fw, fi⟩, ⟨tm, tn, tw, ti⟩⟩ := z
      unfold Wp.zoneC at A1 A3 ⊢
      simp only [] at *
      have B0 := Lib.hid (Wp.below_box w (.cells #[.int .i64 base, .int .i64 save, .int .i64 fm, .int .i64 fn, .int .i64 fw, .int .i64 fi, .int .i64 tm, .int .i64 tn, .int .i64 tw, .int .i64 ti] 48))
      have X0 := Lib.hid (cv_new w (.cells #[.int .i64 base, .int .i64 save, .int .i64 fm, .int .i64 fn, .int .i64 fw, .int .i64 fi, .int .i64 tm, .int .i64 tn, .int .i64 tw, .int .i64 ti] 48))
      go_enter Tryd.func20, Tryd.ntmps20
      go_wp2_with fail
      refine (A1.out _).mono ?_
      rintro e w1 ⟨rfl, hb⟩
      have B1 := Lib.hid (cv_then B0.out hb B0.out.size)
      have S1 : w.heap.size < w1.heap.size := by have := hb.size; rw [World.size_alloc] at this; omega
      have X1 := Lib.hid ((hb.block w.heap.size (by rw [World.size_alloc]; omega)).trans X0.out)
      clear hb A1 X0 B0
      go_wp2_with fail
      refine (A2.out _).mono ?_
      rintro e w2 ⟨rfl, rfl⟩
      obtain ⟨c0, c1, c2, c3, c4, c5, c6, c7, c8, c9⟩ := Wp.ten_of X1.out
      go_wp2_with fail
      refine (A3.out _).mono ?_
      rintro e w2 ⟨L, v, b, rfl, ⟨ho, hl⟩, hO, hb⟩
      have B2 := Lib.hid (cv_then B1.out hb B1.out.size)
      have X2 := Lib.hid ((hb.block w.heap.size S1).trans X1.out)
      have HO := Lib.hid ho
      obtain ⟨pa, ca, rfl, hpa⟩ := owns_at hO.a
      obtain ⟨pb, cb, rfl, hpb⟩ := owns_at hO.b
      have HPA := Lib.hid hpa
      have HPB := Lib.hid hpb
      clear hb A3 X1 B1 ho hO hpa hpb c0 c1 c2 c3 c4 c5 c6 c7 c8 c9
      rw [Ar.lenA, Ar.lenB]
      obtain ⟨n, hn⟩ : ∃ n, n = L.length := ⟨_, rfl⟩
      have Hn := Lib.hid hn
      rw [← hn] at hl ⊢
      clear hn
      go_wp2_with fail
      go_loopw [6, 25] (fun sv iv wr => ∃ i : Nat, i ≤ n ∧ iv = .int .i64 i ∧ sv = .bool (Wp.lastB (L.take i) t false) ∧ wr = w2) (fun _ iv _ => n - (intOf iv).toNat)
      case atStart => exact ⟨0, Nat.zero_le _, rfl, rfl, rfl⟩
      case round =>
        obtain ⟨i, hi, rfl, rfl, rfl⟩ := hrel
        by_cases hlt : i < n
        · have hil : i < L.length := by rw [← Hn.out]; exact hlt
          obtain ⟨ba, oa, rfl, hca⟩ := HPA.out.get i (by rw [Ar.lenA]; exact hil)
          obtain ⟨bb, ob, rfl, hcb⟩ := HPB.out.get i (by rw [Ar.lenB]; exact hil)
          rw [Ar.getA L i hil] at hca
          rw [Ar.getB L i hil] at hcb
          have hT := Lib.hid (Wp.lastB_take L t false i hil)
          unfold Wp.mkN at hca
          unfold Wp.mkB at hcb
          generalize L[i].1 = x at *
          generalize L[i].2 = y at *
          have hi1 : (i : Int) < (n : Int) := by omega
          have hi0 : (0 : Int) ≤ (i : Int) := by omega
          clear hil
          by_cases hx : x ≤ t
          · have hT2 := Lib.hid (hT.out.trans (if_pos hx))
            clear hT
            go_wp2_with fail
            exact ⟨⟨i + 1, by omega, by go_num, by rw [hT2.out], by trivial⟩, by simp [intOf]; omega⟩
          · have hT2 := Lib.hid (hT.out.trans (if_neg hx))
            clear hT
            go_wp2_with fail
            exact ⟨⟨i + 1, by omega, by go_num, by rw [hT2.out], by trivial⟩, by simp [intOf]; omega⟩
        · obtain rfl : i = n := by omega
          rw [show L.take i = L by rw [Hn.out]; exact List.take_length]
          clear HPA HPB
          obtain ⟨c0, c1, c2, c3, c4, c5, c6, c7, c8, c9⟩ := Wp.ten_of X2.out
          cases hS : Wp.lastB L t false with
          | true =>
            have HO2 := Lib.hid (HO.out.trans (if_pos hS))
            clear hS HO
            go_wp2_with fail
            go_ret2
            exact ⟨by rw [HO2.out]; rfl, B2.out⟩
          | false =>
            have HO2 := Lib.hid (HO.out.trans (if_neg (by rw [hS]; simp)))
            clear hS HO
            go_wp2_with fail
            go_ret2
            exact ⟨by rw [HO2.out]; rfl, B2.out⟩
    | false =>
      have c21 : Wp.chk2R z t = 1 := h2.trans ((if_pos hr).trans (if_neg (by rw [ht]; simp)))
      rw [show Wp.offR z t = (0, 1) from hO.trans ((if_neg (by rw [c21]; decide)).trans (by rw [c21]))]
      clear c21
      rw [ht] at A2
      clear hO h2 hr hz ht
      obtain ⟨base, save, ⟨fm, fn, fw, fi⟩, ⟨tm, tn, tw, ti⟩⟩ := z
      unfold Wp.zoneC at A1 ⊢
      simp only [] at *
      have B0 := Lib.hid (Wp.below_box w (.cells #[.int .i64 base, .int .i64 save, .int .i64 fm, .int .i64 fn, .int .i64 fw, .int .i64 fi, .int .i64 tm, .int .i64 tn, .int .i64 tw, .int .i64 ti] 48))
      go_enter Tryd.func20, Tryd.ntmps20
      go_wp2_with fail
      refine (A1.out _).mono ?_
      rintro e w1 ⟨rfl, hb⟩
      have B1 := Lib.hid (cv_then B0.out hb B0.out.size)
      clear hb
      go_wp2_with fail
      refine (A2.out _).mono ?_
      rintro e w2 ⟨rfl, rfl⟩
      go_wp2_with fail
      go_ret2
      exact ⟨rfl, B1.out⟩
  · rw [hr] at A1
    have c22 : Wp.chk2R z t = 2 := h2.trans (if_neg (by rw [hr]; decide))
    rw [show Wp.offR z t = (0, 2) from hO.trans ((if_neg (by rw [c22]; decide)).trans (by rw [c22]))]
    clear c22
    clear hO h2 hr A2
    obtain ⟨base, save, ⟨fm, fn, fw, fi⟩, ⟨tm, tn, tw, ti⟩⟩ := z
    unfold Wp.zoneC at A1 ⊢
    simp only [] at *
    have B0 := Lib.hid (Wp.below_box w (.cells #[.int .i64 base, .int .i64 save, .int .i64 fm, .int .i64 fn, .int .i64 fw, .int .i64 fi, .int .i64 tm, .int .i64 tn, .int .i64 tw, .int .i64 ti] 48))
    go_enter Tryd.func20, Tryd.ntmps20
    go_wp2_with fail
    refine (A1.out _).mono ?_
    rintro e w1 ⟨rfl, hb⟩
    have B1 := Lib.hid (cv_then B0.out hb B0.out.size)
    clear hb
    go_wp2_with fail
    go_ret2
    exact ⟨rfl, B1.out⟩
end Go.Proofs.YtpaleljnkejdgaaDoor
