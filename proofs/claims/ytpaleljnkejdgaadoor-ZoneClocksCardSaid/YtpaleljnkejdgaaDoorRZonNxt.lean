/-
  The walk of the document's own next switch of a zone (bellmanref06.Next). No condition.
-/
import Derived.Test.YtpaleljnkejdgaaDoorRZonOfs
namespace Go.Proofs.YtpaleljnkejdgaaDoor
open Go.RowKit

set_option maxRecDepth 100000 in
set_option maxHeartbeats 4000000 in
theorem rzon_Next (z : Wp.Zn) (t : Int) (w : World) :
    Calls Tryd.prog 24 #[.agg (Wp.zoneC z), .int .i64 t] w (Wp.NextPost z t w) := by
  have A1 := Lib.hid (fun w => rzon_Check z w)
  have A2 := Lib.hid (fun w => rciv_Is t w)
  have hr : (Wp.chkR z = 0 ∧ Wp.ZnOk z) ∨ Wp.chkR z = 2 := by
    by_cases h : Wp.ZnOk z
    · exact Or.inl ⟨Wp.chkR_ok h, h⟩
    · exact Or.inr (Wp.chkR_no h)
  have h2 : Wp.chk2R z t = if Wp.chkR z = 0 then (if Wp.isT t = true then 0 else 1) else 2 := rfl
  rcases hr with ⟨hr, hz⟩ | hr
  · rw [hr] at A1
    cases ht : Wp.isT t with
    | true =>
      rw [ht] at A2
      have A3 := Lib.hid (show ∀ w, Calls Tryd.prog 53 #[.agg (Wp.zoneC z), .int .i64 t] w (fun e w' => ∃ L v b, e = .returned (.tuple #[v, b]) ∧ (((∀ (k : Nat) (hk : k < L.length), t < L[k].1 → (∀ i (hi : i < L.length), i < k → L[i].1 ≤ t) → Wp.NextIs z t L[k].1 0) ∧ ((∀ i (hi : i < L.length), L[i].1 ≤ t) → Wp.NextIs z t 0 3)) ∧ L.length ≤ 10) ∧ Ar.Own w' w.heap.size v b L ∧ Below w.heap.size w w') from fun w => (rzon_around_any z t w hz ht).mono fun e w' ⟨L, v, b, h1, h2, h3, h4⟩ => ⟨L, v, b, h1, ⟨Wp.arnd_next hz ht h2, (Wp.arnd_ofs hz h2).2⟩, h3, h4⟩)
      have HP := Lib.hid (show ∀ n r w', Wp.NextIs z t n r → Below w.heap.size w w' → Wp.NextPost z t w (.returned (.tuple #[.int .i64 n, .int .i64 r])) w' from fun n r w' h1 h2 => ⟨n, r, rfl, h1, h2⟩)
      have hb := hz.1
      obtain ⟨b1, b2, b3, b4⟩ := hb
      clear h2 hr hz ht
      generalize Wp.NextIs z t = NI at *
      obtain ⟨base, save, ⟨fm, fn, fw, fi⟩, ⟨tm, tn, tw, ti⟩⟩ := z
      unfold Wp.zoneC at A1 A3 ⊢
      simp only [] at *
      have B0 := Lib.hid (Wp.below_box w (.cells #[.int .i64 base, .int .i64 save, .int .i64 fm, .int .i64 fn, .int .i64 fw, .int .i64 fi, .int .i64 tm, .int .i64 tn, .int .i64 tw, .int .i64 ti] 48))
      have X0 := Lib.hid (cv_new w (.cells #[.int .i64 base, .int .i64 save, .int .i64 fm, .int .i64 fn, .int .i64 fw, .int .i64 fi, .int .i64 tm, .int .i64 tn, .int .i64 tw, .int .i64 ti] 48))
      go_enter Tryd.func24, Tryd.ntmps24
      go_wp2_with fail
      refine (A1.out _).mono ?_
      rintro e w1 ⟨rfl, hb⟩
      have B1 := Lib.hid (cv_then B0.out hb B0.out.size)
      have S1 : w.heap.size < w1.heap.size := by have := hb.size; rw [World.size_alloc] at this; omega
      have X1 := Lib.hid ((hb.block w.heap.size (by rw [World.size_alloc]; omega)).trans X0.out)
      clear hb A1 X0 B0
      go_wp2_with fail
      refine (A2.out _).mono ?_
      rintro e w2 ⟨rfl, rfl⟩
      obtain ⟨c0, c1, c2, c3, c4, c5, c6, c7, c8, c9⟩ := Wp.ten_of X1.out
      go_wp2_with fail
      refine (A3.out _).mono ?_
      rintro e w2 ⟨L, v, b, rfl, ⟨ho, hl⟩, hO, hb⟩
      have B2 := Lib.hid (cv_then B1.out hb B1.out.size)
      have X2 := Lib.hid ((hb.block w.heap.size S1).trans X1.out)
      have HO := Lib.hid ho
      obtain ⟨pa, ca, rfl, hpa⟩ := owns_at hO.a
      obtain ⟨pb, cb, rfl, hpb⟩ := owns_at hO.b
      have HPA := Lib.hid hpa
      have HPB := Lib.hid hpb
      clear hb A3 X1 B1 ho hO hpa hpb c0 c1 c2 c3 c4 c5 c6 c7 c8 c9
      rw [Ar.lenA, Ar.lenB]
      obtain ⟨n, hn⟩ : ∃ n, n = L.length := ⟨_, rfl⟩
      have Hn := Lib.hid hn
      rw [← hn] at hl ⊢
      clear hn
      go_wp2_with fail
      go_loopw [24] (fun iv wr => ∃ i : Nat, i ≤ n ∧ iv = .int .i64 i ∧ Hid (∀ q (hq : q < L.length), q < i → L[q].1 ≤ t) ∧ wr = w2) (fun iv _ => n - (intOf iv).toNat)
      case atStart => exact ⟨0, Nat.zero_le _, rfl, Lib.hid (fun q _ h => absurd h (Nat.not_lt_zero _)), rfl⟩
      case round =>
        obtain ⟨i, hi, rfl, HL, rfl⟩ := hrel
        by_cases hlt : i < n
        · have hil : i < L.length := by rw [← Hn.out]; exact hlt
          obtain ⟨ba, oa, rfl, hca⟩ := HPA.out.get i (by rw [Ar.lenA]; exact hil)
          rw [Ar.getA L i hil] at hca
          unfold Wp.mkN at hca
          have hi1 : (i : Int) < (n : Int) := by omega
          have hi0 : (0 : Int) ≤ (i : Int) := by omega
          have HN1 := Lib.hid (fun h => HO.out.1 i hil h HL.out)
          have HL2 := Lib.hid (fun (h : L[i].1 ≤ t) => show ∀ q (hq : q < L.length), q < i + 1 → L[q].1 ≤ t from fun q hq hqi => by
            by_cases e : q = i
            · subst e; exact h
            · exact HL.out q hq (by omega))
          generalize L[i].1 = x at *
          clear hil
          by_cases hx : t < x
          · have HN := Lib.hid (HN1.out hx)
            clear HN1 HL2 HL
            go_wp2_with fail
            go_ret2
            exact HP.out x 0 _ HN.out B2.out
          · have HL3 := Lib.hid (HL2.out (by omega))
            have hx2 : x ≤ t := by omega
            clear HN1 HL2 HL hx
            go_wp2_with fail
            exact ⟨⟨i + 1, by omega, by go_num, HL3, by trivial⟩, by simp [intOf]; omega⟩
        · obtain rfl : i = n := by omega
          have HN := Lib.hid (HO.out.2 (fun q hq => HL.out q hq (by rw [Hn.out]; exact hq)))
          clear HPA HPB HO HL
          go_wp2_with fail
          go_ret2
          exact HP.out 0 3 _ HN.out B2.out
    | false =>
      have HP := Lib.hid (show ∀ w', Below w.heap.size w w' → Wp.NextPost z t w (.returned (.tuple #[.int .i64 0, .int .i64 1])) w' from fun w' h => ⟨0, 1, rfl, Or.inl ⟨by rw [h2.trans ((if_pos hr).trans (if_neg (by rw [ht]; simp)))]; decide, rfl, (h2.trans ((if_pos hr).trans (if_neg (by rw [ht]; simp)))).symm⟩, h⟩)
      rw [ht] at A2
      clear h2 hr hz ht
      obtain ⟨base, save, ⟨fm, fn, fw, fi⟩, ⟨tm, tn, tw, ti⟩⟩ := z
      unfold Wp.zoneC at A1 ⊢
      simp only [] at *
      have B0 := Lib.hid (Wp.below_box w (.cells #[.int .i64 base, .int .i64 save, .int .i64 fm, .int .i64 fn, .int .i64 fw, .int .i64 fi, .int .i64 tm, .int .i64 tn, .int .i64 tw, .int .i64 ti] 48))
      go_enter Tryd.func24, Tryd.ntmps24
      go_wp2_with fail
      refine (A1.out _).mono ?_
      rintro e w1 ⟨rfl, hb⟩
      have B1 := Lib.hid (cv_then B0.out hb B0.out.size)
      clear hb
      go_wp2_with fail
      refine (A2.out _).mono ?_
      rintro e w2 ⟨rfl, rfl⟩
      go_wp2_with fail
      go_ret2
      exact HP.out _ B1.out
  · rw [hr] at A1
    have HP := Lib.hid (show ∀ w', Below w.heap.size w w' → Wp.NextPost z t w (.returned (.tuple #[.int .i64 0, .int .i64 2])) w' from fun w' h => ⟨0, 2, rfl, Or.inl ⟨by rw [h2.trans (if_neg (by rw [hr]; decide))]; decide, rfl, (h2.trans (if_neg (by rw [hr]; decide))).symm⟩, h⟩)
    clear h2 hr A2
    obtain ⟨base, save, ⟨fm, fn, fw, fi⟩, ⟨tm, tn, tw, ti⟩⟩ := z
    unfold Wp.zoneC at A1 ⊢
    simp only [] at *
    have B0 := Lib.hid (Wp.below_box w (.cells #[.int .i64 base, .int .i64 save, .int .i64 fm, .int .i64 fn, .int .i64 fw, .int .i64 fi, .int .i64 tm, .int .i64 tn, .int .i64 tw, .int .i64 ti] 48))
    go_enter Tryd.func24, Tryd.ntmps24
    go_wp2_with fail
    refine (A1.out _).mono ?_
    rintro e w1 ⟨rfl, hb⟩
    have B1 := Lib.hid (cv_then B0.out hb B0.out.size)
    clear hb
    go_wp2_with fail
    go_ret2
    exact HP.out _ B1.out
end Go.Proofs.YtpaleljnkejdgaaDoor
