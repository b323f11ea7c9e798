/-
  The walk of zone's Next: the next switch. Condition: the calendar's table reads as it is laid.
-/
import Derived.Test.YtpaleljnkejdgaaDoorZonAhead
namespace Go.Proofs.YtpaleljnkejdgaaDoor
open Go.RowKit

/-- What Of tells. -/
noncomputable def Wp.ofR (t : Int) : Wp.Mom × Int := by
  classical
  exact if h : Wp.isT t = true then ((Wp.isOf_ex h).choose, 0) else (Wp.Mom.zero, 1)
theorem Wp.ofR_yes {t : Int} (h : Wp.isT t = true) : Wp.IsOf t (Wp.ofR t).1 ∧ (Wp.ofR t).2 = 0 := by
  unfold Wp.ofR
  rw [dif_pos h]
  exact ⟨Exists.choose_spec (Wp.isOf_ex h), rfl⟩
theorem Wp.ofR_no {t : Int} (h : Wp.isT t = false) : Wp.ofR t = (Wp.Mom.zero, 1) := by
  unfold Wp.ofR
  rw [dif_neg (by rw [h]; simp)]
theorem Wp.ofR_eq {t : Int} {m : Wp.Mom} (h : Wp.IsOf t m) : Wp.ofR t = (m, 0) := by
  obtain ⟨a, b⟩ := Wp.ofR_yes h.isT
  exact Prod.ext (a.one h) b
theorem civ_OfR (t : Int) (w : World) (hL : Cv.Laid w) : Calls Tryd.prog 54 #[.int .i64 t] w fun e w' => e = .returned (.tuple #[.agg (Wp.momC (Wp.ofR t).1), .int .i64 (Wp.ofR t).2]) ∧ Below w.heap.size w w' := by
  cases ht : Wp.isT t with
  | true =>
    obtain ⟨a, b⟩ := Wp.ofR_yes ht
    rw [b]
    exact civ_Of_yes t _ w hL a
  | false => rw [Wp.ofR_no ht]; exact civ_Of_no t w ht
theorem Wp.ofs_two (z : Wp.Zn) (t : Int) : Wp.ofs z t = z.base ∨ Wp.ofs z t = z.base + z.save := by
  by_cases h : z.save ≠ 0 ∧ ∃ o, Wp.Off z t o
  · obtain ⟨hs, o, ho⟩ := h
    rcases Wp.ofs_off hs ho with ⟨k, _, _, _, e, _⟩ | ⟨_, e⟩
    · rw [e]; cases k
      · exact Or.inr rfl
      · exact Or.inl rfl
    · exact Or.inl e
  · left
    unfold Wp.ofs
    rw [dif_neg h]
/-- What Next tells. -/
def Wp.NextIs (z : Wp.Zn) (t n e : Int) : Prop := (Wp.chk2R z t ≠ 0 ∧ n = 0 ∧ e = Wp.chk2R z t) ∨ (Wp.chk2R z t = 0 ∧ z.save ≠ 0 ∧ Wp.IsNext z t n ∧ e = 0) ∨ (Wp.chk2R z t = 0 ∧ (z.save = 0 ∨ Wp.NoNext z t) ∧ n = 0 ∧ e = 3)
def Wp.NextPost (z : Wp.Zn) (t : Int) (w : World) (e : Ending) (w' : World) : Prop := ∃ n r, e = .returned (.tuple #[.int .i64 n, .int .i64 r]) ∧ Wp.NextIs z t n r ∧ Below w.heap.size w w'
set_option maxHeartbeats 2000000 in
theorem zon_Next (z : Wp.Zn) (t : Int) (w : World) (hL : Cv.Laid w) :
    Calls Tryd.prog 23 #[.agg (Wp.zoneC z), .int .i64 t] w (Wp.NextPost z t w) := by
  have A1 := Lib.hid (fun w => zon_check z t w)
  by_cases hc : Wp.chk2R z t = 0
  · obtain ⟨hz, ht⟩ := Wp.chk2R_ok hc
    rw [hc] at A1
    have HN := Lib.hid (show ∀ w', Below w.heap.size w w' → (z.save = 0 ∨ Wp.NoNext z t) → Wp.NextPost z t w (.returned (.tuple #[.int .i64 0, .int .i64 3])) w' from fun w' hb h => ⟨0, 3, rfl, Or.inr (Or.inr ⟨hc, h, rfl, rfl⟩), hb⟩)
    by_cases hs : z.save = 0
    · have A2 := Lib.hid (fun w => zon_turns_none z t w hs)
      have HN2 := Lib.hid (fun w' hb => HN.out w' hb (Or.inl hs))
      generalize Wp.NextPost z t w = Q at *
      clear hc hz ht hs HN
      obtain ⟨base, save, ⟨fm, fn, fw, fi⟩, ⟨tm, tn, tw, ti⟩⟩ := z
      unfold Wp.zoneC at A1 A2 ⊢
      simp only [] at A1 A2 ⊢
      have X0 := Lib.hid (cv_new w (.cells #[.int .i64 base, .int .i64 save, .int .i64 fm, .int .i64 fn, .int .i64 fw, .int .i64 fi, .int .i64 tm, .int .i64 tn, .int .i64 tw, .int .i64 ti] 48))
      have B0 := Lib.hid (Wp.below_box w (.cells #[.int .i64 base, .int .i64 save, .int .i64 fm, .int .i64 fn, .int .i64 fw, .int .i64 fi, .int .i64 tm, .int .i64 tn, .int .i64 tw, .int .i64 ti] 48))
      go_enter Tryd.func23, Tryd.ntmps23
      go_wp2_with fail
      refine (A1.out _).mono ?_
      rintro e w1 ⟨rfl, b1⟩
      rw [World.size_alloc] at b1
      have B1 := Lib.hid (B0.out.trans (b1.mono (by omega)))
      obtain ⟨c0, c1, c2, c3, c4, c5, c6, c7, c8, c9⟩ := Wp.ten_of ((b1.block w.heap.size (by omega)).trans X0.out)
      go_wp2_with fail
      refine (A2.out _).mono ?_
      rintro e w2 ⟨rfl, b2⟩
      have B2 := Lib.hid (cv_then B1.out b2 B1.out.size)
      clear c0 c1 c2 c3 c4 c5 c6 c7 c8 c9
      go_wp2_with fail
      go_loopw [20] (fun i wr => i = .int .i64 0 ∧ Below w.heap.size w wr) (fun _ _ => 0)
      case atStart => exact ⟨rfl, B2.out⟩
      case round =>
        obtain ⟨rfl, hB⟩ := hrel
        have HF := Lib.hid (HN2.out _ hB)
        go_wp2_with fail
        exact HF.out
    · obtain ⟨m, hm⟩ := Wp.isOf_ex ht
      have hY := hm.year
      have A2 := Lib.hid (fun w hL => zon_turns z t m w hL hz hs hm)
      have HO := Lib.hid (fun l (hl : Wp.Turns z m.y l) k (hk : k < l.length) h1 h2 => hl.next hz hs hY k hk h1 h2)
      have HO2 := Lib.hid (fun l (hl : Wp.Turns z m.y l) h2 => hl.noNext hz hs hY h2)
      have HS := Lib.hid (show ∀ w' n, Below w.heap.size w w' → Wp.IsNext z t n → Wp.NextPost z t w (.returned (.tuple #[.int .i64 n, .int .i64 0])) w' from fun w' n hb h => ⟨n, 0, rfl, Or.inr (Or.inl ⟨hc, hs, h, rfl⟩), hb⟩)
      have HN2 := Lib.hid (fun w' hb h => HN.out w' hb (Or.inr h))
      generalize m.y = Y at *
      generalize Wp.NextPost z t w = Q at *
      clear hc ht hY hm hz hs HN
      obtain ⟨Z, hZ⟩ : ∃ Z : Wp.Zn, Z = z := ⟨_, rfl⟩
      rw [← hZ] at HO HO2 HS HN2
      obtain ⟨base, save, ⟨fm, fn, fw, fi⟩, ⟨tm, tn, tw, ti⟩⟩ := z
      unfold Wp.zoneC at A1 A2 ⊢
      simp only [] at A1 A2 ⊢
      simp only [← hZ] at A2
      clear hZ
      have HL := Lib.hid hL
      clear hL
      have X0 := Lib.hid (cv_new w (.cells #[.int .i64 base, .int .i64 save, .int .i64 fm, .int .i64 fn, .int .i64 fw, .int .i64 fi, .int .i64 tm, .int .i64 tn, .int .i64 tw, .int .i64 ti] 48))
      have B0 := Lib.hid (Wp.below_box w (.cells #[.int .i64 base, .int .i64 save, .int .i64 fm, .int .i64 fn, .int .i64 fw, .int .i64 fi, .int .i64 tm, .int .i64 tn, .int .i64 tw, .int .i64 ti] 48))
      go_enter Tryd.func23, Tryd.ntmps23
      go_wp2_with fail
      refine (A1.out _).mono ?_
      rintro e w1 ⟨rfl, b1⟩
      rw [World.size_alloc] at b1
      have B1 := Lib.hid (B0.out.trans (b1.mono (by omega)))
      obtain ⟨c0, c1, c2, c3, c4, c5, c6, c7, c8, c9⟩ := Wp.ten_of ((b1.block w.heap.size (by omega)).trans X0.out)
      go_wp2_with fail
      refine (A2.out _ (HL.out.below B1.out)).mono ?_
      rintro e w2 ⟨l, p, c, rfl, hT, hl6, hat, b2⟩
      have B2 := Lib.hid (cv_then B1.out b2 B1.out.size)
      have HA := Lib.hid hat
      have HT := Lib.hid hT
      clear hat hT b2 c0 c1 c2 c3 c4 c5 c6 c7 c8 c9
      obtain ⟨n, hn⟩ : ∃ n, n = l.length := ⟨_, rfl⟩
      have Hn := Lib.hid hn
      rw [← hn] at hl6
      simp only [← hn]
      clear hn
      go_wp2_with fail
      go_loopw [20] (fun i wr => ∃ k : Nat, k ≤ n ∧ i = .int .i64 k ∧ (∀ j (hj : j < l.length), j < k → l[j].1 ≤ t) ∧ Below w2.heap.size w2 wr) (fun i _ => n - (intOf i).toNat)
      case atStart => exact ⟨0, Nat.zero_le _, rfl, fun j _ h => absurd h (Nat.not_lt_zero _), Below.refl _ _⟩
      case round =>
        obtain ⟨k, hk, rfl, hgood, hB⟩ := hrel
        have HG := Lib.hid hgood
        clear hgood
        by_cases hlt : k < n
        · have hkl : k < l.length := by rw [← Hn.out]; exact hlt
          obtain ⟨b, off, rfl, e1, e2⟩ := (HA.out.below hB).get k hkl
          have HNX := Lib.hid (fun h1 => HO.out l HT.out k hkl h1 (fun i hi hik => HG.out i hi hik))
          have HG2 := Lib.hid (show l[k].1 ≤ t → ∀ j (hj : j < l.length), j < k + 1 → l[j].1 ≤ t from fun h j hj hjk => by
            by_cases e : j = k
            · subst e; exact h
            · exact HG.out j hj (by omega))
          obtain ⟨x, hx⟩ : ∃ x, x = l[k] := ⟨_, rfl⟩
          rw [← hx] at e1 e2 HNX HG2
          clear hx hkl
          obtain ⟨xt, xa⟩ := x
          simp only [] at e1 e2 HNX HG2
          have B5 := Lib.hid (hB.alloc hB.size (.cells #[.int .i64 xt, .int .i64 xa] 102))
          by_cases hle : t < xt
          · have HF := Lib.hid (HS.out (wr.alloc (.cells #[.int .i64 xt, .int .i64 xa] 102)) xt (B2.out.trans (B5.out.mono B2.out.size)) (HNX.out hle))
            go_wp2_with fail
            exact HF.out
          · have hd : decide (t < xt) = false := decide_eq_false hle
            have hle2 : xt ≤ t := by omega
            clear hle
            go_wp2_with fail
            exact ⟨⟨k + 1, by omega, by go_num, HG2.out hle2, B5.out⟩, by simp [intOf]; omega⟩
        · obtain rfl : k = n := by omega
          have HF := Lib.hid (HN2.out wr (B2.out.trans (hB.mono B2.out.size)) (HO2.out l HT.out (fun i hi => HG.out i hi (by rw [Hn.out]; exact hi))))
          go_wp2_with fail
          exact HF.out
  · have HF := Lib.hid (show ∀ w', Below w.heap.size w w' → Wp.NextPost z t w (.returned (.tuple #[.int .i64 0, .int .i64 (Wp.chk2R z t)])) w' from fun w' hb => ⟨0, _, rfl, Or.inl ⟨hc, rfl, rfl⟩, hb⟩)
    generalize Wp.NextPost z t w = Q at *
    generalize Wp.chk2R z t = q at *
    have hq : (q != 0) = true := by simpa using hc
    clear hc
    obtain ⟨base, save, ⟨fm, fn, fw, fi⟩, ⟨tm, tn, tw, ti⟩⟩ := z
    unfold Wp.zoneC at A1 ⊢
    simp only [] at A1 ⊢
    have B0 := Lib.hid (Wp.below_box w (.cells #[.int .i64 base, .int .i64 save, .int .i64 fm, .int .i64 fn, .int .i64 fw, .int .i64 fi, .int .i64 tm, .int .i64 tn, .int .i64 tw, .int .i64 ti] 48))
    go_enter Tryd.func23, Tryd.ntmps23
    go_wp2_with fail
    refine (A1.out _).mono ?_
    rintro e w1 ⟨rfl, b1⟩
    rw [World.size_alloc] at b1
    have HF2 := Lib.hid (HF.out w1 (B0.out.trans (b1.mono (by omega))))
    go_wp2_with fail
    exact HF2.out
end Go.Proofs.YtpaleljnkejdgaaDoor
