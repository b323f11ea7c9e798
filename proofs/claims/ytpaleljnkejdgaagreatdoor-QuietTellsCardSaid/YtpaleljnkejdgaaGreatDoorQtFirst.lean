/-
  The walks of quiet's steady and first: up to when the clocks go on as they do, and the first time that is quiet, or is not, if they did. Conditions: the calendar's table reads as it is laid; zone, week and time are right.
-/
import Derived.Test.YtpaleljnkejdgaaGreatDoorQtSmall
namespace Go.Proofs.YtpaleljnkejdgaaGreatDoor
open Go.RowKit Go.Lib Go.Shelf

def Qt.EndPost (z : Wp.Zn) (t : Int) (w : World) (e : Ending) (w' : World) : Prop := ∃ x, e = .returned (.int .i64 x) ∧ Qt.End z t x ∧ Below w.heap.size w w'
def Qt.st1 (nx t o : Int) : Int := if t < -62135596800 - o * 60 then min nx (-62135596800 - o * 60) else nx
theorem Qt.stV_eq (nx t o : Int) : Qt.stV nx t o = if t < 253402300800 - o * 60 then min (Qt.st1 nx t o) (253402300800 - o * 60) else Qt.st1 nx t o := rfl
/-- What the loop over the two edges has come to. -/
def Qt.StRel (nx t o : Int) (v i : Value) : Prop := (i = .int .i64 0 ∧ v = .int .i64 nx) ∨ (i = .int .i64 1 ∧ v = .int .i64 (Qt.st1 nx t o)) ∨ (i = .int .i64 2 ∧ v = .int .i64 (Qt.stV nx t o))
def Qt.SameW (a b : World) : Prop := a = b
theorem Qt.sameW (a : World) : Qt.SameW a a := rfl
theorem Qt.next_cases {z : Wp.Zn} {t n r : Int} (hz : Wp.ZnOk z) (ht : Wp.isT t = true) (h : Wp.NextIs z t n r) :
    (r = 0 ∧ t < n ∧ n ≤ 253402300800 ∧ ∀ u, t ≤ u → u < n → Wp.ofs z u = Wp.ofs z t) ∨ (r = 3 ∧ ∀ u, t ≤ u → u < 253402300800 → Wp.ofs z u = Wp.ofs z t) := by
  rcases h with ⟨h1, _⟩ | ⟨_, hs, hn, rfl⟩ | ⟨_, hs, _, rfl⟩
  · exact absurd (Wp.chk2R_mk hz ht) h1
  · refine Or.inl ⟨rfl, hn.after, ?_, fun u h1 h2 => hn.steady hz hs h1 h2⟩
    have := Qt.isT_iff.1 hn.isT
    omega
  · refine Or.inr ⟨rfl, fun u h1 _ => ?_⟩
    by_cases h0 : z.save = 0
    · rw [Wp.ofs_plain h0, Wp.ofs_plain h0]
    · rcases hs with hs | hs
      · exact absurd hs h0
      · exact Qt.NoNext.steady hz h0 hs h1
theorem qt_index (a b : Value) (W : World) :
    (Instr.index 109 (.agg #[a, b]) (.int .i64 0)).run Tryz.prog W = .ok a W ∧
    (Instr.index 109 (.agg #[a, b]) (.int .i64 1)).run Tryz.prog W = .ok b W := by
  have hs : ∀ W, Sem.run Tryz.prog (sizeOf 2) W = .ok 1 W := fun W => Tryz.sizeOf2 W
  have hg : ∀ W, Sem.run Tryz.prog (isAgg 2) W = .ok false W := fun W => Tryz.isAgg2 W
  refine ⟨?_, ?_⟩
  · simp [Instr.index, run_underlying Tryz.underlying109, asIntOf, hs, hg, part, Sem.run_bind, Result.andThen]
  · simp [Instr.index, run_underlying Tryz.underlying109, asIntOf, hs, hg, part, Sem.run_bind, Result.andThen]
set_option maxHeartbeats 2000000 in
set_option maxRecDepth 100000 in
theorem qt_steady (z : Wp.Zn) (p : Option Addr) (n c : Nat) (t : Int) (w : World) (hL : Cv.Laid w) (hz : Wp.ZnOk z) (ht : Wp.isT t = true) :
    Calls Tryz.prog 70 #[.agg (Qt.hC z p n c), .int .i64 t] w (Qt.EndPost z t w) := by
  have A1 := Lib.hid (fun w hL => zon_Next z t w hL)
  have A2 := Lib.hid (fun w hL => qt_ahead z p n c t w hL hz ht)
  have HN := Lib.hid (fun n r h => Qt.next_cases (z := z) (t := t) (n := n) (r := r) hz ht h)
  have HE := Lib.hid (fun nx h1 h2 h3 => Qt.end_of (z := z) (t := t) (nx := nx) h1 h2 h3)
  obtain ⟨o1, o2⟩ := Qt.ofs_bd hz t
  obtain ⟨t1, t2⟩ := Qt.isT_iff.1 ht
  clear hz ht
  have HP := Lib.hid (show ∀ x, Qt.End z t x → ∀ w w', Below w.heap.size w w' → Qt.EndPost z t w (.returned (.int .i64 x)) w' from fun x h w w' hb => ⟨x, rfl, h, hb⟩)
  clear HP
  obtain ⟨Z, hZ⟩ : ∃ Z, Z = z := ⟨_, rfl⟩
  have HZ := Lib.hid hZ
  rw [show Qt.EndPost z t w = Qt.EndPost Z t w by rw [hZ]]
  rw [← hZ] at HN HE
  have A3 := Lib.hid (show ∀ w, Cv.Laid w → Calls Tryz.prog 83 #[.agg (Wp.zoneC z), .int .i64 t] w (Wp.NextPost Z t w) by rw [hZ]; exact A1.out)
  have hof : Wp.ofs z t = Wp.ofs Z t := by rw [hZ]
  rw [hof] at A2 o1 o2
  clear A1 hZ HZ hof
  obtain ⟨o, ho⟩ : ∃ o, o = Wp.ofs Z t := ⟨_, rfl⟩
  rw [← ho] at A2 HN HE o1 o2
  have hq : (Qt.hC z p n c) = (Wp.zoneC z).push (.slice p n c) := rfl
  rw [hq] at A2 ⊢
  clear hq ho
  obtain ⟨base, save, ⟨fm, fn, fw, fi⟩, ⟨tm, tn, tw, ti⟩⟩ := z
  unfold Wp.zoneC at A2 A3 ⊢
  simp only [List.push_toArray, List.cons_append, List.nil_append] at A2 A3 ⊢
  have X0 := Lib.hid (wk_new w (.cells #[.int .i64 base, .int .i64 save, .int .i64 fm, .int .i64 fn, .int .i64 fw, .int .i64 fi, .int .i64 tm, .int .i64 tn, .int .i64 tw, .int .i64 ti, .slice p n c] 45))
  have B0 := Lib.hid (wk_box w (.cells #[.int .i64 base, .int .i64 save, .int .i64 fm, .int .i64 fn, .int .i64 fw, .int .i64 fi, .int .i64 tm, .int .i64 tn, .int .i64 tw, .int .i64 ti, .slice p n c] 45))
  have HL := Lib.hid hL
  clear hL
  go_enter Tryz.func70, Tryz.ntmps70
  go_wp2_with fail
  refine (A3.out _ (HL.out.below B0.out)).mono ?_
  rintro e w1 ⟨nx, r, rfl, hnx, hb⟩
  rcases HN.out nx r hnx with ⟨rfl, n1, n2, n3⟩ | ⟨rfl, n3⟩
  · have HEnd := Lib.hid (HE.out nx n1 n2 n3)
    clear hnx n3 HN HE A3
    have B1 := Lib.hid (wk_then B0.out hb B0.out.size)
    obtain ⟨c0, c1, c2, c3, c4, c5, c6, c7, c8, c9, c10⟩ := Qt.eleven_of ((hb.block w.heap.size (by rw [World.size_alloc]; omega)).trans X0.out)
    have L1 := Lib.hid (HL.out.below B1.out)
    clear hb
    go_wp2_with fail
    refine (A2.out _ L1.out).mono ?_
    rintro e w2 ⟨rfl, hb⟩
    have B2 := Lib.hid (wk_then B1.out hb B1.out.size)
    clear c0 c1 c2 c3 c4 c5 c6 c7 c8 c9 c10 hb
    have i0 := fun W => (qt_index (.int .i64 (-62135596800 - o * 60)) (.int .i64 (253402300800 - o * 60)) W).1
    have i1 := fun W => (qt_index (.int .i64 (-62135596800 - o * 60)) (.int .i64 (253402300800 - o * 60)) W).2
    have I0 := Lib.hid i0
    have I1 := Lib.hid i1
    clear i0 i1
    go_wp2_with fail
    go_loopw [5, 28] (fun v i wr => Qt.StRel (nx) t o v i ∧ Qt.SameW wr w2) (fun _ i _ => 2 - (RowKit.intOf i).toNat)
    case atStart => exact ⟨Or.inl ⟨rfl, rfl⟩, Qt.sameW _⟩
    case round =>
      obtain ⟨hr, hw⟩ := hrel
      obtain rfl : w2 = wr := Eq.symm hw
      rcases hr with ⟨rfl, rfl⟩ | ⟨rfl, rfl⟩ | ⟨rfl, rfl⟩
      · have i0 := I0.out
        by_cases he : t < -62135596800 - o * 60
        · have HS := Lib.hid (show Qt.st1 (nx) t o = min (nx) (-62135596800 - o * 60) from if_pos he)
          go_wp2_with fail
          exact ⟨⟨Or.inr (Or.inl ⟨rfl, by rw [HS.out]⟩), Qt.sameW _⟩, by simp [RowKit.intOf]⟩
        · have HS := Lib.hid (show Qt.st1 (nx) t o = (nx) from if_neg he)
          have he2 : -62135596800 - o * 60 ≤ t := by omega
          clear he
          go_wp2_with fail
          exact ⟨⟨Or.inr (Or.inl ⟨rfl, by rw [HS.out]⟩), Qt.sameW _⟩, by simp [RowKit.intOf]⟩
      · have i1 := I1.out
        have HV := Lib.hid (Qt.stV_eq (nx) t o)
        generalize Qt.st1 (nx) t o = s1 at *
        by_cases he : t < 253402300800 - o * 60
        · have HS := Lib.hid (HV.out.trans (if_pos he))
          go_wp2_with fail
          exact ⟨⟨Or.inr (Or.inr ⟨rfl, by rw [HS.out]⟩), Qt.sameW _⟩, by simp [RowKit.intOf]⟩
        · have HS := Lib.hid (HV.out.trans (if_neg he))
          have he2 : 253402300800 - o * 60 ≤ t := by omega
          clear he
          go_wp2_with fail
          exact ⟨⟨Or.inr (Or.inr ⟨rfl, by rw [HS.out]⟩), Qt.sameW _⟩, by simp [RowKit.intOf]⟩
      · go_wp2_with fail
        go_ret
        exact ⟨_, rfl, HEnd.out, B2.out⟩
  · have HEnd := Lib.hid (HE.out 253402300800 (by omega) (Int.le_refl _) n3)
    clear hnx n3 HN HE A3
    have B1 := Lib.hid (wk_then B0.out hb B0.out.size)
    obtain ⟨c0, c1, c2, c3, c4, c5, c6, c7, c8, c9, c10⟩ := Qt.eleven_of ((hb.block w.heap.size (by rw [World.size_alloc]; omega)).trans X0.out)
    have L1 := Lib.hid (HL.out.below B1.out)
    clear hb
    go_wp2_with fail
    refine (A2.out _ L1.out).mono ?_
    rintro e w2 ⟨rfl, hb⟩
    have B2 := Lib.hid (wk_then B1.out hb B1.out.size)
    clear c0 c1 c2 c3 c4 c5 c6 c7 c8 c9 c10 hb
    have i0 := fun W => (qt_index (.int .i64 (-62135596800 - o * 60)) (.int .i64 (253402300800 - o * 60)) W).1
    have i1 := fun W => (qt_index (.int .i64 (-62135596800 - o * 60)) (.int .i64 (253402300800 - o * 60)) W).2
    have I0 := Lib.hid i0
    have I1 := Lib.hid i1
    clear i0 i1
    go_wp2_with fail
    go_loopw [5, 28] (fun v i wr => Qt.StRel (253402300800) t o v i ∧ Qt.SameW wr w2) (fun _ i _ => 2 - (RowKit.intOf i).toNat)
    case atStart => exact ⟨Or.inl ⟨rfl, rfl⟩, Qt.sameW _⟩
    case round =>
      obtain ⟨hr, hw⟩ := hrel
      obtain rfl : w2 = wr := Eq.symm hw
      rcases hr with ⟨rfl, rfl⟩ | ⟨rfl, rfl⟩ | ⟨rfl, rfl⟩
      · have i0 := I0.out
        by_cases he : t < -62135596800 - o * 60
        · have HS := Lib.hid (show Qt.st1 (253402300800) t o = min (253402300800) (-62135596800 - o * 60) from if_pos he)
          go_wp2_with fail
          exact ⟨⟨Or.inr (Or.inl ⟨rfl, by rw [HS.out]⟩), Qt.sameW _⟩, by simp [RowKit.intOf]⟩
        · have HS := Lib.hid (show Qt.st1 (253402300800) t o = (253402300800) from if_neg he)
          have he2 : -62135596800 - o * 60 ≤ t := by omega
          clear he
          go_wp2_with fail
          exact ⟨⟨Or.inr (Or.inl ⟨rfl, by rw [HS.out]⟩), Qt.sameW _⟩, by simp [RowKit.intOf]⟩
      · have i1 := I1.out
        have HV := Lib.hid (Qt.stV_eq (253402300800) t o)
        generalize Qt.st1 (253402300800) t o = s1 at *
        by_cases he : t < 253402300800 - o * 60
        · have HS := Lib.hid (HV.out.trans (if_pos he))
          go_wp2_with fail
          exact ⟨⟨Or.inr (Or.inr ⟨rfl, by rw [HS.out]⟩), Qt.sameW _⟩, by simp [RowKit.intOf]⟩
        · have HS := Lib.hid (HV.out.trans (if_neg he))
          have he2 : 253402300800 - o * 60 ≤ t := by omega
          clear he
          go_wp2_with fail
          exact ⟨⟨Or.inr (Or.inr ⟨rfl, by rw [HS.out]⟩), Qt.sameW _⟩, by simp [RowKit.intOf]⟩
      · go_wp2_with fail
        go_ret
        exact ⟨_, rfl, HEnd.out, B2.out⟩
set_option maxHeartbeats 2000000 in
set_option maxRecDepth 100000 in
theorem qt_first (z : Wp.Zn) (l : List (Int × Int)) (p : Option Addr) (c : Nat) (t : Int) (b : Bool) (w : World) (hL : Cv.Laid w) (hA : Wk.At w p l) (hz : Wp.ZnOk z) (ho : Wk.Ok l) (ht : Wp.isT t = true) :
    Calls Tryz.prog 71 #[.agg (Qt.hC z p l.length c), .int .i64 t, .bool b] w fun e w' => e = .returned (.int .i64 (Qt.firV z l t b)) ∧ Below w.heap.size w w' := by
  have A1 := Lib.hid (fun w hL => qt_minute z p l.length c t w hL hz ht)
  have A2 := Lib.hid (fun k w1 (h : Below w.heap.size w w1) => wk_Next l p c k b w1 (hA.below h) (by have := ho.1; omega))
  obtain ⟨t1, t2⟩ := Qt.isT_iff.1 ht
  have hk := Qt.weekD_bd (Qt.loc z t)
  have hN : 0 ≤ Wk.nextN l (Wp.weekD (Qt.loc z t)) b ∧ Wk.nextN l (Wp.weekD (Qt.loc z t)) b < 10080 := by
    unfold Wk.nextN
    split
    · split
      · omega
      · next hv =>
        have := Wk.nx_spec (Wk.nextV_ch ho.2 b) hv hk.1 hk.2
        exact ⟨this.1, this.2.1⟩
    · omega
  have HF := Lib.hid (show Qt.firV z l t b = if Wp.isT (Qt.loc z t) = true then (if Wk.nextN l (Wp.weekD (Qt.loc z t)) b = 0 then t else t - (t + 62135596800) % 60 + Wk.nextN l (Wp.weekD (Qt.loc z t)) b * 60) else if b = true then 253402300800 else t from rfl)
  have HW := Lib.hid (show Wp.isT (Qt.loc z t) = true → (Wp.weekR (Qt.loc z t)).1 = Wp.weekD (Qt.loc z t) from fun h => by unfold Wp.weekR; rw [if_pos h])
  obtain ⟨N1, N2⟩ := hN
  have em : t - -62135596800 = t + 62135596800 := by omega
  have Em := Lib.hid em
  clear hz ho ht hA hk em
  generalize Qt.firV z l t b = F at *
  generalize Wp.weekD (Qt.loc z t) = k at *
  generalize (Wp.weekR (Qt.loc z t)).1 = k1 at *
  generalize Wp.isT (Qt.loc z t) = ok at *
  cases ok with
  | false =>
    clear HW A2 N1 N2
    unfold Qt.hC at A1 ⊢
    generalize l.length = n at *
    obtain ⟨base, save, ⟨fm, fn, fw, fi⟩, ⟨tm, tn, tw, ti⟩⟩ := z
    unfold Wp.zoneC at A1 ⊢
    simp only [List.push_toArray, List.cons_append, List.nil_append] at A1 ⊢
    have X0 := Lib.hid (wk_new w (.cells #[.int .i64 base, .int .i64 save, .int .i64 fm, .int .i64 fn, .int .i64 fw, .int .i64 fi, .int .i64 tm, .int .i64 tn, .int .i64 tw, .int .i64 ti, .slice p n c] 45))
    have B0 := Lib.hid (wk_box w (.cells #[.int .i64 base, .int .i64 save, .int .i64 fm, .int .i64 fn, .int .i64 fw, .int .i64 fi, .int .i64 tm, .int .i64 tn, .int .i64 tw, .int .i64 ti, .slice p n c] 45))
    have HL := Lib.hid hL
    clear hL
    cases b with
    | true =>
      have HF2 := Lib.hid (show F = 253402300800 from HF.out.trans rfl)
      go_enter Tryz.func71, Tryz.ntmps71
      go_wp2_with fail
      refine (A1.out _ (HL.out.below B0.out)).mono ?_
      rintro e w1 ⟨rfl, hb⟩
      have B1 := Lib.hid (wk_then B0.out hb B0.out.size)
      clear hb
      go_wp2_with fail
      go_ret
      exact ⟨by rw [HF2.out]; rfl, B1.out⟩
    | false =>
      have HF2 := Lib.hid (show F = t from HF.out.trans rfl)
      go_enter Tryz.func71, Tryz.ntmps71
      go_wp2_with fail
      refine (A1.out _ (HL.out.below B0.out)).mono ?_
      rintro e w1 ⟨rfl, hb⟩
      have B1 := Lib.hid (wk_then B0.out hb B0.out.size)
      clear hb
      go_wp2_with fail
      go_ret
      exact ⟨by rw [HF2.out]; rfl, B1.out⟩
  | true =>
    rw [HW.out rfl] at A1
    have A3 := Lib.hid (A2.out k)
    have HF2 := Lib.hid (HF.out.trans (if_pos rfl))
    clear HW A2 HF
    generalize Wk.nextN l k b = N at *
    generalize Wk.nextC l k b = C at *
    unfold Qt.hC at A1 ⊢
    generalize l.length = n at *
    obtain ⟨base, save, ⟨fm, fn, fw, fi⟩, ⟨tm, tn, tw, ti⟩⟩ := z
    unfold Wp.zoneC at A1 ⊢
    simp only [List.push_toArray, List.cons_append, List.nil_append] at A1 ⊢
    have X0 := Lib.hid (wk_new w (.cells #[.int .i64 base, .int .i64 save, .int .i64 fm, .int .i64 fn, .int .i64 fw, .int .i64 fi, .int .i64 tm, .int .i64 tn, .int .i64 tw, .int .i64 ti, .slice p n c] 45))
    have B0 := Lib.hid (wk_box w (.cells #[.int .i64 base, .int .i64 save, .int .i64 fm, .int .i64 fn, .int .i64 fw, .int .i64 fi, .int .i64 tm, .int .i64 tn, .int .i64 tw, .int .i64 ti, .slice p n c] 45))
    have HL := Lib.hid hL
    clear hL
    by_cases h0 : N = 0
    · have HF3 := Lib.hid (HF2.out.trans (if_pos h0))
      subst h0
      go_enter Tryz.func71, Tryz.ntmps71
      go_wp2_with fail
      refine (A1.out _ (HL.out.below B0.out)).mono ?_
      rintro e w1 ⟨rfl, hb⟩
      have B1 := Lib.hid (wk_then B0.out hb B0.out.size)
      obtain ⟨c0, c1, c2, c3, c4, c5, c6, c7, c8, c9, c10⟩ := Qt.eleven_of ((hb.block w.heap.size (by rw [World.size_alloc]; omega)).trans X0.out)
      clear hb
      go_wp2_with fail
      refine (A3.out _ B1.out).mono ?_
      rintro e w2 ⟨rfl, hb⟩
      have B2 := Lib.hid (wk_then B1.out hb B1.out.size)
      clear hb
      go_wp2_with fail
      go_ret
      exact ⟨by rw [HF3.out]; rfl, B2.out⟩
    · have HF3 := Lib.hid (HF2.out.trans (if_neg h0))
      have q0 : (N == 0) = false := by simpa using h0
      clear h0
      go_enter Tryz.func71, Tryz.ntmps71
      go_wp2_with fail
      refine (A1.out _ (HL.out.below B0.out)).mono ?_
      rintro e w1 ⟨rfl, hb⟩
      have B1 := Lib.hid (wk_then B0.out hb B0.out.size)
      obtain ⟨c0, c1, c2, c3, c4, c5, c6, c7, c8, c9, c10⟩ := Qt.eleven_of ((hb.block w.heap.size (by rw [World.size_alloc]; omega)).trans X0.out)
      clear hb
      go_wp2_with fail
      refine (A3.out _ B1.out).mono ?_
      rintro e w2 ⟨rfl, hb⟩
      have B2 := Lib.hid (wk_then B1.out hb B1.out.size)
      clear hb
      go_wp2_with fail
      go_ret
      exact ⟨by rw [HF3.out]; rfl, B2.out⟩
end Go.Proofs.YtpaleljnkejdgaaGreatDoor
