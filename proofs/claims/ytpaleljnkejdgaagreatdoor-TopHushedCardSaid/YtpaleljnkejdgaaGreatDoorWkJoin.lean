/-
  The walk of week.join: ranges of the call's own, sorted, and put together where they share minutes or touch. Condition: the row is of a size that a machine holds, and its numbers are minutes.
-/
import Derived.Test.YtpaleljnkejdgaaGreatDoorWkSort
import Derived.StillTailTactics
namespace Go.Proofs.YtpaleljnkejdgaaGreatDoor
open Go.RowKit Go.Lib Go.Shelf

/-- One range more. -/
def Wk.jn (acc : List (Int × Int)) (r : Int × Int) : List (Int × Int) :=
  match acc.getLast? with
  | none => [r]
  | some c => if c.2 < r.1 then acc ++ [r] else acc.dropLast ++ [(c.1, max c.2 r.2)]
theorem Wk.jn_nil (r : Int × Int) : Wk.jn [] r = [r] := rfl
theorem Wk.jn_more (d : List (Int × Int)) (c r : Int × Int) (h : c.2 < r.1) : Wk.jn (d ++ [c]) r = (d ++ [c]) ++ [r] := by
  unfold Wk.jn; rw [List.getLast?_concat]; simp only []; rw [if_pos h]
theorem Wk.jn_same (d : List (Int × Int)) (c r : Int × Int) (h : ¬ c.2 < r.1) : Wk.jn (d ++ [c]) r = d ++ [(c.1, max c.2 r.2)] := by
  unfold Wk.jn; rw [List.getLast?_concat]; simp only []; rw [if_neg h, List.dropLast_concat]
theorem Wk.jn_fold (d : List (Int × Int)) (c : Int × Int) (l : List (Int × Int)) : l.foldl Wk.jn (d ++ [c]) = d ++ Wk.joinF c l := by
  induction l generalizing d c with
  | nil => rfl
  | cons r l ih =>
    rw [List.foldl_cons, Wk.joinF]
    by_cases h : c.2 < r.1
    · rw [Wk.jn_more d c r h, if_pos h, ih (d ++ [c]) r, List.append_assoc]; rfl
    · rw [Wk.jn_same d c r h, if_neg h, ih d _]
theorem Wk.jn_join (l : List (Int × Int)) : l.foldl Wk.jn [] = Wk.join l := by
  cases l with
  | nil => rfl
  | cons r l => rw [List.foldl_cons, Wk.jn_nil]; exact Wk.jn_fold [] r l
def Wk.jt (l : List (Int × Int)) (k : Nat) : List (Int × Int) := (l.take k).foldl Wk.jn []
theorem Wk.jt_succ (l : List (Int × Int)) (k : Nat) (h : k < l.length) : Wk.jt l (k + 1) = Wk.jn (Wk.jt l k) l[k] := by
  unfold Wk.jt; rw [List.take_succ_eq_append_getElem h, List.foldl_append]; rfl
theorem Wk.jt_all (l : List (Int × Int)) : Wk.jt l l.length = Wk.join l := by unfold Wk.jt; rw [List.take_length]; exact Wk.jn_join l
theorem Wk.jn_len (a : List (Int × Int)) (r : Int × Int) : (Wk.jn a r).length ≤ a.length + 1 := by
  unfold Wk.jn
  split
  · simp
  · split
    · simp
    · rw [List.length_append, List.length_dropLast]; simp only [List.length_singleton]; omega
theorem Wk.jt_len (l : List (Int × Int)) (k : Nat) : (Wk.jt l k).length ≤ k := by
  induction k with
  | zero => simp [Wk.jt]
  | succ k ih =>
    by_cases h : k < l.length
    · rw [Wk.jt_succ l k h]; have := Wk.jn_len (Wk.jt l k) l[k]; omega
    · have e : Wk.jt l (k + 1) = Wk.jt l k := by unfold Wk.jt; rw [List.take_of_length_le (by omega), List.take_of_length_le (by omega)]
      rw [e]; omega
theorem Wk.rcs_last (d : List (Int × Int)) (c : Int × Int) (m : Int) : (Wk.rcs (d ++ [c])).set (d.length * 2 + 1) (.int .i64 m) = Wk.rcs (d ++ [(c.1, m)]) := by
  rw [Wk.rcs_append, Wk.rcs_append, List.set_append, if_neg (by rw [Wk.rcs_len]; omega), Wk.rcs_len, show d.length * 2 + 1 - d.length * 2 = 1 by omega]
  rfl
theorem Wk.Own.store {w : World} {base g cap : Nat} {d : List (Int × Int)} {c : Int × Int} (h : Wk.Own w base (.slice (some ⟨g, 0, none⟩) (d.length + 1) cap) (d ++ [c])) (m : Int) :
    Wk.Own (w.setCell ⟨g, d.length * 2 + 1, none⟩ (.int .i64 m)) base (.slice (some ⟨g, 0, none⟩) (d.length + 1) cap) (d ++ [(c.1, m)]) := by
  have hlen : (d ++ [c]).length = d.length + 1 := by simp
  have h0 : w.ownsRow base 56 2 (.slice (some ⟨g, 0, none⟩) (d.length + 1) cap) (d ++ [c]).length (Wk.rcs (d ++ [c])) := h
  rw [hlen] at h0
  have := (World.ownsRow.stored h0 (d.length * 2 + 1) (.int .i64 m)).1
  rw [Wk.rcs_last] at this
  have hl2 : (d ++ [(c.1, m)]).length = d.length + 1 := by simp
  unfold Wk.Own
  rw [hl2]
  exact this
/-- The last range of a row of the call's own: where it ends lies there, and may be written. -/
theorem Wk.Own.last {w : World} {base : Nat} {v : Value} {d : List (Int × Int)} {c : Int × Int} (h : Wk.Own w base v (d ++ [c])) :
    ∃ g cap, v = .slice (some ⟨g, 0, none⟩) (d.length + 1) cap ∧ base ≤ g ∧ g < w.heap.size ∧ w.cell? ⟨g, d.length * 2 + 1, none⟩ = some (.int .i64 c.2) ∧ w.frozen? ⟨g, d.length * 2 + 1, none⟩ = false ∧
      ∀ m, Wk.Own (w.setCell ⟨g, d.length * 2 + 1, none⟩ (.int .i64 m)) base v (d ++ [(c.1, m)]) ∧ Below g w (w.setCell ⟨g, d.length * 2 + 1, none⟩ (.int .i64 m)) := by
  have hlen : (d ++ [c]).length = d.length + 1 := by simp
  have h0 : w.ownsRow base 56 2 v (d ++ [c]).length (Wk.rcs (d ++ [c])) := h
  rw [hlen] at h0
  rcases h0.2 with ⟨_, hh⟩ | ⟨g, cap, cur, hv, hg, _⟩
  · omega
  · subst hv
    have hget := (Wk.rcs_get (d ++ [c]) d.length (by simp)).2
    have e2 : (d ++ [c])[d.length]'(by simp) = c := by simp
    rw [e2] at hget
    have hcell : w.cell? ⟨g, d.length * 2 + 1, none⟩ = some (.int .i64 c.2) := (World.ownsRow.cellAt h0 (d.length * 2 + 1) (by omega)).trans hget
    refine ⟨g, cap, rfl, hg, World.block_lt_of_cell? w _ hcell, hcell, World.ownsRow.frozenAt h0 _, fun m => ⟨?_, ?_⟩⟩
    · have := (World.ownsRow.stored h0 (d.length * 2 + 1) (.int .i64 m)).1
      rw [Wk.rcs_last] at this
      have hl2 : (d ++ [(c.1, m)]).length = d.length + 1 := by simp
      unfold Wk.Own
      rw [hl2]
      exact this
    · exact (Below.refl _ _).setCell (p := ⟨g, d.length * 2 + 1, none⟩) (Nat.le_refl _) _
theorem Wk.cases_last (l : List (Int × Int)) : l = [] ∨ ∃ d c, l = d ++ [c] := by
  rcases List.eq_nil_or_concat l with h | ⟨d, c, h⟩
  · exact Or.inl h
  · exact Or.inr ⟨d, c, by rw [h]; simp⟩
theorem wk_two_at (w : World) (n : Nat) (h : n = w.heap.size) (a b : Value) (t : TypeId) : ∀ j u, [a, b][j]? = some u → (w.alloc (.cells #[a, b] t)).cell? ((⟨n, 0, none⟩ : Addr).add j) = some u := by
  subst h
  exact cell_two_new _ _ _ _
def Wk.JoinPost (l : List (Int × Int)) (base : Nat) (w : World) (e : Ending) (w' : World) : Prop :=
  ∃ l' v, l'.Perm l ∧ Wk.Rise l' ∧ e = .returned v ∧ Wk.Own w' base v (Wk.join l') ∧ Below base w w'
set_option maxHeartbeats 4000000 in
set_option maxRecDepth 100000 in
theorem wk_join (l : List (Int × Int)) (w : World) (base : Nat) (v : Value) (hO : Wk.Own w base v l) (hb : base ≤ w.heap.size) (hsz : l.length ≤ 10000) :
    Calls Tryz.prog 36 #[v] w (Wk.JoinPost l base w) := by
  have HS := Lib.hid (wk_sort l w base v hO hb hsz)
  clear hO
  obtain ⟨n0, hn0⟩ : ∃ n0, n0 = l.length := ⟨_, rfl⟩
  have Hn0 := Lib.hid hn0
  rw [← hn0] at hsz
  clear hn0
  go_enter Tryz.func36, Tryz.ntmps36
  go_wp2_with fail
  refine HS.out.mono ?_
  rintro e wS ⟨rfl, s, p, c, hperm, hrise, rfl, hat, hbS⟩
  have HP := Lib.hid hperm
  have HR := Lib.hid hrise
  have HA := Lib.hid hat
  have HB := Lib.hid hbS
  have hbs' : base ≤ wS.heap.size := by have := hbS.size; omega
  obtain ⟨n, hn⟩ : ∃ n, n = s.length := ⟨_, rfl⟩
  have Hn := Lib.hid hn
  have hn1 : n ≤ 10000 := by rw [hn, hperm.length_eq, ← Hn0.out]; exact hsz
  rw [← hn]
  clear hperm hrise hat hbS hn HS
  go_wp2_with fail
  go_loopw [3, 11] (fun v i wr => ∃ k : Nat, k ≤ n ∧ i = .int .i64 k ∧ Wk.Own wr wS.heap.size v (Wk.jt s k) ∧ Below wS.heap.size wS wr) (fun _ i _ => n - (RowKit.intOf i).toNat)
  case atStart => exact ⟨0, Nat.zero_le _, rfl, Wk.Own.nil _ _, Below.refl _ _⟩
  case round =>
    obtain ⟨k, hk, rfl, hO, hBw⟩ := hrel
    have HO := Lib.hid hO
    have HBw := Lib.hid hBw
    have hz := hBw.size
    have hjl := Wk.jt_len s k
    clear hO hBw
    by_cases hlt : k < n
    · have hkl : k < s.length := by rw [← Hn.out]; exact hlt
      obtain ⟨bl, off, rfl, e1, e2⟩ := (HA.out.below HBw.out).get k hkl
      have HJ := Lib.hid (Wk.jt_succ s k hkl)
      obtain ⟨y, hy⟩ : ∃ y, y = s[k] := ⟨_, rfl⟩
      rw [← hy] at e1 e2 HJ
      clear hy hkl
      obtain ⟨y1, y2⟩ := y
      simp only [] at e1 e2
      have hltz : (k : Int) < (n : Int) := by omega
      have BX := Lib.hid (wk_box wr (.cells #[.int .i64 y1, .int .i64 y2] 56))
      have X0 := Lib.hid (wk_new wr (.cells #[.int .i64 y1, .int .i64 y2] 56))
      obtain ⟨i0, hi, hz0, hz1, hz2⟩ := infoRange
      have HI := Lib.hid (And.intro hi (And.intro hz0 (And.intro hz1 hz2)))
      clear hi hz0 hz1 hz2
      rcases Wk.cases_last (Wk.jt s k) with he | ⟨d, c0, he⟩
      · rw [he] at HO HJ hjl
        obtain ⟨p', c', rfl, _⟩ := HO.out.at
        rw [Wk.jn_nil] at HJ
        have hz0 : ((0 : Nat) : Int) - 1 = -1 := by omega
        rw [List.length_nil]
        go_wp2_with fail
        go_quiet (fail)
        obtain ⟨hi, hz0, hz1, hz2⟩ := HI.out
        go_wp2_with (at_builtin; refine wpList_append_own_at _ rfl _ _ 26 rfl wS.heap.size 56 i0 _ 2 16 Tryz.underlying26 hi hz0 hz1 hz2 rfl (by decide) _ _ _ rfl (World.ownsRow.alloc (Wk.Own.below (HO.out.below BX.out) (below_drewN (Below.refl _ _) _)) _) _ 1 1 [.int .i64 y1, .int .i64 y2] rfl rfl ?a1 ?a2 ?a3 ?a4 ?a5 ?_)
        case a1 => exact wk_two_at _ _ (by simp) _ _ _
        case a2 => simp [Value.oneCell']
        case a3 => unfold maxLen; (simp only [List.length_nil]; omega)
        case a4 => (simp only [List.length_nil]; omega)
        case a5 => simp; omega
        intro v9 w9 hown9 hgrow9 _ _
        have O9 := Lib.hid hown9
        have B9 := Lib.hid (HBw.out.trans ((BX.out.mono hz).trans ((below_drewN (Below.refl _ _) _).trans (wk_grown_below (wk_grown_alloc hgrow9) (Wk.Own.below (HO.out.below BX.out) (below_drewN (Below.refl _ _) _)) (by simp; omega)))))
        clear hown9 hgrow9 hi hz0 hz1 hz2
        go_wp2_with fail
        exact ⟨⟨k + 1, by omega, by go_num, by rw [HJ.out]; exact O9.out, B9.out⟩, by simp [RowKit.intOf]; omega⟩
      · rw [he] at HO HJ hjl
        have hdl : (d ++ [c0]).length = d.length + 1 := by simp
        obtain ⟨g, cap, rfl, hg0, hg1, hgc, hgf, hgs⟩ := (HO.out.below BX.out).last
        have HGS := Lib.hid hgs
        obtain ⟨c1, c2⟩ := c0
        have hd1 : ((d.length + 1 : Nat) : Int) - 1 = (d.length : Int) := by omega
        rw [hdl] at hjl
        have Hdl := Lib.hid hdl
        clear hdl hgs
        obtain ⟨dn, hdn⟩ : ∃ dn, dn = d.length := ⟨_, rfl⟩
        have Hdn := Lib.hid hdn
        rw [← hdn] at hjl hgc hgf hd1 HGS Hdl HO ⊢
        simp only [] at hgc
        clear hdn
        have hd0 : (0 : Int) ≤ (dn : Int) := by omega
        obtain ⟨N1, hN1⟩ : ∃ N1, N1 = dn + 1 := ⟨_, rfl⟩
        have HN1 := Lib.hid hN1
        rw [← hN1] at hd1 Hdl hjl HO HGS ⊢
        clear hN1
        have hd2 : (dn : Int) < (N1 : Int) := by have := HN1.out; omega
        have hd4 : decide ((dn : Int) < 0) = false := decide_eq_false (by omega)
        by_cases hcr : c2 < y1
        · rw [Wk.jn_more d (c1, c2) (y1, y2) hcr] at HJ
          go_wp2_with fail
          go_quiet (fail)
          obtain ⟨hi, hz0, hz1, hz2⟩ := HI.out
          go_wp2_with (at_builtin; refine wpList_append_own_at _ rfl _ _ 26 rfl wS.heap.size 56 i0 _ 2 16 Tryz.underlying26 hi hz0 hz1 hz2 rfl (by decide) _ _ _ rfl (World.ownsRow.alloc (Wk.Own.below (HO.out.below BX.out) (below_drewN (Below.refl _ _) _)) _) _ 1 1 [.int .i64 y1, .int .i64 y2] rfl rfl ?b1 ?b2 ?b3 ?b4 ?b5 ?_)
          case b1 => exact wk_two_at _ _ (by simp) _ _ _
          case b2 => simp [Value.oneCell']
          case b3 => unfold maxLen; (rw [Hdl.out]; omega)
          case b4 => (rw [Hdl.out]; omega)
          case b5 => simp; omega
          intro v9 w9 hown9 hgrow9 _ _
          have O9 := Lib.hid hown9
          have B9 := Lib.hid (HBw.out.trans ((BX.out.mono hz).trans ((below_drewN (Below.refl _ _) _).trans (wk_grown_below (wk_grown_alloc hgrow9) (Wk.Own.below (HO.out.below BX.out) (below_drewN (Below.refl _ _) _)) (by simp; omega)))))
          clear hown9 hgrow9 hi hz0 hz1 hz2
          go_wp2_with fail
          exact ⟨⟨k + 1, by omega, by go_num, by rw [HJ.out]; unfold Wk.Own; rw [Wk.rcs_append, show (d ++ [(c1, c2)] ++ [(y1, y2)]).length = d.length + 1 + 1 by simp]; exact O9.out, B9.out⟩, by simp [RowKit.intOf]; omega⟩
        · rw [Wk.jn_same d (c1, c2) (y1, y2) hcr] at HJ
          have hcr2 : y1 ≤ c2 := by omega
          clear hcr
          go_wp2_with fail
          go_quiet (fail)
          go_wp2_with fail
          have BQ := Lib.hid (show Below (wr.alloc (.cells #[.int .i64 y1, .int .i64 y2] 56)).heap.size (wr.alloc (.cells #[.int .i64 y1, .int .i64 y2] 56)) ((wr.alloc (.cells #[.int .i64 y1, .int .i64 y2] 56)).drewN nq) from below_drewN (Below.refl _ _) _)
          generalize (wr.alloc (.cells #[.int .i64 y1, .int .i64 y2] 56)).drewN nq = wq at BQ ⊢
          have XQ := Lib.hid ((BQ.out.block wr.heap.size (by rw [World.size_alloc]; omega)).trans X0.out)
          obtain ⟨x0, x1, f0, f1⟩ := Wk.two_of XQ.out
          have gq := (BQ.out.cell (p := ⟨g, dn * 2 + 1, none⟩) hg1).trans hgc
          have gf := (BQ.out.frozen (p := ⟨g, dn * 2 + 1, none⟩) hg1).trans hgf
          clear e1 e2 hgc hgf
          go_still_tail 12, (by kernel_rfl)
          change wpList _ _ _ _ _ wq.drew
          have BD := Lib.hid ((Below.refl wq.heap.size wq).drew)
          generalize wq.drew = wd at BD ⊢
          have gd0 := BQ.out.size
          have hgq : g < wq.heap.size := by omega
          have gq2 := (BD.out.cell (p := ⟨g, dn * 2 + 1, none⟩) hgq).trans gq
          have gf2 := (BD.out.frozen (p := ⟨g, dn * 2 + 1, none⟩) hgq).trans gf
          have OD := Lib.hid (((HO.out.below BX.out).below BQ.out).below BD.out)
          rw [HN1.out, Hdn.out] at OD
          have OE := Lib.hid (OD.out.store (max c2 y2))
          rw [← Hdn.out, ← HN1.out] at OE
          have BE := Lib.hid (((HBw.out.trans (BX.out.mono hz)).trans (BQ.out.mono (by rw [World.size_alloc]; omega))).trans (BD.out.mono (by rw [World.size_alloc] at gd0; omega)))
          have BF := Lib.hid (BE.out.setCell (p := ⟨g, dn * 2 + 1, none⟩) hg0 (.int .i64 (max c2 y2)))
          clear gq gf x0 x1 f0 f1 gd0
          go_wp2_with fail
          exact ⟨⟨k + 1, by omega, by go_num, by rw [HJ.out]; exact OE.out, BF.out⟩, by simp [RowKit.intOf]; omega⟩
    · obtain rfl : k = n := by omega
      have HS2 := Lib.hid (show Wk.jt s k = Wk.join s by rw [Hn.out]; exact Wk.jt_all s)
      rw [HS2.out] at HO
      go_wp2_with fail
      go_ret
      exact ⟨s, u3, HP.out, HR.out, rfl, HO.out.mono hbs', HB.out.trans (HBw.out.mono hbs')⟩
end Go.Proofs.YtpaleljnkejdgaaGreatDoor
