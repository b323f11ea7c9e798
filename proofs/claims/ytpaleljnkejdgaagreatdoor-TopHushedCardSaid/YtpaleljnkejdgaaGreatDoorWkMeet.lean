/-
  The walk of week.And: the minutes that two weeks both have. Condition: a week's list is of a size that a machine holds.
-/
import Derived.Test.YtpaleljnkejdgaaGreatDoorWkFit
import Derived.Lib.MinMax
namespace Go.Proofs.YtpaleljnkejdgaaGreatDoor
open Go.RowKit Go.Lib Go.Shelf

/-- A week that a call hands back, with why it is none. -/
def Wk.WeekPost (l : List (Int × Int)) (r : Int) (w : World) (e : Ending) (w' : World) : Prop := ∃ p c, e = .returned (.tuple #[.slice p l.length c, .int .i64 r]) ∧ Wk.At w' p l ∧ Below w.heap.size w w'
/-- What And tells. -/
def Wk.andL (a b : List (Int × Int)) : List (Int × Int) := if Wk.Ok a ∧ Wk.Ok b then Wk.fitL (Wk.both a b) else []
def Wk.andC (a b : List (Int × Int)) : Int := if Wk.Ok a ∧ Wk.Ok b then Wk.fitC (Wk.both a b) else 2
theorem Wk.both_take (a b : List (Int × Int)) (k : Nat) (h : k < a.length) : Wk.both (a.take (k + 1)) b = Wk.both (a.take k) b ++ Wk.meet a[k] b := by
  unfold Wk.both
  rw [List.take_succ_eq_append_getElem h, List.flatMap_append, List.flatMap_singleton]
theorem Wk.meet_take (r : Int × Int) (b : List (Int × Int)) (k : Nat) (h : k < b.length) : Wk.meet r (b.take (k + 1)) = Wk.meet r (b.take k) ++ Wk.rg (max r.1 b[k].1) (min r.2 b[k].2) := by
  unfold Wk.meet
  rw [List.take_succ_eq_append_getElem h, List.flatMap_append, List.flatMap_singleton]
theorem Wk.both_meet_len (a b : List (Int × Int)) (r : Int × Int) (k j : Nat) (ha : a.length ≤ 64) (hb : b.length ≤ 64) : (Wk.both (a.take k) b ++ Wk.meet r (b.take j)).length ≤ 5000 := by
  rw [List.length_append]
  have h1 := Wk.both_len (a.take k) b
  have h2 := Wk.meet_len r (b.take j)
  have h3 : (a.take k).length ≤ 64 := by rw [List.length_take]; omega
  have h4 : (b.take j).length ≤ 64 := by rw [List.length_take]; omega
  have h5 : (a.take k).length * b.length ≤ 64 * 64 := Nat.mul_le_mul h3 hb
  omega
set_option maxHeartbeats 4000000 in
set_option maxRecDepth 100000 in
theorem wk_And (a b : List (Int × Int)) (p q : Option Addr) (c d : Nat) (w : World) (hA : Wk.At w p a) (hB : Wk.At w q b) (hn : a.length ≤ 140737488351232) (hm : b.length ≤ 140737488351232) :
    Calls Tryz.prog 19 #[.slice p a.length c, .slice q b.length d] w (Wk.WeekPost (Wk.andL a b) (Wk.andC a b) w) := by
  have HC := Lib.hid (wk_checkBoth a b p q c d w hA hB hn hm)
  unfold Wk.andL Wk.andC
  by_cases ho : Wk.Ok a ∧ Wk.Ok b
  · rw [show Wk.chkB a b = 0 from if_pos ho] at HC
    rw [if_pos ho, if_pos ho]
    have ha64 := ho.1.1
    have hb64 := ho.2.1
    have hgl : (Wk.both a b).length ≤ 100000 := by have := Wk.both_len a b; have h5 : a.length * b.length ≤ 64 * 64 := Nat.mul_le_mul ha64 hb64; omega
    have HF := Lib.hid (fun p c w1 (h : Wk.At w1 p (Wk.both a b)) => wk_fit (Wk.both a b) p c w1 h hgl)
    have HL := Lib.hid (fun r k j => Wk.both_meet_len a b r k j ha64 hb64)
    have HAll := Lib.hid (show Wk.both (a.take a.length) b = Wk.both a b by rw [List.take_length])
    have HMll := Lib.hid (show ∀ r, Wk.meet r (b.take b.length) = Wk.meet r b by intro r; rw [List.take_length])
    have HA := Lib.hid hA
    have HB := Lib.hid hB
    clear ho hgl hA hB
    obtain ⟨n, hnl⟩ : ∃ n, n = a.length := ⟨_, rfl⟩
    obtain ⟨m, hml⟩ : ∃ m, m = b.length := ⟨_, rfl⟩
    have Hn := Lib.hid hnl
    have Hm := Lib.hid hml
    rw [← hnl] at ha64 HC HAll
    rw [← hml] at hb64 HC HMll
    rw [← hnl, ← hml]
    clear hnl hml hn hm
    go_enter Tryz.func19, Tryz.ntmps19
    go_wp2_with fail
    refine HC.out.mono ?_
    rintro e w1 ⟨rfl, hb⟩
    have HB1 := Lib.hid hb
    clear hb
    go_wp2_with fail
    go_loopw [7, 20] (fun v i wr => ∃ k : Nat, k ≤ n ∧ i = .int .i64 k ∧ Wk.Own wr w.heap.size v (Wk.both (a.take k) b) ∧ Below w.heap.size w wr) (fun _ i _ => n - (RowKit.intOf i).toNat)
    case atStart => exact ⟨0, Nat.zero_le _, rfl, Wk.Own.nil _ _, HB1.out⟩
    case round =>
      obtain ⟨k, hk, rfl, hO, hBw⟩ := hrel
      obtain ⟨W0, hW0⟩ : ∃ W0, W0 = wr := ⟨_, rfl⟩
      subst hW0
      have HO := Lib.hid hO
      have HBw := Lib.hid hBw
      have hz := hBw.size
      clear hO hBw
      by_cases hlt : k < n
      · have hkl : k < a.length := by rw [← Hn.out]; exact hlt
        obtain ⟨bl, off, rfl, e1, e2⟩ := (HA.out.below HBw.out).get k hkl
        have HS := Lib.hid (Wk.both_take a b k hkl)
        obtain ⟨y, hy⟩ : ∃ y, y = a[k] := ⟨_, rfl⟩
        rw [← hy] at e1 e2 HS
        clear hy hkl
        obtain ⟨y1, y2⟩ := y
        simp only [] at e1 e2
        have X0 := Lib.hid (wk_new W0 (.cells #[.int .i64 y1, .int .i64 y2] 56))
        have B0 := Lib.hid (HBw.out.alloc hz (.cells #[.int .i64 y1, .int .i64 y2] 56))
        have O0 := Lib.hid (HO.out.below (wk_box W0 (.cells #[.int .i64 y1, .int .i64 y2] 56)))
        have hltz : (k : Int) < (n : Int) := by omega
        go_wp2_with fail
        go_loopw [7, 26] (fun v i wi => ∃ j : Nat, j ≤ m ∧ i = .int .i64 j ∧ Wk.Own wi w.heap.size v (Wk.both (a.take k) b ++ Wk.meet (y1, y2) (b.take j)) ∧ Below w.heap.size w wi ∧ wi.heap[W0.heap.size]? = some (.cells #[.int .i64 y1, .int .i64 y2] 56 (0, 0)) ∧ (∀ g, v.ownBlock = some g → g ≠ W0.heap.size)) (fun _ i _ => m - (RowKit.intOf i).toNat)
        case atStart =>
          refine ⟨0, Nat.zero_le _, rfl, ?_, B0.out, X0.out, fun g hg => ?_⟩
          · have e : Wk.both (a.take k) b ++ Wk.meet (y1, y2) (b.take 0) = Wk.both (a.take k) b := by simp [Wk.meet]
            rw [e]
            exact O0.out
          · have := (HO.out.lt g hg).2
            omega
        case round =>
          obtain ⟨j, hj, rfl, hOi, hBi, hXi, hgi⟩ := hrel
          have HOi := Lib.hid hOi
          have HBi := Lib.hid hBi
          have HXi := Lib.hid hXi
          have Hgi := Lib.hid hgi
          have hzi := hBi.size
          clear hOi hBi hXi hgi
          by_cases hlt2 : j < m
          · have hjl : j < b.length := by rw [← Hm.out]; exact hlt2
            obtain ⟨bl2, off2, rfl, d1, d2⟩ := (HB.out.below HBi.out).get j hjl
            have HM := Lib.hid (Wk.meet_take (y1, y2) b j hjl)
            obtain ⟨z, hz⟩ : ∃ z, z = b[j] := ⟨_, rfl⟩
            rw [← hz] at d1 d2 HM
            clear hz hjl
            obtain ⟨z1, z2⟩ := z
            simp only [] at d1 d2 HM
            have hszr : W0.heap.size < wr.heap.size := by
              have h1 : wr.cell? ⟨W0.heap.size, 0, none⟩ = some (.int .i64 y1) := by rw [Lib.cell_of_heap HXi.out]; rfl
              exact World.block_lt_of_cell? wr _ h1
            have X1 := Lib.hid ((wk_past wr (.cells #[.int .i64 z1, .int .i64 z2] 56) W0.heap.size hszr).trans HXi.out)
            have BX := Lib.hid (wk_box wr (.cells #[.int .i64 z1, .int .i64 z2] 56))
            have HW := Lib.hid (wk_with _ (max y1 z1) (min y2 z2) _ w.heap.size _ (HOi.out.below BX.out) (by have := HL.out (y1, y2) k j; omega) (by rw [World.size_alloc]; omega))
            have hltz2 : (j : Int) < (m : Int) := by omega
            obtain ⟨c0, c1, f0, f1⟩ := Wk.two_of X1.out
            clear e1 e2
            go_wp2_with fail
            refine HW.out.mono ?_
            rintro e w2 ⟨v2, rfl, hO2, hg2, hk2⟩
            have HO2 := Lib.hid hO2
            have X2 := Lib.hid ((hg2.block W0.heap.size (by rw [World.size_alloc]; omega) (fun e => Hgi.out _ e.symm rfl)).trans X1.out)
            have B2 := Lib.hid (HBi.out.trans ((BX.out.mono hzi).trans (wk_grown_below hg2 (HOi.out.below BX.out) (by rw [World.size_alloc]; omega))))
            have G2 := Lib.hid (show ∀ g, v2.ownBlock = some g → g ≠ W0.heap.size from fun g hg => by
              rcases hk2 g hg with h | h
              · exact Hgi.out g h
              · rw [World.size_alloc] at h; omega)
            clear hO2 hg2 hk2 c0 c1 f0 f1 d1 d2
            go_wp2_with fail
            exact ⟨⟨j + 1, by omega, by go_num, by rw [HM.out, ← List.append_assoc]; exact HO2.out, B2.out, X2.out, G2.out⟩, by simp [RowKit.intOf]; omega⟩
          · obtain rfl : j = m := by omega
            go_wp2_with fail
            exact ⟨⟨k + 1, by omega, by go_num, by rw [HS.out, ← HMll.out]; exact HOi.out, HBi.out⟩, by simp [RowKit.intOf]; omega⟩
      · obtain rfl : k = n := by omega
        rw [HAll.out] at HO
        obtain ⟨p2, c2, rfl, hA2⟩ := HO.out.at
        have HA2 := Lib.hid hA2
        clear hA2
        go_wp2_with fail
        refine (HF.out _ _ _ HA2.out).mono ?_
        rintro e w3 ⟨⟨p3, c3, rfl, hA3⟩, rfl⟩
        have HA3 := Lib.hid hA3
        clear hA3
        go_wp2_with fail
        go_ret2
        exact ⟨p3, c3, rfl, HA3.out, HBw.out⟩
  · rw [show Wk.chkB a b = 2 from if_neg ho] at HC
    rw [if_neg ho, if_neg ho]
    clear ho hA hB
    generalize a.length = n at *
    generalize b.length = m at *
    go_enter Tryz.func19, Tryz.ntmps19
    go_wp2_with fail
    refine HC.out.mono ?_
    rintro e w1 ⟨rfl, hb⟩
    go_wp2_with fail
    go_ret2
    exact ⟨none, 0, rfl, Wk.At.nil _ _, hb⟩
end Go.Proofs.YtpaleljnkejdgaaGreatDoor
