
/-
  The walk of heap.Make: a right heap of timers, or why there is none. Condition: at most 1000000 timers.
-/
import Derived.Test.YtlbifinkjghgaaaHpWo
namespace Go.Proofs.Ytlbifinkjghgaaa
open Go.RowKit Go.Lib Go.Sort Go.Shelf

noncomputable def Hp.mkL (l : List (Int × Int × Int × Int)) : List (Int × Int × Int × Int) := if Hp.tw l = true then [] else if 4096 < l.length then [] else Hp.makeF l
noncomputable def Hp.mkC (l : List (Int × Int × Int × Int)) : Int := if Hp.tw l = true then 4 else if 4096 < l.length then 8 else 0
/-- Timers and an error number as a result. -/
def Hp.Got (r : List (Int × Int × Int × Int)) (z : Int) (w : World) (e : Ending) (w' : World) : Prop :=
  ∃ p c, e = .returned (.tuple #[.slice p r.length c, .int .i64 z]) ∧ Hp.At w' p r ∧ Below w.heap.size w w'
theorem hp_parent_neg (w : World) : Calls Try.prog 12 #[.int .i64 (-1)] w fun e w' => e = .returned (.int .i64 (-1)) ∧ w' = w := by
  go_enter Try.func12, Try.ntmps12
  go_wp2_with fail
  go_ret
  exact ⟨rfl, rfl⟩
set_option maxHeartbeats 4000000 in
set_option maxRecDepth 100000 in
theorem hp_Make (l : List (Int × Int × Int × Int)) (p : Option Addr) (c : Nat) (w : World) (hA : Hp.At w p l) (hn : l.length ≤ 1000000) :
    Calls Try.prog 5 #[.slice p l.length c] w (Hp.Got (Hp.mkL l) (Hp.mkC l) w) := by
  have CT := Lib.hid (hp_twice l p c w hA hn)
  have CC := Lib.hid (fun W h => hp_Clone l p c W h hn)
  have AL := Lib.hid hA
  have HR := Lib.hid (show Hp.mkL l = if Hp.tw l = true then [] else if 4096 < l.length then [] else Hp.makeF l from rfl)
  have HZ := Lib.hid (show Hp.mkC l = if Hp.tw l = true then 4 else if 4096 < l.length then 8 else 0 from rfl)
  have HF := Lib.hid (show Hp.makeF l = Hp.heapF (if l.length = 0 then 0 else (l.length - 2) / 2 + 1) l from rfl)
  have HFl := Lib.hid (Hp.makeF_perm l).length_eq
  generalize Hp.mkL l = R at *
  generalize Hp.mkC l = Z at *
  generalize Hp.tw l = b at *
  clear hA
  cases b with
  | true =>
    have E1 := Lib.hid (HR.out.trans (if_pos rfl))
    have E2 := Lib.hid (HZ.out.trans (if_pos rfl))
    generalize l.length = n at *
    go_enter Try.func5, Try.ntmps5
    go_wp2_with fail
    refine CT.out.mono ?_
    rintro e w1 ⟨rfl, hb⟩
    have B1 := Lib.hid hb
    clear hb
    go_wp2_with fail
    go_ret2
    rw [E1.out, E2.out]
    exact ⟨none, 0, rfl, Hp.At.nil _ _, B1.out⟩
  | false =>
    by_cases hbig : 4096 < l.length
    · have E1 := Lib.hid (HR.out.trans ((if_neg (by simp)).trans (if_pos hbig)))
      have E2 := Lib.hid (HZ.out.trans ((if_neg (by simp)).trans (if_pos hbig)))
      generalize l.length = n at *
      have q1 : (4096 : Int) < (n : Int) := by omega
      go_enter Try.func5, Try.ntmps5
      go_wp2_with fail
      refine CT.out.mono ?_
      rintro e w1 ⟨rfl, hb⟩
      have B1 := Lib.hid hb
      clear hb
      go_wp2_with fail
      go_ret2
      rw [E1.out, E2.out]
      exact ⟨none, 0, rfl, Hp.At.nil _ _, B1.out⟩
    · have E1 := Lib.hid (HR.out.trans ((if_neg (by simp)).trans (if_neg hbig)))
      have E2 := Lib.hid (HZ.out.trans ((if_neg (by simp)).trans (if_neg hbig)))
      by_cases h0 : l.length = 0
      · have hnil : l = [] := List.length_eq_zero_iff.1 h0
        have E3 := Lib.hid (show R = [] by rw [E1.out, hnil]; rfl)
        rw [h0] at CT CC
        rw [h0]
        clear h0 hbig hn
        go_enter Try.func5, Try.ntmps5
        go_wp2_with fail
        refine CT.out.mono ?_
        rintro e w1 ⟨rfl, hb⟩
        have A1 := Lib.hid (AL.out.below hb)
        have B1 := Lib.hid hb
        clear hb
        go_wp2_with fail
        refine (CC.out _ A1.out).mono ?_
        rintro e w2 ⟨v, rfl, hO, hb⟩
        obtain ⟨p2, c2, rfl, hA2⟩ := hO.at
        rw [hnil]
        have B2 := Lib.hid (hp_then B1.out hb B1.out.size)
        clear hb hO hA2 hnil
        simp only [List.length_nil]
        go_wp2_with fail
        refine (hp_parent_neg _).mono ?_
        rintro e w3 ⟨rfl, rfl⟩
        go_wp2_with fail
        go_loopw [5] (fun a wr => a = .int .i64 (-1) ∧ wr = w3) (fun _ _ => 0)
        case atStart => exact ⟨rfl, rfl⟩
        case round =>
          obtain ⟨rfl, rfl⟩ := hrel
          go_wp2_with fail
          go_ret2
          rw [E2.out, E3.out]
          exact ⟨p2, c2, rfl, Hp.At.nil _ _, B2.out⟩
      · obtain ⟨la, hla⟩ : ∃ la, la + 1 = l.length := ⟨l.length - 1, by omega⟩
        have HL := Lib.hid hla
        have E3 := Lib.hid (show R = Hp.heapF ((la - 1) / 2 + 1) l by rw [E1.out, HF.out, if_neg h0]; congr 1; omega)
        rw [← hla] at CT CC hn hbig
        rw [← hla]
        clear hla h0
        have q1 : ¬ (4096 : Int) < (la : Int) + 1 := by omega
        go_enter Try.func5, Try.ntmps5
        go_wp2_with fail
        refine CT.out.mono ?_
        rintro e w1 ⟨rfl, hb⟩
        have A1 := Lib.hid (AL.out.below hb)
        have B1 := Lib.hid hb
        clear hb
        go_wp2_with fail
        refine (CC.out _ A1.out).mono ?_
        rintro e w2 ⟨v, rfl, hO, hb⟩
        rcases hO.blk with ⟨hz0, _⟩ | ⟨g, cap, rest, rfl, hg, hBk, _, _⟩
        · exact absurd HL.out (by rw [hz0]; simp)
        rw [← HL.out]
        have HB2 := Lib.hid hBk
        have B2 := Lib.hid (hp_then B1.out hb B1.out.size)
        have hgw : w.heap.size ≤ g := Nat.le_trans B1.out.size hg
        have GL := Lib.hid hBk.lt
        clear hb hO hBk hg
        go_wp2_with fail
        refine (hp_parent la _ (by omega)).mono ?_
        rintro e w3 ⟨rfl, rfl⟩
        go_wp2_with fail
        go_loopw [5] (fun a wr => ∃ (k : Nat) (m : List (Int × Int × Int × Int)), a = .int .i64 ((k : Int) - 1) ∧ k ≤ la + 1 ∧ Hid (m.length = la + 1 ∧ Hp.heapF k m = R ∧ Hp.Blk wr g m rest) ∧ w3.grownBy wr (some g)) (fun a _ => (RowKit.intOf a + 1).toNat)
        case atStart => exact ⟨(la - 1) / 2 + 1, l, by congr 1; omega, by omega, Lib.hid ⟨HL.out.symm, E3.out.symm, HB2.out⟩, hp_grown_refl _ _⟩
        case round =>
          obtain ⟨k, m, rfl, hk, HM, hgr⟩ := hrel
          have HG := Lib.hid hgr
          have hgz := hgr.size
          clear hgr
          cases k with
          | zero =>
            have hR := HM.out.2.1
            have HA := Lib.hid (show Hp.At wr (some ⟨g, 0, none⟩) R by rw [← hR]; exact HM.out.2.2.at)
            have HRl := Lib.hid (show R.length = la + 1 by rw [← hR]; exact HM.out.1)
            have B3 := Lib.hid (B2.out.grown HG.out B2.out.size (fun k hk => by cases hk; exact hgw))
            clear hR
            go_wp2_with fail
            go_ret2
            rw [E2.out]
            exact ⟨some ⟨g, 0, none⟩, cap, by rw [HRl.out]; rfl, HA.out, B3.out⟩
          | succ k =>
            have hkl : k < m.length := by rw [HM.out.1]; omega
            have CS := Lib.hid (hp_sink m.length m k g cap rest wr hkl (by rw [HM.out.1]; omega) (by omega) HM.out.2.2)
            have HP := Lib.hid ((Hp.sink_perm m.length m k hkl).length_eq)
            have HH := Lib.hid (show Hp.heapF (k + 1) m = Hp.heapF k (Hp.sinkF m.length m k) from rfl)
            generalize Hp.sinkF m.length m k = m2 at *
            rw [HM.out.1] at CS
            clear hkl
            have e1 : (((k + 1 : Nat) : Int) - 1) = (k : Int) := by omega
            rw [e1]
            clear e1
            go_wp2_with fail
            refine CS.out.mono ?_
            rintro e w4 ⟨rfl, hb4, hg4⟩
            have H4 := Lib.hid hb4
            have G4 := Lib.hid (hp_grown_trans HG.out hg4)
            clear hb4 hg4
            go_wp2_with fail
            exact ⟨⟨k, m2, rfl, by omega, Lib.hid ⟨HP.out.trans HM.out.1, HH.out.symm.trans HM.out.2.1, H4.out⟩, G4.out⟩, by simp [RowKit.intOf]⟩
end Go.Proofs.Ytlbifinkjghgaaa
