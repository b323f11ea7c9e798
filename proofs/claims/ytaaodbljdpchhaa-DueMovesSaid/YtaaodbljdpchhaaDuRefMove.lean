/-
  The walk of the document's Move for timers. Condition: the list is of a size that a machine holds.
-/
import Derived.Test.YtaaodbljdpchhaaDueDrainsLaw
namespace Go.Proofs.Ytaaodbljdpchhaa
open Go.RowKit Go.Lib Go.Sort Go.Shelf

set_option maxRecDepth 100000 in
theorem ref_SortedO15 (l : List (Int × Int × Int × Int)) (p : Option Addr) (c : Nat) (w : World) (hA : Hp.At w p l) (hn : l.length ≤ 140737488351232) :
    Calls Try.prog 18 #[.slice p l.length c] w (Hp.GotO (Hp.soL l) (Hp.chk l) w) := by
  have HOk := Lib.hid (fun h : Hp.Ok l => (show Hp.soL l = Hp.srt l from if_pos h))
  have HNo := Lib.hid (fun h : ¬ Hp.Ok l => (show Hp.soL l = [] from if_neg h))
  have CK := Lib.hid (fun W h => ref_Check15 l p c W h hn)
  have A0 := Lib.hid hA
  generalize Hp.soL l = R at *
  clear hA
  by_cases hok : Hp.Ok l
  · have E1 := Lib.hid (HOk.out hok)
    rw [Hp.chk_ok hok] at CK ⊢
    have CS := Lib.hid (fun W hA => ref_Sort15 l p c W hA (by have := hok.1; omega))
    generalize Hp.srt l = S at *
    clear hok HOk HNo
    generalize l.length = n at *
    go_enter Try.func18, Try.ntmps18
    go_wp2_with fail
    refine (CK.out _ A0.out).mono ?_
    rintro e w1 ⟨rfl, hb⟩
    have A1 := Lib.hid (A0.out.below hb)
    have B1 := Lib.hid hb
    clear hb
    go_wp2_with fail
    refine (CS.out _ A1.out).mono ?_
    rintro e w2 ⟨v, rfl, hO, hb⟩
    have S2 := Lib.hid (hO.mono B1.out.size)
    obtain ⟨pv, cv, rfl, hA2⟩ := hO.at
    have B2 := Lib.hid (hp_then B1.out hb B1.out.size)
    clear hb hA2 hO
    go_wp2_with fail
    go_ret2
    rw [E1.out]
    exact ⟨_, rfl, S2.out, B2.out⟩
  · have E1 := Lib.hid (HNo.out hok)
    rw [Hp.chk_bad hok] at CK ⊢
    clear hok HOk HNo
    generalize l.length = n at *
    go_enter Try.func18, Try.ntmps18
    go_wp2_with fail
    refine (CK.out _ A0.out).mono ?_
    rintro e w1 ⟨rfl, hb⟩
    have B1 := Lib.hid hb
    clear hb
    go_wp2_with fail
    go_ret2
    rw [E1.out]
    exact ⟨_, rfl, Hp.Own.nil _ _, B1.out⟩
/-- The document's answer to Move. -/
noncomputable def Du.mvL (S : List (Int × Int × Int × Int)) (z s d : Int) : List (Int × Int × Int × Int) := if z ≠ 0 then [] else if Hp.idx S s < S.length then Hp.srt (S.set (Hp.idx S s) (d, (Hp.g S (Hp.idx S s)).2.1, (Hp.g S (Hp.idx S s)).2.2.1, (Hp.g S (Hp.idx S s)).2.2.2)) else S
noncomputable def Du.mvC (S : List (Int × Int × Int × Int)) (z s : Int) : Int := if z ≠ 0 then z else if Hp.idx S s < S.length then 0 else 3
theorem Du.set_first {w : World} {g : Nat} {l : List (Int × Int × Int × Int)} {rest : List Value} (h : Hp.Blk w g l rest) (i : Nat) (hi : i < l.length) (d : Int) : Hp.Blk (w.setCell ⟨g, i * 4, none⟩ (.int .i64 d)) g (l.set i (d, (Hp.g l i).2.1, (Hp.g l i).2.2.1, (Hp.g l i).2.2.2)) rest := by
  unfold Hp.Blk
  rw [hp_cells_set h]
  have hl := Hp.rcs_len l
  have hg := Hp.rcs_get l i hi
  rw [Hp.g_eq _ _ hi]
  have e : ((Hp.rcs l).set (i * 4) (.int .i64 d)) = Hp.rcs (l.set i (d, l[i].2.1, l[i].2.2.1, l[i].2.2.2)) := by
    rw [Hp.rcs_set]
    refine List.ext_getElem? fun k => ?_
    simp only [List.getElem?_set, List.length_set]
    have h1 := hg.2.1
    have h2 := hg.2.2.1
    have h3 := hg.2.2.2
    by_cases k3 : i * 4 + 3 = k
    · subst k3
      rw [if_neg (by omega), if_pos rfl, if_pos (by omega), h3]
    · rw [if_neg k3]
      by_cases k2 : i * 4 + 2 = k
      · subst k2
        rw [if_neg (by omega), if_pos rfl, if_pos (by omega), h2]
      · rw [if_neg k2]
        by_cases k1 : i * 4 + 1 = k
        · subst k1
          rw [if_neg (by omega), if_pos rfl, if_pos (by omega), h1]
        · rw [if_neg k1]
  rw [← e]
  simp [List.set_append_left _ _ (show i * 4 < (Hp.rcs l).length by omega)]
set_option maxHeartbeats 4000000 in
set_option maxRecDepth 100000 in
theorem ref_Move16 (l : List (Int × Int × Int × Int)) (s d : Int) (p : Option Addr) (c : Nat) (w : World) (hA : Hp.At w p l) (hn : l.length ≤ 140737488351232) :
    Calls Try.prog 35 #[.slice p l.length c, .int .i64 s, .int .i64 d] w (Hp.Got (Du.mvL (Hp.soL l) (Hp.chk l) s d) (Du.mvC (Hp.soL l) (Hp.chk l) s) w) := by
  have CS := Lib.hid (ref_SortedO15 l p c w hA hn)
  have hS4 := @Du.soL_le l
  generalize Hp.soL l = S at *
  generalize Hp.chk l = z at *
  have HML := Lib.hid (show Du.mvL S z s d = if z ≠ 0 then [] else if Hp.idx S s < S.length then Hp.srt (S.set (Hp.idx S s) (d, (Hp.g S (Hp.idx S s)).2.1, (Hp.g S (Hp.idx S s)).2.2.1, (Hp.g S (Hp.idx S s)).2.2.2)) else S from rfl)
  have HMC := Lib.hid (show Du.mvC S z s = if z ≠ 0 then z else if Hp.idx S s < S.length then 0 else 3 from rfl)
  generalize Du.mvL S z s d = R at *
  generalize Du.mvC S z s = Z at *
  clear hA hn
  generalize l.length = n at *
  by_cases hz : z = 0
  · have CF := Lib.hid (fun W q c2 (h : Hp.At W q S) => ref_Find15 S s q c2 W h (by omega))
    rw [show Hp.plc S s = if Hp.idx S s < S.length then (Hp.idx S s : Int) else -1 from rfl] at CF
    by_cases hi : Hp.idx S s < S.length
    · have E1 := Lib.hid (HML.out.trans ((if_neg (by simp [hz])).trans (if_pos hi)))
      have E2 := Lib.hid (HMC.out.trans ((if_neg (by simp [hz])).trans (if_pos hi)))
      rw [if_pos hi] at CF
      generalize Hp.idx S s = i at *
      subst hz
      clear HML HMC
      have CR := Lib.hid (fun W q c2 (h : Hp.At W q (S.set i (d, (Hp.g S i).2.1, (Hp.g S i).2.2.1, (Hp.g S i).2.2.2))) => ref_Sort15 _ q c2 W h (by rw [List.length_set]; omega))
      rw [List.length_set] at CR
      have HSF := Lib.hid (fun W g rest (h : Hp.Blk W g S rest) => Du.set_first h i hi d)
      generalize S.set i (d, (Hp.g S i).2.1, (Hp.g S i).2.2.1, (Hp.g S i).2.2.2) = S' at *
      have q1 : (i : Int) < (S.length : Int) := by omega
      have q2 : (0 : Int) ≤ (i : Int) := by omega
      have q3 : decide ((i : Int) < 0) = false := by simp
      go_enter Try.func35, Try.ntmps35
      go_wp2_with fail
      refine CS.out.mono ?_
      rintro e w1 ⟨v, rfl, hO, hb⟩
      rcases hO.blk with ⟨h0, _⟩ | ⟨g, cap, rest, rfl, hg, hB, hc, hm⟩
      · rw [h0] at hi; simp at hi
      · have K1 := Lib.hid hB
        have B1 := Lib.hid hb
        have G := Lib.hid hg
        clear hO hB hb hg hc hm
        go_wp2_with fail
        refine (CF.out _ _ _ K1.out.at).mono ?_
        rintro e w2 ⟨rfl, hb⟩
        have hK2 := K1.out.below hb K1.out.lt
        have B2 := Lib.hid (hp_then B1.out hb B1.out.size)
        obtain ⟨e1, _, _, _⟩ := hK2.cell i hi
        have fz := hK2.frozen
        have K3 := Lib.hid (HSF.out w2 g rest hK2).at
        have B3 := Lib.hid (B2.out.setCell (p := ⟨g, i * 4, none⟩) G.out (.int .i64 d))
        clear hb hK2
        go_wp2_with fail
        refine (CR.out _ _ _ K3.out).mono ?_
        rintro e w3 ⟨v, rfl, hO, hb⟩
        obtain ⟨pv, cv, rfl, hA2⟩ := hO.at
        have A4 := Lib.hid hA2
        have B4 := Lib.hid (hp_then B3.out hb B3.out.size)
        clear hO hA2 hb e1 fz
        go_wp2_with fail
        go_ret2
        rw [E1.out, E2.out]
        exact ⟨pv, cv, rfl, A4.out, B4.out⟩
    · have E1 := Lib.hid (HML.out.trans ((if_neg (by simp [hz])).trans (if_neg hi)))
      have E2 := Lib.hid (HMC.out.trans ((if_neg (by simp [hz])).trans (if_neg hi)))
      rw [if_neg hi] at CF
      subst hz
      clear HML HMC hi
      go_enter Try.func35, Try.ntmps35
      go_wp2_with fail
      refine CS.out.mono ?_
      rintro e w1 ⟨v, rfl, hO, hb⟩
      obtain ⟨p1, c1, rfl, hA⟩ := hO.at
      have A1 := Lib.hid hA
      have B1 := Lib.hid hb
      clear hO hA hb
      go_wp2_with fail
      refine (CF.out _ _ _ A1.out).mono ?_
      rintro e w2 ⟨rfl, hb⟩
      have A2 := Lib.hid (A1.out.below hb)
      have B2 := Lib.hid (hp_then B1.out hb B1.out.size)
      clear hb
      go_wp2_with fail
      go_ret2
      rw [E1.out, E2.out]
      exact ⟨p1, c1, rfl, A2.out, B2.out⟩
  · have E1 := Lib.hid (HML.out.trans (if_pos hz))
    have E2 := Lib.hid (HMC.out.trans (if_pos hz))
    have q1 : (z == 0) = false := by simpa using hz
    have q2 : (z != 0) = true := by simpa using hz
    clear hz HML HMC
    go_enter Try.func35, Try.ntmps35
    go_wp2_with fail
    refine CS.out.mono ?_
    rintro e w1 ⟨v, rfl, hO, hb⟩
    obtain ⟨p1, c1, rfl, _⟩ := hO.at
    have B1 := Lib.hid hb
    clear hO hb
    go_wp2_with fail
    go_ret2
    rw [E1.out, E2.out]
    exact ⟨none, 0, rfl, Hp.At.nil _ _, B1.out⟩
end Go.Proofs.Ytaaodbljdpchhaa
