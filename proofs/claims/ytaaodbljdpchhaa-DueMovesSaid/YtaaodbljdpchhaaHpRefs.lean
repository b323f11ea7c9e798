
/-
  The walks of the document's Is, Make and Sorted for timers, and of the law's small. Condition: the list is of a size that a machine holds; Make's has at most 100000 timers.
-/
import Derived.Test.YtaaodbljdpchhaaHpRSort
namespace Go.Proofs.Ytaaodbljdpchhaa
open Go.RowKit Go.Lib Go.Sort Go.Shelf

theorem hp_Same' (a b : List (Int × Int × Int × Int)) (p q : Option Addr) (n m c d : Nat) (w : World) (hn : n = a.length) (hm : m = b.length) (hA : Hp.At w p a) (hB : Hp.At w q b) (ha : a.length ≤ 140737488351232) (hb : b.length ≤ 140737488351232) :
    Calls Try.prog 20 #[.slice p n c, .slice q m d] w fun e w' => e = .returned (.bool (decide (a = b))) ∧ Below w.heap.size w w' := by
  subst hn hm
  exact hp_Same a b p q c d w hA hB ha hb
set_option maxRecDepth 100000 in
theorem ref_Is15 (h l : List (Int × Int × Int × Int)) (p q : Option Addr) (c d : Nat) (w : World) (hA : Hp.At w p h) (hB : Hp.At w q l) (hok : Hp.Ok h) (hl : l.length ≤ 140737488351232) :
    Calls Try.prog 19 #[.slice p h.length c, .slice q l.length d] w fun e w' => e = .returned (.bool (decide (Hp.srt h = l))) ∧ Below w.heap.size w w' := by
  have hlen := hok.1
  have CK := Lib.hid (fun W hA => ref_Check15 h p c W hA (by omega))
  rw [Hp.chk_ok hok] at CK
  have CS := Lib.hid (fun W hA => ref_Sort15 h p c W hA (by omega))
  have CE := Lib.hid (fun W a b m n hm hA hB => hp_Same' (Hp.srt h) l a q m l.length b d W hm rfl hA hB (by rw [Hp.srt_len]; omega) hl |>.mono fun _ _ h => (show _ ∧ (n : Nat) = n ∧ _ from ⟨h.1, rfl, h.2⟩))
  have A0 := Lib.hid hA
  have L0 := Lib.hid hB
  have HSl := Lib.hid (Hp.srt_len h)
  generalize decide (Hp.srt h = l) = r at *
  generalize Hp.srt h = S at *
  generalize h.length = n at *
  generalize l.length = m at *
  clear hA hB hok hlen hl
  go_enter Try.func19, Try.ntmps19
  go_wp2_with fail
  refine (CK.out _ A0.out).mono ?_
  rintro e w1 ⟨rfl, hb⟩
  have A1 := Lib.hid (A0.out.below hb)
  have L1 := Lib.hid (L0.out.below hb)
  have B1 := Lib.hid hb
  clear hb
  go_wp2_with fail
  refine (CS.out _ A1.out).mono ?_
  rintro e w2 ⟨v, rfl, hO, hb⟩
  obtain ⟨pv, cv, rfl, hA2⟩ := hO.at
  have S2 := Lib.hid hA2
  have L2 := Lib.hid (L1.out.below hb)
  have B2 := Lib.hid (hp_then B1.out hb B1.out.size)
  clear hb hA2 hO
  go_wp2_with fail
  refine (CE.out _ pv cv _ 0 rfl S2.out L2.out).mono ?_
  rintro e w3 ⟨rfl, _, hb⟩
  have B3 := Lib.hid (hp_then B2.out hb B2.out.size)
  clear hb
  go_wp2_with fail
  go_ret
  exact ⟨rfl, B3.out⟩
noncomputable def Hp.mkS (l : List (Int × Int × Int × Int)) : List (Int × Int × Int × Int) := if Hp.tw l = true then [] else if 4096 < l.length then [] else Hp.srt l
set_option maxRecDepth 100000 in
theorem ref_Make15 (l : List (Int × Int × Int × Int)) (p : Option Addr) (c : Nat) (w : World) (hA : Hp.At w p l) (hn : l.length ≤ 100000) :
    Calls Try.prog 16 #[.slice p l.length c] w (Hp.Got (Hp.mkS l) (Hp.mkC l) w) := by
  have CT := Lib.hid (ref_twice15 l p c w hA (by omega))
  have CS := Lib.hid (fun W hA => ref_Sort15 l p c W hA hn)
  have HR := Lib.hid (show Hp.mkS l = if Hp.tw l = true then [] else if 4096 < l.length then [] else Hp.srt l from rfl)
  have HZ := Lib.hid (show Hp.mkC l = if Hp.tw l = true then 4 else if 4096 < l.length then 8 else 0 from rfl)
  have A0 := Lib.hid hA
  have HSl := Lib.hid (Hp.srt_len l)
  generalize Hp.mkS l = R at *
  generalize Hp.mkC l = Z at *
  generalize Hp.srt l = S at *
  generalize Hp.tw l = b at *
  clear hA
  cases b with
  | true =>
    have E1 := Lib.hid (HR.out.trans (if_pos rfl))
    have E2 := Lib.hid (HZ.out.trans (if_pos rfl))
    generalize l.length = n at *
    go_enter Try.func16, Try.ntmps16
    go_wp2_with fail
    refine CT.out.mono ?_
    rintro e w1 ⟨rfl, hb⟩
    have B1 := Lib.hid hb
    clear hb
    go_wp2_with fail
    go_ret2
    rw [E1.out, E2.out]
    exact ⟨none, 0, rfl, Hp.At.nil _ _, B1.out⟩
  | false =>
    by_cases hbig : 4096 < l.length
    · have E1 := Lib.hid (HR.out.trans ((if_neg (by simp)).trans (if_pos hbig)))
      have E2 := Lib.hid (HZ.out.trans ((if_neg (by simp)).trans (if_pos hbig)))
      generalize l.length = n at *
      have q1 : (4096 : Int) < (n : Int) := by omega
      go_enter Try.func16, Try.ntmps16
      go_wp2_with fail
      refine CT.out.mono ?_
      rintro e w1 ⟨rfl, hb⟩
      have B1 := Lib.hid hb
      clear hb
      go_wp2_with fail
      go_ret2
      rw [E1.out, E2.out]
      exact ⟨none, 0, rfl, Hp.At.nil _ _, B1.out⟩
    · have E1 := Lib.hid (HR.out.trans ((if_neg (by simp)).trans (if_neg hbig)))
      have E2 := Lib.hid (HZ.out.trans ((if_neg (by simp)).trans (if_neg hbig)))
      generalize l.length = n at *
      have q1 : decide ((4096 : Int) < (n : Int)) = false := by simp; omega
      clear hbig
      go_enter Try.func16, Try.ntmps16
      go_wp2_with fail
      refine CT.out.mono ?_
      rintro e w1 ⟨rfl, hb⟩
      have A1 := Lib.hid (A0.out.below hb)
      have B1 := Lib.hid hb
      clear hb
      go_wp2_with fail
      refine (CS.out _ A1.out).mono ?_
      rintro e w2 ⟨v, rfl, hO, hb⟩
      obtain ⟨pv, cv, rfl, hA2⟩ := hO.at
      have S2 := Lib.hid hA2
      have B2 := Lib.hid (hp_then B1.out hb B1.out.size)
      clear hb hA2 hO
      go_wp2_with fail
      go_ret2
      rw [E1.out, E2.out]
      exact ⟨pv, cv, rfl, S2.out, B2.out⟩
set_option maxRecDepth 100000 in
theorem ref_Sorted15 (l : List (Int × Int × Int × Int)) (p : Option Addr) (c : Nat) (w : World) (hA : Hp.At w p l) (hn : l.length ≤ 140737488351232) :
    Calls Try.prog 18 #[.slice p l.length c] w (Hp.Got (Hp.soL l) (Hp.chk l) w) := by
  have HOk := Lib.hid (fun h : Hp.Ok l => (show Hp.soL l = Hp.srt l from if_pos h))
  have HNo := Lib.hid (fun h : ¬ Hp.Ok l => (show Hp.soL l = [] from if_neg h))
  have CK := Lib.hid (fun W h => ref_Check15 l p c W h hn)
  have A0 := Lib.hid hA
  generalize Hp.soL l = R at *
  clear hA
  by_cases hok : Hp.Ok l
  · have E1 := Lib.hid (HOk.out hok)
    rw [Hp.chk_ok hok] at CK ⊢
    have CS := Lib.hid (fun W hA => ref_Sort15 l p c W hA (by have := hok.1; omega))
    generalize Hp.srt l = S at *
    clear hok HOk HNo
    generalize l.length = n at *
    go_enter Try.func18, Try.ntmps18
    go_wp2_with fail
    refine (CK.out _ A0.out).mono ?_
    rintro e w1 ⟨rfl, hb⟩
    have A1 := Lib.hid (A0.out.below hb)
    have B1 := Lib.hid hb
    clear hb
    go_wp2_with fail
    refine (CS.out _ A1.out).mono ?_
    rintro e w2 ⟨v, rfl, hO, hb⟩
    obtain ⟨pv, cv, rfl, hA2⟩ := hO.at
    have S2 := Lib.hid hA2
    have B2 := Lib.hid (hp_then B1.out hb B1.out.size)
    clear hb hA2 hO
    go_wp2_with fail
    go_ret2
    rw [E1.out]
    exact ⟨pv, cv, rfl, S2.out, B2.out⟩
  · have E1 := Lib.hid (HNo.out hok)
    rw [Hp.chk_bad hok] at CK ⊢
    clear hok HOk HNo
    generalize l.length = n at *
    go_enter Try.func18, Try.ntmps18
    go_wp2_with fail
    refine (CK.out _ A0.out).mono ?_
    rintro e w1 ⟨rfl, hb⟩
    have B1 := Lib.hid hb
    clear hb
    go_wp2_with fail
    go_ret2
    rw [E1.out]
    exact ⟨none, 0, rfl, Hp.At.nil _ _, B1.out⟩
/-- Few enough timers to be looked at. -/
def Hp.few (n : Nat) : Prop := n ≤ 100 ∨ (4096 < n ∧ n < 4100)
theorem hp_small (n c : Nat) (p : Option Addr) (w : World) (h : Hp.few n) : Calls Try.prog 13 #[.slice p n c] w fun e w' => e = .returned (.bool true) ∧ w' = w := by
  by_cases h1 : n ≤ 100
  · have q1 : decide ((n : Int) ≤ 100) = true := by simp; omega
    clear h1 h
    go_enter Try.func13, Try.ntmps13
    go_wp2_with fail
    go_ret
    exact ⟨rfl, rfl⟩
  · obtain ⟨h2, h3⟩ := h.resolve_left h1
    have q1 : decide ((n : Int) ≤ 100) = false := by simp; omega
    have q2 : decide ((4096 : Int) < (n : Int)) = true := by simp; omega
    have q3 : decide ((n : Int) < 4100) = true := by simp; omega
    clear h1 h2 h3
    go_enter Try.func13, Try.ntmps13
    go_wp2_with fail
    go_ret
    exact ⟨rfl, rfl⟩
theorem hp_large (n c : Nat) (p : Option Addr) (w : World) (h : ¬ Hp.few n) : Calls Try.prog 13 #[.slice p n c] w fun e w' => e = .returned (.bool false) ∧ w' = w := by
  unfold Hp.few at h
  have q1 : decide ((n : Int) ≤ 100) = false := by simp; omega
  by_cases h2 : 4096 < n
  · have q2 : decide ((4096 : Int) < (n : Int)) = true := by simp; omega
    have q3 : decide ((n : Int) < 4100) = false := by simp; omega
    clear h h2
    go_enter Try.func13, Try.ntmps13
    go_wp2_with fail
    go_ret
    exact ⟨rfl, rfl⟩
  · have q2 : decide ((4096 : Int) < (n : Int)) = false := by simp; omega
    clear h h2
    go_enter Try.func13, Try.ntmps13
    go_wp2_with fail
    go_ret
    exact ⟨rfl, rfl⟩
end Go.Proofs.Ytaaodbljdpchhaa
