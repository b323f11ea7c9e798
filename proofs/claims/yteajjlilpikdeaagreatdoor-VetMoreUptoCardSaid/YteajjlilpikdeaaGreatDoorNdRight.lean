
/-
  The walks of tree's rightTokens, Check and Write. Conditions: lists are of a size that a machine holds; texts are below four thousand million bytes.
-/
import Derived.Test.YteajjlilpikdeaaGreatDoorNdP
import Derived.Test.YteajjlilpikdeaaGreatDoorScChkW
import Derived.Test.YteajjlilpikdeaaGreatDoorScWriteW
namespace Go.Proofs.YteajjlilpikdeaaGreatDoor
open Go.RowKit

theorem Nd.toksR_bad {l : List Nd.N} (h : Nd.good l = false) : Nd.toksR l = ([], 2) := by unfold Nd.toksR; rw [h]; rfl
theorem Nd.toksR_ok {l : List Nd.N} (h : Nd.good l = true) : Nd.toksR l = (Nd.toksL l, 0) := by unfold Nd.toksR; rw [if_pos h]
theorem Nd.toksR_chk (l : List Nd.N) : (Nd.toksR l).2 = Nd.chk l := by
  unfold Nd.toksR Nd.chk
  split <;> rfl
/-- What rightTokens hands back. -/
def Nd.RTPost (R : List Sc.T × Int) (w : World) (e : Ending) (w' : World) : Prop := ∃ v, e = .returned (.tuple #[v, .int .i64 R.2]) ∧ Nd.TRow w w.heap.size w' v R.1 ∧ Below w.heap.size w w'
set_option maxRecDepth 100000 in
set_option maxHeartbeats 2000000 in
theorem ndRightTokens_any (l : List Nd.N) (q : Option Addr) (c : Nat) (w : World) (hn : l.length ≤ 140737488351232) (hA : Nd.Row w q l) (hts : ∀ t ∈ Nd.toksL l, t.text.size ≤ 4000000000) (hT : Sc.Laid w) (hM : Sc.MaxLen w) :
    Calls Tryz.prog 51 #[.slice q l.length c] w (Nd.RTPost (Nd.toksR l) w) := by
  have hg := Nd.go_shaped l
  have Hgo := Lib.hid (Nd.go_shaped l)
  have HX := Lib.hid ((Below.refl w.heap.size w).alloc (Nat.le_refl _) (.cells #[.int .i64 256] 3))
  have CS := Lib.hid (shaped_any 8 l q c w (w.alloc (.cells #[.int .i64 256] 3)) w.heap.size 256 (Nat.le_refl _) (by decide) (by decide) hn hA HX.out (Nat.le_refl _) (Vl.new _ _))
  have CP := Lib.hid (fun (h : Nd.okL 8 l = true) W (h2 : Below w.heap.size w W) (h3 : (Nd.toksL l).length ≤ 1000) => put_any 8 l q c w w.heap.size W (.slice none 0 0) [] h hn hA (Nat.le_refl _) h2 h2.size (Nd.TRow.nil _ _ _) (by rw [List.length_nil, Nat.zero_add]; exact h3))
  have HL := Lib.hid (fun (h : Nd.shapedP l = true) => (by
    unfold Nd.shapedP at h
    rw [Bool.and_eq_true, decide_eq_true_eq] at h
    have := Nd.toks_len 8 l h.1
    exact ⟨h.1, by omega⟩ : Nd.okL 8 l = true ∧ (Nd.toksL l).length ≤ 1000))
  have CC := Lib.hid (fun p2 c2 W (h : Sc.At W p2 (Nd.toksL l)) (h3 : (Nd.toksL l).length ≤ 1000) (hb : Below w.heap.size w W) => scCheck_any (Nd.toksL l) p2 c2 W h (by omega) hts (hT.below hb) (hM.below hb))
  obtain ⟨R, hR⟩ : ∃ R, R = Nd.toksR l := ⟨_, rfl⟩
  rw [← hR]
  have hgd : Nd.good l = (Nd.shapedP l && Sc.okTs (Nd.toksL l)) := rfl
  have HR1 := Lib.hid (fun (h : Nd.good l = false) => hR.trans (Nd.toksR_bad h))
  have HR2 := Lib.hid (fun (h : Nd.good l = true) => hR.trans (Nd.toksR_ok h))
  have Hchk := Lib.hid (show Sc.chkTs (Nd.toksL l) = if Sc.okTs (Nd.toksL l) then 0 else 2 from rfl)
  rw [hgd] at HR1 HR2
  unfold Nd.ShapePost at CS
  rw [hg] at CS
  clear hg hn hA hT hM hR hgd hts Hgo
  generalize Nd.shapedP l = sh at *
  generalize Nd.toksL l = tl at *
  generalize (Nd.go 8 l 256).2 = rr at *
  generalize Nd.okL 8 l = ok at *
  generalize l.length = n at *
  go_enter Tryz.func51, Tryz.ntmps51
  go_wp2_with fail
  refine CS.out.mono ?_
  rintro e w1 ⟨rfl, hg1, -⟩
  have HB1 := Lib.hid (below_grownBy HX.out hg1 (Nat.le_refl _) HX.out.size)
  clear hg1 HX CS
  cases sh with
  | false =>
    obtain rfl := HR1.out rfl
    go_wp2_with fail
    go_ret2
    exact ⟨_, rfl, Nd.TRow.nil _ _ _, HB1.out⟩
  | true =>
    obtain ⟨h1, h2⟩ := HL.out rfl
    have HP := Lib.hid (CP.out h1 w1 HB1.out h2)
    have H2 := Lib.hid h2
    clear h1 h2 CP HL
    go_wp2_with fail
    refine HP.out.mono ?_
    rintro e w2 ⟨v2, rfl, hT2, hg2⟩
    rw [List.nil_append] at hT2
    have hB2 : Below w.heap.size w w2 := HB1.out.trans ⟨hg2.1.os, hg2.1.tape, hg2.1.output, hg2.1.size, fun k hk => hg2.1.block k (Nat.lt_of_lt_of_le hk HB1.out.size) (by rintro ⟨⟩)⟩
    obtain ⟨p2, c2, rfl, hA2⟩ := hT2.at hB2
    have HC := Lib.hid (CC.out p2 c2 w2 hA2 H2.out hB2)
    have HB2 := Lib.hid hB2
    have HT2 := Lib.hid hT2
    clear hg2 hT2 hA2 hB2 CC HP
    go_wp2_with fail
    refine HC.out.mono ?_
    rintro e w3 ⟨rfl, hb3⟩
    have HB3 := Lib.hid (HB2.out.trans (hb3.mono HB2.out.size))
    have HT3 := Lib.hid (HT2.out.below hb3)
    clear hb3 HC HT2 HB2 HB1
    rw [Hchk.out]
    cases hok : Sc.okTs tl with
    | false =>
      obtain rfl := HR1.out (by rw [hok]; rfl)
      clear hok
      go_wp2_with fail
      go_ret2
      exact ⟨_, rfl, Nd.TRow.nil _ _ _, HB3.out⟩
    | true =>
      obtain rfl := HR2.out (by rw [hok]; rfl)
      clear hok
      go_wp2_with fail
      go_ret2
      exact ⟨_, rfl, HT3.out, HB3.out⟩
set_option maxRecDepth 100000 in
theorem ndCheck_any (l : List Nd.N) (q : Option Addr) (c : Nat) (w : World) (hn : l.length ≤ 140737488351232) (hA : Nd.Row w q l) (hts : ∀ t ∈ Nd.toksL l, t.text.size ≤ 4000000000) (hT : Sc.Laid w) (hM : Sc.MaxLen w) :
    Calls Tryz.prog 25 #[.slice q l.length c] w fun e w' => e = .returned (.int .i64 (Nd.chk l)) ∧ Below w.heap.size w w' := by
  have C := Lib.hid (ndRightTokens_any l q c w hn hA hts hT hM)
  rw [← Nd.toksR_chk]
  clear hA hts hT hM hn
  generalize Nd.toksR l = R at *
  generalize l.length = n at *
  go_enter Tryz.func25, Tryz.ntmps25
  go_wp2_with fail
  refine C.out.mono ?_
  rintro e w1 ⟨v, rfl, -, hb⟩
  have HB := Lib.hid hb
  clear hb C
  go_wp2_with fail
  go_ret
  exact ⟨rfl, HB.out⟩
set_option maxRecDepth 100000 in
theorem ndWrite_any (l : List Nd.N) (q : Option Addr) (c : Nat) (w : World) (hn : l.length ≤ 140737488351232) (hA : Nd.Row w q l) (hts : ∀ t ∈ Nd.toksL l, t.text.size ≤ 4000000000) (hT : Sc.Laid w) (hM : Sc.MaxLen w) :
    Calls Tryz.prog 19 #[.slice q l.length c] w fun e w' => e = .returned (.tuple #[.string (Wp.B (Nd.writeN l).1), .int .i64 (Nd.writeN l).2]) ∧ Below w.heap.size w w' := by
  have C := Lib.hid (ndRightTokens_any l q c w hn hA hts hT hM)
  have hW : Nd.writeN l = if Nd.good l then Sc.writeR (Nd.toksL l) else ([], 2) := rfl
  have HL := Lib.hid (fun (h : Nd.good l = true) => (by
    unfold Nd.good Nd.shapedP at h
    rw [Bool.and_eq_true, Bool.and_eq_true, decide_eq_true_eq] at h
    have := Nd.toks_len 8 l h.1.1
    omega : (Nd.toksL l).length ≤ 1000))
  have CW := Lib.hid (fun (h0 : (Nd.toksL l).length ≤ 1000) p2 c2 W (h : Sc.At W p2 (Nd.toksL l)) (hb : Below w.heap.size w W) => scWrite_any (Nd.toksL l) p2 c2 W h (by omega) hts (hT.below hb) (hM.below hb))
  rw [hW]
  have hbad := fun h => Nd.toksR_bad (l := l) h
  have hgood := fun h => Nd.toksR_ok (l := l) h
  clear hA hts hT hM hn hW
  generalize Nd.toksR l = R at *
  generalize Nd.toksL l = tl at *
  generalize l.length = n at *
  cases hg : Nd.good l with
  | false =>
    obtain rfl := hbad hg
    clear hbad hgood hg HL CW
    go_enter Tryz.func19, Tryz.ntmps19
    go_wp2_with fail
    refine C.out.mono ?_
    rintro e w1 ⟨v, rfl, -, hb⟩
    have HB := Lib.hid hb
    clear hb C
    go_wp2_with fail
    go_ret2
    exact ⟨rfl, HB.out⟩
  | true =>
    obtain rfl := hgood hg
    have HL2 := Lib.hid (HL.out hg)
    rw [if_pos rfl]
    generalize Sc.writeR tl = wr at *
    clear hbad hgood hg HL
    go_enter Tryz.func19, Tryz.ntmps19
    go_wp2_with fail
    refine C.out.mono ?_
    rintro e w1 ⟨v, rfl, hT1, hb⟩
    obtain ⟨p2, c2, rfl, hA2⟩ := hT1.at hb
    have HB := Lib.hid hb
    have HW := Lib.hid (CW.out HL2.out p2 c2 w1 hA2 hb)
    clear hb C hT1 hA2 CW
    go_wp2_with fail
    refine HW.out.mono ?_
    rintro e w2 ⟨rfl, hb2⟩
    have HB2 := Lib.hid (HB.out.trans (hb2.mono HB.out.size))
    clear hb2 HW HB
    go_wp2_with fail
    go_ret2
    exact ⟨rfl, HB2.out⟩
end Go.Proofs.YteajjlilpikdeaaGreatDoor
