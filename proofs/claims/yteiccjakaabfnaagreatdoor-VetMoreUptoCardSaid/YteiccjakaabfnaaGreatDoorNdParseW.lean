
/-
  The walks of tree's Nodes and Parse. Conditions: lists are of a size that a machine holds; texts are below four thousand million bytes; the table and the errors lie where they were laid.
-/
import Derived.Test.YteiccjakaabfnaaGreatDoorNdNodes
import Derived.Test.YteiccjakaabfnaaGreatDoorScToksW
import Derived.Test.YteiccjakaabfnaaGreatDoorRScToks
namespace Go.Proofs.YteiccjakaabfnaaGreatDoor
open Go.RowKit

theorem nodes_any (f : Nat) : Nd.NodesC f := Nat.strongRecOn f nodes_step
/-- What Nodes hands back. -/
def Nd.TopPost (R : List Nd.N × Int) (w : World) (e : Ending) (w' : World) : Prop := ∃ v, e = .returned (.tuple #[v, .int .i64 R.2]) ∧ Nd.OwnRow w.heap.size w' v R.1.length R.1 ∧ Below w.heap.size w w'
theorem Nd.nodesR_deep {l : List Sc.T} (h : Sc.okTs l = true) (hs : Nd.stk [] l = true) (hb : Nd.bnd 0 0 l = false) : Nd.nodesR l = ([], 11) := by
  obtain ⟨ns, hp⟩ := (Nd.stk_pR l).1 hs
  obtain ⟨b1, b2, _⟩ := Nd.bnd_ok h hp
  unfold Nd.nodesR
  rw [h, if_pos rfl, hp]
  show (if (Nd.rgt 8 ns).2 then (ns, 0) else ([], 11)) = _
  rw [b2, ← b1, hb]
  rfl
theorem Nd.nodesR_fine {l : List Sc.T} (h : Sc.okTs l = true) (hs : Nd.stk [] l = true) (hb : Nd.bnd 0 0 l = true) : ∃ ns, Nd.pR (l.length + 1) l = some (ns, []) ∧ Nd.nodesR l = (ns, 0) ∧ Nd.cntL ns ≤ 256 := by
  obtain ⟨ns, hp⟩ := (Nd.stk_pR l).1 hs
  obtain ⟨b1, b2, _⟩ := Nd.bnd_ok h hp
  refine ⟨ns, hp, ?_, ?_⟩
  · unfold Nd.nodesR
    rw [h, if_pos rfl, hp]
    show (if (Nd.rgt 8 ns).2 then (ns, 0) else ([], 11)) = _
    rw [b2, ← b1, hb]
    rfl
  · rw [hb] at b1
    have h2 := b1.symm
    unfold Nd.shapedP at h2
    rw [Bool.and_eq_true, decide_eq_true_eq] at h2
    exact h2.2
set_option maxRecDepth 100000 in
set_option maxHeartbeats 2000000 in
theorem ndNodes_any (l : List Sc.T) (q : Option Addr) (c : Nat) (w : World) (a b : Addr) (hA : Sc.At w q l) (hl : l.length ≤ 140737488351232) (hc : l.length ≤ c) (hc2 : c ≤ 9223372036854775807) (hts : ∀ t ∈ l, t.text.size ≤ 4000000000) (hT : Sc.Laid w) (hM : Sc.MaxLen w) (hE : Nd.Errs w a b) :
    Calls Tryz.prog 78 #[.slice q l.length c] w (Nd.TopPost (Nd.nodesR l) w) := by
  have CC := Lib.hid (scCheck_any l q c w hA hl hts hT hM)
  have CL := Lib.hid (fun W (hb : Below w.heap.size w W) => ndLaid_any l q c W a b (hA.below hb) hl (hE.below hb))
  have HE := Lib.hid hE
  have CN := Lib.hid (fun (ho : Sc.okTs l = true) ns W (hb : Below w.heap.size w W) (hp : Nd.pR (l.length + 1) l = some (ns, [])) (hn : Nd.cntL ns ≤ 256) => nodes_any (l.length + 1) l ns [] q c w W hp (Nd.all_of ho) hA hb hc (by omega) hn)
  have HR1 := Lib.hid (fun (h : Sc.okTs l = false) => Nd.nodesR_bad h)
  have HR2 := Lib.hid (fun (h : Sc.okTs l = true) (hs : Nd.stk [] l = false) => Nd.nodesR_astray h hs)
  have HR3 := Lib.hid (fun (h : Sc.okTs l = true) (hs : Nd.stk [] l = true) (hb : Nd.bnd 0 0 l = false) => Nd.nodesR_deep h hs hb)
  have HR4 := Lib.hid (fun (h : Sc.okTs l = true) (hs : Nd.stk [] l = true) (hb : Nd.bnd 0 0 l = true) => Nd.nodesR_fine h hs hb)
  have Hchk := Lib.hid (show Sc.chkTs l = if Sc.okTs l then 0 else 2 from rfl)
  have Hlv := Lib.hid (show Nd.laidV a b l = if Nd.stk [] l then Nd.errV b (Nd.bnd 0 0 l) else .iface 297 (.pointer (some a)) from rfl)
  rw [Hchk.out] at CC
  rw [Hlv.out] at CL
  generalize Nd.nodesR l = R at *
  generalize Nd.stk [] l = st at *
  generalize Nd.bnd 0 0 l = bd at *
  generalize hok : Sc.okTs l = ok at *
  generalize l.length = n at *
  clear hA hts hT hM hE Hchk Hlv hok hl
  cases ok with
  | false =>
    obtain rfl := HR1.out rfl
    clear HR1 HR2 HR3 HR4 CN CL
    go_enter Tryz.func78, Tryz.ntmps78
    go_wp2_with fail
    refine CC.out.mono ?_
    rintro e w1 ⟨rfl, hb⟩
    have HB := Lib.hid hb
    clear hb CC
    go_wp2_with fail
    go_ret2
    exact ⟨_, rfl, Nd.OwnRow.nil _ _, HB.out⟩
  | true =>
    cases st with
    | false =>
      obtain rfl := HR2.out rfl rfl
      clear HR1 HR2 HR3 HR4 CN
      go_enter Tryz.func78, Tryz.ntmps78
      go_wp2_with fail
      refine CC.out.mono ?_
      rintro e w1 ⟨rfl, hb⟩
      have HB := Lib.hid hb
      have HL := Lib.hid (CL.out w1 hb)
      clear hb CC CL
      go_wp2_with fail
      refine HL.out.mono ?_
      rintro e w2 ⟨rfl, hb2⟩
      have HB2 := Lib.hid (HB.out.trans (hb2.mono HB.out.size))
      clear hb2 HL HB
      have g0 := (HE.out.below HB2.out).1
      go_wp2_with fail
      refine (is_same a _).mono ?_
      rintro e w2 ⟨rfl, rfl⟩
      go_wp2_with fail
      go_ret2
      exact ⟨_, rfl, Nd.OwnRow.nil _ _, HB2.out⟩
    | true =>
      cases bd with
      | false =>
        obtain rfl := HR3.out rfl rfl rfl
        clear HR1 HR2 HR3 HR4 CN
        go_enter Tryz.func78, Tryz.ntmps78
        go_wp2_with fail
        refine CC.out.mono ?_
        rintro e w1 ⟨rfl, hb⟩
        have HB := Lib.hid hb
        have HL := Lib.hid (CL.out w1 hb)
        clear hb CC CL
        go_wp2_with fail
        refine HL.out.mono ?_
        rintro e w2 ⟨rfl, hb2⟩
        have HB2 := Lib.hid (HB.out.trans (hb2.mono HB.out.size))
        clear hb2 HL HB
        obtain ⟨g0, g1, gne, ⟨ca, ta, ga⟩, ⟨cb, tb, gb⟩⟩ := HE.out.below HB2.out
        have HO := Lib.hid (is_other b a cb ca tb ta w2 (fun e => gne e.symm) gb ga)
        have HS := Lib.hid (is_same b w2)
        rw [if_pos trivial, show Nd.errV b false = .iface 297 (.pointer (some b)) from rfl]
        clear ga gb gne
        go_wp2_with fail
        refine HO.out.mono ?_
        rintro e w3 ⟨rfl, hw3⟩
        subst hw3
        go_wp2_with fail
        refine HS.out.mono ?_
        rintro e w3 ⟨rfl, hw3⟩
        subst hw3
        go_wp2_with fail
        go_ret2
        exact ⟨_, rfl, Nd.OwnRow.nil _ _, HB2.out⟩
      | true =>
        obtain ⟨ns, hp, rfl, hcn⟩ := HR4.out rfl rfl rfl
        have Hp := Lib.hid hp
        have Hcn := Lib.hid hcn
        clear HR1 HR2 HR3 HR4 hp hcn
        go_enter Tryz.func78, Tryz.ntmps78
        go_wp2_with fail
        refine CC.out.mono ?_
        rintro e w1 ⟨rfl, hb⟩
        have HB := Lib.hid hb
        have HL := Lib.hid (CL.out w1 hb)
        clear hb CC CL
        go_wp2_with fail
        refine HL.out.mono ?_
        rintro e w2 ⟨rfl, hb2⟩
        have HB2 := Lib.hid (HB.out.trans (hb2.mono HB.out.size))
        clear hb2 HL HB
        obtain ⟨g0, g1, -, -, -⟩ := HE.out.below HB2.out
        have HN := Lib.hid (CN.out trivial ns w2 HB2.out Hp.out Hcn.out)
        rw [if_pos trivial, show Nd.errV b true = .nilIface from rfl]
        clear CN
        go_wp2_with fail
        refine (is_nil a _).mono ?_
        rintro e w3 ⟨rfl, hw3⟩
        subst hw3
        go_wp2_with fail
        refine (is_nil b _).mono ?_
        rintro e w3 ⟨rfl, hw3⟩
        subst hw3
        go_wp2_with fail
        refine HN.out.mono ?_
        rintro e w4 ⟨v4, p4, c4, rfl, hO4, hB4, -, -, -⟩
        have HB4 := Lib.hid (HB2.out.trans (hB4.mono HB2.out.size))
        have HO4 := Lib.hid (show Nd.OwnRow w.heap.size w4 v4 ns.length ns from hO4.base HB2.out.size)
        clear hO4 hB4 HN
        go_wp2_with fail
        go_ret2
        exact ⟨_, rfl, HO4.out, HB4.out⟩
theorem Sc.OwnRow.atc {B : Nat} {W : World} {v : Value} {n : Nat} {l : List Sc.T} (h : Sc.OwnRow B W v n l) : ∃ p c, v = .slice p l.length c ∧ l.length ≤ c ∧ c ≤ 9223372036854775807 ∧ Sc.At W p l := by
  have hc : ∀ p c, v = .slice p n c → n ≤ c ∧ c ≤ 9223372036854775807 := by
    obtain ⟨cs, hown, _, _⟩ := h
    rcases hown.2 with ⟨h1, h2⟩ | ⟨g, cap, cur, h1, _, _, h4, h5, _⟩
    · intro p c e
      rw [h1] at e
      cases e
      exact ⟨Nat.le_refl _, by decide⟩
    · intro p c e
      rw [h1] at e
      cases e
      exact ⟨h4, h5⟩
  obtain ⟨p, c, hv, hl, ha⟩ := h.at
  obtain ⟨h1, h2⟩ := hc p c hv
  exact ⟨p, c, by rw [hl]; exact hv, by omega, h2, ha⟩
/-- The nodes of a text, or why there are none. -/
def Nd.parseR (s : List UInt8) : List Nd.N × Int := if (Sc.toksR s).2 = 0 then Nd.nodesR (Sc.toksR s).1 else ([], (Sc.toksR s).2)
theorem Nd.src_le {t : Sc.T} : ∀ {l : List Sc.T}, t ∈ l → (Sc.srcT t).length ≤ (Sc.srcs l).length
  | [], h => by simp at h
  | x :: l, h => by
    have e : (Sc.srcs (x :: l)).length = (Sc.srcT x).length + (Sc.srcs l).length := by
      unfold Sc.srcs
      rw [List.map_cons, List.flatten_cons, List.length_append]
    rcases List.mem_cons.1 h with rfl | h
    · omega
    · have := Nd.src_le h
      omega
theorem Nd.text_src {t : Sc.T} (h : Sc.okT t = true) : t.text.size ≤ (Sc.srcT t).length := by
  by_cases h1 : t.kind = 1
  · unfold Sc.srcT
    rw [if_pos h1, ← Wp.size_len]
    exact Nat.le_refl _
  · have : t.text.size = 0 := by
      unfold Sc.okT at h
      split at h
      · rename_i hk; exact absurd hk h1
      · rw [Bool.and_eq_true, decide_eq_true_eq] at h; exact h.1
      · rw [Bool.and_eq_true, decide_eq_true_eq] at h; exact h.1
      · rw [Bool.and_eq_true, decide_eq_true_eq] at h; exact h.1
      · rw [Bool.and_eq_true, decide_eq_true_eq] at h; exact h.1
      · rw [Bool.and_eq_true, decide_eq_true_eq] at h; exact h.1
      · cases h
    omega
theorem Nd.toks_short {s : List UInt8} (h : (Sc.toksR s).2 = 0) : (Sc.toksR s).1.length ≤ 1024 ∧ (∀ t ∈ (Sc.toksR s).1, t.text.size ≤ 1024) ∧ Sc.okTs (Sc.toksR s).1 = true ∧ (Sc.srcs (Sc.toksR s).1).length ≤ s.length ∧ s.length ≤ 1024 := by
  refine ⟨Sc.toks_len s, ?_⟩
  unfold Sc.toksR at h ⊢
  by_cases hl : 1024 < s.length
  · rw [if_pos hl] at h; cases h
  · rw [if_neg hl] at h ⊢
    cases hp : Sc.toksP (s.length + 1) s with
    | none => rw [hp] at h; cases h
    | some r =>
      obtain ⟨h1, h2⟩ := Sc.toks_ok _ _ _ hp
      refine ⟨fun t ht => ?_, h1, h2, by omega⟩
      have ht : t ∈ r := ht
      have := Nd.src_le ht
      have := Nd.text_src (Nd.all_of h1 t ht)
      omega
set_option maxRecDepth 100000 in
theorem ndParse_any (s : ByteArray) (w : World) (a b : Addr) (hs : s.size ≤ 900000000000000) (hT : Sc.Laid w) (hM : Sc.MaxLen w) (hE : Nd.Errs w a b) :
    Calls Tryz.prog 37 #[.string s] w (Nd.TopPost (Nd.parseR s.data.toList) w) := by
  have CT := Lib.hid (scTokens_any s w hs hT hM)
  have CN := Lib.hid (fun (h : (Sc.toksR s.data.toList).2 = 0) p c W (hA : Sc.At W p (Sc.toksR s.data.toList).1) (hc : (Sc.toksR s.data.toList).1.length ≤ c) (hc2 : c ≤ 9223372036854775807) (hb : Below w.heap.size w W) => ndNodes_any (Sc.toksR s.data.toList).1 p c W a b hA (by have := (Nd.toks_short h).1; omega) hc hc2 (fun t ht => by have := (Nd.toks_short h).2.1 t ht; omega) (hT.below hb) (hM.below hb) (hE.below hb))
  obtain ⟨R, hR⟩ : ∃ R, R = Nd.parseR s.data.toList := ⟨_, rfl⟩
  rw [← hR]
  unfold Nd.parseR at hR
  generalize Sc.toksR s.data.toList = T at *
  obtain ⟨tl, tc⟩ := T
  simp only at CN hR
  clear hT hM hE hs
  by_cases h0 : tc = 0
  · subst h0
    rw [if_pos rfl] at hR
    have HR := Lib.hid hR
    have CN2 := Lib.hid (CN.out rfl)
    clear hR CN
    go_enter Tryz.func37, Tryz.ntmps37
    go_wp2_with fail
    refine CT.out.mono ?_
    rintro e w1 ⟨v, rfl, hO, hb⟩
    obtain ⟨p1, c1, rfl, hc1, hc2, hA1⟩ := hO.atc
    have HB := Lib.hid hb
    have HN := Lib.hid (CN2.out p1 c1 w1 hA1 hc1 hc2 hb)
    clear hO hb hA1 CN2 CT
    go_wp2_with fail
    refine HN.out.mono ?_
    rintro e w2 ⟨v2, rfl, hO2, hB2⟩
    have HB2 := Lib.hid (HB.out.trans (hB2.mono HB.out.size))
    have HO2 := Lib.hid (hO2.base HB.out.size)
    clear hO2 hB2 HN
    go_wp2_with fail
    go_ret2
    rw [HR.out]
    exact ⟨_, rfl, HO2.out, HB2.out⟩
  · rw [if_neg h0] at hR
    have q0 : (tc != 0) = true := by rw [bne_iff_ne]; exact h0
    have HR := Lib.hid hR
    clear hR CN h0
    go_enter Tryz.func37, Tryz.ntmps37
    go_wp2_with fail
    refine CT.out.mono ?_
    rintro e w1 ⟨v, rfl, -, hb⟩
    have HB := Lib.hid hb
    clear hb CT
    go_wp2_with fail
    go_ret2
    rw [HR.out]
    exact ⟨_, rfl, Nd.OwnRow.nil _ _, HB.out⟩
end Go.Proofs.YteiccjakaabfnaaGreatDoor
