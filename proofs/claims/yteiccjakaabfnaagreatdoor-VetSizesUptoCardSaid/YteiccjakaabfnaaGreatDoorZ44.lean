/-
  The walks of tree's Nodes and Parse. Conditions: lists are of a size that a machine holds; texts are below four thousand million bytes; the table and the errors lie where they were laid.
  The walk of layer 12's lives. Conditions: the words' table and the errors lie as they are laid, the search's limit is set.
-/
import Derived.Test.YteiccjakaabfnaaGreatDoorNdNodes
import Derived.Test.YteiccjakaabfnaaGreatDoorScToksW
import Derived.Test.YteiccjakaabfnaaGreatDoorRScToks
import Derived.Test.YteiccjakaabfnaaGreatDoorZ33
import Derived.Test.YteiccjakaabfnaaGreatDoorZ37
import Derived.KernelRfl
namespace Go.Proofs.YteiccjakaabfnaaGreatDoor
open Go.RowKit

theorem nodes_any (f : Nat) : Nd.NodesC f := Nat.strongRecOn f nodes_step
/-- What Nodes hands back. -/
def Nd.TopPost (R : List Nd.N × Int) (w : World) (e : Ending) (w' : World) : Prop := ∃ v, e = .returned (.tuple #[v, .int .i64 R.2]) ∧ Nd.OwnRow w.heap.size w' v R.1.length R.1 ∧ Below w.heap.size w w'
theorem Nd.nodesR_deep {l : List Sc.T} (h : Sc.okTs l = true) (hs : Nd.stk [] l = true) (hb : Nd.bnd 0 0 l = false) : Nd.nodesR l = ([], 11) := by
  obtain ⟨ns, hp⟩ := (Nd.stk_pR l).1 hs
  obtain ⟨b1, b2, _⟩ := Nd.bnd_ok h hp
  unfold Nd.nodesR
  rw [h, if_pos rfl, hp]
  show (if (Nd.rgt 8 ns).2 then (ns, 0) else ([], 11)) = _
  rw [b2, ← b1, hb]
  rfl
theorem Nd.nodesR_fine {l : List Sc.T} (h : Sc.okTs l = true) (hs : Nd.stk [] l = true) (hb : Nd.bnd 0 0 l = true) : ∃ ns, Nd.pR (l.length + 1) l = some (ns, []) ∧ Nd.nodesR l = (ns, 0) ∧ Nd.cntL ns ≤ 256 := by
  obtain ⟨ns, hp⟩ := (Nd.stk_pR l).1 hs
  obtain ⟨b1, b2, _⟩ := Nd.bnd_ok h hp
  refine ⟨ns, hp, ?_, ?_⟩
  · unfold Nd.nodesR
    rw [h, if_pos rfl, hp]
    show (if (Nd.rgt 8 ns).2 then (ns, 0) else ([], 11)) = _
    rw [b2, ← b1, hb]
    rfl
  · rw [hb] at b1
    have h2 := b1.symm
    unfold Nd.shapedP at h2
    rw [Bool.and_eq_true, decide_eq_true_eq] at h2
    exact h2.2
set_option maxRecDepth 100000 in
set_option maxHeartbeats 2000000 in
theorem ndNodes_any (l : List Sc.T) (q : Option Addr) (c : Nat) (w : World) (a b : Addr) (hA : Sc.At w q l) (hl : l.length ≤ 140737488351232) (hc : l.length ≤ c) (hc2 : c ≤ 9223372036854775807) (hts : ∀ t ∈ l, t.text.size ≤ 4000000000) (hT : Sc.Laid w) (hM : Sc.MaxLen w) (hE : Nd.Errs w a b) :
    Calls Tryz.prog 78 #[.slice q l.length c] w (Nd.TopPost (Nd.nodesR l) w) := by
  have CC := Lib.hid (scCheck_any l q c w hA hl hts hT hM)
  have CL := Lib.hid (fun W (hb : Below w.heap.size w W) => ndLaid_any l q c W a b (hA.below hb) hl (hE.below hb))
  have HE := Lib.hid hE
  have CN := Lib.hid (fun (ho : Sc.okTs l = true) ns W (hb : Below w.heap.size w W) (hp : Nd.pR (l.length + 1) l = some (ns, [])) (hn : Nd.cntL ns ≤ 256) => nodes_any (l.length + 1) l ns [] q c w W hp (Nd.all_of ho) hA hb hc (by omega) hn)
  have HR1 := Lib.hid (fun (h : Sc.okTs l = false) => Nd.nodesR_bad h)
  have HR2 := Lib.hid (fun (h : Sc.okTs l = true) (hs : Nd.stk [] l = false) => Nd.nodesR_astray h hs)
  have HR3 := Lib.hid (fun (h : Sc.okTs l = true) (hs : Nd.stk [] l = true) (hb : Nd.bnd 0 0 l = false) => Nd.nodesR_deep h hs hb)
  have HR4 := Lib.hid (fun (h : Sc.okTs l = true) (hs : Nd.stk [] l = true) (hb : Nd.bnd 0 0 l = true) => Nd.nodesR_fine h hs hb)
  have Hchk := Lib.hid (show Sc.chkTs l = if Sc.okTs l then 0 else 2 from rfl)
  have Hlv := Lib.hid (show Nd.laidV a b l = if Nd.stk [] l then Nd.errV b (Nd.bnd 0 0 l) else .iface 297 (.pointer (some a)) from rfl)
  rw [Hchk.out] at CC
  rw [Hlv.out] at CL
  generalize Nd.nodesR l = R at *
  generalize Nd.stk [] l = st at *
  generalize Nd.bnd 0 0 l = bd at *
  generalize hok : Sc.okTs l = ok at *
  generalize l.length = n at *
  clear hA hts hT hM hE Hchk Hlv hok hl
  cases ok with
  | false =>
    obtain rfl := HR1.out rfl
    clear HR1 HR2 HR3 HR4 CN CL
    go_enter Tryz.func78, Tryz.ntmps78
    go_wp2_with fail
    refine CC.out.mono ?_
    rintro e w1 ⟨rfl, hb⟩
    have HB := Lib.hid hb
    clear hb CC
    go_wp2_with fail
    go_ret2
    exact ⟨_, rfl, Nd.OwnRow.nil _ _, HB.out⟩
  | true =>
    cases st with
    | false =>
      obtain rfl := HR2.out rfl rfl
      clear HR1 HR2 HR3 HR4 CN
      go_enter Tryz.func78, Tryz.ntmps78
      go_wp2_with fail
      refine CC.out.mono ?_
      rintro e w1 ⟨rfl, hb⟩
      have HB := Lib.hid hb
      have HL := Lib.hid (CL.out w1 hb)
      clear hb CC CL
      go_wp2_with fail
      refine HL.out.mono ?_
      rintro e w2 ⟨rfl, hb2⟩
      have HB2 := Lib.hid (HB.out.trans (hb2.mono HB.out.size))
      clear hb2 HL HB
      have g0 := (HE.out.below HB2.out).1
      go_wp2_with fail
      refine (is_same a _).mono ?_
      rintro e w2 ⟨rfl, rfl⟩
      go_wp2_with fail
      go_ret2
      exact ⟨_, rfl, Nd.OwnRow.nil _ _, HB2.out⟩
    | true =>
      cases bd with
      | false =>
        obtain rfl := HR3.out rfl rfl rfl
        clear HR1 HR2 HR3 HR4 CN
        go_enter Tryz.func78, Tryz.ntmps78
        go_wp2_with fail
        refine CC.out.mono ?_
        rintro e w1 ⟨rfl, hb⟩
        have HB := Lib.hid hb
        have HL := Lib.hid (CL.out w1 hb)
        clear hb CC CL
        go_wp2_with fail
        refine HL.out.mono ?_
        rintro e w2 ⟨rfl, hb2⟩
        have HB2 := Lib.hid (HB.out.trans (hb2.mono HB.out.size))
        clear hb2 HL HB
        obtain ⟨g0, g1, gne, ⟨ca, ta, ga⟩, ⟨cb, tb, gb⟩⟩ := HE.out.below HB2.out
        have HO := Lib.hid (is_other b a cb ca tb ta w2 (fun e => gne e.symm) gb ga)
        have HS := Lib.hid (is_same b w2)
        rw [if_pos trivial, show Nd.errV b false = .iface 297 (.pointer (some b)) from rfl]
        clear ga gb gne
        go_wp2_with fail
        refine HO.out.mono ?_
        rintro e w3 ⟨rfl, hw3⟩
        subst hw3
        go_wp2_with fail
        refine HS.out.mono ?_
        rintro e w3 ⟨rfl, hw3⟩
        subst hw3
        go_wp2_with fail
        go_ret2
        exact ⟨_, rfl, Nd.OwnRow.nil _ _, HB2.out⟩
      | true =>
        obtain ⟨ns, hp, rfl, hcn⟩ := HR4.out rfl rfl rfl
        have Hp := Lib.hid hp
        have Hcn := Lib.hid hcn
        clear HR1 HR2 HR3 HR4 hp hcn
        go_enter Tryz.func78, Tryz.ntmps78
        go_wp2_with fail
        refine CC.out.mono ?_
        rintro e w1 ⟨rfl, hb⟩
        have HB := Lib.hid hb
        have HL := Lib.hid (CL.out w1 hb)
        clear hb CC CL
        go_wp2_with fail
        refine HL.out.mono ?_
        rintro e w2 ⟨rfl, hb2⟩
        have HB2 := Lib.hid (HB.out.trans (hb2.mono HB.out.size))
        clear hb2 HL HB
        obtain ⟨g0, g1, -, -, -⟩ := HE.out.below HB2.out
        have HN := Lib.hid (CN.out trivial ns w2 HB2.out Hp.out Hcn.out)
        rw [if_pos trivial, show Nd.errV b true = .nilIface from rfl]
        clear CN
        go_wp2_with fail
        refine (is_nil a _).mono ?_
        rintro e w3 ⟨rfl, hw3⟩
        subst hw3
        go_wp2_with fail
        refine (is_nil b _).mono ?_
        rintro e w3 ⟨rfl, hw3⟩
        subst hw3
        go_wp2_with fail
        refine HN.out.mono ?_
        rintro e w4 ⟨v4, p4, c4, rfl, hO4, hB4, -, -, -⟩
        have HB4 := Lib.hid (HB2.out.trans (hB4.mono HB2.out.size))
        have HO4 := Lib.hid (show Nd.OwnRow w.heap.size w4 v4 ns.length ns from hO4.base HB2.out.size)
        clear hO4 hB4 HN
        go_wp2_with fail
        go_ret2
        exact ⟨_, rfl, HO4.out, HB4.out⟩
theorem Sc.OwnRow.atc {B : Nat} {W : World} {v : Value} {n : Nat} {l : List Sc.T} (h : Sc.OwnRow B W v n l) : ∃ p c, v = .slice p l.length c ∧ l.length ≤ c ∧ c ≤ 9223372036854775807 ∧ Sc.At W p l := by
  have hc : ∀ p c, v = .slice p n c → n ≤ c ∧ c ≤ 9223372036854775807 := by
    obtain ⟨cs, hown, _, _⟩ := h
    rcases hown.2 with ⟨h1, h2⟩ | ⟨g, cap, cur, h1, _, _, h4, h5, _⟩
    · intro p c e
      rw [h1] at e
      cases e
      exact ⟨Nat.le_refl _, by decide⟩
    · intro p c e
      rw [h1] at e
      cases e
      exact ⟨h4, h5⟩
  obtain ⟨p, c, hv, hl, ha⟩ := h.at
  obtain ⟨h1, h2⟩ := hc p c hv
  exact ⟨p, c, by rw [hl]; exact hv, by omega, h2, ha⟩
/-- The nodes of a text, or why there are none. -/
def Nd.parseR (s : List UInt8) : List Nd.N × Int := if (Sc.toksR s).2 = 0 then Nd.nodesR (Sc.toksR s).1 else ([], (Sc.toksR s).2)
theorem Nd.src_le {t : Sc.T} : ∀ {l : List Sc.T}, t ∈ l → (Sc.srcT t).length ≤ (Sc.srcs l).length
  | [], h => by simp at h
  | x :: l, h => by
    have e : (Sc.srcs (x :: l)).length = (Sc.srcT x).length + (Sc.srcs l).length := by
      unfold Sc.srcs
      rw [List.map_cons, List.flatten_cons, List.length_append]
    rcases List.mem_cons.1 h with rfl | h
    · omega
    · have := Nd.src_le h
      omega
theorem Nd.text_src {t : Sc.T} (h : Sc.okT t = true) : t.text.size ≤ (Sc.srcT t).length := by
  by_cases h1 : t.kind = 1
  · unfold Sc.srcT
    rw [if_pos h1, ← Wp.size_len]
    exact Nat.le_refl _
  · have : t.text.size = 0 := by
      unfold Sc.okT at h
      split at h
      · rename_i hk; exact absurd hk h1
      · rw [Bool.and_eq_true, decide_eq_true_eq] at h; exact h.1
      · rw [Bool.and_eq_true, decide_eq_true_eq] at h; exact h.1
      · rw [Bool.and_eq_true, decide_eq_true_eq] at h; exact h.1
      · rw [Bool.and_eq_true, decide_eq_true_eq] at h; exact h.1
      · rw [Bool.and_eq_true, decide_eq_true_eq] at h; exact h.1
      · cases h
    omega
theorem Nd.toks_short {s : List UInt8} (h : (Sc.toksR s).2 = 0) : (Sc.toksR s).1.length ≤ 1024 ∧ (∀ t ∈ (Sc.toksR s).1, t.text.size ≤ 1024) ∧ Sc.okTs (Sc.toksR s).1 = true ∧ (Sc.srcs (Sc.toksR s).1).length ≤ s.length ∧ s.length ≤ 1024 := by
  refine ⟨Sc.toks_len s, ?_⟩
  unfold Sc.toksR at h ⊢
  by_cases hl : 1024 < s.length
  · rw [if_pos hl] at h; cases h
  · rw [if_neg hl] at h ⊢
    cases hp : Sc.toksP (s.length + 1) s with
    | none => rw [hp] at h; cases h
    | some r =>
      obtain ⟨h1, h2⟩ := Sc.toks_ok _ _ _ hp
      refine ⟨fun t ht => ?_, h1, h2, by omega⟩
      have ht : t ∈ r := ht
      have := Nd.src_le ht
      have := Nd.text_src (Nd.all_of h1 t ht)
      omega
set_option maxRecDepth 100000 in
theorem ndParse_any (s : ByteArray) (w : World) (a b : Addr) (hs : s.size ≤ 900000000000000) (hT : Sc.Laid w) (hM : Sc.MaxLen w) (hE : Nd.Errs w a b) :
    Calls Tryz.prog 37 #[.string s] w (Nd.TopPost (Nd.parseR s.data.toList) w) := by
  have CT := Lib.hid (scTokens_any s w hs hT hM)
  have CN := Lib.hid (fun (h : (Sc.toksR s.data.toList).2 = 0) p c W (hA : Sc.At W p (Sc.toksR s.data.toList).1) (hc : (Sc.toksR s.data.toList).1.length ≤ c) (hc2 : c ≤ 9223372036854775807) (hb : Below w.heap.size w W) => ndNodes_any (Sc.toksR s.data.toList).1 p c W a b hA (by have := (Nd.toks_short h).1; omega) hc hc2 (fun t ht => by have := (Nd.toks_short h).2.1 t ht; omega) (hT.below hb) (hM.below hb) (hE.below hb))
  obtain ⟨R, hR⟩ : ∃ R, R = Nd.parseR s.data.toList := ⟨_, rfl⟩
  rw [← hR]
  unfold Nd.parseR at hR
  generalize Sc.toksR s.data.toList = T at *
  obtain ⟨tl, tc⟩ := T
  simp only at CN hR
  clear hT hM hE hs
  by_cases h0 : tc = 0
  · subst h0
    rw [if_pos rfl] at hR
    have HR := Lib.hid hR
    have CN2 := Lib.hid (CN.out rfl)
    clear hR CN
    go_enter Tryz.func37, Tryz.ntmps37
    go_wp2_with fail
    refine CT.out.mono ?_
    rintro e w1 ⟨v, rfl, hO, hb⟩
    obtain ⟨p1, c1, rfl, hc1, hc2, hA1⟩ := hO.atc
    have HB := Lib.hid hb
    have HN := Lib.hid (CN2.out p1 c1 w1 hA1 hc1 hc2 hb)
    clear hO hb hA1 CN2 CT
    go_wp2_with fail
    refine HN.out.mono ?_
    rintro e w2 ⟨v2, rfl, hO2, hB2⟩
    have HB2 := Lib.hid (HB.out.trans (hB2.mono HB.out.size))
    have HO2 := Lib.hid (hO2.base HB.out.size)
    clear hO2 hB2 HN
    go_wp2_with fail
    go_ret2
    rw [HR.out]
    exact ⟨_, rfl, HO2.out, HB2.out⟩
  · rw [if_neg h0] at hR
    have q0 : (tc != 0) = true := by rw [bne_iff_ne]; exact h0
    have HR := Lib.hid hR
    clear hR CN h0
    go_enter Tryz.func37, Tryz.ntmps37
    go_wp2_with fail
    refine CT.out.mono ?_
    rintro e w1 ⟨v, rfl, -, hb⟩
    have HB := Lib.hid hb
    clear hb CT
    go_wp2_with fail
    go_ret2
    rw [HR.out]
    exact ⟨_, rfl, Nd.OwnRow.nil _ _, HB.out⟩
end Go.Proofs.YteiccjakaabfnaaGreatDoor
namespace Go.Proofs.YteiccjakaabfnaaGreatDoor
open Go.RowKit Go.Shelf

namespace Vt
def lvA : List Nd.N := [.mk 5 ⟨#[]⟩ [⟨#[105, 116, 101, 109, 115]⟩] [.mk 2 ⟨#[]⟩ [⟨#[116, 104, 105, 115]⟩, ⟨#[97]⟩] [] [], .mk 2 ⟨#[]⟩ [⟨#[98]⟩] [] [], .mk 1 ⟨#[33]⟩ [] [] []] []]
def lvB : List Nd.N := [.mk 3 ⟨#[]⟩ [⟨#[116, 104, 105, 115]⟩] [] []]
def lvZ : List Nd.N := [.mk 0 ⟨#[]⟩ [] [] []]
def lvR : List ByteArray := [⟨#[98]⟩, ⟨#[105, 116, 101, 109, 115]⟩]
set_option maxRecDepth 100000 in
theorem lv1 : Nd.parseR [123, 123, 101, 97, 99, 104, 32, 105, 116, 101, 109, 115, 125, 125, 123, 123, 116, 104, 105, 115, 46, 97, 125, 125, 123, 123, 98, 125, 125, 33, 123, 123, 101, 110, 100, 125, 125] = (lvA, 0) := by kernel_rfl
set_option maxRecDepth 100000 in
theorem lv2 : Nd.parseR [123, 123, 105, 102, 32, 116, 104, 105, 115, 125, 125, 123, 123, 101, 110, 100, 125, 125] = (lvB, 0) := by kernel_rfl
set_option maxRecDepth 100000 in
theorem lv3 : Nd.good lvA = true ∧ Nd.good lvB = true ∧ Nd.good lvZ = false := ⟨by kernel_rfl, by kernel_rfl, by kernel_rfl⟩
set_option maxRecDepth 100000 in
theorem lv4 : Vt.namesP (Vt.visL 1 false lvA) = [⟨#[105, 116, 101, 109, 115]⟩, ⟨#[98]⟩] := by kernel_rfl
set_option maxRecDepth 100000 in
theorem lv5 : Vt.sortedL [⟨#[105, 116, 101, 109, 115]⟩, ⟨#[98]⟩] = [[98], [105, 116, 101, 109, 115]] := by
  unfold Vt.sortedL
  simp [List.mergeSort, List.MergeSort.Internal.splitInTwo, List.merge]
  decide
set_option maxRecDepth 100000 in
theorem lv6 : Vt.rootsR lvA = lvR := by
  unfold Vt.rootsR
  rw [lv3.1, lv4, lv5]
  kernel_rfl
set_option maxRecDepth 100000 in
theorem lv7 : Nd.cntL lvA = 4 ∧ Vt.dep (Vt.visL 1 false lvA) = 2 ∧ Vt.plen (Vt.visL 1 false lvA) = 1 := ⟨by kernel_rfl, by kernel_rfl, by kernel_rfl⟩
set_option maxRecDepth 100000 in
theorem lv8 : Vt.thisR lvA = 0 ∧ Vt.thisR lvB = 13 := ⟨by kernel_rfl, by kernel_rfl⟩
theorem lv9 : Vt.onlyR lvA [⟨#[105, 116, 101, 109, 115]⟩] = 13 ∧ Vt.onlyR lvA [⟨#[105, 116, 101, 109, 115]⟩, ⟨#[98]⟩, ⟨#[99]⟩] = 0 ∧ Vt.onlyR lvZ [] = 2 := by
  unfold Vt.onlyR
  rw [lv6, lv3.1, lv3.2.2]
  exact ⟨by kernel_rfl, by kernel_rfl, rfl⟩
set_option maxRecDepth 100000 in
theorem lv10 : ∀ t ∈ Nd.toksL lvA, t.text.size ≤ 4000000000 := by
  have h : (Nd.toksL lvA).all (fun t => decide (t.text.size ≤ 4000000000)) = true := by kernel_rfl
  intro t ht
  exact of_decide_eq_true (List.all_eq_true.1 h t ht)
set_option maxRecDepth 100000 in
theorem lv11 : ∀ t ∈ Nd.toksL lvB, t.text.size ≤ 4000000000 := by
  have h : (Nd.toksL lvB).all (fun t => decide (t.text.size ≤ 4000000000)) = true := by kernel_rfl
  intro t ht
  exact of_decide_eq_true (List.all_eq_true.1 h t ht)
set_option maxRecDepth 100000 in
theorem lv12 : ∀ t ∈ Nd.toksL lvZ, t.text.size ≤ 4000000000 := by
  have h : (Nd.toksL lvZ).all (fun t => decide (t.text.size ≤ 4000000000)) = true := by kernel_rfl
  intro t ht
  exact of_decide_eq_true (List.all_eq_true.1 h t ht)
end Vt
theorem Vt.zero_row (W : World) : Nd.Row (W.alloc (.cells #[.int .u8 0, .string ⟨#[]⟩, .slice none 0 0, .slice none 0 0, .slice none 0 0] 37)) (some ⟨W.heap.size, 0, none⟩) Vt.lvZ := by
  intro j hj
  obtain rfl : j = 0 := by have : j < 1 := hj; omega
  have h5 := Vl.new W (.cells #[.int .u8 0, .string ⟨#[]⟩, .slice none 0 0, .slice none 0 0, .slice none 0 0] 37)
  refine ⟨W.heap.size, 0, .int .u8 0, .string ⟨#[]⟩, .slice none 0 0, .slice none 0 0, .slice none 0 0, rfl, ⟨?_, ?_, ?_, ?_, ?_⟩, .mk 0 ⟨#[]⟩ [] [] [], rfl, ?_⟩
  · rw [Lib.cell_of_heap h5]; rfl
  · rw [Lib.cell_of_heap h5]; rfl
  · rw [Lib.cell_of_heap h5]; rfl
  · rw [Lib.cell_of_heap h5]; rfl
  · rw [Lib.cell_of_heap h5]; rfl
  · rw [Nd.At.eq]
    exact ⟨none, 0, none, 0, none, 0, rfl, ⟨by decide, by decide, by decide, by decide, by decide, fun s (h : s ∈ ([] : List ByteArray)) => absurd h List.not_mem_nil, Nat.le_refl _, Nat.le_refl _, Nat.le_refl _⟩, Or.inl rfl, (Nd.row_iff _ _ []).2 (Nd.Row.nil _ _), (Nd.row_iff _ _ []).2 (Nd.Row.nil _ _)⟩
set_option maxRecDepth 100000 in
set_option maxHeartbeats 4000000 in
theorem lives12_any (w : World) (a b : Addr) (hT : Sc.Laid w) (hM : Sc.MaxLen w) (hE : Nd.Errs w a b) :
    Calls Tryz.prog 22 #[] w fun e w' => e = .returned (.bool true) ∧ Below w.heap.size w w' := by
  have H1 : Hid (∀ W, Below w.heap.size w W → Calls Tryz.prog 37 #[.string ⟨#[123, 123, 101, 97, 99, 104, 32, 105, 116, 101, 109, 115, 125, 125, 123, 123, 116, 104, 105, 115, 46, 97, 125, 125, 123, 123, 98, 125, 125, 33, 123, 123, 101, 110, 100, 125, 125]⟩] W (Nd.TopPost (Vt.lvA, 0) W)) := Lib.hid (fun W h => by
    have := ndParse_any (Wp.B [123, 123, 101, 97, 99, 104, 32, 105, 116, 101, 109, 115, 125, 125, 123, 123, 116, 104, 105, 115, 46, 97, 125, 125, 123, 123, 98, 125, 125, 33, 123, 123, 101, 110, 100, 125, 125]) W a b (by decide) (hT.below h) (hM.below h) (hE.below h)
    rw [Wp.B_data, Vt.lv1] at this
    exact this)
  have H2 : Hid (∀ W, Below w.heap.size w W → Calls Tryz.prog 37 #[.string ⟨#[123, 123, 105, 102, 32, 116, 104, 105, 115, 125, 125, 123, 123, 101, 110, 100, 125, 125]⟩] W (Nd.TopPost (Vt.lvB, 0) W)) := Lib.hid (fun W h => by
    have := ndParse_any (Wp.B [123, 123, 105, 102, 32, 116, 104, 105, 115, 125, 125, 123, 123, 101, 110, 100, 125, 125]) W a b (by decide) (hT.below h) (hM.below h) (hE.below h)
    rw [Wp.B_data, Vt.lv2] at this
    exact this)
  have hts : ∀ t ∈ Nd.toksL Vt.lvA, t.text.size ≤ 4000000000 := Vt.lv10
  have htb : ∀ t ∈ Nd.toksL Vt.lvB, t.text.size ≤ 4000000000 := Vt.lv11
  have htz : ∀ t ∈ Nd.toksL Vt.lvZ, t.text.size ≤ 4000000000 := Vt.lv12
  have HR : Hid (∀ W p c, Below w.heap.size w W → Nd.Row W p Vt.lvA → Calls Tryz.prog 14 #[.slice p 1 c] W fun e w' => ∃ p' c', e = .returned (.tuple #[.slice p' 2 c', .int .i64 0]) ∧ Wp.At Wp.mkT w' p' Vt.lvR ∧ Below W.heap.size W w') := Lib.hid (fun W p c h hA => by
    refine (vtRoots_any Vt.lvA p c W (by decide) hA hts (hT.below h) (hM.below h)).mono ?_
    rintro e w' ⟨p', c', h1, _, h2, h3⟩
    rw [Vt.lv6, (Nd.chk_good).1 Vt.lv3.1] at *
    exact ⟨p', c', h1, h2, h3⟩)
  have HC : Hid (∀ W p c, Below w.heap.size w W → Nd.Row W p Vt.lvA → Calls Tryz.prog 18 #[.slice p 1 c] W fun e w' => e = .returned (.tuple #[.int .i64 4, .int .i64 0]) ∧ Below W.heap.size W w') := Lib.hid (fun W p c h hA => by
    have := vtCount_any Vt.lvA p c W (by decide) hA hts (hT.below h) (hM.below h)
    rw [Vt.lv7.1, (Nd.chk_good).1 Vt.lv3.1, Vt.lv3.1] at this
    exact this)
  have HD : Hid (∀ W p c, Below w.heap.size w W → Nd.Row W p Vt.lvA → Calls Tryz.prog 16 #[.slice p 1 c] W fun e w' => e = .returned (.tuple #[.int .i64 2, .int .i64 0]) ∧ Below W.heap.size W w') := Lib.hid (fun W p c h hA => by
    have := vtDepth_any Vt.lvA p c W (by decide) hA hts (hT.below h) (hM.below h)
    rw [Vt.lv7.2.1, (Nd.chk_good).1 Vt.lv3.1, Vt.lv3.1] at this
    exact this)
  have HP : Hid (∀ W p c, Below w.heap.size w W → Nd.Row W p Vt.lvA → Calls Tryz.prog 20 #[.slice p 1 c] W fun e w' => e = .returned (.tuple #[.int .i64 1, .int .i64 0]) ∧ Below W.heap.size W w') := Lib.hid (fun W p c h hA => by
    have := vtPlain_any Vt.lvA p c W (by decide) hA hts (hT.below h) (hM.below h)
    rw [Vt.lv7.2.2, (Nd.chk_good).1 Vt.lv3.1, Vt.lv3.1] at this
    exact this)
  have HT1 : Hid (∀ W p c, Below w.heap.size w W → Nd.Row W p Vt.lvB → Calls Tryz.prog 26 #[.slice p 1 c] W fun e w' => e = .returned (.int .i64 13) ∧ Below W.heap.size W w') := Lib.hid (fun W p c h hA => by
    have := vtThis_any Vt.lvB p c W (by decide) hA htb (hT.below h) (hM.below h)
    rw [Vt.lv8.2] at this
    exact this)
  have HT2 : Hid (∀ W p c, Below w.heap.size w W → Nd.Row W p Vt.lvA → Calls Tryz.prog 26 #[.slice p 1 c] W fun e w' => e = .returned (.int .i64 0) ∧ Below W.heap.size W w') := Lib.hid (fun W p c h hA => by
    have := vtThis_any Vt.lvA p c W (by decide) hA hts (hT.below h) (hM.below h)
    rw [Vt.lv8.1] at this
    exact this)
  have HO1 : Hid (∀ W p c pn, Below w.heap.size w W → Nd.Row W p Vt.lvA → Wp.At Wp.mkT W pn [⟨#[105, 116, 101, 109, 115]⟩] → Calls Tryz.prog 24 #[.slice p 1 c, .slice pn 1 1] W fun e w' => e = .returned (.int .i64 13) ∧ Below W.heap.size W w') := Lib.hid (fun W p c pn h hA hN => by
    have := vtOnly_any Vt.lvA p c [⟨#[105, 116, 101, 109, 115]⟩] pn 1 W (by decide) hA hts (hT.below h) (hM.below h) hN (by decide)
    rw [Vt.lv9.1] at this
    exact this)
  have HO2 : Hid (∀ W p c pn, Below w.heap.size w W → Nd.Row W p Vt.lvA → Wp.At Wp.mkT W pn [⟨#[105, 116, 101, 109, 115]⟩, ⟨#[98]⟩, ⟨#[99]⟩] → Calls Tryz.prog 24 #[.slice p 1 c, .slice pn 3 3] W fun e w' => e = .returned (.int .i64 0) ∧ Below W.heap.size W w') := Lib.hid (fun W p c pn h hA hN => by
    have := vtOnly_any Vt.lvA p c [⟨#[105, 116, 101, 109, 115]⟩, ⟨#[98]⟩, ⟨#[99]⟩] pn 3 W (by decide) hA hts (hT.below h) (hM.below h) hN (by decide)
    rw [Vt.lv9.2.1] at this
    exact this)
  have HO3 : Hid (∀ W p, Below w.heap.size w W → Nd.Row W p Vt.lvZ → Calls Tryz.prog 24 #[.slice p 1 1, .slice none 0 0] W fun e w' => e = .returned (.int .i64 2) ∧ Below W.heap.size W w') := Lib.hid (fun W p h hA => by
    have := vtOnly_any Vt.lvZ p 1 [] none 0 W (by decide) hA htz (hT.below h) (hM.below h) (Or.inl rfl) (by decide)
    rw [Vt.lv9.2.2] at this
    exact this)
  clear hT hM hE hts htb htz
  go_enter Tryz.func22, Tryz.ntmps22
  go_wp2_with fail
  refine (H1.out _ (Below.refl _ _)).mono ?_
  rintro e w1 ⟨v1, rfl, hO, b1⟩
  obtain ⟨p, c, hv1, hc1, hAt⟩ := hO.at
  obtain rfl : v1 = .slice p 1 c := hv1
  have HA := Lib.hid hAt
  have B1 := Lib.hid b1
  clear hO hAt b1 H1
  go_wp2_with fail
  refine (HR.out _ _ c B1.out HA.out).mono ?_
  rintro e w2 ⟨p2, c2, rfl, ha2, b2⟩
  have HN := Lib.hid ha2
  have HA := Lib.hid (HA.out.below b2)
  have B2 := Lib.hid (B1.out.trans (b2.mono B1.out.size))
  clear b2 ha2 HR
  go_wp2_with fail
  refine (HC.out _ _ c B2.out HA.out).mono ?_
  rintro e w3 ⟨rfl, b3⟩
  have HN := Lib.hid (HN.out.below b3)
  have HA := Lib.hid (HA.out.below b3)
  have B3 := Lib.hid (B2.out.trans (b3.mono B2.out.size))
  clear b3 HC
  go_wp2_with fail
  refine (HD.out _ _ c B3.out HA.out).mono ?_
  rintro e w4 ⟨rfl, b4⟩
  have HN := Lib.hid (HN.out.below b4)
  have HA := Lib.hid (HA.out.below b4)
  have B4 := Lib.hid (B3.out.trans (b4.mono B3.out.size))
  clear b4 HD
  go_wp2_with fail
  refine (HP.out _ _ c B4.out HA.out).mono ?_
  rintro e w5 ⟨rfl, b5⟩
  have HN := Lib.hid (HN.out.below b5)
  have HA := Lib.hid (HA.out.below b5)
  have B5 := Lib.hid (B4.out.trans (b5.mono B4.out.size))
  clear b5 HP
  go_wp2_with fail
  refine (H2.out _ B5.out).mono ?_
  rintro e w6 ⟨v6, rfl, hO6, b6⟩
  obtain ⟨p6, c6, hv6, -, hA6⟩ := hO6.at
  obtain rfl : v6 = .slice p6 1 c6 := hv6
  have HM := Lib.hid hA6
  have HN := Lib.hid (HN.out.below b6)
  have HA := Lib.hid (HA.out.below b6)
  have B6 := Lib.hid (B5.out.trans (b6.mono B5.out.size))
  clear b6 H2 hO6 hA6
  go_wp2_with fail
  have hal := (Below.refl w6.heap.size w6).alloc (Nat.le_refl _) (.cells #[.string ⟨#[98]⟩, .string ⟨#[105, 116, 101, 109, 115]⟩] 9)
  have hq2 : Wp.At Wp.mkT (w6.alloc (.cells #[.string ⟨#[98]⟩, .string ⟨#[105, 116, 101, 109, 115]⟩] 9)) (some ⟨w6.heap.size, 0, none⟩) Vt.lvR := Or.inr ⟨w6.heap.size, 0, rfl, fun i hi => by
    rw [World.cell?_alloc_at _ _ _ _ rfl]
    match i, hi with
    | 0, _ => rfl
    | 1, _ => rfl⟩
  have HA := Lib.hid (HA.out.below hal)
  have HM := Lib.hid (HM.out.below hal)
  have B7 := Lib.hid (B6.out.trans (hal.mono B6.out.size))
  refine (same_texts p2 (some ⟨w6.heap.size, 0, none⟩) c2 2 Vt.lvR _ (by decide) (HN.out.below hal) hq2).mono ?_
  rintro e w8 ⟨rfl, b8⟩
  have HA := Lib.hid (HA.out.below b8)
  have HM := Lib.hid (HM.out.below b8)
  have B8 := Lib.hid (B7.out.trans (b8.mono B7.out.size))
  clear b8 hal hq2 HN
  go_wp2_with fail
  refine (HT1.out _ _ c6 B8.out HM.out).mono ?_
  rintro e w9 ⟨rfl, b9⟩
  have HA := Lib.hid (HA.out.below b9)
  have B9 := Lib.hid (B8.out.trans (b9.mono B8.out.size))
  clear b9 HM HT1
  go_wp2_with fail
  refine (HT2.out _ _ c B9.out HA.out).mono ?_
  rintro e w10 ⟨rfl, b10⟩
  have HA := Lib.hid (HA.out.below b10)
  have B10 := Lib.hid (B9.out.trans (b10.mono B9.out.size))
  clear b10 HT2
  go_wp2_with fail
  have hal := (Below.refl w10.heap.size w10).alloc (Nat.le_refl _) (.cells #[.string ⟨#[105, 116, 101, 109, 115]⟩] 9)
  refine (HO1.out _ p c (some ⟨w10.heap.size, 0, none⟩) (B10.out.trans (hal.mono B10.out.size)) (HA.out.below hal) (Or.inr ⟨w10.heap.size, 0, rfl, fun i hi => by
    rw [World.cell?_alloc_at _ _ _ _ rfl]
    match i, hi with
    | 0, _ => rfl⟩)).mono ?_
  rintro e w11 ⟨rfl, b11⟩
  have HA := Lib.hid ((HA.out.below hal).below b11)
  have B11 := Lib.hid ((B10.out.trans (hal.mono B10.out.size)).trans (b11.mono (B10.out.trans (hal.mono B10.out.size)).size))
  clear b11 HO1 hal
  go_wp2_with fail
  have hal := (Below.refl w11.heap.size w11).alloc (Nat.le_refl _) (.cells #[.string ⟨#[105, 116, 101, 109, 115]⟩, .string ⟨#[98]⟩, .string ⟨#[99]⟩] 9)
  refine (HO2.out _ p c (some ⟨w11.heap.size, 0, none⟩) (B11.out.trans (hal.mono B11.out.size)) (HA.out.below hal) (Or.inr ⟨w11.heap.size, 0, rfl, fun i hi => by
    rw [World.cell?_alloc_at _ _ _ _ rfl]
    match i, hi with
    | 0, _ => rfl
    | 1, _ => rfl
    | 2, _ => rfl⟩)).mono ?_
  rintro e w12 ⟨rfl, b12⟩
  have B12 := Lib.hid ((B11.out.trans (hal.mono B11.out.size)).trans (b12.mono (B11.out.trans (hal.mono B11.out.size)).size))
  clear b12 HO2 hal HA
  go_wp2_with fail
  have hal := (Below.refl w12.heap.size w12).alloc (Nat.le_refl _) (.cells #[.int .u8 0, .string ⟨#[]⟩, .slice none 0 0, .slice none 0 0, .slice none 0 0] 37)
  refine (HO3.out _ (some ⟨w12.heap.size, 0, none⟩) (B12.out.trans (hal.mono B12.out.size)) (Vt.zero_row w12)).mono ?_
  rintro e w13 ⟨rfl, b13⟩
  have B13 := Lib.hid ((B12.out.trans (hal.mono B12.out.size)).trans (b13.mono (B12.out.trans (hal.mono B12.out.size)).size))
  clear b13 HO3 hal
  go_wp2_with fail
  go_ret
  exact ⟨rfl, B13.out⟩
end Go.Proofs.YteiccjakaabfnaaGreatDoor
