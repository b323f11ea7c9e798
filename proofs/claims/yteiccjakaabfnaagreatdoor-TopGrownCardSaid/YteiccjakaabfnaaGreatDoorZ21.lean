/-
  Plain mathematics of a tag's text as scan's source makes it: the word, with a space and the path, trimmed. No condition but those that the theorems state.
  The walk of scan's source. Conditions: the token is right; the words' table reads as it is laid.
  The walk of scan's Write. Conditions: the words' table reads as it is laid, the search's limit is set; the tokens' texts are of a size that the search bears.
  The walks of tree's rightTokens, Check and Write. Conditions: lists are of a size that a machine holds; texts are below four thousand million bytes.
-/
import Derived.Test.YteiccjakaabfnaaGreatDoorScMath
import Derived.Test.YteiccjakaabfnaaGreatDoorZ24
import Derived.Lib.TrimByte
import Derived.Lib.Join
import Derived.Test.YteiccjakaabfnaaGreatDoorZ17
import Derived.Deep.RegionHeld3
import Derived.Deep.Cut
import Derived.Deep.CutRange
import Derived.Test.YteiccjakaabfnaaGreatDoorScChkW
import Derived.Test.YteiccjakaabfnaaGreatDoorZ22
import Derived.Test.YteiccjakaabfnaaGreatDoorNdPut
namespace Go.Proofs.YteiccjakaabfnaaGreatDoor.Sc
open Go.Lib

theorem join_eq : ∀ p : List ByteArray, Lib.join (p.map (·.data.toList)) [46] = joinP p
  | [] => rfl
  | [a] => by simp [Lib.join, List.intercalate, joinP]
  | a :: b :: r => by
    have ih := join_eq (b :: r)
    unfold Lib.join at ih ⊢
    rw [joinP, ← ih]
    simp [List.intercalate]
theorem trimR_end (p m : List UInt8) (h : m ≠ []) (hx : ∀ x ∈ m, x ≠ 32) : trimRightB (p ++ m) 32 = p ++ m := by
  unfold trimRightB
  rw [List.reverse_append]
  cases hm : m.reverse with
  | nil => exact absurd (List.reverse_eq_nil_iff.1 hm) h
  | cons z r =>
    have hz : z ≠ 32 := hx z (by rw [← List.mem_reverse, hm]; simp)
    rw [List.cons_append, List.dropWhile_cons_of_neg (by simp [hz]), ← List.cons_append, ← hm, ← List.reverse_append, List.reverse_reverse]
theorem trimL_head (z : UInt8) (r : List UInt8) (h : z ≠ 32) : trimLeftB (z :: r) 32 = z :: r := by
  unfold trimLeftB
  rw [List.dropWhile_cons_of_neg (by simp [h])]
/-- What source trims. -/
def midT (t : T) : List UInt8 := (kw t.kind).data.toList ++ ([32] ++ joinP t.path)
theorem trim_mid {t : T} (h : okT t = true) (h1 : t.kind ≠ 1) : trimB (midT t) 32 = wordT t := by
  obtain ⟨e, hc⟩ := okT_tag h h1
  obtain ⟨k, x, p⟩ := t
  simp only at e hc h1
  rcases hc with ⟨hk, hp⟩ | ⟨hk, rfl⟩
  · obtain ⟨g1, _, g3, _⟩ := pathOk_facts hp
    obtain ⟨hj0, hj⟩ := join_ne g1 g3
    have hx : ∀ y ∈ joinP p, y ≠ 32 := fun y hy => (hj y hy).1
    rcases hk with rfl | rfl | rfl
    · show trimLeftB (trimRightB ([] ++ ([32] ++ joinP p)) 32) 32 = joinP p
      rw [List.nil_append, trimR_end [32] _ hj0 hx]
      cases hJ : joinP p with
      | nil => exact absurd hJ hj0
      | cons z r =>
        have hz : z ≠ 32 := hx z (by rw [hJ]; simp)
        show trimLeftB (32 :: z :: r) 32 = _
        unfold trimLeftB
        rw [List.dropWhile_cons_of_pos (by simp), List.dropWhile_cons_of_neg (by simp [hz])]
    · show trimLeftB (trimRightB ([105, 102] ++ ([32] ++ joinP p)) 32) 32 = _
      rw [← List.append_assoc, trimR_end _ _ hj0 hx]
      rfl
    · show trimLeftB (trimRightB ([101, 97, 99, 104] ++ ([32] ++ joinP p)) 32) 32 = _
      rw [← List.append_assoc, trimR_end _ _ hj0 hx]
      rfl
  · rcases hk with rfl | rfl
    · rfl
    · rfl
theorem mid_len {t : T} (h : okT t = true) (h1 : t.kind ≠ 1) : t.path.length ≤ 4 ∧ (joinP t.path).length ≤ 131 ∧ t.kind ≤ 6 ∧ 2 ≤ t.kind := by
  obtain ⟨e, hc⟩ := okT_tag h h1
  obtain ⟨k, x, p⟩ := t
  simp only at e hc h1 ⊢
  have hlen : ∀ p : List ByteArray, (∀ n ∈ p, Vl.nameL n.data.toList = true) → (joinP p).length ≤ 33 * p.length := by
    intro p hp
    have hn : ∀ n ∈ p, n.data.toList.length ≤ 32 := fun n hn => by
      have := hp n hn
      unfold Vl.nameL at this
      simp only [Bool.and_eq_true, decide_eq_true_eq] at this
      first | exact this.1.1 | exact this.1.2 | exact this.1 | exact this.2
    clear hp
    induction p with
    | nil => simp [joinP]
    | cons a r ih =>
      have h1 := hn a (by simp)
      have h2 := ih (fun n h => hn n (by simp [h]))
      cases r with
      | nil => simp only [joinP, List.length_cons, List.length_nil]; omega
      | cons b r =>
        rw [joinP, List.length_append, List.length_cons]
        simp only [List.length_cons] at h2 ⊢
        omega
  rcases hc with ⟨hk, hp⟩ | ⟨hk, rfl⟩
  · obtain ⟨g1, g2, g3, _⟩ := pathOk_facts hp
    have hl := hlen p g3
    have hl2 : (joinP p).length ≤ 131 := by
      have h32 : ∀ p : List ByteArray, p ≠ [] → (∀ n ∈ p, Vl.nameL n.data.toList = true) → (joinP p).length + 1 ≤ 33 * p.length := by
        intro p
        induction p with
        | nil => intro h; exact absurd rfl h
        | cons a r ih =>
          intro _ hp
          have ha : a.data.toList.length ≤ 32 := by
            have := hp a (by simp)
            unfold Vl.nameL at this
            simp only [Bool.and_eq_true, decide_eq_true_eq] at this
            first | exact this.1.1 | exact this.1.2 | exact this.1 | exact this.2
          cases r with
          | nil => simp only [joinP, List.length_cons, List.length_nil]; omega
          | cons b r =>
            have h2 := ih (by simp) (fun n h => hp n (by simp [h]))
            rw [joinP, List.length_append, List.length_cons]
            simp only [List.length_cons] at h2 ⊢
            omega
      have := h32 p g1 g3
      omega
    exact ⟨g2, hl2, by omega, by omega⟩
  · exact ⟨by simp, by simp [joinP], by omega, by omega⟩
end Go.Proofs.YteiccjakaabfnaaGreatDoor.Sc
namespace Go.Proofs.YteiccjakaabfnaaGreatDoor
open Go.RowKit Go.Shelf

theorem Sc.join_any (pn : Option Addr) (cn : Nat) (p : List ByteArray) (w : World) (hp : Wp.At Wp.mkT w pn p) (hc : p.length ≤ cn) (h4 : p.length ≤ 4) (hl : (Sc.joinP p).length ≤ 131) :
    Calls Tryz.prog 79 #[.slice pn p.length cn, .string ⟨#[46]⟩] w fun e w' => e = .returned (.string (Wp.B (Sc.joinP p))) ∧ Below w.heap.size w w' := by
  rcases hp with rfl | ⟨b, off, rfl, hcell⟩
  · refine (Tryz.strings_Join_none pn cn ⟨#[46]⟩ w).mono ?_
    rintro e w' ⟨rfl, rfl⟩
    exact ⟨rfl, Below.refl _ _⟩
  · cases p with
    | nil =>
      refine (Tryz.strings_Join_none (some ⟨b, off, none⟩) cn ⟨#[46]⟩ w).mono ?_
      rintro e w' ⟨rfl, rfl⟩
      exact ⟨rfl, Below.refl _ _⟩
    | cons a r =>
      have hcs : ∀ (j : Nat) x, (a :: r)[j]? = some x → w.cell? ⟨b, off + j, none⟩ = some (.string x) := fun j x hx => by
        obtain ⟨hj, he⟩ := List.getElem?_eq_some_iff.1 hx
        rw [hcell j hj, he]
        rfl
      have hb : b < w.heap.size := World.block_lt_of_cell? w _ (hcs 0 a rfl)
      have h := Tryz.strings_Join b off cn (a :: r) ⟨#[46]⟩ w hcs hb (by omega) hc (by rw [show (⟨#[46]⟩ : ByteArray).data.toList = [46] from rfl, Sc.join_eq]; omega)
      rw [show (⟨#[46]⟩ : ByteArray).data.toList = [46] from rfl, Sc.join_eq] at h
      exact h
theorem Sc.Laid.kwc {w : World} (h : Sc.Laid w) (k : Nat) (h2 : 2 ≤ k) (h6 : k ≤ 6) : w.cell? ⟨4, k, none⟩ = some (.string (Sc.kw k)) := by
  obtain ⟨c0, c1, c2, c3, c4, c5, c6⟩ := h.cells
  have : k = 2 ∨ k = 3 ∨ k = 4 ∨ k = 5 ∨ k = 6 := by omega
  rcases this with rfl | rfl | rfl | rfl | rfl
  · exact c2
  · exact c3
  · exact c4
  · exact c5
  · exact c6
end Go.Proofs.YteiccjakaabfnaaGreatDoor
namespace Go.Proofs.YteiccjakaabfnaaGreatDoor
open Go.RowKit Go.Shelf

theorem Sc.srcs_snoc (l : List Sc.T) (k : Nat) (h : k < l.length) : Sc.srcs (l.take (k + 1)) = Sc.srcs (l.take k) ++ Sc.srcT l[k] := by
  unfold Sc.srcs
  rw [List.take_succ_eq_append_getElem h, List.map_append, List.flatten_append]
  simp
theorem Sc.srcs_le (l : List Sc.T) (k : Nat) : (Sc.srcs (l.take k)).length ≤ (Sc.srcs l).length := by
  unfold Sc.srcs
  conv => rhs; rw [← List.take_append_drop k l]
  rw [List.map_append, List.flatten_append, List.length_append]
  omega
theorem Sc.srcT_len {t : Sc.T} (h : Sc.okT t = true) (hs : t.text.size ≤ 4000000000) : (Sc.srcT t).length ≤ 4000000200 := by
  unfold Sc.srcT
  by_cases h1 : t.kind = 1
  · rw [if_pos h1, ← Wp.size_len]; omega
  · rw [if_neg h1]
    obtain ⟨_, gj, _, _⟩ := Sc.mid_len h h1
    have : (Sc.wordT t).length ≤ 136 := by
      unfold Sc.wordT
      repeat' split
      all_goals first | omega | (simp [Sc.wIf, Sc.wEach, Sc.wElse, Sc.wEnd]; done) | (simp [Sc.wIf, Sc.wEach, Sc.wElse, Sc.wEnd]; omega)
    simp only [List.length_append, Sc.oo, Sc.cc, List.length_cons, List.length_nil]
    omega
theorem Sc.writeR_bad {l : List Sc.T} (h : Sc.okTs l = false) : Sc.writeR l = ([], 2) := by unfold Sc.writeR; rw [if_neg (by rw [h]; exact Bool.false_ne_true)]
theorem Sc.writeR_long {l : List Sc.T} (h : Sc.okTs l = true) (hl : 1024 < (Sc.srcs l).length) : Sc.writeR l = ([], 12) := by unfold Sc.writeR; rw [if_pos h, if_pos hl]
theorem Sc.writeR_ok {l : List Sc.T} (h : Sc.okTs l = true) (hl : ¬ 1024 < (Sc.srcs l).length) : Sc.writeR l = (Sc.srcs l, 0) := by unfold Sc.writeR; rw [if_pos h, if_neg hl]
end Go.Proofs.YteiccjakaabfnaaGreatDoor
namespace Go.Proofs.YteiccjakaabfnaaGreatDoor
open Go.RowKit

theorem Nd.toksR_bad {l : List Nd.N} (h : Nd.good l = false) : Nd.toksR l = ([], 2) := by unfold Nd.toksR; rw [h]; rfl
theorem Nd.toksR_ok {l : List Nd.N} (h : Nd.good l = true) : Nd.toksR l = (Nd.toksL l, 0) := by unfold Nd.toksR; rw [if_pos h]
theorem Nd.toksR_chk (l : List Nd.N) : (Nd.toksR l).2 = Nd.chk l := by
  unfold Nd.toksR Nd.chk
  split <;> rfl
/-- What rightTokens hands back. -/
def Nd.RTPost (R : List Sc.T × Int) (w : World) (e : Ending) (w' : World) : Prop := ∃ v, e = .returned (.tuple #[v, .int .i64 R.2]) ∧ Nd.TRow w w.heap.size w' v R.1 ∧ Below w.heap.size w w'
set_option maxRecDepth 100000 in
set_option maxHeartbeats 2000000 in
theorem ndRightTokens_any (l : List Nd.N) (q : Option Addr) (c : Nat) (w : World) (hn : l.length ≤ 140737488351232) (hA : Nd.Row w q l) (hts : ∀ t ∈ Nd.toksL l, t.text.size ≤ 4000000000) (hT : Sc.Laid w) (hM : Sc.MaxLen w) :
    Calls Tryz.prog 76 #[.slice q l.length c] w (Nd.RTPost (Nd.toksR l) w) := by
  have hg := Nd.go_shaped l
  have Hgo := Lib.hid (Nd.go_shaped l)
  have HX := Lib.hid ((Below.refl w.heap.size w).alloc (Nat.le_refl _) (.cells #[.int .i64 256] 3))
  have CS := Lib.hid (shaped_any 8 l q c w (w.alloc (.cells #[.int .i64 256] 3)) w.heap.size 256 (Nat.le_refl _) (by decide) (by decide) hn hA HX.out (Nat.le_refl _) (Vl.new _ _))
  have CP := Lib.hid (fun (h : Nd.okL 8 l = true) W (h2 : Below w.heap.size w W) (h3 : (Nd.toksL l).length ≤ 1000) => put_any 8 l q c w w.heap.size W (.slice none 0 0) [] h hn hA (Nat.le_refl _) h2 h2.size (Nd.TRow.nil _ _ _) (by rw [List.length_nil, Nat.zero_add]; exact h3))
  have HL := Lib.hid (fun (h : Nd.shapedP l = true) => (by
    unfold Nd.shapedP at h
    rw [Bool.and_eq_true, decide_eq_true_eq] at h
    have := Nd.toks_len 8 l h.1
    exact ⟨h.1, by omega⟩ : Nd.okL 8 l = true ∧ (Nd.toksL l).length ≤ 1000))
  have CC := Lib.hid (fun p2 c2 W (h : Sc.At W p2 (Nd.toksL l)) (h3 : (Nd.toksL l).length ≤ 1000) (hb : Below w.heap.size w W) => scCheck_any (Nd.toksL l) p2 c2 W h (by omega) hts (hT.below hb) (hM.below hb))
  obtain ⟨R, hR⟩ : ∃ R, R = Nd.toksR l := ⟨_, rfl⟩
  rw [← hR]
  have hgd : Nd.good l = (Nd.shapedP l && Sc.okTs (Nd.toksL l)) := rfl
  have HR1 := Lib.hid (fun (h : Nd.good l = false) => hR.trans (Nd.toksR_bad h))
  have HR2 := Lib.hid (fun (h : Nd.good l = true) => hR.trans (Nd.toksR_ok h))
  have Hchk := Lib.hid (show Sc.chkTs (Nd.toksL l) = if Sc.okTs (Nd.toksL l) then 0 else 2 from rfl)
  rw [hgd] at HR1 HR2
  unfold Nd.ShapePost at CS
  rw [hg] at CS
  clear hg hn hA hT hM hR hgd hts Hgo
  generalize Nd.shapedP l = sh at *
  generalize Nd.toksL l = tl at *
  generalize (Nd.go 8 l 256).2 = rr at *
  generalize Nd.okL 8 l = ok at *
  generalize l.length = n at *
  go_enter Tryz.func76, Tryz.ntmps76
  go_wp2_with fail
  refine CS.out.mono ?_
  rintro e w1 ⟨rfl, hg1, -⟩
  have HB1 := Lib.hid (below_grownBy HX.out hg1 (Nat.le_refl _) HX.out.size)
  clear hg1 HX CS
  cases sh with
  | false =>
    obtain rfl := HR1.out rfl
    go_wp2_with fail
    go_ret2
    exact ⟨_, rfl, Nd.TRow.nil _ _ _, HB1.out⟩
  | true =>
    obtain ⟨h1, h2⟩ := HL.out rfl
    have HP := Lib.hid (CP.out h1 w1 HB1.out h2)
    have H2 := Lib.hid h2
    clear h1 h2 CP HL
    go_wp2_with fail
    refine HP.out.mono ?_
    rintro e w2 ⟨v2, rfl, hT2, hg2⟩
    rw [List.nil_append] at hT2
    have hB2 : Below w.heap.size w w2 := HB1.out.trans ⟨hg2.1.os, hg2.1.tape, hg2.1.output, hg2.1.size, fun k hk => hg2.1.block k (Nat.lt_of_lt_of_le hk HB1.out.size) (by rintro ⟨⟩)⟩
    obtain ⟨p2, c2, rfl, hA2⟩ := hT2.at hB2
    have HC := Lib.hid (CC.out p2 c2 w2 hA2 H2.out hB2)
    have HB2 := Lib.hid hB2
    have HT2 := Lib.hid hT2
    clear hg2 hT2 hA2 hB2 CC HP
    go_wp2_with fail
    refine HC.out.mono ?_
    rintro e w3 ⟨rfl, hb3⟩
    have HB3 := Lib.hid (HB2.out.trans (hb3.mono HB2.out.size))
    have HT3 := Lib.hid (HT2.out.below hb3)
    clear hb3 HC HT2 HB2 HB1
    rw [Hchk.out]
    cases hok : Sc.okTs tl with
    | false =>
      obtain rfl := HR1.out (by rw [hok]; rfl)
      clear hok
      go_wp2_with fail
      go_ret2
      exact ⟨_, rfl, Nd.TRow.nil _ _ _, HB3.out⟩
    | true =>
      obtain rfl := HR2.out (by rw [hok]; rfl)
      clear hok
      go_wp2_with fail
      go_ret2
      exact ⟨_, rfl, HT3.out, HB3.out⟩
set_option maxRecDepth 100000 in
theorem ndCheck_any (l : List Nd.N) (q : Option Addr) (c : Nat) (w : World) (hn : l.length ≤ 140737488351232) (hA : Nd.Row w q l) (hts : ∀ t ∈ Nd.toksL l, t.text.size ≤ 4000000000) (hT : Sc.Laid w) (hM : Sc.MaxLen w) :
    Calls Tryz.prog 36 #[.slice q l.length c] w fun e w' => e = .returned (.int .i64 (Nd.chk l)) ∧ Below w.heap.size w w' := by
  have C := Lib.hid (ndRightTokens_any l q c w hn hA hts hT hM)
  rw [← Nd.toksR_chk]
  clear hA hts hT hM hn
  generalize Nd.toksR l = R at *
  generalize l.length = n at *
  go_enter Tryz.func36, Tryz.ntmps36
  go_wp2_with fail
  refine C.out.mono ?_
  rintro e w1 ⟨v, rfl, -, hb⟩
  have HB := Lib.hid hb
  clear hb C
  go_wp2_with fail
  go_ret
  exact ⟨rfl, HB.out⟩
end Go.Proofs.YteiccjakaabfnaaGreatDoor
