/-
  The walks of scan's right and standsBehind. Conditions: the words' table reads as it is laid, the search's limit is set; the token's text is of a size that the search bears.
  What scan's Check asks of tokens, place by place. No condition but those that the theorems state.
  The walk of the document's own Check of tokens (bellmanref10). Condition: the tokens read as tokens.
-/
import Derived.Test.YteiccjakaabfnaaGreatDoorScToksW
import Derived.Test.YteiccjakaabfnaaGreatDoorZ39
namespace Go.Proofs.YteiccjakaabfnaaGreatDoor
open Go.RowKit Go.Shelf

theorem Sc.okT_other {t : Sc.T} (h1 : t.kind ≠ 1) (h2 : t.kind ≠ 2) (h3 : t.kind ≠ 3) (h4 : t.kind ≠ 4) (h5 : t.kind ≠ 5) (h6 : t.kind ≠ 6) : Sc.okT t = false := by
  unfold Sc.okT
  split <;> first | rfl | contradiction
theorem Sc.okT_path {t : Sc.T} (h : t.kind = 2 ∨ t.kind = 3 ∨ t.kind = 5) : Sc.okT t = (decide (t.text.size = 0) && Sc.pathOk (t.path.map (·.data.toList))) := by
  unfold Sc.okT
  rcases h with h | h | h <;> (rw [h]; rfl)
theorem Sc.okT_none {t : Sc.T} (h : t.kind = 4 ∨ t.kind = 6) : Sc.okT t = (decide (t.text.size = 0) && decide (t.path.length = 0)) := by
  unfold Sc.okT
  rcases h with h | h <;> (rw [h]; rfl)
theorem Sc.okT_one {t : Sc.T} (h : t.kind = 1) : Sc.okT t = (decide (t.text.size ≠ 0) && !Lib.contains t.text.data.toList Sc.oo && decide (t.path.length = 0)) := by
  unfold Sc.okT
  rw [h]
  rfl
theorem Sc.empty_b (s : ByteArray) : (s.toList == ([] : List UInt8)) = decide (s.size = 0) ∧ (s.toList != ([] : List UInt8)) = decide (s.size ≠ 0) := by
  rw [Wp.size_len, Lib.toList_data]
  cases h : s.data.toList with
  | nil => exact ⟨rfl, rfl⟩
  | cons a t => exact ⟨by simp, by simp⟩
set_option maxRecDepth 100000 in
set_option maxHeartbeats 2000000 in
theorem scRight_any (t : Sc.T) (v : Value) (w : World) (hA : Sc.Tok w v t) (hts : t.text.size ≤ 4000000000) (hT : Sc.Laid w) (hM : Sc.MaxLen w) :
    Calls Tryz.prog 181 #[v] w fun e w' => e = .returned (.bool (Sc.okT t)) ∧ Below w.heap.size w w' := by
  obtain ⟨m, hm⟩ := hM
  obtain ⟨pn, cn, rfl, ⟨f1, f2, f3, f4⟩, hp⟩ := hA
  have HR : Hid (∀ W, Below w.heap.size w W → Calls Tryz.prog 88 #[.slice pn t.path.length cn] W fun e w' => e = .returned (.bool (Sc.rightB t.path)) ∧ w' = W) := Lib.hid (fun W h => scPathRight_any pn cn t.path W (hT.below h) f3 f4 (hp.below h))
  have HC : Hid (∀ W, Below w.heap.size w W → Calls Tryz.prog 230 #[.string t.text, .string ⟨#[123, 123]⟩] W fun e w' => e = .returned (.bool (Lib.contains t.text.data.toList Sc.oo)) ∧ w' = W) := Lib.hid (fun W h => by
    obtain ⟨m2, hm2⟩ := Sc.MaxLen.below ⟨m, hm⟩ h
    exact Tryz.strings_Contains t.text ⟨#[123, 123]⟩ m2 W (by omega) hm2)
  have HB0 := Lib.hid ((Below.refl w.heap.size w).alloc (Nat.le_refl _) (.cells #[.int .u8 (t.kind : Nat), .string t.text, .slice pn t.path.length cn] 110))
  have HV0 := Lib.hid (Vl.new w (.cells #[.int .u8 (t.kind : Nat), .string t.text, .slice pn t.path.length cn] 110))
  obtain ⟨R, hR⟩ : ∃ R, R = Sc.okT t := ⟨_, rfl⟩
  have H1 := Lib.hid (fun h => hR.trans (Sc.okT_one (t := t) h))
  have H2 := Lib.hid (fun h => hR.trans (Sc.okT_path (t := t) h))
  have H4 := Lib.hid (fun h => hR.trans (Sc.okT_none (t := t) h))
  have H7 := Lib.hid (fun h1 h2 h3 h4 h5 h6 => hR.trans (Sc.okT_other (t := t) h1 h2 h3 h4 h5 h6))
  rw [← hR]
  have hrb : Sc.pathOk (t.path.map (·.data.toList)) = Sc.rightB t.path := rfl
  rw [hrb] at H2
  obtain ⟨he1, he2⟩ := Sc.empty_b t.text
  have hz1 : ((t.path.length : Int) == 0) = decide (t.path.length = 0) := by
    by_cases h : t.path.length = 0
    · rw [decide_eq_true h]; exact beq_iff_eq.2 (by omega)
    · rw [decide_eq_false h]; exact beq_eq_false_iff_ne.2 (by omega)
  clear hR hrb hp f2 f4 hT hm hts
  generalize Sc.rightB t.path = rb at *
  generalize Lib.contains t.text.data.toList Sc.oo = ct at *
  generalize t.text = tx at *
  generalize t.path.length = n at *
  generalize t.kind = k at *
  generalize decide (n = 0) = bz at *
  have Hz1 := Lib.hid hz1
  have He1 := Lib.hid he1
  have He2 := Lib.hid he2
  rw [show decide (tx.size ≠ 0) = !decide (tx.size = 0) by simp] at H1 He2
  generalize decide (tx.size = 0) = b0 at *
  clear hz1 he1 he2
  have hk7 : k = 1 ∨ (k = 2 ∨ k = 3 ∨ k = 5) ∨ (k = 4 ∨ k = 6) ∨ (k ≠ 1 ∧ k ≠ 2 ∧ k ≠ 3 ∧ k ≠ 4 ∧ k ≠ 5 ∧ k ≠ 6) := by omega
  obtain ⟨m0, m1, m2⟩ := Sc.three_of HV0.out
  rcases hk7 with rfl | hk | hk | ⟨n1, n2, n3, n4, n5, n6⟩
  · have HRz := Lib.hid (H1.out rfl)
    have HCc := Lib.hid (HC.out _ HB0.out)
    clear H1 H2 H4 H7 HR HC
    cases b0 with
    | true =>
      have q := He2.out
      have q2 := He1.out
      go_enter Tryz.func181, Tryz.ntmps181
      go_wp2_with fail
      go_ret
      exact ⟨by rw [HRz.out]; rfl, HB0.out⟩
    | false =>
      have q := He2.out
      have q2 := He1.out
      have q3 := Hz1.out
      go_enter Tryz.func181, Tryz.ntmps181
      go_wp2_with fail
      refine HCc.out.mono ?_
      rintro e w1 ⟨rfl, rfl⟩
      cases ct <;> cases bz
      all_goals
        go_wp2_with fail
        go_ret
        exact ⟨by rw [HRz.out]; first | rfl | simp [q3], HB0.out⟩
  · have HRz := Lib.hid (H2.out hk)
    have HCc := Lib.hid (HR.out _ HB0.out)
    clear H1 H2 H4 H7 HR HC
    cases b0 with
    | true =>
      have q := He1.out
      rcases hk with rfl | rfl | rfl
      all_goals
        go_enter Tryz.func181, Tryz.ntmps181
        go_wp2_with fail
        refine HCc.out.mono ?_
        rintro e w1 ⟨rfl, rfl⟩
        go_wp2_with fail
        go_ret
        exact ⟨by rw [HRz.out]; simp, HB0.out⟩
    | false =>
      have q := He1.out
      rcases hk with rfl | rfl | rfl
      all_goals
        go_enter Tryz.func181, Tryz.ntmps181
        go_wp2_with fail
        go_ret
        exact ⟨by rw [HRz.out]; rfl, HB0.out⟩
  · have HRz := Lib.hid (H4.out hk)
    clear H1 H2 H4 H7 HR HC
    cases b0 with
    | true =>
      have q := He1.out
      have q3 := Hz1.out
      rcases hk with rfl | rfl
      all_goals
        go_enter Tryz.func181, Tryz.ntmps181
        go_wp2_with fail
        go_ret
        exact ⟨by rw [HRz.out]; simp, HB0.out⟩
    | false =>
      have q := He1.out
      rcases hk with rfl | rfl
      all_goals
        go_enter Tryz.func181, Tryz.ntmps181
        go_wp2_with fail
        go_ret
        exact ⟨by rw [HRz.out]; rfl, HB0.out⟩
  · have HRz := Lib.hid (H7.out n1 n2 n3 n4 n5 n6)
    have q1 : ((k : Int) == 1) = false := beq_eq_false_iff_ne.2 (by omega)
    have q2 : ((k : Int) == 2) = false := beq_eq_false_iff_ne.2 (by omega)
    have q3 : ((k : Int) == 3) = false := beq_eq_false_iff_ne.2 (by omega)
    have q4 : ((k : Int) == 4) = false := beq_eq_false_iff_ne.2 (by omega)
    have q5 : ((k : Int) == 5) = false := beq_eq_false_iff_ne.2 (by omega)
    have q6 : ((k : Int) == 6) = false := beq_eq_false_iff_ne.2 (by omega)
    clear H1 H2 H4 H7 HR HC n1 n2 n3 n4 n5 n6
    go_enter Tryz.func181, Tryz.ntmps181
    go_wp2_with fail
    go_ret
    exact ⟨by rw [HRz.out]; rfl, HB0.out⟩
set_option maxRecDepth 100000 in
set_option maxHeartbeats 2000000 in
theorem scBehind_any (a t : Sc.T) (u v : Value) (w : World) (hA : Sc.Tok w u a) (hB : Sc.Tok w v t) :
    Calls Tryz.prog 182 #[u, v] w fun e w' => e = .returned (.bool (Sc.behind a t)) ∧ Below w.heap.size w w' := by
  obtain ⟨pn, cn, rfl, ⟨f1, f2, f3, f4⟩, hp⟩ := hA
  obtain ⟨pm, cm, rfl, ⟨g1, g2, g3, g4⟩, hq⟩ := hB
  have HC : Hid (∀ W, Calls Tryz.prog 231 #[.string a.text, .string ⟨#[123]⟩] W fun e w' => e = .returned (.bool (Lib.hasSuffix a.text.data.toList [123])) ∧ w' = W) := Lib.hid (fun W => Tryz.strings_HasSuffix a.text ⟨#[123]⟩ W (by omega))
  have HB0 : Hid (Below w.heap.size w ((w.alloc (.cells #[.int .u8 (a.kind : Nat), .string a.text, .slice pn a.path.length cn] 110)).alloc (.cells #[.int .u8 (t.kind : Nat), .string t.text, .slice pm t.path.length cm] 110))) := Lib.hid (((Below.refl w.heap.size w).alloc (Nat.le_refl _) _).alloc (by simp) _)
  have h0 : ((w.alloc (.cells #[.int .u8 (a.kind : Nat), .string a.text, .slice pn a.path.length cn] 110)).alloc (.cells #[.int .u8 (t.kind : Nat), .string t.text, .slice pm t.path.length cm] 110)).heap[w.heap.size]? = some (.cells #[.int .u8 (a.kind : Nat), .string a.text, .slice pn a.path.length cn] 110 (0, 0)) := by rw [Vl.past _ _ _ (by simp)]; exact Vl.new _ _
  have h1 : ((w.alloc (.cells #[.int .u8 (a.kind : Nat), .string a.text, .slice pn a.path.length cn] 110)).alloc (.cells #[.int .u8 (t.kind : Nat), .string t.text, .slice pm t.path.length cm] 110)).heap[w.heap.size + 1]? = some (.cells #[.int .u8 (t.kind : Nat), .string t.text, .slice pm t.path.length cm] 110 (0, 0)) := Vl.newAt _ _ _ (by simp)
  obtain ⟨m0, m1, m2⟩ := Sc.three_of h0
  obtain ⟨n0, n1, n2⟩ := Sc.three_of h1
  obtain ⟨R, hR⟩ : ∃ R, R = Sc.behind a t := ⟨_, rfl⟩
  rw [← hR]
  unfold Sc.behind at hR
  generalize Lib.hasSuffix a.text.data.toList [123] = hsf at *
  generalize a.text = tx at *
  generalize t.text = ty at *
  generalize a.path.length = na at *
  generalize t.path.length = nt at *
  generalize a.kind = k at *
  generalize t.kind = j at *
  have HR := Lib.hid hR
  clear hR h0 h1 hp hq f4 g4
  by_cases hk : k = 1
  · subst hk
    by_cases hj : j = 1
    · subst hj
      go_enter Tryz.func182, Tryz.ntmps182
      go_wp2_with fail
      go_ret
      exact ⟨by rw [HR.out]; rfl, HB0.out⟩
    · have q1 : ((j : Int) == 1) = false := beq_eq_false_iff_ne.2 (by omega)
      have q2 : ((j : Int) != 1) = true := bne_iff_ne.2 (by omega)
      have HRz := Lib.hid (show R = !hsf by rw [HR.out]; simp [hj])
      clear hj HR
      go_enter Tryz.func182, Tryz.ntmps182
      go_wp2_with fail
      refine (HC.out _).mono ?_
      rintro e w1 ⟨rfl, rfl⟩
      go_wp2_with fail
      go_ret
      exact ⟨by rw [HRz.out]; rfl, HB0.out⟩
  · have q1 : ((k : Int) == 1) = false := beq_eq_false_iff_ne.2 (by omega)
    have q2 : ((k : Int) != 1) = true := bne_iff_ne.2 (by omega)
    have HRz := Lib.hid (show R = true by rw [HR.out]; simp [hk])
    clear hk HR
    go_enter Tryz.func182, Tryz.ntmps182
    go_wp2_with fail
    go_ret
    exact ⟨by rw [HRz.out]; rfl, HB0.out⟩
end Go.Proofs.YteiccjakaabfnaaGreatDoor
namespace Go.Proofs.YteiccjakaabfnaaGreatDoor
open Go.RowKit Go.Shelf

theorem Sc.chain_iff : ∀ l : List Sc.T, Sc.chain l = true ↔ ∀ i (h : i + 1 < l.length), Sc.behind (l[i]'(by omega)) l[i + 1] = true
  | [] => by simp [Sc.chain]
  | [a] => by simp [Sc.chain]
  | a :: b :: r => by
    rw [Sc.chain, Bool.and_eq_true, Sc.chain_iff (b :: r)]
    constructor
    · rintro ⟨h1, h2⟩ i hi
      cases i with
      | zero => exact h1
      | succ i => exact h2 i (by simp at hi ⊢; omega)
    · intro h
      exact ⟨h 0 (by simp), fun i hi => h (i + 1) (by simp at hi ⊢; omega)⟩
theorem Sc.okTs_iff (l : List Sc.T) : Sc.okTs l = true ↔ ∀ i (h : i < l.length), Sc.okT l[i] = true ∧ ∀ (h0 : 0 < i), Sc.behind (l[i - 1]'(by omega)) l[i] = true := by
  unfold Sc.okTs
  rw [Bool.and_eq_true, Sc.chain_iff, List.all_eq_true]
  constructor
  · rintro ⟨h1, h2⟩ i hi
    refine ⟨h1 _ (List.getElem_mem _), fun h0 => ?_⟩
    obtain ⟨j, rfl⟩ : ∃ j, i = j + 1 := ⟨i - 1, by omega⟩
    exact h2 j hi
  · intro h
    refine ⟨fun x hx => ?_, fun i hi => ?_⟩
    · obtain ⟨i, hi, rfl⟩ := List.getElem_of_mem hx
      exact (h i hi).1
    · exact (h (i + 1) hi).2 (by omega)
theorem Sc.chk_ok {l : List Sc.T} (h : ∀ i (h : i < l.length), Sc.okT l[i] = true ∧ ∀ (h0 : 0 < i), Sc.behind (l[i - 1]'(by omega)) l[i] = true) : Sc.chkTs l = 0 := by
  unfold Sc.chkTs
  rw [if_pos ((Sc.okTs_iff l).2 h)]
theorem Sc.chk_bad {l : List Sc.T} {i : Nat} (hi : i < l.length) (h : Sc.okT l[i] = false ∨ ∃ (h0 : 0 < i), Sc.behind (l[i - 1]'(by omega)) l[i] = false) : Sc.chkTs l = 2 := by
  unfold Sc.chkTs
  rw [if_neg fun hh => ?_]
  obtain ⟨h1, h2⟩ := (Sc.okTs_iff l).1 hh i hi
  rcases h with h | ⟨h0, h⟩
  · rw [h1] at h; cases h
  · rw [h2 h0] at h; cases h
theorem Sc.lt_of_cell {w : World} {b o : Nat} {v : Value} (h : w.cell? ⟨b, o, none⟩ = some v) : b < w.heap.size := by
  refine Classical.byContradiction fun hc => ?_
  rw [World.cell?, Array.getElem?_eq_none (by show w.heap.size ≤ b; omega)] at h
  cases h
end Go.Proofs.YteiccjakaabfnaaGreatDoor
namespace Go.Proofs.YteiccjakaabfnaaGreatDoor
open Go.RowKit Go.Shelf

namespace Sc
theorem chk2_ok {l : List T} (h : ∀ i (h : i < l.length), okT l[i] = true ∧ ∀ (h1 : i + 1 < l.length), behind l[i] l[i + 1] = true) : chkTs l = 0 :=
  chk_ok fun i hi => ⟨(h i hi).1, fun h0 => by
    obtain ⟨j, rfl⟩ : ∃ j, i = j + 1 := ⟨i - 1, by omega⟩
    exact (h j (by omega)).2 hi⟩
theorem chk2_bad {l : List T} {i : Nat} (hi : i < l.length) (h : okT l[i] = false ∨ ∃ (h1 : i + 1 < l.length), behind l[i] l[i + 1] = false) : chkTs l = 2 := by
  rcases h with h | ⟨h1, h⟩
  · exact chk_bad hi (Or.inl h)
  · exact chk_bad h1 (Or.inr ⟨by omega, h⟩)
theorem find_oo (l : List UInt8) : Lib.contains l Sc.oo = decide (0 ≤ findP l 0 123) := by
  unfold Lib.contains findP
  rw [List.drop_zero]
  show decide (0 ≤ Lib.index l [123, 123]) = _
  by_cases h : Lib.index l [123, 123] = -1
  · rw [if_pos h, h]
  · rw [if_neg h]; simp
theorem suffix_get (c : UInt8) : ∀ (l : List UInt8) (h : l ≠ []), Lib.hasSuffix l [c] = decide (l.getLast h = c) := by
  intro l h
  obtain ⟨q, x, rfl⟩ := List.eq_nil_or_concat l |>.resolve_left h
  unfold Lib.hasSuffix
  rw [Bool.eq_iff_iff, List.isSuffixOf_iff_suffix, decide_eq_true_eq]
  rw [show (List.concat q x).getLast h = x by simp, List.concat_eq_append]
  constructor
  · rintro ⟨t, ht⟩
    have := (List.append_inj' ht rfl).2
    exact (List.cons.inj this).1.symm
  · rintro rfl
    exact ⟨q, rfl⟩
theorem suffix_last (s : ByteArray) (h : 0 < s.size) : Lib.hasSuffix s.data.toList [123] = decide (s[s.size - 1] = 123) := by
  have hl := Wp.size_len s
  have hne : s.data.toList ≠ [] := by intro e; rw [e] at hl; have : s.size = 0 := hl; omega
  rw [suffix_get 123 _ hne, List.getLast_eq_getElem, ← Wp.getElem_data s (s.size - 1) (by omega)]
  simp only [hl]
theorem empty_i (s : ByteArray) : s.toList.isEmpty = decide (s.size = 0) := by
  rw [Wp.size_len, Lib.toList_data]
  cases h : s.data.toList with
  | nil => rfl
  | cons a t => simp
theorem behind_not {a : T} (t : T) (h : a.kind ≠ 1) : behind a t = true := by unfold behind; rw [decide_eq_true h]; rfl
end Sc
set_option maxRecDepth 100000 in
set_option maxHeartbeats 8000000 in
theorem refCheck10_any (l : List Sc.T) (p : Option Addr) (c : Nat) (w : World) (hA : Sc.At w p l) (hl : l.length ≤ 140737488351232) :
    Calls Tryz.prog 96 #[.slice p l.length c] w fun e w' => e = .returned (.int .i64 (Sc.chkTs l)) ∧ Below w.heap.size w w' := by
  have HA := Lib.hid hA
  obtain ⟨R, hR⟩ : ∃ R, R = Sc.chkTs l := ⟨_, rfl⟩
  have HOk := Lib.hid (fun h => hR.trans (Sc.chk2_ok (l := l) h))
  have HBd := Lib.hid (fun i hi h => hR.trans (Sc.chk2_bad (l := l) (i := i) hi h))
  rw [← hR]
  obtain ⟨n, hn⟩ : ∃ n, n = l.length := ⟨_, rfl⟩
  rw [← hn] at hl ⊢
  have HN := Lib.hid hn
  clear hA hn hR
  go_enter Tryz.func96, Tryz.ntmps96
  go_wp2_with fail
  go_loopw [9] (fun s wr => ∃ k : Nat, k ≤ n ∧ s = .int .i64 k ∧ Hid (Below w.heap.size w wr) ∧ Hid (∀ i (h : i < k) (hl : i < l.length), Sc.okT l[i] = true ∧ ∀ (h1 : i + 1 < l.length), Sc.behind l[i] l[i + 1] = true)) (fun s _ => n - (intOf s).toNat)
  case atStart => exact ⟨0, Nat.zero_le _, rfl, Lib.hid (Below.refl _ _), Lib.hid (fun i h => absurd h (Nat.not_lt_zero _))⟩
  case round =>
    obtain ⟨k, hk, rfl, HB, HS⟩ := hrel
    by_cases hlt : k < n
    · have hkl : k < l.length := by rw [← HN.out]; exact hlt
      obtain ⟨b, off, c0, c1, c2, rfl, ⟨e0, e1, e2⟩, y, hy, pn, cn, hsh, ⟨⟨-, -⟩, f2, f3, f4⟩, hp⟩ := (HA.out.below HB.out) k hkl
      simp only [Value.agg.injEq, Array.mk.injEq, List.cons.injEq, and_true] at hsh
      obtain ⟨rfl, rfl, rfl⟩ := hsh
      have hyk : y = l[k] := (Option.some.inj ((List.getElem?_eq_getElem hkl).symm.trans hy)).symm
      have HBx := Lib.hid ((Below.refl wr.heap.size wr).alloc (Nat.le_refl _) (.cells #[.int .u8 (y.kind : Nat), .string y.text, .slice pn y.path.length cn] 110))
      have HV := Lib.hid (Vl.new wr (.cells #[.int .u8 (y.kind : Nat), .string y.text, .slice pn y.path.length cn] 110))
      have HB1 := Lib.hid (HB.out.trans (HBx.out.mono HB.out.size))
      have HRt := Lib.hid (fun W (h : Below wr.heap.size wr W) => refRight10_any pn cn y.path W f3 f4 (hp.below h))
      have HFd := Lib.hid (fun W => refFind10_any y.text 0 123 W f2 (Nat.zero_le _))
      have hbad : (Sc.okT y = false ∨ ∃ h1 : k + 1 < l.length, Sc.behind y l[k + 1] = false) → R = 2 := fun h => HBd.out k hkl (by rw [← hyk]; exact h)
      have hgood : Sc.okT y = true → (∀ h1 : k + 1 < l.length, Sc.behind y l[k + 1] = true) → ∀ i (h : i < k + 1) (hl : i < l.length), Sc.okT l[i] = true ∧ ∀ (h1 : i + 1 < l.length), Sc.behind l[i] l[i + 1] = true := fun q1 q2 i hi hil => by
        by_cases e : i < k
        · exact HS.out i e hil
        · obtain rfl : i = k := by omega
          rw [← hyk]
          exact ⟨q1, q2⟩
      have HNext : Hid (∀ h1 : k + 1 < l.length, (wr.alloc (.cells #[.int .u8 (y.kind : Nat), .string y.text, .slice pn y.path.length cn] 110)).cell? ⟨b, off + (k + 1) * 3, none⟩ = some (.int .u8 (l[k + 1].kind : Nat))) := Lib.hid (fun h1 => by
        obtain ⟨b', off', d0, d1, d2, hp', ⟨g0, -, -⟩, y2, hy2, pn2, cn2, hsh2, -⟩ := ((HA.out.below HB.out).below HBx.out) (k + 1) h1
        cases hp'
        simp only [Value.agg.injEq, Array.mk.injEq, List.cons.injEq, and_true] at hsh2
        obtain ⟨rfl, rfl, rfl⟩ := hsh2
        have : y2 = l[k + 1] := (Option.some.inj ((List.getElem?_eq_getElem h1).symm.trans hy2)).symm
        rw [← this]
        exact g0)
      have hk0 : (k : Int) < (n : Int) := by omega
      have HBeh := Lib.hid (fun t (h : y.kind = 1) => (show Sc.behind y t = (decide (t.kind ≠ 1) && !Lib.hasSuffix y.text.data.toList [123]) by unfold Sc.behind; rw [show decide (y.kind ≠ 1) = false from decide_eq_false (by omega), Bool.false_or]))
      have HBnot := Lib.hid (fun t (h : y.kind ≠ 1) => Sc.behind_not t h)
      have H1 := Lib.hid (fun h => Sc.okT_one (t := y) h)
      have H2 := Lib.hid (fun h => Sc.okT_path (t := y) h)
      have H4 := Lib.hid (fun h => Sc.okT_none (t := y) h)
      have H7 := Lib.hid (fun h1 h2 h3 h4 h5 h6 => Sc.okT_other (t := y) h1 h2 h3 h4 h5 h6)
      have hrb : Sc.pathOk (y.path.map (·.data.toList)) = Sc.rightB y.path := rfl
      rw [hrb] at H2
      have hct : Lib.contains y.text.data.toList Sc.oo = decide (0 ≤ Sc.findP y.text.data.toList 0 123) := Sc.find_oo y.text.data.toList
      rw [hct] at H1
      have he1 := Sc.empty_i y.text
      have HLast := Lib.hid (Sc.suffix_last y.text)
      have hz1 : ((y.path.length : Int) == 0) = decide (y.path.length = 0) := by
        by_cases h : y.path.length = 0
        · rw [decide_eq_true h]; exact beq_iff_eq.2 (by omega)
        · rw [decide_eq_false h]; exact beq_eq_false_iff_ne.2 (by omega)
      have HBad := Lib.hid hbad
      have HGood := Lib.hid hgood
      clear hyk hy hp f3 f4 hrb hct hbad hgood HS
      have HY := Lib.hid (rfl : y = y)
      obtain ⟨ok, hok⟩ : ∃ ok, ok = Sc.okT y := ⟨_, rfl⟩
      rw [← hok] at H1 H2 H4 H7 HBad HGood
      clear hok HY
      obtain ⟨z, hz⟩ : ∃ z, z = Sc.findP y.text.data.toList 0 123 := ⟨_, rfl⟩
      rw [← hz] at H1 HFd
      generalize Sc.rightB y.path = rb at *
      generalize Lib.hasSuffix y.text.data.toList [123] = sf at *
      generalize Sc.behind y = bh at *
      clear hz
      generalize y.text = tx at *
      generalize y.path.length = nn at *
      generalize y.kind = kk at *
      have He1 := Lib.hid he1
      have Hz1 := Lib.hid hz1
      clear he1 hz1
      obtain ⟨v0, v1, v2⟩ := Sc.three_of HV.out
      have HRt2 := Lib.hid (HRt.out _ HBx.out)
      have HFd2 := Lib.hid (HFd.out (wr.alloc (.cells #[.int .u8 (kk : Nat), .string tx, .slice pn nn cn] 110)))
      clear HRt HFd HV
      go_upto_region 5 with fail
      clear e0 e1 e2
      generalize (wr.alloc (.cells #[.int .u8 (kk : Nat), .string tx, .slice pn nn cn] 110)) = W0 at *
      generalize wr.heap.size = g at *
      clear HBx
      by_cases k1 : kk = 1
      · subst k1
        have H1' := Lib.hid (H1.out rfl)
        clear HBnot H1 H2 H4 H7 HRt2
        by_cases x0 : tx.size = 0
        · have q := He1.out
          rw [show decide (tx.size = 0) = true from decide_eq_true x0] at q
          obtain rfl := HBad.out (Or.inl (by rw [H1'.out, show decide (tx.size ≠ 0) = false from decide_eq_false (by omega)]; rfl))
          clear x0 He1
          by_cases hnx : k + 1 < n
          · have hnx0 : (k : Int) + 1 < (n : Int) := by omega
            go_wp2_with fail
            go_ret
            exact ⟨rfl, HB1.out⟩
          · have hnx0 : ¬ (k : Int) + 1 < (n : Int) := by omega
            go_wp2_with fail
            go_ret
            exact ⟨rfl, HB1.out⟩
        have q := He1.out
        rw [show decide (tx.size = 0) = false from decide_eq_false x0] at q
        have hx0 : decide (tx.size ≠ 0) = true := decide_eq_true x0
        by_cases hz : 0 ≤ z
        · obtain rfl := HBad.out (Or.inl (by rw [H1'.out, hx0, decide_eq_true hz]; rfl))
          have hz0 : ¬ z < 0 := by omega
          clear He1 hx0
          by_cases hnx : k + 1 < n
          · have hnx0 : (k : Int) + 1 < (n : Int) := by omega
            go_wp2_with fail
            refine HFd2.out.mono ?_
            rintro e w1 ⟨rfl, rfl⟩
            go_wp2_with fail
            go_ret
            exact ⟨rfl, HB1.out⟩
          · have hnx0 : ¬ (k : Int) + 1 < (n : Int) := by omega
            go_wp2_with fail
            refine HFd2.out.mono ?_
            rintro e w1 ⟨rfl, rfl⟩
            go_wp2_with fail
            go_ret
            exact ⟨rfl, HB1.out⟩
        have hz0 : z < 0 := by omega
        by_cases hn0 : nn = 0
        · subst hn0
          have hokt : ok = true := by rw [H1'.out, hx0, decide_eq_false hz]; rfl
          by_cases hnx : k + 1 < n
          · have hnx0 : (k : Int) + 1 < (n : Int) := by omega
            have hnl : k + 1 < l.length := by rw [← HN.out]; exact hnx
            have q3 := HNext.out hnl
            have hbe := HBeh.out l[k + 1] rfl
            have HBad2 := Lib.hid (fun (h : bh l[k + 1] = false) => HBad.out (Or.inr ⟨hnl, h⟩))
            have HGood2 := Lib.hid (fun (h : bh l[k + 1] = true) => HGood.out hokt (fun _ => h))
            have hlast := HLast.out (by omega)
            obtain ⟨m, hm⟩ : ∃ m, m = tx.size - 1 := ⟨_, rfl⟩
            have hm1 : m < tx.size := by omega
            have hlast2 : sf = decide (tx[m] = 123) := by subst hm; exact hlast
            have hnn : (tx.size : Int) - 1 = (m : Int) := by omega
            have hm0 : (0 : Int) ≤ (m : Int) := by omega
            have hml : (m : Int) < (tx.size : Int) := by omega
            have hwm : IntKind.i64.wrap (m : Int) = (m : Int) := IntWalk.i64_in _ (by omega)
            clear hm
            generalize l[k + 1].kind = k2 at *
            rw [hlast2] at hbe
            by_cases h2 : k2 = 1
            · subst h2
              obtain rfl := HBad2.out (by rw [hbe]; rfl)
              clear hbe hlast hlast2 He1 hx0 HBad2 HGood2 HBad HGood
              go_wp2_with fail
              refine HFd2.out.mono ?_
              rintro e w1 ⟨rfl, rfl⟩
              go_wp2_with fail
              go_ret
              exact ⟨rfl, HB1.out⟩
            · have q4 : ((k2 : Int) == 1) = false := beq_eq_false_iff_ne.2 (by omega)
              rw [decide_eq_true h2, Bool.true_and] at hbe
              by_cases h3 : tx[m] = 123
              · obtain rfl := HBad2.out (by rw [hbe, decide_eq_true h3]; rfl)
                have q5 : ((tx[m].toNat : Int) == 123) = true := by rw [h3]; rfl
                clear hbe hlast hlast2 He1 hx0 HBad2 HGood2 HBad HGood
                go_wp2_with fail
                refine HFd2.out.mono ?_
                rintro e w1 ⟨rfl, rfl⟩
                go_wp2_with fail
                go_ret
                exact ⟨rfl, HB1.out⟩
              · have HG2 := Lib.hid (HGood2.out (by rw [hbe, decide_eq_false h3]; rfl))
                have q5 : ((tx[m].toNat : Int) == 123) = false := by rw [beq_eq_false_iff_ne]; intro e; exact h3 (UInt8.toNat_inj.1 (show tx[m].toNat = 123 by omega))
                clear hbe hlast hlast2 He1 hx0 HBad2 HGood2 HBad HGood
                go_wp2_with fail
                refine HFd2.out.mono ?_
                rintro e w1 ⟨rfl, rfl⟩
                go_wp2_with fail
                exact ⟨⟨k + 1, by omega, by go_num, HB1, HG2⟩, by simp [intOf]; omega⟩
          · have hnx0 : ¬ (k : Int) + 1 < (n : Int) := by omega
            have HG2 := Lib.hid (HGood.out hokt (fun h => absurd h (by rw [← HN.out]; exact hnx)))
            clear He1 hx0 HBad HGood
            go_wp2_with fail
            refine HFd2.out.mono ?_
            rintro e w1 ⟨rfl, rfl⟩
            go_wp2_with fail
            exact ⟨⟨k + 1, by omega, by go_num, HB1, HG2⟩, by simp [intOf]; omega⟩
        · have q2 := Hz1.out
          rw [show decide (nn = 0) = false from decide_eq_false hn0] at q2
          obtain rfl := HBad.out (Or.inl (by rw [H1'.out, hx0, decide_eq_false hz, decide_eq_false hn0]; rfl))
          clear He1 hx0 HBad HGood
          by_cases hnx : k + 1 < n
          · have hnx0 : (k : Int) + 1 < (n : Int) := by omega
            go_wp2_with fail
            refine HFd2.out.mono ?_
            rintro e w1 ⟨rfl, rfl⟩
            go_wp2_with fail
            go_ret
            exact ⟨rfl, HB1.out⟩
          · have hnx0 : ¬ (k : Int) + 1 < (n : Int) := by omega
            go_wp2_with fail
            refine HFd2.out.mono ?_
            rintro e w1 ⟨rfl, rfl⟩
            go_wp2_with fail
            go_ret
            exact ⟨rfl, HB1.out⟩
      have HBn := Lib.hid (fun t => HBnot.out t k1)
      clear HBnot H1 HFd2 HBeh HNext HLast
      by_cases k2 : kk = 2 ∨ kk = 3 ∨ kk = 5
      · have H2' := Lib.hid (H2.out k2)
        clear H2 H4 H7 k1
        by_cases x0 : tx.size = 0
        · have q := He1.out
          rw [show decide (tx.size = 0) = true from decide_eq_true x0] at q
          cases rb with
          | false =>
            obtain rfl := HBad.out (Or.inl (by rw [H2'.out, Bool.and_false]))
            clear x0 HBad HGood H2'
            rcases k2 with rfl | rfl | rfl
            · go_wp2_with fail
              refine HRt2.out.mono ?_
              rintro e w1 ⟨rfl, rfl⟩
              go_wp2_with fail
              go_ret
              exact ⟨rfl, HB1.out⟩
            · go_wp2_with fail
              refine HRt2.out.mono ?_
              rintro e w1 ⟨rfl, rfl⟩
              go_wp2_with fail
              go_ret
              exact ⟨rfl, HB1.out⟩
            · go_wp2_with fail
              refine HRt2.out.mono ?_
              rintro e w1 ⟨rfl, rfl⟩
              go_wp2_with fail
              go_ret
              exact ⟨rfl, HB1.out⟩
          | true =>
            have HG2 := Lib.hid (HGood.out (by rw [H2'.out, decide_eq_true x0]; rfl) (fun _ => HBn.out _))
            clear x0 HBad HGood H2'
            rcases k2 with rfl | rfl | rfl
            · go_wp2_with fail
              refine HRt2.out.mono ?_
              rintro e w1 ⟨rfl, rfl⟩
              go_wp2_with fail
              exact ⟨⟨k + 1, by omega, by go_num, HB1, HG2⟩, by simp [intOf]; omega⟩
            · go_wp2_with fail
              refine HRt2.out.mono ?_
              rintro e w1 ⟨rfl, rfl⟩
              go_wp2_with fail
              exact ⟨⟨k + 1, by omega, by go_num, HB1, HG2⟩, by simp [intOf]; omega⟩
            · go_wp2_with fail
              refine HRt2.out.mono ?_
              rintro e w1 ⟨rfl, rfl⟩
              go_wp2_with fail
              exact ⟨⟨k + 1, by omega, by go_num, HB1, HG2⟩, by simp [intOf]; omega⟩
        · have q := He1.out
          rw [show decide (tx.size = 0) = false from decide_eq_false x0] at q
          obtain rfl := HBad.out (Or.inl (by rw [H2'.out, decide_eq_false x0]; rfl))
          clear x0 HBad HGood H2'
          rcases k2 with rfl | rfl | rfl
          · go_wp2_with fail
            go_ret
            exact ⟨rfl, HB1.out⟩
          · go_wp2_with fail
            go_ret
            exact ⟨rfl, HB1.out⟩
          · go_wp2_with fail
            go_ret
            exact ⟨rfl, HB1.out⟩
      by_cases k4 : kk = 4 ∨ kk = 6
      · have H4' := Lib.hid (H4.out k4)
        clear H2 H4 H7 k1 k2 HRt2
        by_cases x0 : tx.size = 0
        · have q := He1.out
          rw [show decide (tx.size = 0) = true from decide_eq_true x0] at q
          have q2 := Hz1.out
          by_cases hn0 : nn = 0
          · subst hn0
            have HG2 := Lib.hid (HGood.out (by rw [H4'.out, decide_eq_true x0]; rfl) (fun _ => HBn.out _))
            clear x0 HBad HGood H4' q2
            rcases k4 with rfl | rfl
            · go_wp2_with fail
              exact ⟨⟨k + 1, by omega, by go_num, HB1, HG2⟩, by simp [intOf]; omega⟩
            · go_wp2_with fail
              exact ⟨⟨k + 1, by omega, by go_num, HB1, HG2⟩, by simp [intOf]; omega⟩
          · rw [show decide (nn = 0) = false from decide_eq_false hn0] at q2
            obtain rfl := HBad.out (Or.inl (by rw [H4'.out, decide_eq_false hn0, Bool.and_false]))
            clear x0 HBad HGood H4'
            rcases k4 with rfl | rfl
            · go_wp2_with fail
              go_ret
              exact ⟨rfl, HB1.out⟩
            · go_wp2_with fail
              go_ret
              exact ⟨rfl, HB1.out⟩
        · have q := He1.out
          rw [show decide (tx.size = 0) = false from decide_eq_false x0] at q
          obtain rfl := HBad.out (Or.inl (by rw [H4'.out, decide_eq_false x0]; rfl))
          clear x0 HBad HGood H4'
          rcases k4 with rfl | rfl
          · go_wp2_with fail
            go_ret
            exact ⟨rfl, HB1.out⟩
          · go_wp2_with fail
            go_ret
            exact ⟨rfl, HB1.out⟩
      · obtain rfl := HBad.out (Or.inl (H7.out k1 (by omega) (by omega) (by omega) (by omega) (by omega)))
        have r1 : ((kk : Int) == 1) = false := beq_eq_false_iff_ne.2 (by omega)
        have r2 : ((kk : Int) == 2) = false := beq_eq_false_iff_ne.2 (by omega)
        have r3 : ((kk : Int) == 3) = false := beq_eq_false_iff_ne.2 (by omega)
        have r4 : ((kk : Int) == 4) = false := beq_eq_false_iff_ne.2 (by omega)
        have r5 : ((kk : Int) == 5) = false := beq_eq_false_iff_ne.2 (by omega)
        have r6 : ((kk : Int) == 6) = false := beq_eq_false_iff_ne.2 (by omega)
        clear k1 k2 k4 H2 H4 H7 HBad HGood
        go_wp2_with fail
        go_ret
        exact ⟨rfl, HB1.out⟩
    · obtain rfl : k = n := by omega
      obtain rfl := HOk.out (fun i hi => HS.out i (by rw [HN.out]; exact hi) hi)
      have hk0 : ¬ (k : Int) < (k : Int) := by omega
      go_wp2_with fail
      go_ret
      exact ⟨rfl, HB.out⟩
end Go.Proofs.YteiccjakaabfnaaGreatDoor
