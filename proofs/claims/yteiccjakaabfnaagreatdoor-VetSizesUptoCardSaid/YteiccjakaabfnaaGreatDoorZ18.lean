/-
  The walks of scan's right and standsBehind. Conditions: the words' table reads as it is laid, the search's limit is set; the token's text is of a size that the search bears.
  What scan's Check asks of tokens, place by place. No condition but those that the theorems state.
-/
import Derived.Test.YteiccjakaabfnaaGreatDoorScToksW
namespace Go.Proofs.YteiccjakaabfnaaGreatDoor
open Go.RowKit Go.Shelf

theorem Sc.okT_other {t : Sc.T} (h1 : t.kind ≠ 1) (h2 : t.kind ≠ 2) (h3 : t.kind ≠ 3) (h4 : t.kind ≠ 4) (h5 : t.kind ≠ 5) (h6 : t.kind ≠ 6) : Sc.okT t = false := by
  unfold Sc.okT
  split <;> first | rfl | contradiction
theorem Sc.okT_path {t : Sc.T} (h : t.kind = 2 ∨ t.kind = 3 ∨ t.kind = 5) : Sc.okT t = (decide (t.text.size = 0) && Sc.pathOk (t.path.map (·.data.toList))) := by
  unfold Sc.okT
  rcases h with h | h | h <;> (rw [h]; rfl)
theorem Sc.okT_none {t : Sc.T} (h : t.kind = 4 ∨ t.kind = 6) : Sc.okT t = (decide (t.text.size = 0) && decide (t.path.length = 0)) := by
  unfold Sc.okT
  rcases h with h | h <;> (rw [h]; rfl)
theorem Sc.okT_one {t : Sc.T} (h : t.kind = 1) : Sc.okT t = (decide (t.text.size ≠ 0) && !Lib.contains t.text.data.toList Sc.oo && decide (t.path.length = 0)) := by
  unfold Sc.okT
  rw [h]
  rfl
theorem Sc.empty_b (s : ByteArray) : (s.toList == ([] : List UInt8)) = decide (s.size = 0) ∧ (s.toList != ([] : List UInt8)) = decide (s.size ≠ 0) := by
  rw [Wp.size_len, Lib.toList_data]
  cases h : s.data.toList with
  | nil => exact ⟨rfl, rfl⟩
  | cons a t => exact ⟨by simp, by simp⟩
set_option maxRecDepth 100000 in
set_option maxHeartbeats 2000000 in
theorem scRight_any (t : Sc.T) (v : Value) (w : World) (hA : Sc.Tok w v t) (hts : t.text.size ≤ 4000000000) (hT : Sc.Laid w) (hM : Sc.MaxLen w) :
    Calls Tryz.prog 181 #[v] w fun e w' => e = .returned (.bool (Sc.okT t)) ∧ Below w.heap.size w w' := by
  obtain ⟨m, hm⟩ := hM
  obtain ⟨pn, cn, rfl, ⟨f1, f2, f3, f4⟩, hp⟩ := hA
  have HR : Hid (∀ W, Below w.heap.size w W → Calls Tryz.prog 88 #[.slice pn t.path.length cn] W fun e w' => e = .returned (.bool (Sc.rightB t.path)) ∧ w' = W) := Lib.hid (fun W h => scPathRight_any pn cn t.path W (hT.below h) f3 f4 (hp.below h))
  have HC : Hid (∀ W, Below w.heap.size w W → Calls Tryz.prog 230 #[.string t.text, .string ⟨#[123, 123]⟩] W fun e w' => e = .returned (.bool (Lib.contains t.text.data.toList Sc.oo)) ∧ w' = W) := Lib.hid (fun W h => by
    obtain ⟨m2, hm2⟩ := Sc.MaxLen.below ⟨m, hm⟩ h
    exact Tryz.strings_Contains t.text ⟨#[123, 123]⟩ m2 W (by omega) hm2)
  have HB0 := Lib.hid ((Below.refl w.heap.size w).alloc (Nat.le_refl _) (.cells #[.int .u8 (t.kind : Nat), .string t.text, .slice pn t.path.length cn] 110))
  have HV0 := Lib.hid (Vl.new w (.cells #[.int .u8 (t.kind : Nat), .string t.text, .slice pn t.path.length cn] 110))
  obtain ⟨R, hR⟩ : ∃ R, R = Sc.okT t := ⟨_, rfl⟩
  have H1 := Lib.hid (fun h => hR.trans (Sc.okT_one (t := t) h))
  have H2 := Lib.hid (fun h => hR.trans (Sc.okT_path (t := t) h))
  have H4 := Lib.hid (fun h => hR.trans (Sc.okT_none (t := t) h))
  have H7 := Lib.hid (fun h1 h2 h3 h4 h5 h6 => hR.trans (Sc.okT_other (t := t) h1 h2 h3 h4 h5 h6))
  rw [← hR]
  have hrb : Sc.pathOk (t.path.map (·.data.toList)) = Sc.rightB t.path := rfl
  rw [hrb] at H2
  obtain ⟨he1, he2⟩ := Sc.empty_b t.text
  have hz1 : ((t.path.length : Int) == 0) = decide (t.path.length = 0) := by
    by_cases h : t.path.length = 0
    · rw [decide_eq_true h]; exact beq_iff_eq.2 (by omega)
    · rw [decide_eq_false h]; exact beq_eq_false_iff_ne.2 (by omega)
  clear hR hrb hp f2 f4 hT hm hts
  generalize Sc.rightB t.path = rb at *
  generalize Lib.contains t.text.data.toList Sc.oo = ct at *
  generalize t.text = tx at *
  generalize t.path.length = n at *
  generalize t.kind = k at *
  generalize decide (n = 0) = bz at *
  have Hz1 := Lib.hid hz1
  have He1 := Lib.hid he1
  have He2 := Lib.hid he2
  rw [show decide (tx.size ≠ 0) = !decide (tx.size = 0) by simp] at H1 He2
  generalize decide (tx.size = 0) = b0 at *
  clear hz1 he1 he2
  have hk7 : k = 1 ∨ (k = 2 ∨ k = 3 ∨ k = 5) ∨ (k = 4 ∨ k = 6) ∨ (k ≠ 1 ∧ k ≠ 2 ∧ k ≠ 3 ∧ k ≠ 4 ∧ k ≠ 5 ∧ k ≠ 6) := by omega
  obtain ⟨m0, m1, m2⟩ := Sc.three_of HV0.out
  rcases hk7 with rfl | hk | hk | ⟨n1, n2, n3, n4, n5, n6⟩
  · have HRz := Lib.hid (H1.out rfl)
    have HCc := Lib.hid (HC.out _ HB0.out)
    clear H1 H2 H4 H7 HR HC
    cases b0 with
    | true =>
      have q := He2.out
      have q2 := He1.out
      go_enter Tryz.func181, Tryz.ntmps181
      go_wp2_with fail
      go_ret
      exact ⟨by rw [HRz.out]; rfl, HB0.out⟩
    | false =>
      have q := He2.out
      have q2 := He1.out
      have q3 := Hz1.out
      go_enter Tryz.func181, Tryz.ntmps181
      go_wp2_with fail
      refine HCc.out.mono ?_
      rintro e w1 ⟨rfl, rfl⟩
      cases ct <;> cases bz
      all_goals
        go_wp2_with fail
        go_ret
        exact ⟨by rw [HRz.out]; first | rfl | simp [q3], HB0.out⟩
  · have HRz := Lib.hid (H2.out hk)
    have HCc := Lib.hid (HR.out _ HB0.out)
    clear H1 H2 H4 H7 HR HC
    cases b0 with
    | true =>
      have q := He1.out
      rcases hk with rfl | rfl | rfl
      all_goals
        go_enter Tryz.func181, Tryz.ntmps181
        go_wp2_with fail
        refine HCc.out.mono ?_
        rintro e w1 ⟨rfl, rfl⟩
        go_wp2_with fail
        go_ret
        exact ⟨by rw [HRz.out]; simp, HB0.out⟩
    | false =>
      have q := He1.out
      rcases hk with rfl | rfl | rfl
      all_goals
        go_enter Tryz.func181, Tryz.ntmps181
        go_wp2_with fail
        go_ret
        exact ⟨by rw [HRz.out]; rfl, HB0.out⟩
  · have HRz := Lib.hid (H4.out hk)
    clear H1 H2 H4 H7 HR HC
    cases b0 with
    | true =>
      have q := He1.out
      have q3 := Hz1.out
      rcases hk with rfl | rfl
      all_goals
        go_enter Tryz.func181, Tryz.ntmps181
        go_wp2_with fail
        go_ret
        exact ⟨by rw [HRz.out]; simp, HB0.out⟩
    | false =>
      have q := He1.out
      rcases hk with rfl | rfl
      all_goals
        go_enter Tryz.func181, Tryz.ntmps181
        go_wp2_with fail
        go_ret
        exact ⟨by rw [HRz.out]; rfl, HB0.out⟩
  · have HRz := Lib.hid (H7.out n1 n2 n3 n4 n5 n6)
    have q1 : ((k : Int) == 1) = false := beq_eq_false_iff_ne.2 (by omega)
    have q2 : ((k : Int) == 2) = false := beq_eq_false_iff_ne.2 (by omega)
    have q3 : ((k : Int) == 3) = false := beq_eq_false_iff_ne.2 (by omega)
    have q4 : ((k : Int) == 4) = false := beq_eq_false_iff_ne.2 (by omega)
    have q5 : ((k : Int) == 5) = false := beq_eq_false_iff_ne.2 (by omega)
    have q6 : ((k : Int) == 6) = false := beq_eq_false_iff_ne.2 (by omega)
    clear H1 H2 H4 H7 HR HC n1 n2 n3 n4 n5 n6
    go_enter Tryz.func181, Tryz.ntmps181
    go_wp2_with fail
    go_ret
    exact ⟨by rw [HRz.out]; rfl, HB0.out⟩
set_option maxRecDepth 100000 in
set_option maxHeartbeats 2000000 in
theorem scBehind_any (a t : Sc.T) (u v : Value) (w : World) (hA : Sc.Tok w u a) (hB : Sc.Tok w v t) :
    Calls Tryz.prog 182 #[u, v] w fun e w' => e = .returned (.bool (Sc.behind a t)) ∧ Below w.heap.size w w' := by
  obtain ⟨pn, cn, rfl, ⟨f1, f2, f3, f4⟩, hp⟩ := hA
  obtain ⟨pm, cm, rfl, ⟨g1, g2, g3, g4⟩, hq⟩ := hB
  have HC : Hid (∀ W, Calls Tryz.prog 231 #[.string a.text, .string ⟨#[123]⟩] W fun e w' => e = .returned (.bool (Lib.hasSuffix a.text.data.toList [123])) ∧ w' = W) := Lib.hid (fun W => Tryz.strings_HasSuffix a.text ⟨#[123]⟩ W (by omega))
  have HB0 : Hid (Below w.heap.size w ((w.alloc (.cells #[.int .u8 (a.kind : Nat), .string a.text, .slice pn a.path.length cn] 110)).alloc (.cells #[.int .u8 (t.kind : Nat), .string t.text, .slice pm t.path.length cm] 110))) := Lib.hid (((Below.refl w.heap.size w).alloc (Nat.le_refl _) _).alloc (by simp) _)
  have h0 : ((w.alloc (.cells #[.int .u8 (a.kind : Nat), .string a.text, .slice pn a.path.length cn] 110)).alloc (.cells #[.int .u8 (t.kind : Nat), .string t.text, .slice pm t.path.length cm] 110)).heap[w.heap.size]? = some (.cells #[.int .u8 (a.kind : Nat), .string a.text, .slice pn a.path.length cn] 110 (0, 0)) := by rw [Vl.past _ _ _ (by simp)]; exact Vl.new _ _
  have h1 : ((w.alloc (.cells #[.int .u8 (a.kind : Nat), .string a.text, .slice pn a.path.length cn] 110)).alloc (.cells #[.int .u8 (t.kind : Nat), .string t.text, .slice pm t.path.length cm] 110)).heap[w.heap.size + 1]? = some (.cells #[.int .u8 (t.kind : Nat), .string t.text, .slice pm t.path.length cm] 110 (0, 0)) := Vl.newAt _ _ _ (by simp)
  obtain ⟨m0, m1, m2⟩ := Sc.three_of h0
  obtain ⟨n0, n1, n2⟩ := Sc.three_of h1
  obtain ⟨R, hR⟩ : ∃ R, R = Sc.behind a t := ⟨_, rfl⟩
  rw [← hR]
  unfold Sc.behind at hR
  generalize Lib.hasSuffix a.text.data.toList [123] = hsf at *
  generalize a.text = tx at *
  generalize t.text = ty at *
  generalize a.path.length = na at *
  generalize t.path.length = nt at *
  generalize a.kind = k at *
  generalize t.kind = j at *
  have HR := Lib.hid hR
  clear hR h0 h1 hp hq f4 g4
  by_cases hk : k = 1
  · subst hk
    by_cases hj : j = 1
    · subst hj
      go_enter Tryz.func182, Tryz.ntmps182
      go_wp2_with fail
      go_ret
      exact ⟨by rw [HR.out]; rfl, HB0.out⟩
    · have q1 : ((j : Int) == 1) = false := beq_eq_false_iff_ne.2 (by omega)
      have q2 : ((j : Int) != 1) = true := bne_iff_ne.2 (by omega)
      have HRz := Lib.hid (show R = !hsf by rw [HR.out]; simp [hj])
      clear hj HR
      go_enter Tryz.func182, Tryz.ntmps182
      go_wp2_with fail
      refine (HC.out _).mono ?_
      rintro e w1 ⟨rfl, rfl⟩
      go_wp2_with fail
      go_ret
      exact ⟨by rw [HRz.out]; rfl, HB0.out⟩
  · have q1 : ((k : Int) == 1) = false := beq_eq_false_iff_ne.2 (by omega)
    have q2 : ((k : Int) != 1) = true := bne_iff_ne.2 (by omega)
    have HRz := Lib.hid (show R = true by rw [HR.out]; simp [hk])
    clear hk HR
    go_enter Tryz.func182, Tryz.ntmps182
    go_wp2_with fail
    go_ret
    exact ⟨by rw [HRz.out]; rfl, HB0.out⟩
end Go.Proofs.YteiccjakaabfnaaGreatDoor
namespace Go.Proofs.YteiccjakaabfnaaGreatDoor
open Go.RowKit Go.Shelf

theorem Sc.chain_iff : ∀ l : List Sc.T, Sc.chain l = true ↔ ∀ i (h : i + 1 < l.length), Sc.behind (l[i]'(by omega)) l[i + 1] = true
  | [] => by simp [Sc.chain]
  | [a] => by simp [Sc.chain]
  | a :: b :: r => by
    rw [Sc.chain, Bool.and_eq_true, Sc.chain_iff (b :: r)]
    constructor
    · rintro ⟨h1, h2⟩ i hi
      cases i with
      | zero => exact h1
      | succ i => exact h2 i (by simp at hi ⊢; omega)
    · intro h
      exact ⟨h 0 (by simp), fun i hi => h (i + 1) (by simp at hi ⊢; omega)⟩
theorem Sc.okTs_iff (l : List Sc.T) : Sc.okTs l = true ↔ ∀ i (h : i < l.length), Sc.okT l[i] = true ∧ ∀ (h0 : 0 < i), Sc.behind (l[i - 1]'(by omega)) l[i] = true := by
  unfold Sc.okTs
  rw [Bool.and_eq_true, Sc.chain_iff, List.all_eq_true]
  constructor
  · rintro ⟨h1, h2⟩ i hi
    refine ⟨h1 _ (List.getElem_mem _), fun h0 => ?_⟩
    obtain ⟨j, rfl⟩ : ∃ j, i = j + 1 := ⟨i - 1, by omega⟩
    exact h2 j hi
  · intro h
    refine ⟨fun x hx => ?_, fun i hi => ?_⟩
    · obtain ⟨i, hi, rfl⟩ := List.getElem_of_mem hx
      exact (h i hi).1
    · exact (h (i + 1) hi).2 (by omega)
theorem Sc.chk_ok {l : List Sc.T} (h : ∀ i (h : i < l.length), Sc.okT l[i] = true ∧ ∀ (h0 : 0 < i), Sc.behind (l[i - 1]'(by omega)) l[i] = true) : Sc.chkTs l = 0 := by
  unfold Sc.chkTs
  rw [if_pos ((Sc.okTs_iff l).2 h)]
theorem Sc.chk_bad {l : List Sc.T} {i : Nat} (hi : i < l.length) (h : Sc.okT l[i] = false ∨ ∃ (h0 : 0 < i), Sc.behind (l[i - 1]'(by omega)) l[i] = false) : Sc.chkTs l = 2 := by
  unfold Sc.chkTs
  rw [if_neg fun hh => ?_]
  obtain ⟨h1, h2⟩ := (Sc.okTs_iff l).1 hh i hi
  rcases h with h | ⟨h0, h⟩
  · rw [h1] at h; cases h
  · rw [h2 h0] at h; cases h
theorem Sc.lt_of_cell {w : World} {b o : Nat} {v : Value} (h : w.cell? ⟨b, o, none⟩ = some v) : b < w.heap.size := by
  refine Classical.byContradiction fun hc => ?_
  rw [World.cell?, Array.getElem?_eq_none (by show w.heap.size ≤ b; omega)] at h
  cases h
end Go.Proofs.YteiccjakaabfnaaGreatDoor
