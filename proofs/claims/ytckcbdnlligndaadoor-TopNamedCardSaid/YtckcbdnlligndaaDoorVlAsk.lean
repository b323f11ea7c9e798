
/-
  The walks of value's Check and Find. Condition: a value's texts and lists are of a size that a machine holds.
-/
import Derived.Test.YtckcbdnlligndaaDoorVlCopyV
namespace Go.Proofs.YtckcbdnlligndaaDoor
open Go.RowKit

theorem Vl.few_of : ∀ (d : Nat) (x : Vl.V), (∃ l, Vl.okV l x = true) → x.cnt ≤ 256 → Vl.few d x
  | 0, _, _, _ => trivial
  | d + 1, x, ⟨l, hl⟩, hc => by
    cases l with
    | zero => cases hl
    | succ l =>
      rw [Vl.okV, Bool.and_eq_true] at hl
      have h1 := cntL_le x
      refine ⟨by omega, ?_, fun y hy => Vl.few_of d y ⟨l, List.all_eq_true.1 hl.2 y hy⟩ ?_⟩
      · have hle := hl.1
        unfold Vl.leaf Vl.leafC at hle
        split at hle <;> simp at hle <;> first | omega | simp [hle]
      · have := Vl.cntL_mem hy
        rw [Vl.V.cnt_eq] at hc
        omega
where
  cntL_le (x : Vl.V) : x.items.length + 1 ≤ x.cnt := by rw [Vl.V.cnt_eq]; have := Vl.cntL_len x.items; omega
set_option maxRecDepth 100000 in
set_option maxHeartbeats 1000000 in
/-- Check, of whatever value. -/
theorem vlCheck_any (d : Nat) (x : Vl.V) (v : Value) (w : World) (hA : Vl.At d w v x) :
    Calls Tryd.prog 31 #[v] w fun e w' => e = .returned (.int .i64 (Vl.chk x)) ∧ Below w.heap.size w w' := by
  obtain ⟨k, t, i, pi, ni, ci, pn, nn, cn, rfl⟩ := hA.shape
  have hb0 := ((Below.refl w.heap.size w).alloc (Nat.le_refl _) (.cells #[.int .u8 (k : Nat), .string t, .int .i64 i, .slice pi ni ci, .slice pn nn cn] 26)).alloc (by simp) (.cells #[.int .i64 256] 3)
  have hs0 : w.heap.size + 1 < ((w.alloc (.cells #[.int .u8 (k : Nat), .string t, .int .i64 i, .slice pi ni ci, .slice pn nn cn] 26)).alloc (.cells #[.int .i64 256] 3)).heap.size := by simp
  have hcall := Lib.hid (right_any 8 d x _ w _ (w.heap.size + 1) 256 (by omega) (by omega) (by omega) hA hb0 (by omega) (Vl.newAt (w.alloc (.cells #[.int .u8 (k : Nat), .string t, .int .i64 i, .slice pi ni ci, .slice pn nn cn] 26)) (.cells #[.int .i64 256] 3) (w.heap.size + 1) (by simp)))
  unfold Vl.RightPost at hcall
  rw [Vl.go_good] at hcall
  have Hg := Lib.hid (fun W' (h : World.grownBy _ W' (some (w.heap.size + 1))) => below_grownBy hb0 h (by omega) (by omega))
  have hc : Vl.chk x = if Vl.good x then 0 else 2 := rfl
  rw [hc]
  clear hb0 hs0 hA hc
  generalize Vl.good x = q at *
  go_enter Tryd.func31, Tryd.ntmps31
  go_wp2_with fail
  refine hcall.out.mono ?_
  rintro e w' ⟨rfl, h1, _⟩
  have H1 := Lib.hid (Hg.out _ h1)
  clear h1
  cases q with
  | true =>
    go_wp2_with fail
    go_ret
    exact ⟨rfl, H1.out⟩
  | false =>
    go_wp2_with fail
    go_ret
    exact ⟨rfl, H1.out⟩
/-- The place of a name, as a number. -/
def Vl.idxI (l : List ByteArray) (s : ByteArray) : Int := match Vl.idx l s with
  | none => -1
  | some k => k
theorem Vl.idxI_some {l : List ByteArray} {s : ByteArray} {k : Nat} (h : k < l.length) (h0 : ∀ j (hj : j < l.length), j < k → ¬ s = l[j]) (h1 : s = l[k]) : Vl.idx l s = some k := by
  induction l generalizing k with
  | nil => simp at h
  | cons x l ih =>
    cases k with
    | zero => rw [Vl.idx, if_pos (by simpa using h1.symm)]
    | succ k =>
      rw [Vl.idx, if_neg (fun e => h0 0 (by simp) (by omega) (by simpa using e.symm)), ih (k := k) (by simpa using h) (fun j hj hjk => by have := h0 (j + 1) (by simpa using hj) (by omega); simpa using this) (by simpa using h1)]
      rfl
theorem Vl.idxI_none {l : List ByteArray} {s : ByteArray} (h0 : ∀ j (hj : j < l.length), ¬ s = l[j]) : Vl.idx l s = none := by
  induction l with
  | nil => rfl
  | cons x l ih =>
    rw [Vl.idx, if_neg (fun e => h0 0 (by simp) (by simpa using e.symm)), ih (fun j hj => by have := h0 (j + 1) (by simpa using hj); simpa using this)]
    rfl
theorem Vl.idx_lt {l : List ByteArray} {s : ByteArray} {k : Nat} (h : Vl.idx l s = some k) : k < l.length := by
  induction l generalizing k with
  | nil => cases h
  | cons x l ih =>
    rw [Vl.idx] at h
    split at h
    · cases h; simp
    · cases hi : Vl.idx l s with
      | none => rw [hi] at h; cases h
      | some j => rw [hi] at h; cases h; have := ih hi; simpa using this
theorem Vl.ba_eq (a b : ByteArray) : (a.toList == b.toList) = decide (a = b) := by
  rw [Lib.toList_data, Lib.toList_data]
  by_cases h : a = b
  · subst h; simp
  · rw [decide_eq_false h, beq_eq_false_iff_ne]
    intro e
    exact h (by cases a; cases b; congr; exact Array.toList_inj.1 e)
set_option maxRecDepth 100000 in
set_option maxHeartbeats 1000000 in
/-- slices.Index, at texts. -/
theorem vlIndex_any (p : Option Addr) (c : Nat) (l : List ByteArray) (s : ByteArray) (w : World) (hm : l.length ≤ 140737488351232) (hA : Wp.At Wp.mkT w p l) :
    Calls Tryd.prog 62 #[.slice p l.length c, .string s] w fun e w' => e = .returned (.int .i64 (Vl.idxI l s)) ∧ w' = w := by
  have HA := Lib.hid hA
  obtain ⟨n, hn⟩ : ∃ n, n = l.length := ⟨_, rfl⟩
  have HN := Lib.hid hn
  rw [← hn] at hm ⊢
  clear hA hn
  obtain ⟨r, hr⟩ : ∃ r, r = Vl.idxI l s := ⟨_, rfl⟩
  have HR := Lib.hid hr
  rw [← hr]
  clear hr
  go_enter Tryd.func62, Tryd.ntmps62
  go_wp2_with fail
  go_loop [5, 8] (fun _ t => ∃ k : Nat, k ≤ n ∧ t = .int .i64 k ∧ Hid (∀ j (hj : j < l.length), j < k → ¬ s = l[j])) (fun _ t => n - (intOf t).toNat)
  case atStart => exact ⟨0, Nat.zero_le _, rfl, Lib.hid (fun j _ h => absurd h (Nat.not_lt_zero _))⟩
  case round =>
    obtain ⟨k, hk, rfl, HO⟩ := hrel
    by_cases hlt : k < n
    · have hkl : k < l.length := by rw [← HN.out]; exact hlt
      obtain ⟨b, off, rfl, hcell⟩ := HA.out.get k hkl
      rw [show Wp.mkT l[k] = Value.string l[k] from rfl] at hcell
      have hbe := Vl.ba_eq s l[k]
      by_cases heq : s = l[k]
      · rw [decide_eq_true heq] at hbe
        have hix := Vl.idxI_some hkl HO.out heq
        have hr2 : r = (k : Int) := by rw [HR.out, Vl.idxI, hix]
        subst hr2
        generalize l[k] = x at *
        clear HO HR hix heq
        go_wp2_with fail
        go_ret
        exact ⟨rfl, rfl⟩
      · rw [decide_eq_false heq] at hbe
        have HO2 := Lib.hid (fun j (hj : j < l.length) (h : j < k + 1) => (if e : j = k then by subst e; exact heq else HO.out j hj (by omega)) : ∀ j (hj : j < l.length), j < k + 1 → ¬ s = l[j])
        generalize l[k] = x at *
        clear HO HR heq
        go_wp2_with fail
        refine ⟨⟨k + 1, by omega, by go_num, HO2⟩, by simp [intOf]; omega⟩
    · obtain rfl : k = n := by omega
      have hix := Vl.idxI_none (l := l) (s := s) (fun j hj => HO.out j hj (by rw [HN.out]; exact hj))
      have hr2 : r = -1 := by rw [HR.out, Vl.idxI, hix]
      subst hr2
      go_wp2_with fail
      go_ret
      exact ⟨rfl, rfl⟩
end Go.Proofs.YtckcbdnlligndaaDoor
