/-
  The walks of value's Check and Find. Condition: a value's texts and lists are of a size that a machine holds.
  The walk of value's Find. Condition: a value's texts and lists are of a size that a machine holds.
-/
import Derived.Test.YteiccjakaabfnaaGreatDoorVlCopyV
namespace Go.Proofs.YteiccjakaabfnaaGreatDoor
open Go.RowKit

theorem Vl.few_of : ∀ (d : Nat) (x : Vl.V), (∃ l, Vl.okV l x = true) → x.cnt ≤ 256 → Vl.few d x
  | 0, _, _, _ => trivial
  | d + 1, x, ⟨l, hl⟩, hc => by
    cases l with
    | zero => cases hl
    | succ l =>
      rw [Vl.okV, Bool.and_eq_true] at hl
      have h1 := cntL_le x
      refine ⟨by omega, ?_, fun y hy => Vl.few_of d y ⟨l, List.all_eq_true.1 hl.2 y hy⟩ ?_⟩
      · have hle := hl.1
        unfold Vl.leaf Vl.leafC at hle
        split at hle <;> simp at hle <;> first | omega | simp [hle]
      · have := Vl.cntL_mem hy
        rw [Vl.V.cnt_eq] at hc
        omega
where
  cntL_le (x : Vl.V) : x.items.length + 1 ≤ x.cnt := by rw [Vl.V.cnt_eq]; have := Vl.cntL_len x.items; omega
set_option maxRecDepth 100000 in
set_option maxHeartbeats 1000000 in
/-- Check, of whatever value. -/
theorem vlCheck_any (d : Nat) (x : Vl.V) (v : Value) (w : World) (hA : Vl.At d w v x) :
    Calls Tryz.prog 39 #[v] w fun e w' => e = .returned (.int .i64 (Vl.chk x)) ∧ Below w.heap.size w w' := by
  obtain ⟨k, t, i, pi, ni, ci, pn, nn, cn, rfl⟩ := hA.shape
  have hb0 := ((Below.refl w.heap.size w).alloc (Nat.le_refl _) (.cells #[.int .u8 (k : Nat), .string t, .int .i64 i, .slice pi ni ci, .slice pn nn cn] 42)).alloc (by simp) (.cells #[.int .i64 256] 3)
  have hs0 : w.heap.size + 1 < ((w.alloc (.cells #[.int .u8 (k : Nat), .string t, .int .i64 i, .slice pi ni ci, .slice pn nn cn] 42)).alloc (.cells #[.int .i64 256] 3)).heap.size := by simp
  have hcall := Lib.hid (right_any 8 d x _ w _ (w.heap.size + 1) 256 (by omega) (by omega) (by omega) hA hb0 (by omega) (Vl.newAt (w.alloc (.cells #[.int .u8 (k : Nat), .string t, .int .i64 i, .slice pi ni ci, .slice pn nn cn] 42)) (.cells #[.int .i64 256] 3) (w.heap.size + 1) (by simp)))
  unfold Vl.RightPost at hcall
  rw [Vl.go_good] at hcall
  have Hg := Lib.hid (fun W' (h : World.grownBy _ W' (some (w.heap.size + 1))) => below_grownBy hb0 h (by omega) (by omega))
  have hc : Vl.chk x = if Vl.good x then 0 else 2 := rfl
  rw [hc]
  clear hb0 hs0 hA hc
  generalize Vl.good x = q at *
  go_enter Tryz.func39, Tryz.ntmps39
  go_wp2_with fail
  refine hcall.out.mono ?_
  rintro e w' ⟨rfl, h1, _⟩
  have H1 := Lib.hid (Hg.out _ h1)
  clear h1
  cases q with
  | true =>
    go_wp2_with fail
    go_ret
    exact ⟨rfl, H1.out⟩
  | false =>
    go_wp2_with fail
    go_ret
    exact ⟨rfl, H1.out⟩
/-- The place of a name, as a number. -/
def Vl.idxI (l : List ByteArray) (s : ByteArray) : Int := match Vl.idx l s with
  | none => -1
  | some k => k
theorem Vl.idxI_some {l : List ByteArray} {s : ByteArray} {k : Nat} (h : k < l.length) (h0 : ∀ j (hj : j < l.length), j < k → ¬ s = l[j]) (h1 : s = l[k]) : Vl.idx l s = some k := by
  induction l generalizing k with
  | nil => simp at h
  | cons x l ih =>
    cases k with
    | zero => rw [Vl.idx, if_pos (by simpa using h1.symm)]
    | succ k =>
      rw [Vl.idx, if_neg (fun e => h0 0 (by simp) (by omega) (by simpa using e.symm)), ih (k := k) (by simpa using h) (fun j hj hjk => by have := h0 (j + 1) (by simpa using hj) (by omega); simpa using this) (by simpa using h1)]
      rfl
theorem Vl.idxI_none {l : List ByteArray} {s : ByteArray} (h0 : ∀ j (hj : j < l.length), ¬ s = l[j]) : Vl.idx l s = none := by
  induction l with
  | nil => rfl
  | cons x l ih =>
    rw [Vl.idx, if_neg (fun e => h0 0 (by simp) (by simpa using e.symm)), ih (fun j hj => by have := h0 (j + 1) (by simpa using hj); simpa using this)]
    rfl
theorem Vl.idx_lt {l : List ByteArray} {s : ByteArray} {k : Nat} (h : Vl.idx l s = some k) : k < l.length := by
  induction l generalizing k with
  | nil => cases h
  | cons x l ih =>
    rw [Vl.idx] at h
    split at h
    · cases h; simp
    · cases hi : Vl.idx l s with
      | none => rw [hi] at h; cases h
      | some j => rw [hi] at h; cases h; have := ih hi; simpa using this
theorem Vl.ba_eq (a b : ByteArray) : (a.toList == b.toList) = decide (a = b) := by
  rw [Lib.toList_data, Lib.toList_data]
  by_cases h : a = b
  · subst h; simp
  · rw [decide_eq_false h, beq_eq_false_iff_ne]
    intro e
    exact h (by cases a; cases b; congr; exact Array.toList_inj.1 e)
set_option maxRecDepth 100000 in
set_option maxHeartbeats 1000000 in
/-- slices.Index, at texts. -/
theorem vlIndex_any (p : Option Addr) (c : Nat) (l : List ByteArray) (s : ByteArray) (w : World) (hm : l.length ≤ 140737488351232) (hA : Wp.At Wp.mkT w p l) :
    Calls Tryz.prog 99 #[.slice p l.length c, .string s] w fun e w' => e = .returned (.int .i64 (Vl.idxI l s)) ∧ w' = w := by
  have HA := Lib.hid hA
  obtain ⟨n, hn⟩ : ∃ n, n = l.length := ⟨_, rfl⟩
  have HN := Lib.hid hn
  rw [← hn] at hm ⊢
  clear hA hn
  obtain ⟨r, hr⟩ : ∃ r, r = Vl.idxI l s := ⟨_, rfl⟩
  have HR := Lib.hid hr
  rw [← hr]
  clear hr
  go_enter Tryz.func99, Tryz.ntmps99
  go_wp2_with fail
  go_loop [5, 8] (fun _ t => ∃ k : Nat, k ≤ n ∧ t = .int .i64 k ∧ Hid (∀ j (hj : j < l.length), j < k → ¬ s = l[j])) (fun _ t => n - (intOf t).toNat)
  case atStart => exact ⟨0, Nat.zero_le _, rfl, Lib.hid (fun j _ h => absurd h (Nat.not_lt_zero _))⟩
  case round =>
    obtain ⟨k, hk, rfl, HO⟩ := hrel
    by_cases hlt : k < n
    · have hkl : k < l.length := by rw [← HN.out]; exact hlt
      obtain ⟨b, off, rfl, hcell⟩ := HA.out.get k hkl
      rw [show Wp.mkT l[k] = Value.string l[k] from rfl] at hcell
      have hbe := Vl.ba_eq s l[k]
      by_cases heq : s = l[k]
      · rw [decide_eq_true heq] at hbe
        have hix := Vl.idxI_some hkl HO.out heq
        have hr2 : r = (k : Int) := by rw [HR.out, Vl.idxI, hix]
        subst hr2
        generalize l[k] = x at *
        clear HO HR hix heq
        go_wp2_with fail
        go_ret
        exact ⟨rfl, rfl⟩
      · rw [decide_eq_false heq] at hbe
        have HO2 := Lib.hid (fun j (hj : j < l.length) (h : j < k + 1) => (if e : j = k then by subst e; exact heq else HO.out j hj (by omega)) : ∀ j (hj : j < l.length), j < k + 1 → ¬ s = l[j])
        generalize l[k] = x at *
        clear HO HR heq
        go_wp2_with fail
        refine ⟨⟨k + 1, by omega, by go_num, HO2⟩, by simp [intOf]; omega⟩
    · obtain rfl : k = n := by omega
      have hix := Vl.idxI_none (l := l) (s := s) (fun j hj => HO.out j hj (by rw [HN.out]; exact hj))
      have hr2 : r = -1 := by rw [HR.out, Vl.idxI, hix]
      subst hr2
      go_wp2_with fail
      go_ret
      exact ⟨rfl, rfl⟩
end Go.Proofs.YteiccjakaabfnaaGreatDoor
namespace Go.Proofs.YteiccjakaabfnaaGreatDoor
open Go.RowKit

theorem Vl.At.succ : ∀ {d : Nat} {w : World} {v : Value} {x : Vl.V}, Vl.At d w v x → Vl.At (d + 1) w v x
  | 0, _, _, _, h => h.elim
  | d + 1, w, v, x, ⟨pi, ci, pn, cn, e, hf, hn, hi⟩ => by
    refine ⟨pi, ci, pn, cn, e, hf, hn, ?_⟩
    rcases hi with hi | ⟨b, off, hp, hc⟩
    · exact Or.inl hi
    · refine Or.inr ⟨b, off, hp, fun i h => ?_⟩
      obtain ⟨c0, c1, c2, c3, c4, h5, ha⟩ := hc i h
      exact ⟨c0, c1, c2, c3, c4, h5, Vl.At.succ ha⟩
theorem Vl.At.zero (d : Nat) (w : World) : Vl.At (d + 1) w (.agg #[.int .u8 0, .string ⟨#[]⟩, .int .i64 0, .slice none 0 0, .slice none 0 0]) Vl.zero :=
  ⟨none, 0, none, 0, rfl, ⟨by decide, by decide, by unfold Wp.I64; decide, by decide, by decide, by simp [Vl.zero, Vl.V.names]⟩, Or.inl rfl, Or.inl rfl⟩
/-- Right, by itself or within another one. -/
def Vl.Okay (x : Vl.V) : Prop := (∃ l, Vl.okV l x = true) ∧ x.cnt ≤ 256
theorem Vl.Okay.of {x : Vl.V} (h : Vl.good x = true) : Vl.Okay x := by
  unfold Vl.good at h
  rw [Bool.and_eq_true, decide_eq_true_eq] at h
  exact ⟨⟨8, h.1⟩, h.2⟩
theorem Vl.Okay.item {x y : Vl.V} (h : Vl.Okay x) (hy : y ∈ x.items) : Vl.Okay y := by
  obtain ⟨⟨l, hl⟩, hc⟩ := h
  cases l with
  | zero => cases hl
  | succ l =>
    rw [Vl.okV, Bool.and_eq_true] at hl
    refine ⟨⟨l, List.all_eq_true.1 hl.2 y hy⟩, ?_⟩
    have := Vl.cntL_mem hy
    rw [Vl.V.cnt_eq] at hc
    omega
theorem Vl.Okay.names {x : Vl.V} (h : Vl.Okay x) : x.names.length ≤ x.items.length := by
  obtain ⟨⟨l, hl⟩, _⟩ := h
  cases l with
  | zero => cases hl
  | succ l =>
    rw [Vl.okV, Bool.and_eq_true] at hl
    have hle := hl.1
    unfold Vl.leaf Vl.leafC at hle
    split at hle <;> simp at hle <;> first | omega | simp [hle]
def Vl.findR (x : Vl.V) (p : List ByteArray) : Vl.V × Int := if Vl.good x then (match Vl.find x p with | none => (Vl.zero, 3) | some y => (y, 0)) else (Vl.zero, 2)
theorem Vl.find_none {y : Vl.V} {s : ByteArray} {p : List ByteArray} (h : Vl.idx y.names s = none) : Vl.find y (s :: p) = none := by rw [Vl.find, h]
theorem Vl.find_some {y z : Vl.V} {s : ByteArray} {p : List ByteArray} {j : Nat} (h : Vl.idx y.names s = some j) (h2 : y.items[j]? = some z) : Vl.find y (s :: p) = Vl.find z p := by rw [Vl.find, h]; simp only [h2]
theorem Vl.findR_bad {x : Vl.V} {p : List ByteArray} (h : Vl.good x = false) : Vl.findR x p = (Vl.zero, 2) := by rw [Vl.findR, h]; rfl
theorem Vl.findR_none {x : Vl.V} {p : List ByteArray} (h : Vl.good x = true) (h2 : Vl.find x p = none) : Vl.findR x p = (Vl.zero, 3) := by rw [Vl.findR, h, h2]; rfl
theorem Vl.findR_some {x y : Vl.V} {p : List ByteArray} (h : Vl.good x = true) (h2 : Vl.find x p = some y) : Vl.findR x p = (y, 0) := by rw [Vl.findR, h, h2]; rfl
/-- What stands in the box at each round. -/
structure Vl.FBox (w wr : World) (d : Nat) (x : Vl.V) (path : List ByteArray) (k : Nat) (y : Vl.V) : Prop where
  box : ∃ pi ci pn cn, wr.heap[w.heap.size]? = some (.cells #[.int .u8 (y.kind : Nat), .string y.text, .int .i64 y.num, .slice pi y.items.length ci, .slice pn y.names.length cn] 42 (0, 0)) ∧ Vl.At (d + 1) w (.agg #[.int .u8 (y.kind : Nat), .string y.text, .int .i64 y.num, .slice pi y.items.length ci, .slice pn y.names.length cn]) y
  res : wr.heap[w.heap.size + 1]? = some (.cells #[.int .u8 0, .string ⟨#[]⟩, .int .i64 0, .slice none 0 0, .slice none 0 0] 42 (0, 0))
  below : Below w.heap.size w wr
  okay : Vl.Okay y
  eq : Vl.find x path = Vl.find y (path.drop k)
/-- What Find hands back. -/
def Vl.FPost (d : Nat) (T : Vl.V × Int) (w : World) (e : Ending) (w' : World) : Prop := ∃ u, e = .returned (.tuple #[u, .int .i64 T.2]) ∧ Vl.At (d + 1) w' u T.1 ∧ Below w.heap.size w w'
set_option maxRecDepth 100000 in
set_option maxHeartbeats 2000000 in
theorem vlFind_any (d : Nat) (x : Vl.V) (v : Value) (w : World) (hA : Vl.At (d + 1) w v x) (pp : Option Addr) (cp : Nat) (path : List ByteArray) (hm : path.length ≤ 140737488351232) (hP : Wp.At Wp.mkT w pp path) :
    Calls Tryz.prog 74 #[v, .slice pp path.length cp] w (Vl.FPost d (Vl.findR x path) w) := by
  have hck := Lib.hid (fun W (h : Below w.heap.size w W) => vlCheck_any (d + 1) x v W (hA.below h))
  obtain ⟨pi, ci, pn, cn, rfl, hrest⟩ := hA
  have hA : Vl.At (d + 1) w (.agg #[.int .u8 (x.kind : Nat), .string x.text, .int .i64 x.num, .slice pi x.items.length ci, .slice pn x.names.length cn]) x := ⟨pi, ci, pn, cn, rfl, hrest⟩
  have HA := Lib.hid hA
  have HP := Lib.hid hP
  obtain ⟨n, hn⟩ : ∃ n, n = path.length := ⟨_, rfl⟩
  have HN := Lib.hid hn
  rw [← hn] at hm ⊢
  obtain ⟨T, hT⟩ : ∃ T, T = Vl.findR x path := ⟨_, rfl⟩
  have HT := Lib.hid hT
  rw [← hT]
  have hx0 := Lib.hid (show ((w.alloc (.cells #[.int .u8 (x.kind : Nat), .string x.text, .int .i64 x.num, .slice pi x.items.length ci, .slice pn x.names.length cn] 42)).alloc (.cells #[.int .u8 0, .string ⟨#[]⟩, .int .i64 0, .slice none 0 0, .slice none 0 0] 42)).heap[w.heap.size]? = some (.cells #[.int .u8 (x.kind : Nat), .string x.text, .int .i64 x.num, .slice pi x.items.length ci, .slice pn x.names.length cn] 42 (0, 0)) by rw [Vl.past _ _ _ (by simp)]; exact Vl.new _ _)
  have hr0 := Lib.hid (Vl.newAt (w.alloc (.cells #[.int .u8 (x.kind : Nat), .string x.text, .int .i64 x.num, .slice pi x.items.length ci, .slice pn x.names.length cn] 42)) (.cells #[.int .u8 0, .string ⟨#[]⟩, .int .i64 0, .slice none 0 0, .slice none 0 0] 42) (w.heap.size + 1) (by simp))
  have hbw := Lib.hid (((Below.refl w.heap.size w).alloc (Nat.le_refl _) (.cells #[.int .u8 (x.kind : Nat), .string x.text, .int .i64 x.num, .slice pi x.items.length ci, .slice pn x.names.length cn] 42)).alloc (by simp) (.cells #[.int .u8 0, .string ⟨#[]⟩, .int .i64 0, .slice none 0 0, .slice none 0 0] 42))
  have Hs0 := Lib.hid (show ((w.alloc (.cells #[.int .u8 (x.kind : Nat), .string x.text, .int .i64 x.num, .slice pi x.items.length ci, .slice pn x.names.length cn] 42)).alloc (.cells #[.int .u8 0, .string ⟨#[]⟩, .int .i64 0, .slice none 0 0, .slice none 0 0] 42)).heap.size = w.heap.size + 2 by simp)
  clear hA hP hn hT hrest
  have Hstart := Lib.hid (fun (W : World) (hg : Vl.good x = true) (h1 : W.heap[w.heap.size]? = some (.cells #[.int .u8 (x.kind : Nat), .string x.text, .int .i64 x.num, .slice pi x.items.length ci, .slice pn x.names.length cn] 42 (0, 0))) (h2 : W.heap[w.heap.size + 1]? = some (.cells #[.int .u8 0, .string ⟨#[]⟩, .int .i64 0, .slice none 0 0, .slice none 0 0] 42 (0, 0))) (h3 : Below w.heap.size w W) =>
    (⟨⟨pi, ci, pn, cn, h1, HA.out⟩, h2, h3, Vl.Okay.of hg, by rw [List.drop_zero]⟩ : Vl.FBox w W d x path 0 x))
  generalize x.items.length = ni at *
  generalize x.names.length = nn at *
  generalize x.kind = k at *
  generalize x.text = t at *
  generalize x.num = i at *
  have hchk : Vl.chk x = if Vl.good x then 0 else 2 := rfl
  rw [hchk] at hck
  clear hchk
  go_enter Tryz.func74, Tryz.ntmps74
  go_wp2_with fail
  refine (hck.out _ hbw.out).mono ?_
  rintro e w1 ⟨rfl, hb1⟩
  have hz1 : w.heap.size + 2 ≤ w1.heap.size := by have := hb1.size; rwa [Hs0.out] at this
  have hx1 := (hb1.block w.heap.size (by rw [Hs0.out]; omega)).trans hx0.out
  have hr1 := (hb1.block (w.heap.size + 1) (by rw [Hs0.out]; omega)).trans hr0.out
  have hB1 := hbw.out.trans (hb1.mono (by rw [Hs0.out]; omega))
  cases hgd : Vl.good x with
  | false =>
    obtain ⟨n0, n1, n2, n3, n4⟩ := Vl.fiveF_of hr1
    obtain ⟨m0, m1, m2, m3, m4⟩ := Vl.five_of hr1
    have hTe : T = (Vl.zero, 2) := by rw [HT.out, Vl.findR_bad hgd]
    have HB1 := Lib.hid hB1
    have HR1 := Lib.hid hr1
    clear hb1 hx1 hB1 hr1 hck hx0 hr0 hbw Hstart
    go_wp2_with fail
    refine bodyPost_ret (Vl.ret2 rfl _ _ (w.heap.size + 1) 42 _ _ rfl (Vl.set5 HR1.out _ _ _ _ _) Tryz.underlying42 rfl (by kernel_rfl)) rfl ?_
    rw [hTe]
    exact ⟨_, rfl, Vl.At.zero d _, below_grownBy HB1.out (Vl.set5_grown _ _ _ _ _ _ _) (by omega) (by omega)⟩
  | true =>
    have HF := Lib.hid (Hstart.out w1 hgd hx1 hr1 hB1)
    have HT2 := Lib.hid (fun (h : Vl.find x path = none) => HT.out.trans (Vl.findR_none hgd h))
    have HT3 := Lib.hid (fun y (h : Vl.find x path = some y) => HT.out.trans (Vl.findR_some hgd h))
    clear hb1 hx1 hB1 hr1 hck hx0 hr0 hbw Hstart Hs0 HT
    go_wp2_with fail
    go_loopw [8, 9, 18] (fun _ _ s wr => ∃ (kk : Nat) (y : Vl.V), kk ≤ n ∧ s = .int .i64 kk ∧ w.heap.size + 2 ≤ wr.heap.size ∧ Hid (Vl.FBox w wr d x path kk y)) (fun _ _ s _ => n - (intOf s).toNat)
    case atStart => exact ⟨0, x, Nat.zero_le _, rfl, hz1, HF⟩
    case round =>
      obtain ⟨kk, y, hkk, rfl, hzr, HB⟩ := hrel
      obtain ⟨⟨pi2, ci2, pn2, cn2, hbox, hAy⟩, hres, hbel, hok, heq⟩ := HB.out
      by_cases hlt : kk < n
      · have hkl : kk < path.length := by rw [← HN.out]; exact hlt
        obtain ⟨b, off, rfl, hcell⟩ := (HP.out.below hbel).get kk hkl
        rw [show Wp.mkT path[kk] = Value.string path[kk] from rfl] at hcell
        have hst : Vl.find x path = Vl.find y (path[kk] :: path.drop (kk + 1)) := by rw [heq, List.drop_eq_getElem_cons hkl]
        have hidx := Lib.hid (fun W (h : Below w.heap.size w W) => vlIndex_any pn2 cn2 y.names path[kk] W (by obtain ⟨_, _, _, _, _, hf, _⟩ := hAy; exact hf.2.2.2.2.1) (by obtain ⟨_, _, _, _, e, _, hn', _⟩ := hAy; simp only [Value.agg.injEq, Array.mk.injEq, List.cons.injEq, Value.slice.injEq, and_true] at e; obtain ⟨-, -, -, -, rfl, -, -⟩ := e; exact hn'.below h))
        have hitem : ∀ j, Vl.idx y.names path[kk] = some j → ∃ z, y.items[j]? = some z ∧ Vl.Okay z := fun j hj => by
          have h1 := Vl.idx_lt hj
          have h2 := hok.names
          exact ⟨y.items[j]'(by omega), List.getElem?_eq_getElem _, hok.item (List.getElem_mem _)⟩
        have hrow : Vl.RowIs wr pi2 y.items.length (Vl.G d w y.items) := by
          obtain ⟨_, _, _, _, e, _, _, hi'⟩ := hAy
          simp only [Value.agg.injEq, Array.mk.injEq, List.cons.injEq, Value.slice.injEq, and_true] at e
          obtain ⟨-, -, -, ⟨rfl, -, -⟩, -⟩ := e
          exact Vl.rowIs hi' wr hbel
        have Hst := Lib.hid hst
        have Hitem := Lib.hid hitem
        have Hrow := Lib.hid hrow
        have Hbox := Lib.hid hbox
        have Hres := Lib.hid hres
        have Hbel := Lib.hid hbel
        have Hnl := Lib.hid (fun j (h : Vl.idx y.names path[kk] = some j) => (Nat.lt_of_lt_of_le (Vl.idx_lt h) hok.names : j < y.items.length))
        generalize path[kk] = sx at *
        obtain ⟨m0, m1, m2, m3, m4⟩ := Vl.five_of hbox
        clear hst hitem hrow hkl hres heq hok HB hAy
        cases hq : Vl.idx y.names sx with
        | none =>
          rw [show Vl.idxI y.names sx = -1 by rw [Vl.idxI, hq]] at hidx
          have hTe := Lib.hid (HT2.out (Hst.out.trans (Vl.find_none hq)))
          clear Hst Hitem Hrow Hnl hq
          generalize y.items.length = ni2 at *
          generalize y.names.length = nn2 at *
          generalize y.kind = k2 at *
          generalize y.text = t2 at *
          generalize y.num = i2 at *
          obtain ⟨r0, r1, r2, r3, r4⟩ := Vl.five_of Hres.out
          obtain ⟨n0, n1, n2, n3, n4⟩ := Vl.fiveF_of Hres.out
          go_wp2_with fail
          refine (hidx.out _ Hbel.out).mono ?_
          rintro e w2 ⟨rfl, rfl⟩
          go_wp2_with fail
          refine bodyPost_ret (Vl.ret2 rfl _ _ (w.heap.size + 1) 42 _ _ rfl (Vl.set5 Hres.out _ _ _ _ _) Tryz.underlying42 rfl (by kernel_rfl)) rfl ?_
          rw [hTe.out]
          exact ⟨_, rfl, Vl.At.zero d _, below_grownBy Hbel.out (Vl.set5_grown _ _ _ _ _ _ _) (by omega) (by omega)⟩
        | some j =>
          rw [show Vl.idxI y.names sx = (j : Int) by rw [Vl.idxI, hq]] at hidx
          obtain ⟨z, hz, hzok⟩ := Hitem.out j hq
          have hji : j < y.items.length := Hnl.out j hq
          obtain ⟨b2, off2, c0, c1, c2, c3, c4, rfl, ⟨e0, e1, e2, e3, e4⟩, z', hz', hAz⟩ := Hrow.out j hji
          obtain rfl : z' = z := Option.some.inj (hz'.symm.trans hz)
          have hAz2 : ∃ pi' ci' pn' cn', Value.agg #[c0, c1, c2, c3, c4] = .agg #[.int .u8 (z'.kind : Nat), .string z'.text, .int .i64 z'.num, .slice pi' z'.items.length ci', .slice pn' z'.names.length cn'] := by
            cases d with
            | zero => exact hAz.elim
            | succ d =>
              obtain ⟨pi', ci', pn', cn', e, _⟩ := hAz
              exact ⟨pi', ci', pn', cn', e⟩
          obtain ⟨pi', ci', pn', cn', hsh⟩ := hAz2
          simp only [Value.agg.injEq, Array.mk.injEq, List.cons.injEq, and_true] at hsh
          obtain ⟨rfl, rfl, rfl, rfl, rfl⟩ := hsh
          have Hnext := Lib.hid (fun (W : World) (h1 : W.heap[w.heap.size]? = some (.cells #[.int .u8 (z'.kind : Nat), .string z'.text, .int .i64 z'.num, .slice pi' z'.items.length ci', .slice pn' z'.names.length cn'] 42 (0, 0))) (h2 : W.heap[w.heap.size + 1]? = some (.cells #[.int .u8 0, .string ⟨#[]⟩, .int .i64 0, .slice none 0 0, .slice none 0 0] 42 (0, 0))) (h3 : Below w.heap.size w W) =>
            (⟨⟨pi', ci', pn', cn', h1, hAz.succ⟩, h2, h3, hzok, Hst.out.trans (Vl.find_some hq hz)⟩ : Vl.FBox w W d x path (kk + 1) z'))
          clear Hst Hitem Hrow Hnl hq hz hz' hzok hAz
          generalize y.items.length = ni2 at *
          generalize y.names.length = nn2 at *
          generalize y.kind = k2 at *
          generalize y.text = t2 at *
          generalize y.num = i2 at *
          generalize z'.items.length = ni3 at *
          generalize z'.names.length = nn3 at *
          generalize z'.kind = k3 at *
          generalize z'.text = t3 at *
          generalize z'.num = i3 at *
          obtain ⟨n0, n1, n2, n3, n4⟩ := Vl.fiveF_of Hbox.out
          have hj0 : (0 : Int) ≤ (j : Int) := by omega
          have hj1 : (j : Int) < (ni2 : Int) := by omega
          go_wp2_with fail
          refine (hidx.out _ Hbel.out).mono ?_
          rintro e w2 ⟨rfl, rfl⟩
          go_wp2_with fail
          refine ⟨⟨kk + 1, z', by omega, by go_num, by rw [Vl.set5_size]; exact hzr, Lib.hid (Hnext.out _ (Vl.set5 Hbox.out _ _ _ _ _) ((Vl.set5_rest _ _ _ _ _ _ _ _ (by omega)).trans Hres.out) (below_grownBy Hbel.out (Vl.set5_grown _ _ _ _ _ _ _) (Nat.le_refl _) (by omega)))⟩, by simp [intOf]; omega⟩
      · obtain rfl : kk = n := by omega
        have hfx : Vl.find x path = some y := by rw [heq, HN.out, List.drop_length, Vl.find]
        have hTe := Lib.hid (HT3.out y hfx)
        have hcp := Lib.hid (copied_any (d + 1) y _ wr (hAy.below hbel) (Vl.few_of _ _ hok.1 hok.2))
        have Hbox := Lib.hid hbox
        have Hres := Lib.hid hres
        have Hbel := Lib.hid hbel
        clear hfx heq hok HB hAy HT2 HT3 hbox hres hbel
        generalize y.items.length = ni2 at *
        generalize y.names.length = nn2 at *
        generalize y.kind = k2 at *
        generalize y.text = t2 at *
        generalize y.num = i2 at *
        obtain ⟨m0, m1, m2, m3, m4⟩ := Vl.five_of Hbox.out
        go_wp2_with fail
        refine hcp.out.mono ?_
        rintro e w2 ⟨u, rfl, hoff, hb2⟩
        obtain ⟨k5, t5, i5, pi5, ni5, ci5, pn5, nn5, cn5, rfl⟩ := hoff.at.shape
        have Hoff := Lib.hid hoff
        have hs2 := hb2.size
        have hr2 := (hb2.block (w.heap.size + 1) (by omega)).trans Hres.out
        have HB2 := Lib.hid (Hbel.out.trans (hb2.mono (by omega)))
        have HR2 := Lib.hid hr2
        obtain ⟨r0, r1, r2, r3, r4⟩ := Vl.five_of hr2
        obtain ⟨n0, n1, n2, n3, n4⟩ := Vl.fiveF_of hr2
        clear m0 m1 m2 m3 m4 hoff hb2 hr2
        go_wp2_with fail
        refine bodyPost_ret (Vl.ret2 rfl _ _ (w.heap.size + 1) 42 _ _ rfl (Vl.set5 HR2.out _ _ _ _ _) Tryz.underlying42 rfl (by kernel_rfl)) rfl ?_
        rw [hTe.out]
        refine ⟨_, rfl, Hoff.out _ (fun j h1 h2 _ => Vl.set5_rest _ _ _ _ _ _ _ j (by omega)), below_grownBy HB2.out (Vl.set5_grown _ _ _ _ _ _ _) (by omega) (by omega)⟩
end Go.Proofs.YteiccjakaabfnaaGreatDoor
