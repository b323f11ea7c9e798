
/-
  The walk of slices.IndexFunc at timers, with whatever closure, and of heap's place: where the timer of a number stands. Condition: the list is of a size that a machine holds.
-/
import Derived.Test.YtlbifinkjghgaaaHpClone
import Derived.Deep.LoopGhost
import Derived.Lib.Walk
import Derived.Shelf.Abstract
namespace Go.Proofs.Ytlbifinkjghgaaa
open Go.RowKit Go.Lib Go.Shelf

/-- How a search ends: at the first place at which the closure says yes, or behind the last one. -/
def Hp.IdxP (n : Nat) (P : Nat → Bool) (I : Nat → World → Prop) (e : Ending) (w' : World) : Prop :=
  (∃ k, k < n ∧ P k = true ∧ (∀ j, j < k → P j = false) ∧ e = .returned (.int .i64 k) ∧ I (k + 1) w') ∨ ((∀ j, j < n → P j = false) ∧ e = .returned (.int .i64 (-1)) ∧ I n w')
set_option maxHeartbeats 2000000 in
set_option maxRecDepth 100000 in
theorem hp_index (l : List (Int × Int × Int × Int)) (p : Option Addr) (c : Nat) (g : Nat) (lb : Array Value) (eg : ∀ args w, (callFunc g args).run Try.prog w = .ok (.enter g args) w) (w : World) (P : Nat → Bool) (I : Nat → World → Prop) (hn : l.length ≤ 140737488351232)
    (hA : ∀ k W, I k W → Hp.At W p l)
    (hc : ∀ k (h : k < l.length) W, I k W → Calls Try.prog g (#[.agg #[.int .i64 l[k].1, .int .i64 l[k].2.1, .int .u8 l[k].2.2.1, .int .i64 l[k].2.2.2]] ++ lb) W fun e w' => e = .returned (.bool (P k)) ∧ I (k + 1) w')
    (h0 : I 0 w) : Calls Try.prog 26 #[.slice p l.length c, .func (.func g) #[] lb] w (Hp.IdxP l.length P I) := by
  have HA := Lib.hid hA
  have HC := Lib.hid hc
  have H0 := Lib.hid h0
  clear hA hc h0
  obtain ⟨n, hnl⟩ : ∃ n, n = l.length := ⟨_, rfl⟩
  have Hn := Lib.hid hnl
  rw [← hnl] at hn
  rw [← hnl]
  clear hnl
  go_enter Try.func26, Try.ntmps26
  go_wp2
  go_loopg [5, 8] n (fun gg _ s8 wr => ∃ kk : Nat, kk ≤ n ∧ n - kk ≤ gg ∧ s8 = .int .i64 kk ∧ Aside (I kk wr) ∧ Aside (∀ j, j < kk → P j = false))
  case atStart => exact ⟨0, Nat.zero_le _, by omega, rfl, H0.out, fun j hj => absurd hj (Nat.not_lt_zero _)⟩
  case round =>
    obtain ⟨kk, hkk, hg, rfl, BI, A⟩ := hrel
    by_cases hlt : kk < n
    · have hltz : (kk : Int) < (n : Int) := by omega
      have hkl : kk < l.length := by rw [← Hn.out]; exact hlt
      have hcall := HC.out kk hkl wr BI.out
      obtain ⟨b, off, rfl, e1, e2, e3, e4⟩ := (HA.out kk wr BI.out).get kk hkl
      generalize l[kk] = y at hcall e1 e2 e3 e4
      obtain ⟨y1, y2, y3, y4⟩ := y
      simp only [] at hcall e1 e2 e3 e4
      clear hkl
      cases hq : P kk with
      | true =>
        rw [hq] at hcall
        have HK := Lib.hid hcall
        have HQ := Lib.hid hq
        clear hcall hq
        go_wp2_with fail
        refine HK.out.mono ?_
        rintro e w' ⟨rfl, hb'⟩
        clear e1 e2 e3 e4
        go_wp2_with fail
        go_ret
        exact Or.inl ⟨kk, hlt, HQ.out, A.out, rfl, hb'⟩
      | false =>
        rw [hq] at hcall
        have HK := Lib.hid hcall
        have HQ := Lib.hid hq
        clear hcall hq
        go_wp2_with fail
        refine HK.out.mono ?_
        rintro e w' ⟨rfl, hb'⟩
        clear e1 e2 e3 e4
        go_wp2_with fail
        go_roundg (n - (kk + 1))
        case measure => omega
        case rel =>
          refine ⟨kk + 1, by omega, by omega, by go_num, hb', (show Aside _ from fun j hj => ?_)⟩
          by_cases e : j = kk
          · subst e; exact HQ.out
          · exact A.out j (by omega)
    · have hltz : ¬ (kk : Int) < (n : Int) := by omega
      have : kk = n := by omega
      subst this
      go_wp2
      go_ret
      exact Or.inr ⟨A.out, rfl, BI.out⟩
/-- Where the timer of a number stands; as many as there are, if there is none. -/
def Hp.idx (l : List (Int × Int × Int × Int)) (s : Int) : Nat := l.findIdx fun x => decide (x.2.1 = s)
def Hp.plc (l : List (Int × Int × Int × Int)) (s : Int) : Int := if Hp.idx l s < l.length then (Hp.idx l s : Int) else -1
theorem Hp.idx_at {l : List (Int × Int × Int × Int)} {s : Int} {k : Nat} (hk : k < l.length) (h : l[k].2.1 = s) (hn : ∀ j (hj : j < l.length), j < k → l[j].2.1 ≠ s) : Hp.idx l s = k := by
  unfold Hp.idx
  rw [List.findIdx_eq hk]
  exact ⟨by simpa using h, fun j hj => by simpa using hn j (by omega) hj⟩
theorem Hp.idx_none {l : List (Int × Int × Int × Int)} {s : Int} (hn : ∀ j (hj : j < l.length), l[j].2.1 ≠ s) : Hp.idx l s = l.length := by
  unfold Hp.idx
  rw [List.findIdx_eq_length]
  intro x hx
  obtain ⟨j, hj, rfl⟩ := List.mem_iff_getElem.1 hx
  simpa using hn j hj
theorem Hp.idx_get {l : List (Int × Int × Int × Int)} {s : Int} (h : Hp.idx l s < l.length) : (Hp.g l (Hp.idx l s)).2.1 = s := by
  rw [Hp.g_eq _ _ h]
  have := List.findIdx_getElem (p := fun x : Int × Int × Int × Int => decide (x.2.1 = s)) (xs := l) (w := h)
  exact of_decide_eq_true this
theorem Hp.idx_iff {l : List (Int × Int × Int × Int)} {s : Int} : Hp.idx l s < l.length ↔ s ∈ Hp.sq l := by
  unfold Hp.idx Hp.sq
  rw [List.findIdx_lt_length]
  simp
/-- The box that holds the number. -/
def Hp.Cap (w0 : World) (s : Int) (B : Nat) (l : List (Int × Int × Int × Int)) (p : Option Addr) (_ : Nat) (W : World) : Prop := Below w0.heap.size w0 W ∧ W.cell? ⟨B, 0, none⟩ = some (.int .i64 s) ∧ B < W.heap.size ∧ Hp.At W p l
theorem hp_place1 (w0 : World) (s : Int) (B : Nat) (l : List (Int × Int × Int × Int)) (p : Option Addr) (k : Nat) (x : Int × Int × Int × Int) (W : World) (hI : Hp.Cap w0 s B l p k W) :
    Calls Try.prog 27 (#[.agg #[.int .i64 x.1, .int .i64 x.2.1, .int .u8 x.2.2.1, .int .i64 x.2.2.2]] ++ #[.pointer (some ⟨B, 0, none⟩)]) W fun e w' => e = .returned (.bool (decide (x.2.1 = s))) ∧ Hp.Cap w0 s B l p (k + 1) w' := by
  obtain ⟨h1, h2, h3, h4⟩ := hI
  obtain ⟨x1, x2, x3, x4⟩ := x
  have hb := hp_box W (.cells #[.int .i64 x1, .int .i64 x2, .int .u8 x3, .int .i64 x4] 29)
  have HC := Lib.hid (show Hp.Cap w0 s B l p (k + 1) (W.alloc (.cells #[.int .i64 x1, .int .i64 x2, .int .u8 x3, .int .i64 x4] 29)) from
    ⟨h1.trans (hb.mono h1.size), (hb.cell (p := ⟨B, 0, none⟩) h3).trans h2, by rw [World.size_alloc]; omega, h4.below hb⟩)
  have hne : B ≠ W.heap.size := by omega
  have hne2 : W.heap.size ≠ B := by omega
  clear h1 h4 hb
  simp only []
  by_cases hs : x2 = s
  · subst hs
    rw [decide_eq_true rfl]
    go_enter Try.func27, Try.ntmps27
    go_wp2_with fail
    go_ret
    exact ⟨rfl, HC.out⟩
  · rw [decide_eq_false hs]
    have q1 : (x2 == s) = false := by simpa using hs
    clear hs
    go_enter Try.func27, Try.ntmps27
    go_wp2_with fail
    go_ret
    exact ⟨rfl, HC.out⟩
set_option maxHeartbeats 1000000 in
theorem hp_place (l : List (Int × Int × Int × Int)) (p : Option Addr) (c : Nat) (s : Int) (w : World) (hA : Hp.At w p l) (hn : l.length ≤ 140737488351232) :
    Calls Try.prog 15 #[.slice p l.length c, .int .i64 s] w fun e w' => e = .returned (.int .i64 (Hp.plc l s)) ∧ Below w.heap.size w w' := by
  have hb := hp_box w (.cells #[.int .i64 s] 2)
  have h0 : Hp.Cap w s w.heap.size l p 0 (w.alloc (.cells #[.int .i64 s] 2)) := ⟨hb, by rw [Lib.cell_of_heap (hp_new w _)]; rfl, by rw [World.size_alloc]; omega, hA.below hb⟩
  have HC := Lib.hid (hp_index l p c 27 #[.pointer (some ⟨w.heap.size, 0, none⟩)] (enters_of Try.func27 (by kernel_rfl) rfl) (w.alloc (.cells #[.int .i64 s] 2))
    (fun k => decide ((l.getD k (0, 0, 0, 0)).2.1 = s)) (Hp.Cap w s w.heap.size l p) hn (fun k W hI => hI.2.2.2)
    (fun k hk W hI => by have := hp_place1 w s w.heap.size l p k l[k] W hI; rw [List.getD_eq_getElem?_getD, List.getElem?_eq_getElem hk]; exact this) h0)
  have H1 := Lib.hid (show ∀ k, k < l.length → decide ((l.getD k (0, 0, 0, 0)).2.1 = s) = true → (∀ j, j < k → decide ((l.getD j (0, 0, 0, 0)).2.1 = s) = false) → Hp.plc l s = k from fun k hk h hj => by
    have e : Hp.idx l s = k := Hp.idx_at hk (by simpa [hk] using h) (fun j hjl hjk => by have := hj j hjk; simpa [hjl] using this)
    unfold Hp.plc
    rw [e, if_pos hk])
  have H2 := Lib.hid (show (∀ j, j < l.length → decide ((l.getD j (0, 0, 0, 0)).2.1 = s) = false) → Hp.plc l s = -1 from fun hj => by
    have e : Hp.idx l s = l.length := Hp.idx_none (fun j hjl => by have := hj j hjl; simpa [hjl] using this)
    unfold Hp.plc
    rw [e, if_neg (Nat.lt_irrefl _)])
  generalize Hp.plc l s = r at H1 H2 ⊢
  clear hA h0 hb hn
  generalize l.length = n at *
  go_enter Try.func15, Try.ntmps15
  go_wp2_with fail
  refine HC.out.mono ?_
  rintro e w' (⟨k, h1, h2, h3, rfl, h4⟩ | ⟨h1, rfl, h4⟩)
  · have E := Lib.hid (H1.out k h1 h2 h3)
    have HB := Lib.hid h4.1
    clear h1 h2 h3 h4
    go_wp2_with fail
    go_ret
    exact ⟨by rw [E.out]; rfl, HB.out⟩
  · have E := Lib.hid (H2.out h1)
    have HB := Lib.hid h4.1
    clear h1 h4
    go_wp2_with fail
    go_ret
    exact ⟨by rw [E.out]; rfl, HB.out⟩
end Go.Proofs.Ytlbifinkjghgaaa
