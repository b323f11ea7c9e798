/-
  The walks of slices.IndexFunc and slices.ContainsFunc at ranges, with whatever closure: one that writes a variable of its own too. Condition: what each call of the closure hands back, and keeps.
-/
import Derived.Test.YtpaleljnkejdgaaGreatDoorWkAt
import Derived.Deep.LoopGhost
import Derived.Lib.Walk
import Derived.Shelf.Abstract
namespace Go.Proofs.YtpaleljnkejdgaaGreatDoor
open Go.RowKit Go.Lib Go.Shelf

/-- How a search ends: at the first place at which the closure says yes, or behind the last one. -/
def Wk.Idx (n : Nat) (P : Nat → Bool) (I : Nat → World → Prop) (e : Ending) (w' : World) : Prop :=
  (∃ k, k < n ∧ P k = true ∧ (∀ j, j < k → P j = false) ∧ e = .returned (.int .i64 k) ∧ I (k + 1) w') ∨ ((∀ j, j < n → P j = false) ∧ e = .returned (.int .i64 (-1)) ∧ I n w')
def Wk.Any (n : Nat) (P : Nat → Bool) (I : Nat → World → Prop) (e : Ending) (w' : World) : Prop :=
  (∃ k, k < n ∧ P k = true ∧ e = .returned (.bool true) ∧ I (k + 1) w') ∨ ((∀ j, j < n → P j = false) ∧ e = .returned (.bool false) ∧ I n w')
set_option maxHeartbeats 2000000 in
set_option maxRecDepth 100000 in
theorem wk_index (l : List (Int × Int)) (p : Option Addr) (c : Nat) (g : Nat) (lb : Array Value) (eg : ∀ args w, (callFunc g args).run Tryz.prog w = .ok (.enter g args) w) (w : World) (P : Nat → Bool) (I : Nat → World → Prop) (hn : l.length ≤ 140737488351232)
    (hA : ∀ k W, I k W → Wk.At W p l)
    (hc : ∀ k (h : k < l.length) W, I k W → Calls Tryz.prog g (#[.agg #[.int .i64 l[k].1, .int .i64 l[k].2]] ++ lb) W fun e w' => e = .returned (.bool (P k)) ∧ I (k + 1) w')
    (h0 : I 0 w) : Calls Tryz.prog 65 #[.slice p l.length c, .func (.func g) #[] lb] w (Wk.Idx l.length P I) := by
  have HA := Lib.hid hA
  have HC := Lib.hid hc
  have H0 := Lib.hid h0
  clear hA hc h0
  obtain ⟨n, hnl⟩ : ∃ n, n = l.length := ⟨_, rfl⟩
  have Hn := Lib.hid hnl
  rw [← hnl] at hn
  rw [← hnl]
  clear hnl
  go_enter Tryz.func65, Tryz.ntmps65
  go_wp2
  go_loopg [5, 8] n (fun gg _ s8 wr => ∃ kk : Nat, kk ≤ n ∧ n - kk ≤ gg ∧ s8 = .int .i64 kk ∧ Aside (I kk wr) ∧ Aside (∀ j, j < kk → P j = false))
  case atStart => exact ⟨0, Nat.zero_le _, by omega, rfl, H0.out, fun j hj => absurd hj (Nat.not_lt_zero _)⟩
  case round =>
    obtain ⟨kk, hkk, hg, rfl, BI, A⟩ := hrel
    by_cases hlt : kk < n
    · have hltz : (kk : Int) < (n : Int) := by omega
      have hkl : kk < l.length := by rw [← Hn.out]; exact hlt
      have hcall := HC.out kk hkl wr BI.out
      obtain ⟨b, off, rfl, e1, e2⟩ := (HA.out kk wr BI.out).get kk hkl
      generalize l[kk] = y at hcall e1 e2
      obtain ⟨y1, y2⟩ := y
      simp only [] at hcall e1 e2
      clear hkl
      cases hq : P kk with
      | true =>
        rw [hq] at hcall
        have HK := Lib.hid hcall
        have HQ := Lib.hid hq
        clear hcall hq
        go_wp2_with fail
        refine HK.out.mono ?_
        rintro e w' ⟨rfl, hb'⟩
        clear e1 e2
        go_wp2_with fail
        go_ret
        exact Or.inl ⟨kk, hlt, HQ.out, A.out, rfl, hb'⟩
      | false =>
        rw [hq] at hcall
        have HK := Lib.hid hcall
        have HQ := Lib.hid hq
        clear hcall hq
        go_wp2_with fail
        refine HK.out.mono ?_
        rintro e w' ⟨rfl, hb'⟩
        clear e1 e2
        go_wp2_with fail
        go_roundg (n - (kk + 1))
        case measure => omega
        case rel =>
          refine ⟨kk + 1, by omega, by omega, by go_num, hb', (show Aside _ from fun j hj => ?_)⟩
          by_cases e : j = kk
          · subst e; exact HQ.out
          · exact A.out j (by omega)
    · have hltz : ¬ (kk : Int) < (n : Int) := by omega
      have : kk = n := by omega
      subst this
      go_wp2
      go_ret
      exact Or.inr ⟨A.out, rfl, BI.out⟩
theorem wk_contains (l : List (Int × Int)) (p : Option Addr) (c : Nat) (g : Nat) (lb : Array Value) (eg : ∀ args w, (callFunc g args).run Tryz.prog w = .ok (.enter g args) w) (w : World) (P : Nat → Bool) (I : Nat → World → Prop) (hn : l.length ≤ 140737488351232)
    (hA : ∀ k W, I k W → Wk.At W p l)
    (hc : ∀ k (h : k < l.length) W, I k W → Calls Tryz.prog g (#[.agg #[.int .i64 l[k].1, .int .i64 l[k].2]] ++ lb) W fun e w' => e = .returned (.bool (P k)) ∧ I (k + 1) w')
    (h0 : I 0 w) : Calls Tryz.prog 45 #[.slice p l.length c, .func (.func g) #[] lb] w (Wk.Any l.length P I) := by
  have H1 := Lib.hid (wk_index l p c g lb eg w P I hn hA hc h0)
  clear hA hc h0 eg
  generalize l.length = n at *
  go_enter Tryz.func45, Tryz.ntmps45
  go_wp2_with fail
  refine H1.out.mono ?_
  rintro e w' (⟨k, h1, h2, h3, rfl, h4⟩ | ⟨h1, rfl, h2⟩)
  · have hk : (0 : Int) ≤ (k : Int) := by omega
    clear h3
    have h2' := Lib.hid h2
    clear h2
    go_wp2_with fail
    go_ret
    exact Or.inl ⟨k, h1, h2'.out, rfl, h4⟩
  · have h1' := Lib.hid h1
    clear h1
    go_wp2_with fail
    go_ret
    exact Or.inr ⟨h1'.out, rfl, h2⟩
end Go.Proofs.YtpaleljnkejdgaaGreatDoor
