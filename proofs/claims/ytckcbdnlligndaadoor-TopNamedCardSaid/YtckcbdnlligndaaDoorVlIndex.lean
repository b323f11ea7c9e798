
/-
  The walks of slices.IndexFunc and slices.ContainsFunc at values, with whatever closure: one that writes a variable of its own too. Condition: what each call of the closure hands back, and keeps.
-/
import Derived.Test.YtckcbdnlligndaaDoorVlAt
import Derived.Deep.LoopGhost
import Derived.Lib.Walk
import Derived.Shelf.Abstract
namespace Go.Proofs.YtckcbdnlligndaaDoor
open Go.RowKit Go.Lib Go.Shelf

/-- The five cells of each value of a row, and what is known of it. -/
def Vl.RowIs (W : World) (p : Option Addr) (n : Nat) (G : Nat → Value → Prop) : Prop :=
  ∀ i, i < n → ∃ b off c0 c1 c2 c3 c4, p = some ⟨b, off, none⟩ ∧ Vl.Five W b (off + i * 5) c0 c1 c2 c3 c4 ∧ G i (.agg #[c0, c1, c2, c3, c4])
/-- How a search ends: at the first place at which the closure says yes, or behind the last one. -/
def Vl.Idx (n : Nat) (P : Nat → Bool) (I : Nat → World → Prop) (e : Ending) (w' : World) : Prop :=
  (∃ k, k < n ∧ P k = true ∧ (∀ j, j < k → P j = false) ∧ e = .returned (.int .i64 k) ∧ I (k + 1) w') ∨ ((∀ j, j < n → P j = false) ∧ e = .returned (.int .i64 (-1)) ∧ I n w')
def Vl.Any (n : Nat) (P : Nat → Bool) (I : Nat → World → Prop) (e : Ending) (w' : World) : Prop :=
  (∃ k, k < n ∧ P k = true ∧ (∀ j, j < k → P j = false) ∧ e = .returned (.bool true) ∧ I (k + 1) w') ∨ ((∀ j, j < n → P j = false) ∧ e = .returned (.bool false) ∧ I n w')
set_option maxHeartbeats 2000000 in
set_option maxRecDepth 100000 in
theorem vl_index (n : Nat) (p : Option Addr) (c : Nat) (g : Nat) (lb : Array Value) (eg : ∀ args w, (callFunc g args).run Tryd.prog w = .ok (.enter g args) w) (w : World) (P : Nat → Bool) (I : Nat → World → Prop) (G : Nat → Value → Prop) (hn : n ≤ 140737488351232)
    (hA : ∀ k W, I k W → Vl.RowIs W p n G)
    (hc : ∀ k, k < n → (∀ j, j < k → P j = false) → ∀ v W, G k v → I k W → Calls Tryd.prog g (#[v] ++ lb) W fun e w' => e = .returned (.bool (P k)) ∧ I (k + 1) w')
    (h0 : I 0 w) : Calls Tryd.prog 134 #[.slice p n c, .func (.func g) #[] lb] w (Vl.Idx n P I) := by
  have HA := Lib.hid hA
  have HC := Lib.hid hc
  have H0 := Lib.hid h0
  clear hA hc h0
  go_enter Tryd.func134, Tryd.ntmps134
  go_wp2
  go_loopg [5, 8] n (fun gg _ s8 wr => ∃ kk : Nat, kk ≤ n ∧ n - kk ≤ gg ∧ s8 = .int .i64 kk ∧ Aside (I kk wr) ∧ Aside (∀ j, j < kk → P j = false))
  case atStart => exact ⟨0, Nat.zero_le _, by omega, rfl, H0.out, fun j hj => absurd hj (Nat.not_lt_zero _)⟩
  case round =>
    obtain ⟨kk, hkk, hg, rfl, BI, A⟩ := hrel
    by_cases hlt : kk < n
    · have hltz : (kk : Int) < (n : Int) := by omega
      obtain ⟨b, off, c0, c1, c2, c3, c4, rfl, ⟨e0, e1, e2, e3, e4⟩, hG⟩ := HA.out kk wr BI.out kk hlt
      have hcall := HC.out kk hlt A.out _ wr hG BI.out
      clear hG
      cases hq : P kk with
      | true =>
        rw [hq] at hcall
        have HK := Lib.hid hcall
        have HQ := Lib.hid hq
        clear hcall hq
        go_wp2_with fail
        refine HK.out.mono ?_
        rintro e w' ⟨rfl, hb'⟩
        clear e0 e1 e2 e3 e4
        go_wp2_with fail
        go_ret
        exact Or.inl ⟨kk, hlt, HQ.out, A.out, rfl, hb'⟩
      | false =>
        rw [hq] at hcall
        have HK := Lib.hid hcall
        have HQ := Lib.hid hq
        clear hcall hq
        go_wp2_with fail
        refine HK.out.mono ?_
        rintro e w' ⟨rfl, hb'⟩
        clear e0 e1 e2 e3 e4
        go_wp2_with fail
        go_roundg (n - (kk + 1))
        case measure => omega
        case rel =>
          refine ⟨kk + 1, by omega, by omega, by go_num, hb', (show Aside _ from fun j hj => ?_)⟩
          by_cases e : j = kk
          · subst e; exact HQ.out
          · exact A.out j (by omega)
    · have hltz : ¬ (kk : Int) < (n : Int) := by omega
      have : kk = n := by omega
      subst this
      go_wp2
      go_ret
      exact Or.inr ⟨A.out, rfl, BI.out⟩
set_option maxRecDepth 100000 in
theorem vl_contains (n : Nat) (p : Option Addr) (c : Nat) (g : Nat) (lb : Array Value) (eg : ∀ args w, (callFunc g args).run Tryd.prog w = .ok (.enter g args) w) (w : World) (P : Nat → Bool) (I : Nat → World → Prop) (G : Nat → Value → Prop) (hn : n ≤ 140737488351232)
    (hA : ∀ k W, I k W → Vl.RowIs W p n G)
    (hc : ∀ k, k < n → (∀ j, j < k → P j = false) → ∀ v W, G k v → I k W → Calls Tryd.prog g (#[v] ++ lb) W fun e w' => e = .returned (.bool (P k)) ∧ I (k + 1) w')
    (h0 : I 0 w) : Calls Tryd.prog 102 #[.slice p n c, .func (.func g) #[] lb] w (Vl.Any n P I) := by
  have H1 := Lib.hid (vl_index n p c g lb eg w P I G hn hA hc h0)
  clear hA hc h0 eg
  go_enter Tryd.func102, Tryd.ntmps102
  go_wp2_with fail
  refine H1.out.mono ?_
  rintro e w' (⟨k, h1, h2, h3, rfl, h4⟩ | ⟨h1, rfl, h2⟩)
  · have hk : (0 : Int) ≤ (k : Int) := by omega
    have H3 := Lib.hid h3
    have h2' := Lib.hid h2
    clear h2 h3
    go_wp2_with fail
    go_ret
    exact Or.inl ⟨k, h1, h2'.out, H3.out, rfl, h4⟩
  · have h1' := Lib.hid h1
    clear h1
    go_wp2_with fail
    go_ret
    exact Or.inr ⟨h1'.out, rfl, h2⟩
end Go.Proofs.YtckcbdnlligndaaDoor
