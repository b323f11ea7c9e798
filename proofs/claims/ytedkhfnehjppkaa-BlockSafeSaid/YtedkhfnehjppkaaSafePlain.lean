/-
  Plain mathematics of the law BlockSafe: blocks that nothing waits for stand behind a crash as they were. No condition but those that the theorems state.
-/
import Derived.Test.YtedkhfnehjppkaaReadPlain
namespace Go.Proofs.Ytedkhfnehjppkaa
open Go.RowKit

theorem Wp.tearAll_other (a : Nat) (ws : List (Int × ByteArray)) : ∀ (bl : List ByteArray) (ks : List Int), a < bl.length → (∀ x ∈ ws, x.1.toNat ≠ a) → Wp.nth (Wp.tearAll bl ws ks) a = Wp.nth bl a ∧ (Wp.tearAll bl ws ks).length = bl.length := by
  induction ws with
  | nil => exact fun bl ks _ _ => ⟨rfl, rfl⟩
  | cons w ws ih =>
    intro bl ks ha hx
    rw [Wp.tearAll_cons]
    obtain ⟨h1, h2⟩ := ih (bl.set w.1.toNat (Wp.laid (Wp.nth bl w.1.toNat) w.2 (Wp.clamp (ks.headD 0)))) ks.tail (by rw [List.length_set]; exact ha) (fun x h => hx x (List.mem_cons_of_mem _ h))
    rw [h1, h2, List.length_set]
    exact ⟨by rw [Wp.nth_set _ _ _ _ ha, if_neg (hx w List.mem_cons_self)], rfl⟩

/-- The device while the law writes to other blocks: right, its blocks as they were, nothing waits for the block. -/
structure Wp.Apart (g e : Wp.Dev) (a : Int) : Prop where
  good : Wp.Good e
  bl : e.bl = g.bl
  ws : ∀ x ∈ e.ws, x.1 ≠ a
theorem Wp.Apart.write {g e : Wp.Dev} {a : Int} (h : Wp.Apart g e a) (b : Int) (data : ByteArray) (hb : b ≠ a) : Wp.Apart g (e.write1 b data).1 a := by
  refine ⟨h.good.write1 b data, ?_, ?_⟩
  · by_cases hno : e.writeNo b data.size = 0
    · obtain ⟨_, _, _, _, _, y6⟩ := Wp.write1_yes e b data hno
      rw [y6, (spend_lists _).1]
      exact h.bl
    · rw [Wp.write1_no e b data hno]; exact h.bl
  · by_cases hno : e.writeNo b data.size = 0
    · obtain ⟨_, _, _, _, _, y6⟩ := Wp.write1_yes e b data hno
      rw [y6, (spend_lists _).2]
      intro x hx
      rcases List.mem_append.1 hx with hx | hx
      · exact h.ws x hx
      · simp at hx
        subst hx
        exact hb
    · rw [Wp.write1_no e b data hno]; exact h.ws
/-- Behind the crash the block reads as ahead of the writes. -/
theorem Wp.Apart.crashed {g e : Wp.Dev} {a : Int} (h : Wp.Apart g e a) (hg : g.ok = true) (hd : g.dn = false) (hw : g.ws = []) (hr : (g.read a).2 = 0) (keep : List Int) :
    (⟨Wp.tearAll e.bl e.ws keep, [], -1, false⟩ : Wp.Dev).read a = ((g.read a).1, 0) := by
  rw [Wp.read_good hg hd] at hr ⊢
  cases hin : Wp.inside g a with
  | false => rw [if_neg (by rw [hin]; simp)] at hr; cases hr
  | true =>
    have hin2 := hin
    unfold Wp.inside at hin2
    simp only [Bool.and_eq_true, decide_eq_true_eq] at hin2
    have hlt : a.toNat < e.bl.length := by rw [h.bl]; omega
    obtain ⟨h1, h2⟩ := Wp.tearAll_other a.toNat e.ws e.bl keep hlt (fun x hx => by
      have h3 := ((Wp.Dev.ok_iff e).1 h.good.ok).2.2 x hx
      have h4 := h.ws x hx
      omega)
    rw [Wp.read_good (h.good.crash keep).ok rfl, if_pos (by unfold Wp.inside; rw [h2, h.bl]; simp [hin2]), if_pos rfl]
    unfold Wp.Dev.has
    rw [hw]
    show (Wp.nth (Wp.tearAll e.bl e.ws keep) a.toNat, (0 : Int)) = (Wp.nth g.bl a.toNat, 0)
    rw [h1, h.bl]
end Go.Proofs.Ytedkhfnehjppkaa
