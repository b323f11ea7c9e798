
/-
  Plain mathematics: what a write, and a sync, that is done has done to a device that is right, and what is read behind it. No condition but those that the theorems state.
-/
import Derived.Test.YtpmhgfjnabgilabDoorGood
namespace Go.Proofs.YtpmhgfjnabgilabDoor
open Go.RowKit

theorem Wp.spend_two (d : Wp.Dev) : (d.spend.2 = 0 ∧ d.spend.1.dn = d.dn) ∨ d.spend.2 = 9 := by
  unfold Wp.Dev.spend
  split
  · exact Or.inr rfl
  · split
    · exact Or.inl ⟨rfl, rfl⟩
    · exact Or.inl ⟨rfl, rfl⟩
theorem Wp.hasF_snoc (a : Int) (ws : List (Int × ByteArray)) (s : ByteArray) (x : Int × ByteArray) : Wp.hasF a (ws ++ [x]) s = if x.1 = a then x.2 else Wp.hasF a ws s := by
  unfold Wp.hasF
  rw [List.foldl_append]
  rfl
theorem Wp.read_good {d : Wp.Dev} (h : d.ok = true) (hd : d.dn = false) (a : Int) : d.read a = if Wp.inside d a then (d.has a, 0) else (Wp.B [], 1) := by
  unfold Wp.Dev.read
  rw [if_neg (by rw [h]; simp), if_neg (by rw [hd]; simp)]
/-- What a write that is done has done. -/
theorem Wp.written {d : Wp.Dev} (_h : Wp.Good d) (a : Int) (data : ByteArray) (hr : (d.write1 a data).2 = 0) :
    d.dn = false ∧ Wp.inside d a = true ∧ data.size ≤ 64 ∧ (d.write1 a data).1.dn = false ∧ (d.write1 a data).1.bl = d.bl ∧ (d.write1 a data).1.ws = d.ws ++ [(a, Wp.laid (Wp.B []) data data.size)] := by
  by_cases hno : d.writeNo a data.size = 0
  · obtain ⟨y1, y2, y3, y4, y5, y6⟩ := Wp.write1_yes d a data hno
    rw [y6] at hr ⊢
    have hl := spend_lists { d with ws := d.ws ++ [(a, Wp.laid (Wp.B []) data data.size)] }
    rcases Wp.spend_two { d with ws := d.ws ++ [(a, Wp.laid (Wp.B []) data data.size)] } with ⟨_, h2⟩ | h2
    · exact ⟨y1, by unfold Wp.inside; rw [decide_eq_true y2, decide_eq_true y3]; rfl, y4, by rw [h2]; exact y1, hl.1, hl.2⟩
    · rw [h2] at hr; cases hr
  · rw [Wp.write1_no d a data hno] at hr
    exact absurd hr hno
theorem Wp.written_read {d : Wp.Dev} (h : Wp.Good d) (a : Int) (data : ByteArray) (hr : (d.write1 a data).2 = 0) : (d.write1 a data).1.read a = (Wp.laid (Wp.B []) data data.size, 0) := by
  obtain ⟨h1, h2, h3, h4, h5, h6⟩ := Wp.written h a data hr
  rw [Wp.read_good (h.write1 a data).ok h4, if_pos (by unfold Wp.inside at h2 ⊢; rw [h5]; exact h2)]
  unfold Wp.Dev.has
  rw [h6, Wp.hasF_snoc, if_pos rfl]
theorem Wp.written_other {d : Wp.Dev} (h : Wp.Good d) (a o : Int) (data : ByteArray) (hr : (d.write1 a data).2 = 0) (hne : o ≠ a) : (d.write1 a data).1.read o = d.read o := by
  obtain ⟨h1, h2, h3, h4, h5, h6⟩ := Wp.written h a data hr
  rw [Wp.read_good (h.write1 a data).ok h4, Wp.read_good h.ok h1]
  have e := Wp.hasF_snoc o d.ws (Wp.nth d.bl o.toNat) (a, Wp.laid (Wp.B []) data data.size)
  rw [if_neg (fun q => hne q.symm)] at e
  unfold Wp.Dev.has Wp.inside
  rw [h5, h6, e]
/-- What a sync that is done has done. -/
theorem Wp.synced {e : Wp.Dev} (hdn : e.dn = false) : (e.sync1.2 = 0 ∧ e.sync1.1.bl = e.hasAll ∧ e.sync1.1.ws = [] ∧ e.sync1.1.dn = false) ∨ e.sync1.2 = 9 := by
  unfold Wp.Dev.sync1
  rw [if_neg (by rw [hdn]; simp)]
  rcases Wp.spend_two e with ⟨h1, h2⟩ | h2
  · rw [if_pos h1]
    exact Or.inl ⟨rfl, rfl, rfl, by rw [← hdn, ← h2]⟩
  · rw [if_neg (by rw [h2]; decide)]
    exact Or.inr h2
theorem Wp.synced_read {e : Wp.Dev} (h : Wp.Good e) (hdn : e.dn = false) (h0 : e.sync1.2 = 0) (a : Int) : e.sync1.1.read a = e.read a := by
  rcases Wp.synced hdn with ⟨_, h1, h2, h3⟩ | h9
  · rw [Wp.read_good h.sync1.ok h3, Wp.read_good h.ok hdn]
    have hin : Wp.inside e.sync1.1 a = Wp.inside e a := by unfold Wp.inside; rw [h1]; unfold Wp.Dev.hasAll; rw [Wp.setAll_length]
    rw [hin]
    cases hi : Wp.inside e a with
    | false => rfl
    | true =>
      simp only [if_true, Prod.mk.injEq, and_true]
      unfold Wp.inside at hi
      rw [Bool.and_eq_true, decide_eq_true_eq, decide_eq_true_eq] at hi
      unfold Wp.Dev.has
      rw [h1, h2]
      show Wp.nth (Wp.setAll e.bl e.ws) a.toNat = _
      exact Wp.setAll_nth e.bl e.ws a hi.1 hi.2 (fun x hx => (((Wp.Dev.ok_iff e).1 h.ok).2.2 x hx).1)
  · rw [h9] at h0; cases h0
theorem Wp.laid_head (data : ByteArray) : (Wp.laid (Wp.B []) data data.size).extract 0 data.size = data := by
  unfold Wp.laid Wp.laidL
  rw [Wp.size_len, List.take_length, ← Wp.size_len]
  exact Wp.ext_head data _
end Go.Proofs.YtpmhgfjnabgilabDoor
