
/-
  Plain mathematics: what each call makes of a device that is right is right, and of a size that a machine holds. No condition but those that the theorems state.
-/
import Derived.Test.YtpmhgfjnabgilabDoorCrash
import Derived.Test.YtpmhgfjnabgilabDoorRead
import Derived.Test.YtpmhgfjnabgilabDoorMake
namespace Go.Proofs.YtpmhgfjnabgilabDoor
open Go.RowKit

structure Wp.Good (d : Wp.Dev) : Prop where
  ok : d.ok = true
  fu : d.fu ≤ 9223372036854775807
theorem Wp.Good.fits {d : Wp.Dev} (h : Wp.Good d) : d.Fits := by
  obtain ⟨⟨h1, h2, h3⟩, h4, h5⟩ := (Wp.Dev.ok_iff d).1 h.ok
  exact ⟨by omega, by omega, ⟨by omega, h.fu⟩, fun x hx => by rw [h4 x hx]; omega, fun x hx => by have := h5 x hx; unfold Wp.I64; omega, fun x hx => by rw [(h5 x hx).2.2]; omega⟩
theorem Wp.Good.zero : Wp.Good Wp.Dev.zero := ⟨rfl, by decide⟩
theorem Wp.spend_fu (d : Wp.Dev) (h : -1 ≤ d.fu) : -1 ≤ d.spend.1.fu ∧ d.spend.1.fu ≤ d.fu := by
  unfold Wp.Dev.spend
  split
  · exact ⟨h, Int.le_refl _⟩
  · split
    · exact ⟨h, Int.le_refl _⟩
    · simp only []; omega
theorem Wp.Good.spend {d : Wp.Dev} (h : Wp.Good d) : Wp.Good d.spend.1 := by
  obtain ⟨⟨h1, h2, h3⟩, h4, h5⟩ := (Wp.Dev.ok_iff d).1 h.ok
  have hl := spend_lists d
  have hf := Wp.spend_fu d h3
  have hu := h.fu
  refine ⟨(Wp.Dev.ok_iff _).2 ⟨⟨by rw [hl.1]; exact h1, by rw [hl.2]; exact h2, hf.1⟩, by rw [hl.1]; exact h4, by rw [hl.1, hl.2]; exact h5⟩, by omega⟩
theorem Wp.Good.write1 {d : Wp.Dev} (h : Wp.Good d) (at_ : Int) (data : ByteArray) : Wp.Good (d.write1 at_ data).1 := by
  by_cases hno : d.writeNo at_ data.size = 0
  · obtain ⟨y1, y2, y3, y4, y5, y6⟩ := Wp.write1_yes d at_ data hno
    rw [y6]
    apply Wp.Good.spend
    obtain ⟨⟨h1, h2, h3⟩, h4, h5⟩ := (Wp.Dev.ok_iff d).1 h.ok
    refine ⟨(Wp.Dev.ok_iff _).2 ⟨⟨h1, by simp; omega, h3⟩, h4, fun x hx => ?_⟩, h.fu⟩
    rcases List.mem_append.1 hx with hx | hx
    · exact h5 x hx
    · simp at hx
      subst hx
      exact ⟨y2, y3, Wp.laid_size _ _ _ (Nat.le_refl _) y4 (by simp [Wp.B_size])⟩
  · rw [Wp.write1_no d at_ data hno]; exact h
theorem Wp.mem_setAll {bl : List ByteArray} {ws : List (Int × ByteArray)} (h1 : ∀ x ∈ bl, x.size = 64) (h2 : ∀ x ∈ ws, x.2.size = 64) : ∀ x ∈ Wp.setAll bl ws, x.size = 64 := by
  induction ws generalizing bl with
  | nil => exact h1
  | cons w ws ih =>
    simp only [Wp.setAll, List.foldl_cons] at ih ⊢
    refine ih (fun x hx => ?_) (fun x hx => h2 x (by simp [hx]))
    rcases List.mem_or_eq_of_mem_set hx with h | h
    · exact h1 x h
    · rw [h]; exact h2 w (by simp)
theorem Wp.Good.sync1 {d : Wp.Dev} (h : Wp.Good d) : Wp.Good d.sync1.1 := by
  unfold Wp.Dev.sync1
  split
  · exact h
  · split
    · obtain ⟨⟨h1, h2, h3⟩, h4, h5⟩ := (Wp.Dev.ok_iff d).1 h.ok
      have hs := h.spend
      obtain ⟨⟨s1, s2, s3⟩, s4, s5⟩ := (Wp.Dev.ok_iff _).1 hs.ok
      refine ⟨(Wp.Dev.ok_iff _).2 ⟨⟨?_, by simp, s3⟩, ?_, by simp⟩, hs.fu⟩
      · show (Wp.setAll d.bl d.ws).length ≤ 4096
        rw [Wp.setAll_length]; exact h1
      · exact Wp.mem_setAll h4 (fun x hx => (h5 x hx).2.2)
    · exact h.spend
theorem Wp.tearAll_good {bl : List ByteArray} {ws : List (Int × ByteArray)} (keep : List Int) (h1 : ∀ x ∈ bl, x.size = 64) (h2 : ∀ x ∈ ws, 0 ≤ x.1 ∧ x.1 < (bl.length : Int) ∧ x.2.size = 64) : (Wp.tearAll bl ws keep).length = bl.length ∧ ∀ x ∈ Wp.tearAll bl ws keep, x.size = 64 := by
  induction ws generalizing bl keep with
  | nil => exact ⟨rfl, h1⟩
  | cons w ws ih =>
    rw [Wp.tearAll_cons]
    have hw := h2 w (by simp)
    have hn : w.1.toNat < bl.length := by omega
    have hm : ∀ x ∈ bl.set w.1.toNat (Wp.laid (Wp.nth bl w.1.toNat) w.2 (Wp.clamp (keep.headD 0))), x.size = 64 := by
      intro x hx
      rcases List.mem_or_eq_of_mem_set hx with h | h
      · exact h1 x h
      · rw [h]
        refine Wp.laid_size _ _ _ (by rw [hw.2.2]; exact Wp.clamp_le _) (Wp.clamp_le _) ?_
        rw [Wp.nth_get _ _ hn, h1 _ (List.getElem_mem hn)]
        omega
    have := ih keep.tail hm (fun x hx => by rw [List.length_set]; exact h2 x (by simp [hx]))
    rw [List.length_set] at this
    exact this
theorem Wp.Good.crash {d : Wp.Dev} (h : Wp.Good d) (keep : List Int) : Wp.Good ⟨Wp.tearAll d.bl d.ws keep, [], -1, false⟩ := by
  obtain ⟨⟨h1, h2, h3⟩, h4, h5⟩ := (Wp.Dev.ok_iff d).1 h.ok
  have ht := Wp.tearAll_good keep h4 h5
  exact ⟨(Wp.Dev.ok_iff _).2 ⟨⟨by rw [ht.1]; exact h1, by simp, by simp⟩, ht.2, by simp⟩, by simp⟩
theorem Wp.Good.make (n : Nat) (h : n ≤ 4096) : Wp.Good (Wp.Dev.make n) := by
  refine ⟨(Wp.Dev.ok_iff _).2 ⟨⟨by simp [Wp.Dev.make, h], by simp [Wp.Dev.make], by simp [Wp.Dev.make]⟩, ?_, by simp [Wp.Dev.make]⟩, by simp [Wp.Dev.make]⟩
  intro x hx
  rw [(List.mem_replicate.1 hx).2]
  exact Wp.laid_size _ _ _ (by simp) (by omega) (by simp [Wp.B_size])

/-- The calls, at a device that is right. -/
theorem Write_good (v : Value) (d : Wp.Dev) (at_ : Int) (data : ByteArray) (w : World) (hv : Wp.DevAt w v d) (h : Wp.Good d) (hdata : data.size ≤ 9223372036854775807) :
    Calls Tryd.prog 66 #[v, .int .i64 at_, .string data] w fun e w' => ∃ v', e = .returned (.tuple #[v', .int .i64 (d.write1 at_ data).2]) ∧ Wp.DevAt w' v' (d.write1 at_ data).1 ∧ Below w.heap.size w w' := Write_ok v d at_ data w hv h.fits h.ok hdata
theorem Sync_good (v : Value) (d : Wp.Dev) (w : World) (hv : Wp.DevAt w v d) (h : Wp.Good d) :
    Calls Tryd.prog 13 #[v] w fun e w' => ∃ v', e = .returned (.tuple #[v', .int .i64 d.sync1.2]) ∧ Wp.DevAt w' v' d.sync1.1 ∧ Below w.heap.size w w' := Sync_ok v d w hv h.fits h.ok
end Go.Proofs.YtpmhgfjnabgilabDoor
