
/-
  Plain mathematics of the law TrailBack: what is appended behind what is used is read behind all that was read, and other blocks have what they had. No condition but those that the theorems state.
-/
import Derived.Test.YtpmhgfjnabgilabDoorTrSmall
namespace Go.Proofs.YtpmhgfjnabgilabDoor.Tr
open Wp

theorem fit_ok {d : Dev} {f k u : Int} {r : ByteArray} (h0 : fitC d f k u r = 0) : rchk d f k = 0 ∧ 0 ≤ u ∧ u ≤ k ∧ r.size ≤ 32768 ∧ ((cutB r.data.toList).length : Int) ≤ k - u := by
  unfold fitC at h0
  by_cases q1 : rchk d f k ≠ 0
  · rw [if_pos q1] at h0; exact absurd h0 q1
  · rw [if_neg q1] at h0
    by_cases q2 : u < 0 ∨ k < u
    · rw [if_pos q2] at h0; cases h0
    · rw [if_neg q2] at h0
      by_cases q3 : 32768 < r.size
      · rw [if_pos q3] at h0; cases h0
      · rw [if_neg q3] at h0
        by_cases q4 : k - u < ((cutB r.data.toList).length : Int)
        · rw [if_pos q4] at h0; cases h0
        · exact ⟨by simpa using q1, by omega, by omega, by omega, by omega⟩
theorem app_no {d : Dev} {f k u : Int} {r : ByteArray} (h : (app d f k u r).2.2 ≠ 0) : (app d f k u r).2.1 = 0 := by
  unfold app at h ⊢
  split
  · rfl
  · rename_i h1
    rw [if_neg h1] at h
    split
    · rename_i h2
      rw [if_pos h2] at h
      exact absurd rfl h
    · rfl
theorem has_nth {d : Dev} (hg : Wp.Good d) (a : Int) (h0 : 0 ≤ a) (h1 : a < (d.bl.length : Int)) : d.has a = nth d.hasAll a.toNat := by
  unfold Dev.has Dev.hasAll
  exact (setAll_nth d.bl d.ws a h0 h1 (fun x hx => (((Dev.ok_iff d).1 hg.ok).2.2 x hx).1)).symm
/-- What appending that is done has done. -/
structure Done (d e : Dev) (F K u : Nat) (r : ByteArray) (n : Int) : Prop where
  good : Wp.Good e
  chk : rchk e F K = 0
  small : r.size ≤ 32768
  nu : n = ((u + (cutB r.data.toList).length : Nat) : Int)
  le : u + (cutB r.data.toList).length ≤ K
  rgn : Tr.rgn e F K = (Tr.rgn d F K).take u ++ (cutB r.data.toList ++ (Tr.rgn d F K).drop (u + (cutB r.data.toList).length))
  other : ∀ a : Int, ¬ (((F + u : Nat) : Int) ≤ a ∧ a < (F : Int) + n) → e.read a = d.read a
theorem app_done {d : Dev} {F K u : Nat} {r : ByteArray} (hg : Wp.Good d) (h : (app d F K u r).2.2 = 0) : Done d (app d F K u r).1 F K u r (app d F K u r).2.1 := by
  by_cases h0 : fitC d F K u r = 0
  · obtain ⟨x1, x2, x3, x4, x5⟩ := fit_ok h0
    obtain ⟨r1, r2, r3, r4, r5⟩ := rchk_ok x1
    by_cases hw : (writes d ((F : Int) + u) (cutB r.data.toList)).2 = 0
    · have e : app d F K u r = ((writes d ((F : Int) + u) (cutB r.data.toList)).1, (u : Int) + (cutB r.data.toList).length, 0) := by
        unfold app
        rw [h0, if_neg (by simp), if_pos hw]
      rw [e]
      have hc : ((F : Int) + u) = ((F + u : Nat) : Int) := by omega
      rw [hc] at hw ⊢
      obtain ⟨j, j1, j2, j3, j4, j5⟩ := writes_spec (cutB r.data.toList) d ((F + u : Nat) : Int) hg r2 (cutB_size _)
      obtain ⟨rfl, j6⟩ := j5 hw
      have hall := writes_has j3 j4 j1 (by omega)
      rw [List.take_length] at hall
      have hlen := hasAll_length d
      refine ⟨j2, rchk_yes j2.ok j6 r3 (by rw [j3]; exact r4) r5, x4, by show (u : Int) + _ = _; omega, by omega, ?_, ?_⟩
      · show (List.drop (F : Int).toNat _).take (K : Int).toNat = ((d.hasAll.drop (F : Int).toNat).take (K : Int).toNat).take u ++ (_ ++ ((d.hasAll.drop (F : Int).toNat).take (K : Int).toNat).drop _)
        rw [Int.toNat_natCast, Int.toNat_natCast, hall]
        have e1 : (d.hasAll.take (F + u) ++ cutB r.data.toList ++ d.hasAll.drop (F + u + (cutB r.data.toList).length)).drop F = (d.hasAll.drop F).take u ++ (cutB r.data.toList ++ d.hasAll.drop (F + u + (cutB r.data.toList).length)) := by
          rw [List.append_assoc, List.drop_append, List.length_take, show F - min (F + u) d.hasAll.length = 0 by omega, List.drop_zero, List.drop_take, show F + u - F = u by omega]
        rw [e1, List.take_append, List.take_take, List.length_take, List.length_drop, show min K u = u by omega, List.take_append, List.take_take, show min u K = u by omega, List.drop_take]
        congr 1
        rw [List.take_of_length_le (by omega), List.drop_drop]
        congr 1
        rw [show F + u + (cutB r.data.toList).length = F + (u + (cutB r.data.toList).length) by omega]
        congr 1
        omega
      · intro a ha
        simp only [] at ha
        rw [read_good j2.ok j6, read_good r1 r2]
        have hin : inside (writes d ((F + u : Nat) : Int) (cutB r.data.toList)).1 a = inside d a := by unfold inside; rw [j3]
        rw [hin]
        cases hi : inside d a with
        | false => rfl
        | true =>
          simp only [if_true, Prod.mk.injEq, and_true]
          unfold inside at hi
          rw [Bool.and_eq_true, decide_eq_true_eq, decide_eq_true_eq] at hi
          rw [has_nth j2 a hi.1 (by rw [j3]; exact hi.2), has_nth hg a hi.1 hi.2, hall]
          obtain ⟨A, rfl⟩ := Int.eq_ofNat_of_zero_le hi.1
          rw [Int.toNat_natCast]
          unfold nth
          congr 1
          by_cases hA : A < F + u
          · rw [List.append_assoc, List.getElem?_append_left (by rw [List.length_take]; omega), List.getElem?_take, if_pos hA]
          · rw [List.getElem?_append_right (by rw [List.length_append, List.length_take]; omega), List.length_append, List.length_take, List.getElem?_drop]
            congr 1
            omega
    · exfalso
      unfold app at h
      rw [h0, if_neg (by simp), if_neg hw] at h
      exact hw h
  · exfalso
    unfold app at h
    rw [if_pos h0] at h
    exact h0 h
/-- What is read behind appending. -/
theorem Done.recs {d e : Dev} {F K u : Nat} {r : ByteArray} {n : Int} (h : Done d e F K u r n) {l m : List ByteArray} {k : Nat} (hl : Recs (Tr.rgn d F K) l u) (hm : Recs (Tr.rgn e F K) m k) :
    ∃ m', m = l ++ r :: m' ∧ n ≤ (k : Int) := by
  have e1 : Tr.rgn e F K = allB (l ++ [r]) ++ (Tr.rgn d F K).drop (u + (cutB r.data.toList).length) := by
    rw [h.rgn, hl.blocks, allB_append, show allB [r] = cutB r.data.toList by simp [allB], List.append_assoc]
  rw [e1] at hm
  obtain ⟨m', k', rfl, rfl, _⟩ := Recs.pre (fun t ht => by
    rcases List.mem_append.1 ht with ht | ht
    · exact hl.small t ht
    · rw [List.mem_singleton] at ht; rw [ht]; exact h.small) hm
  refine ⟨m', by simp, ?_⟩
  rw [h.nu, allB_append, List.length_append, hl.len, show allB [r] = cutB r.data.toList by simp [allB]]
  omega
end Go.Proofs.YtpmhgfjnabgilabDoor.Tr
