
/-
  Plain mathematics of a tag's text as scan's source makes it: the word, with a space and the path, trimmed. No condition but those that the theorems state.
-/
import Derived.Test.YteajjlilpikdeaaGreatDoorScA
import Derived.Test.YteajjlilpikdeaaGreatDoorScKP
import Derived.Lib.TrimByte
import Derived.Lib.Join
namespace Go.Proofs.YteajjlilpikdeaaGreatDoor.Sc
open Go.Lib

theorem join_eq : ∀ p : List ByteArray, Lib.join (p.map (·.data.toList)) [46] = joinP p
  | [] => rfl
  | [a] => by simp [Lib.join, List.intercalate, joinP]
  | a :: b :: r => by
    have ih := join_eq (b :: r)
    unfold Lib.join at ih ⊢
    rw [joinP, ← ih]
    simp [List.intercalate]
theorem trimR_end (p m : List UInt8) (h : m ≠ []) (hx : ∀ x ∈ m, x ≠ 32) : trimRightB (p ++ m) 32 = p ++ m := by
  unfold trimRightB
  rw [List.reverse_append]
  cases hm : m.reverse with
  | nil => exact absurd (List.reverse_eq_nil_iff.1 hm) h
  | cons z r =>
    have hz : z ≠ 32 := hx z (by rw [← List.mem_reverse, hm]; simp)
    rw [List.cons_append, List.dropWhile_cons_of_neg (by simp [hz]), ← List.cons_append, ← hm, ← List.reverse_append, List.reverse_reverse]
theorem trimL_head (z : UInt8) (r : List UInt8) (h : z ≠ 32) : trimLeftB (z :: r) 32 = z :: r := by
  unfold trimLeftB
  rw [List.dropWhile_cons_of_neg (by simp [h])]
/-- What source trims. -/
def midT (t : T) : List UInt8 := (kw t.kind).data.toList ++ ([32] ++ joinP t.path)
theorem trim_mid {t : T} (h : okT t = true) (h1 : t.kind ≠ 1) : trimB (midT t) 32 = wordT t := by
  obtain ⟨e, hc⟩ := okT_tag h h1
  obtain ⟨k, x, p⟩ := t
  simp only at e hc h1
  rcases hc with ⟨hk, hp⟩ | ⟨hk, rfl⟩
  · obtain ⟨g1, _, g3, _⟩ := pathOk_facts hp
    obtain ⟨hj0, hj⟩ := join_ne g1 g3
    have hx : ∀ y ∈ joinP p, y ≠ 32 := fun y hy => (hj y hy).1
    rcases hk with rfl | rfl | rfl
    · show trimLeftB (trimRightB ([] ++ ([32] ++ joinP p)) 32) 32 = joinP p
      rw [List.nil_append, trimR_end [32] _ hj0 hx]
      cases hJ : joinP p with
      | nil => exact absurd hJ hj0
      | cons z r =>
        have hz : z ≠ 32 := hx z (by rw [hJ]; simp)
        show trimLeftB (32 :: z :: r) 32 = _
        unfold trimLeftB
        rw [List.dropWhile_cons_of_pos (by simp), List.dropWhile_cons_of_neg (by simp [hz])]
    · show trimLeftB (trimRightB ([105, 102] ++ ([32] ++ joinP p)) 32) 32 = _
      rw [← List.append_assoc, trimR_end _ _ hj0 hx]
      rfl
    · show trimLeftB (trimRightB ([101, 97, 99, 104] ++ ([32] ++ joinP p)) 32) 32 = _
      rw [← List.append_assoc, trimR_end _ _ hj0 hx]
      rfl
  · rcases hk with rfl | rfl
    · rfl
    · rfl
theorem mid_len {t : T} (h : okT t = true) (h1 : t.kind ≠ 1) : t.path.length ≤ 4 ∧ (joinP t.path).length ≤ 131 ∧ t.kind ≤ 6 ∧ 2 ≤ t.kind := by
  obtain ⟨e, hc⟩ := okT_tag h h1
  obtain ⟨k, x, p⟩ := t
  simp only at e hc h1 ⊢
  have hlen : ∀ p : List ByteArray, (∀ n ∈ p, Vl.nameL n.data.toList = true) → (joinP p).length ≤ 33 * p.length := by
    intro p hp
    have hn : ∀ n ∈ p, n.data.toList.length ≤ 32 := fun n hn => by
      have := hp n hn
      unfold Vl.nameL at this
      simp only [Bool.and_eq_true, decide_eq_true_eq] at this
      first | exact this.1.1 | exact this.1.2 | exact this.1 | exact this.2
    clear hp
    induction p with
    | nil => simp [joinP]
    | cons a r ih =>
      have h1 := hn a (by simp)
      have h2 := ih (fun n h => hn n (by simp [h]))
      cases r with
      | nil => simp only [joinP, List.length_cons, List.length_nil]; omega
      | cons b r =>
        rw [joinP, List.length_append, List.length_cons]
        simp only [List.length_cons] at h2 ⊢
        omega
  rcases hc with ⟨hk, hp⟩ | ⟨hk, rfl⟩
  · obtain ⟨g1, g2, g3, _⟩ := pathOk_facts hp
    have hl := hlen p g3
    have hl2 : (joinP p).length ≤ 131 := by
      have h32 : ∀ p : List ByteArray, p ≠ [] → (∀ n ∈ p, Vl.nameL n.data.toList = true) → (joinP p).length + 1 ≤ 33 * p.length := by
        intro p
        induction p with
        | nil => intro h; exact absurd rfl h
        | cons a r ih =>
          intro _ hp
          have ha : a.data.toList.length ≤ 32 := by
            have := hp a (by simp)
            unfold Vl.nameL at this
            simp only [Bool.and_eq_true, decide_eq_true_eq] at this
            first | exact this.1.1 | exact this.1.2 | exact this.1 | exact this.2
          cases r with
          | nil => simp only [joinP, List.length_cons, List.length_nil]; omega
          | cons b r =>
            have h2 := ih (by simp) (fun n h => hp n (by simp [h]))
            rw [joinP, List.length_append, List.length_cons]
            simp only [List.length_cons] at h2 ⊢
            omega
      have := h32 p g1 g3
      omega
    exact ⟨g2, hl2, by omega, by omega⟩
  · exact ⟨by simp, by simp [joinP], by omega, by omega⟩
end Go.Proofs.YteajjlilpikdeaaGreatDoor.Sc
