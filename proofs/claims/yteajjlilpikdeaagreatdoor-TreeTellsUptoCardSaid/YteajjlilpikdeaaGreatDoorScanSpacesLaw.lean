
/-
  The law ScanSpaces: whatever the path, the kind and the gaps, it hands back true. Conditions: a path's names are of a size that a machine holds; the words' table reads as it is laid, the search's limit is set.
-/
import Derived.Test.YteajjlilpikdeaaGreatDoorScLives
import Derived.Test.YteajjlilpikdeaaGreatDoorScSameW
namespace Go.Proofs.YteajjlilpikdeaaGreatDoor
open Go.RowKit Go.Shelf

namespace Sc
def sp (n : Nat) : List UInt8 := List.replicate n 32
theorem join_snoc : ∀ (p : List ByteArray) (x : ByteArray), p ≠ [] → joinP (p ++ [x]) = joinP p ++ 46 :: x.data.toList
  | [], _, h => absurd rfl h
  | [a], x, _ => by simp [joinP]
  | a :: b :: r, x, _ => by
    have := join_snoc (b :: r) x (by simp)
    rw [List.cons_append, List.cons_append, joinP, joinP, ← List.cons_append, this]
    simp
theorem join_take (p : List ByteArray) (k : Nat) (h : k < p.length) : joinP (p.take (k + 1)) = if k = 0 then p[k].data.toList else joinP (p.take k) ++ 46 :: p[k].data.toList := by
  rw [List.take_succ_eq_append_getElem h]
  by_cases h0 : k = 0
  · subst h0; simp [joinP]
  · rw [if_neg h0, join_snoc _ _ (by intro e; have := congrArg List.length e; rw [List.length_take, List.length_nil] at this; omega)]
theorem join_take_len (p : List ByteArray) (hp : ∀ n ∈ p, Vl.nameL n.data.toList = true) : ∀ k, k ≤ p.length → (joinP (p.take k)).length ≤ 33 * k := by
  intro k
  induction k with
  | zero => intro _; simp [joinP]
  | succ k ih =>
    intro hk
    have h1 := ih (by omega)
    have h2 := hp _ (List.getElem_mem (show k < p.length by omega))
    unfold Vl.nameL at h2
    simp only [Bool.and_eq_true, decide_eq_true_eq] at h2
    rw [join_take p k (by omega)]
    split
    · omega
    · rw [List.length_append, List.length_cons]; omega
/-- What stands within a tag, with gaps. -/
def within (K a b c : Nat) (p : List ByteArray) : List UInt8 :=
  if K = 3 then sp a ++ (wIf ++ 32 :: (sp b ++ (joinP p ++ sp c))) else if K = 5 then sp a ++ (wEach ++ 32 :: (sp b ++ (joinP p ++ sp c))) else sp a ++ (joinP p ++ sp c)
theorem within_tag (K a b c : Nat) (hK : K = 2 ∨ K = 3 ∨ K = 5) {p : List ByteArray} (h : pathOk (p.map (·.data.toList)) = true) : tagP (within K a b c p) = some ⟨K, ⟨#[]⟩, p⟩ := by
  rcases hK with rfl | rfl | rfl
  · exact tag_var a c h
  · exact tag_if a b c h
  · exact tag_each a b c h
theorem within_ne (K a b c : Nat) {p : List ByteArray} (h : pathOk (p.map (·.data.toList)) = true) : ∀ x ∈ within K a b c p, x ≠ 125 := by
  obtain ⟨h1, _, h3, _⟩ := pathOk_facts h
  have hj := (join_ne h1 h3).2
  have hs : ∀ n x, x ∈ sp n → x ≠ 125 := fun n x hx => by rw [List.eq_of_mem_replicate hx]; decide
  intro x hx
  unfold within at hx
  split at hx
  · simp only [List.mem_append, List.mem_cons] at hx
    rcases hx with hx | hx | rfl | hx | hx | hx
    · exact hs _ x hx
    · revert hx; simp only [wIf, List.mem_cons, List.mem_nil_iff, or_false]; rintro (rfl | rfl) <;> decide
    · decide
    · exact hs _ x hx
    · exact (hj x hx).2
    · exact hs _ x hx
  split at hx
  · simp only [List.mem_append, List.mem_cons] at hx
    rcases hx with hx | hx | rfl | hx | hx | hx
    · exact hs _ x hx
    · revert hx; simp only [wEach, List.mem_cons, List.mem_nil_iff, or_false]; rintro (rfl | rfl | rfl | rfl) <;> decide
    · decide
    · exact hs _ x hx
    · exact (hj x hx).2
    · exact hs _ x hx
  · simp only [List.mem_append] at hx
    rcases hx with hx | hx | hx
    · exact hs _ x hx
    · exact (hj x hx).2
    · exact hs _ x hx
theorem within_toks (K a b c : Nat) (hK : K = 2 ∨ K = 3 ∨ K = 5) {p : List ByteArray} (h : pathOk (p.map (·.data.toList)) = true) (hl : (oo ++ (within K a b c p ++ cc)).length ≤ 1024) : toksR (oo ++ (within K a b c p ++ cc)) = ([⟨K, ⟨#[]⟩, p⟩], 0) := by
  have c1 : Lib.cut (oo ++ (within K a b c p ++ cc)) oo = ([], within K a b c p ++ cc, true) := by
    have := cut_at (a := []) (s := oo) (b := within K a b c p ++ cc) (fun j hj => by simp at hj)
    simpa using this
  have c2 : Lib.cut (within K a b c p ++ cc) cc = (within K a b c p, [], true) := by
    have := cut_at (a := within K a b c p) (s := cc) (b := []) (by
      intro j hj
      rw [List.append_nil]
      exact occ_no (c := 125) (a := within K a b c p) (b := [125, 125]) (t := [125]) (within_ne K a b c h) j hj)
    simpa using this
  unfold toksR
  rw [if_neg (by omega)]
  obtain ⟨f, hf⟩ : ∃ f, (oo ++ (within K a b c p ++ cc)).length = f + 1 := ⟨(within K a b c p ++ cc).length + 1, by rw [List.length_append]; show 2 + _ = _; omega⟩
  have key : toksP ((oo ++ (within K a b c p ++ cc)).length + 1) (oo ++ (within K a b c p ++ cc)) = some [⟨K, ⟨#[]⟩, p⟩] := by
    rw [hf]
    unfold toksP
    rw [c1]
    simp only [if_true]
    rw [c2]
    simp only [if_true]
    rw [within_tag K a b c hK h]
    unfold toksP
    rw [cut_none (l := []) (s := oo) (fun j hj => by unfold Lib.occAt; simp [oo])]
    rfl
  rw [key]
theorem within_len (K a b c : Nat) (p : List ByteArray) (ha : a ≤ 15) (hb : b ≤ 15) (hc : c ≤ 15) (hj : (joinP p).length ≤ 132) : (oo ++ (within K a b c p ++ cc)).length ≤ 1024 := by
  have hw : (within K a b c p).length ≤ 200 := by
    unfold within sp
    repeat' split
    all_goals simp only [List.length_append, List.length_cons, List.length_replicate, wIf, wEach, List.length_nil]
    all_goals omega
  simp only [List.length_append, oo, cc, List.length_cons, List.length_nil]
  omega
theorem at_one {W : World} {blk : Nat} {K : Nat} {p : Option Addr} {cp : Nat} {path : List ByteArray} {t : TypeId} {fr : Nat × Nat} (hc : W.heap[blk]? = some (.cells #[.int .u8 K, .string ⟨#[]⟩, .slice p path.length cp] t fr))
    (hK : K ≤ 255) (hl : path.length ≤ 140737488351232) (hs : ∀ x ∈ path, x.size ≤ 140737488351232) (hcp : path.length ≤ cp) (hp : Wp.At Wp.mkT W p path) : At W (some ⟨blk, 0, none⟩) [⟨K, ⟨#[]⟩, path⟩] := by
  intro i hi
  have : i = 0 := by simpa using hi
  subst this
  refine ⟨blk, 0, _, _, _, rfl, ⟨?_, ?_, ?_⟩, _, rfl, p, cp, rfl, ⟨⟨hK, hcp⟩, by show (0 : Nat) ≤ _; omega, hl, hs⟩, hp⟩
  · rw [Lib.cell_of_heap hc]; rfl
  · rw [Lib.cell_of_heap hc]; rfl
  · rw [Lib.cell_of_heap hc]; rfl
def gap : ByteArray := ⟨#[32, 32, 32, 32, 32, 32, 32, 32, 32, 32, 32, 32, 32, 32, 32, 32]⟩
theorem gap_cut : ∀ n, n < 16 → gap.extract 0 n = Wp.B (sp n) := by decide +kernel
theorem gap_slice (n : Nat) (W : World) : (Instr.sliceAt 9 (.string ⟨#[32, 32, 32, 32, 32, 32, 32, 32, 32, 32, 32, 32, 32, 32, 32, 32]⟩) none (some (.int .u8 ((n : Int) % 16))) none).run Tryz.prog W = .ok (.string (Wp.B (sp (n % 16)))) W := by
  rw [run_sliceAt_string (h := Tryz.underlying9), run_slice_string_h (ht := Tryz.underlying9) (h0 := by omega) (h2 := by show _ ≤ (16 : Int); omega)]
  rw [show ((n : Int) % 16).toNat = n % 16 by omega]
  exact congrArg (fun s => Result.ok (Value.string s) W) (gap_cut (n % 16) (by omega))
end Sc
end Go.Proofs.YteajjlilpikdeaaGreatDoor
