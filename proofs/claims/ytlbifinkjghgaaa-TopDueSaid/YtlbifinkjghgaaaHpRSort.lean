
/-
  The walks of the document's Sort, Is, Make and Sorted for timers: the timers in order. Condition: at most 100000 timers, or a list of a size that a machine holds.
-/
import Derived.Test.YtlbifinkjghgaaaHpRef
namespace Go.Proofs.Ytlbifinkjghgaaa
open Go.RowKit Go.Lib Go.Sort Go.Shelf

def Hp.srtK (l : List (Int × Int × Int × Int)) (k : Nat) : List (Int × Int × Int × Int) := (l.take k).foldl (fun o t => Hp.ins t o) []
theorem Hp.srtK_all (l : List (Int × Int × Int × Int)) : Hp.srtK l l.length = Hp.srt l := by unfold Hp.srtK; rw [List.take_length]; rfl
theorem Hp.srtK_succ (l : List (Int × Int × Int × Int)) (k : Nat) (h : k < l.length) : Hp.srtK l (k + 1) = Hp.ins l[k] (Hp.srtK l k) := by
  unfold Hp.srtK
  rw [List.take_succ_eq_append_getElem h, List.foldl_append]
  rfl
theorem Hp.srtK_len (l : List (Int × Int × Int × Int)) (k : Nat) (h : k ≤ l.length) : (Hp.srtK l k).length = k := by
  unfold Hp.srtK
  have := (Hp.fold_perm (l.take k) []).length_eq
  rw [this]
  simp
  omega
theorem Hp.ins_at (t : Int × Int × Int × Int) : ∀ (o : List (Int × Int × Int × Int)) (j : Nat), j ≤ o.length → (∀ a (ha : a < o.length), a < j → Hp.lt o[a] t = true) → (∀ h : j < o.length, Hp.lt o[j] t = false) → Hp.ins t o = o.take j ++ [t] ++ o.drop j
  | [], j, _, _, _ => by simp [Hp.ins]
  | x :: r, 0, _, _, h2 => by
    have := h2 (by simp)
    simp only [List.getElem_cons_zero] at this
    unfold Hp.ins
    rw [if_neg (by rw [this]; simp)]
    simp
  | x :: r, j + 1, hj, h1, h2 => by
    have h0 := h1 0 (by simp) (by omega)
    simp only [List.getElem_cons_zero] at h0
    unfold Hp.ins
    rw [if_pos h0, Hp.ins_at t r j (by simpa using hj) (fun a ha haj => by have := h1 (a + 1) (by simpa using ha) (by omega); simpa using this) (fun h => by have := h2 (by simpa using h); simpa using this)]
    simp
theorem Hp.At.dropIf {w : World} {b c : Nat} {l : List (Int × Int × Int × Int)} (h : Hp.At w (some ⟨b, 0, none⟩) l) (i : Nat) (hc : l.length ≤ c) : Hp.At w (if c = i then some ⟨b, 0, none⟩ else some ⟨b, i * 4, none⟩) (l.drop i) := by
  by_cases e : c = i
  · rw [if_pos e]
    exact Or.inl (List.drop_eq_nil_of_le (by omega))
  · rw [if_neg e]
    rcases h with h | ⟨b', off, hp, hcl⟩
    · exact Or.inl (by rw [h]; simp)
    · cases hp
      refine Or.inr ⟨b, i * 4, rfl, fun a ha => ?_⟩
      have hl : i + a < l.length := by simp at ha; omega
      rw [List.getElem_drop]
      have := hcl (i + a) hl
      rwa [Nat.zero_add, Nat.add_mul] at this
theorem Hp.At.grownBy {w w' : World} {row : Option Nat} {p : Option Addr} {l : List (Int × Int × Int × Int)} (h : Hp.At w p l) (hg : w.grownBy w' row) (hne : ∀ b off, p = some ⟨b, off, none⟩ → some b ≠ row) : Hp.At w' p l := by
  rcases h with h | ⟨b, off, hp, hc⟩
  · exact Or.inl h
  · refine Or.inr ⟨b, off, hp, fun i hi => ?_⟩
    obtain ⟨c0, c1, c2, c3⟩ := hc i hi
    exact ⟨hg.cell c0 (hne _ _ hp), hg.cell c1 (hne _ _ hp), hg.cell c2 (hne _ _ hp), hg.cell c3 (hne _ _ hp)⟩
section
variable (W : World) (o : Obj) (x : Int × Int × Int × Int)
/-- An empty literal; with a new block behind it; with one ahead of it. -/
theorem Hp.a1 : Hp.Own ((W.alloc (.cells #[] 29)).drew) W.heap.size (.slice (some ⟨W.heap.size, 0, none⟩) 0 0) [] := World.ownsRow_made W #[] 0 (Nat.le_refl _) (Nat.zero_le _) rfl
theorem Hp.b1 : Hp.Own (((W.alloc (.cells #[] 29)).alloc o).drew) W.heap.size (.slice (some ⟨W.heap.size, 0, none⟩) 0 0) [] := (World.ownsRow_made W #[] 0 (Nat.le_refl _) (Nat.zero_le _) rfl).alloc o
theorem Hp.c1 : Hp.Own (((W.alloc o).alloc (.cells #[] 29)).drew) W.heap.size (.slice (some ⟨W.heap.size + 1, 0, none⟩) 0 0) [] := by
  have h := World.ownsRow_made (base := W.heap.size) (e := 29) (size := 4) (W.alloc o) #[] 0 (by rw [World.size_alloc]; omega) (Nat.zero_le _) rfl
  rw [World.size_alloc] at h
  exact h
theorem Hp.a2 : Below W.heap.size W (W.alloc o).drew := ((Below.refl _ _).alloc (Nat.le_refl _) o).drew
theorem Hp.b2 (o' : Obj) : Below W.heap.size W ((W.alloc o).alloc o').drew := (((Below.refl _ _).alloc (Nat.le_refl _) o).alloc (by rw [World.size_alloc]; omega) o').drew
theorem Hp.b3 : Hp.At (((W.alloc o).alloc (.cells #[.int .i64 x.1, .int .i64 x.2.1, .int .u8 x.2.2.1, .int .i64 x.2.2.2] 29)).drew) (some ⟨W.heap.size + 1, 0, none⟩) [x] := by
  have h := Hp.one_new (W.alloc o) x
  rw [World.size_alloc] at h
  exact h
theorem Hp.c3 : Hp.At (((W.alloc (.cells #[.int .i64 x.1, .int .i64 x.2.1, .int .u8 x.2.2.1, .int .i64 x.2.2.2] 29)).alloc o).drew) (some ⟨W.heap.size, 0, none⟩) [x] :=
  (Hp.one_new W x).below (hp_box (W.alloc (.cells #[.int .i64 x.1, .int .i64 x.2.1, .int .u8 x.2.2.1, .int .i64 x.2.2.2] 29)) o).drew
end
end Go.Proofs.Ytlbifinkjghgaaa
