
/-
  Rows of a call's own: one put in anywhere, one written anew. No condition but those that the theorems state.
-/
import Derived.Test.YtckcbdnlligndaaDoorVlCopyR
import Derived.Test.YtckcbdnlligndaaDoorVlIns
import Derived.Test.YtckcbdnlligndaaDoorVlSt
namespace Go.Proofs.YtckcbdnlligndaaDoor
open Go.RowKit

theorem Vl.shape_one {d : Nat} {w : World} {c0 c1 c2 c3 c4 : Value} {y : Vl.V} (h : Vl.At d w (.agg #[c0, c1, c2, c3, c4]) y) : c0.oneCell' = true ∧ c1.oneCell' = true ∧ c2.oneCell' = true ∧ c3.oneCell' = true ∧ c4.oneCell' = true := by
  obtain ⟨k, t, i, pi, ni, ci, pn, nn, cn, e⟩ := h.shape
  simp only [Value.agg.injEq, Array.mk.injEq, List.cons.injEq, and_true] at e
  obtain ⟨rfl, rfl, rfl, rfl, rfl⟩ := e
  exact ⟨rfl, rfl, rfl, rfl, rfl⟩
theorem Vl.Off2.at {d B : Nat} {W : World} {p q : Option Nat} {u : Value} {y : Vl.V} (h : Vl.Off2 d B W p q u y) : Vl.At d W u y := h W (fun _ _ _ _ _ => rfl)
theorem Vl.has_one {P : Value → Vl.V → Prop} {is : List Vl.V} {cs : List Value} (hl : cs.length = is.length * 5) (hP : ∀ u y, P u y → ∃ d w, Vl.At d w u y) (hk : ∀ i y, is[i]? = some y → ∃ c0 c1 c2 c3 c4, Vl.Has5 cs (i * 5) c0 c1 c2 c3 c4 ∧ P (.agg #[c0, c1, c2, c3, c4]) y) : ∀ v ∈ cs, v.oneCell' = true := by
  intro v hv
  obtain ⟨j, hj, rfl⟩ := List.getElem_of_mem hv
  have hq : j / 5 < is.length := by omega
  obtain ⟨c0, c1, c2, c3, c4, ⟨e0, e1, e2, e3, e4⟩, hoff⟩ := hk (j / 5) is[j / 5] (List.getElem?_eq_getElem hq)
  obtain ⟨d, w, hat⟩ := hP _ _ hoff
  obtain ⟨o0, o1, o2, o3, o4⟩ := Vl.shape_one hat
  have key : ∀ q c, cs[q]? = some c → q = j → c.oneCell' = true → (cs[j]).oneCell' = true := fun q c h1 h2 h3 => by
    subst h2
    rw [List.getElem?_eq_getElem hj] at h1
    cases h1
    exact h3
  have hm : j % 5 = 0 ∨ j % 5 = 1 ∨ j % 5 = 2 ∨ j % 5 = 3 ∨ j % 5 = 4 := by omega
  rcases hm with h | h | h | h | h
  · exact key _ _ e0 (by omega) o0
  · exact key _ _ e1 (by omega) o1
  · exact key _ _ e2 (by omega) o2
  · exact key _ _ e3 (by omega) o3
  · exact key _ _ e4 (by omega) o4
theorem Vl.own_same {W : World} {B : Nat} {e : TypeId} {size : Nat} {v : Value} {n : Nat} {xs ys : List Value} (h : W.ownsRow B e size v n xs) (k : W.ownsRow B e size v n ys) : xs = ys := by
  rcases h.2 with ⟨rfl, h0⟩ | ⟨g, cap, cur, rfl, _, hg1, _, _, _, ht⟩
  · have e1 := h.1; have e2 := k.1
    rw [h0, Nat.zero_mul] at e1 e2
    rw [List.length_eq_zero_iff.1 e1, List.length_eq_zero_iff.1 e2]
  · rcases k.2 with ⟨e, _⟩ | ⟨g', cap', cur', e, _, hg2, _, _, _, ht'⟩
    · cases e
    · cases e
      rw [hg1] at hg2
      cases hg2
      rw [← ht, ← ht']
/-- What holds of each item's cells, with one put in. -/
theorem Vl.has_ins {P : Value → Vl.V → Prop} {k : Nat} {is : List Vl.V} {cs : List Value} {c0 c1 c2 c3 c4 : Value} {x : Vl.V} (hlen : cs.length = is.length * 5) (hk : k ≤ is.length) (hc : ∀ i y, is[i]? = some y → ∃ c0 c1 c2 c3 c4, Vl.Has5 cs (i * 5) c0 c1 c2 c3 c4 ∧ P (.agg #[c0, c1, c2, c3, c4]) y)
    (hx : P (.agg #[c0, c1, c2, c3, c4]) x) : ∀ i y, (is.take k ++ x :: is.drop k)[i]? = some y → ∃ a0 a1 a2 a3 a4, Vl.Has5 (cs.take (k * 5) ++ [c0, c1, c2, c3, c4] ++ cs.drop (k * 5)) (i * 5) a0 a1 a2 a3 a4 ∧ P (.agg #[a0, a1, a2, a3, a4]) y := by
  have hlt : (is.take k).length = k := by rw [List.length_take]; omega
  have hct : (cs.take (k * 5)).length = k * 5 := by rw [List.length_take]; omega
  intro i y hy
  by_cases hi : i < k
  · rw [List.getElem?_append_left (by omega), List.getElem?_take_of_lt hi] at hy
    obtain ⟨a0, a1, a2, a3, a4, ⟨e0, e1, e2, e3, e4⟩, hoff⟩ := hc i y hy
    have key : ∀ j c, j < k * 5 → cs[j]? = some c → (cs.take (k * 5) ++ [c0, c1, c2, c3, c4] ++ cs.drop (k * 5))[j]? = some c := fun j c hj h => by
      rw [List.append_assoc, List.getElem?_append_left (by omega), List.getElem?_take_of_lt hj]; exact h
    exact ⟨a0, a1, a2, a3, a4, ⟨key _ _ (by omega) e0, key _ _ (by omega) e1, key _ _ (by omega) e2, key _ _ (by omega) e3, key _ _ (by omega) e4⟩, hoff⟩
  · rw [List.getElem?_append_right (by omega), hlt] at hy
    by_cases hik : i = k
    · subst hik
      rw [Nat.sub_self, List.getElem?_cons_zero] at hy
      cases hy
      have key : ∀ j (hj : j < 5), (cs.take (i * 5) ++ [c0, c1, c2, c3, c4] ++ cs.drop (i * 5))[i * 5 + j]? = [c0, c1, c2, c3, c4][j]? := fun j hj => by
        rw [List.append_assoc, List.getElem?_append_right (by omega), hct, Nat.add_sub_cancel_left, List.getElem?_append_left (by simpa using hj)]
      exact ⟨c0, c1, c2, c3, c4, ⟨key 0 (by omega), key 1 (by omega), key 2 (by omega), key 3 (by omega), key 4 (by omega)⟩, hx⟩
    · obtain ⟨q, hq⟩ : ∃ q, i - k = q + 1 := ⟨i - k - 1, by omega⟩
      rw [hq, List.getElem?_cons_succ, List.getElem?_drop] at hy
      obtain ⟨a0, a1, a2, a3, a4, ⟨e0, e1, e2, e3, e4⟩, hoff⟩ := hc (k + q) y hy
      have key : ∀ j c, cs[(k + q) * 5 + j]? = some c → (cs.take (k * 5) ++ [c0, c1, c2, c3, c4] ++ cs.drop (k * 5))[i * 5 + j]? = some c := fun j c h => by
        rw [List.getElem?_append_right (by rw [List.length_append, hct]; simp; omega), List.length_append, hct, List.getElem?_drop]
        rw [show k * 5 + (i * 5 + j - (k * 5 + [c0, c1, c2, c3, c4].length)) = (k + q) * 5 + j by simp; omega]
        exact h
      exact ⟨a0, a1, a2, a3, a4, ⟨key 0 _ e0, key 1 _ e1, key 2 _ e2, key 3 _ e3, key 4 _ e4⟩, hoff⟩
/-- .. with one written anew. -/
theorem Vl.has_set {P : Value → Vl.V → Prop} {k : Nat} {is : List Vl.V} {cs : List Value} {c0 c1 c2 c3 c4 : Value} {x : Vl.V} (hlen : cs.length = is.length * 5) (hk : k < is.length) (hc : ∀ i y, is[i]? = some y → ∃ c0 c1 c2 c3 c4, Vl.Has5 cs (i * 5) c0 c1 c2 c3 c4 ∧ P (.agg #[c0, c1, c2, c3, c4]) y)
    (hx : P (.agg #[c0, c1, c2, c3, c4]) x) : ∀ i y, (is.set k x)[i]? = some y → ∃ a0 a1 a2 a3 a4, Vl.Has5 (((((cs.set (k * 5) c0).set (k * 5 + 1) c1).set (k * 5 + 2) c2).set (k * 5 + 3) c3).set (k * 5 + 4) c4) (i * 5) a0 a1 a2 a3 a4 ∧ P (.agg #[a0, a1, a2, a3, a4]) y := by
  intro i y hy
  by_cases hi : i = k
  · subst hi
    rw [List.getElem?_set_self hk] at hy
    cases hy
    refine ⟨c0, c1, c2, c3, c4, ⟨?_, ?_, ?_, ?_, ?_⟩, hx⟩
    · rw [List.getElem?_set_ne (by omega), List.getElem?_set_ne (by omega), List.getElem?_set_ne (by omega), List.getElem?_set_ne (by omega), List.getElem?_set_self (by omega)]
    · rw [List.getElem?_set_ne (by omega), List.getElem?_set_ne (by omega), List.getElem?_set_ne (by omega), List.getElem?_set_self (by rw [List.length_set]; omega)]
    · rw [List.getElem?_set_ne (by omega), List.getElem?_set_ne (by omega), List.getElem?_set_self (by rw [List.length_set, List.length_set]; omega)]
    · rw [List.getElem?_set_ne (by omega), List.getElem?_set_self (by rw [List.length_set, List.length_set, List.length_set]; omega)]
    · rw [List.getElem?_set_self (by rw [List.length_set, List.length_set, List.length_set, List.length_set]; omega)]
  · rw [List.getElem?_set_ne (by omega)] at hy
    obtain ⟨a0, a1, a2, a3, a4, ⟨e0, e1, e2, e3, e4⟩, hoff⟩ := hc i y hy
    refine ⟨a0, a1, a2, a3, a4, ⟨?_, ?_, ?_, ?_, ?_⟩, hoff⟩
    all_goals (rw [List.getElem?_set_ne (by omega), List.getElem?_set_ne (by omega), List.getElem?_set_ne (by omega), List.getElem?_set_ne (by omega), List.getElem?_set_ne (by omega)]; assumption)
/-- Rows, made out of older ones. -/
theorem Vl.Rows2.final {d B : Nat} {w W : World} {vi vi' vn vn' : Value} {is' : List Vl.V} {ns' : List ByteArray} {cs' : List Value} (hk : ∀ j, j < w.heap.size → some j ≠ vi.ownBlock → some j ≠ vn.ownBlock → W.heap[j]? = w.heap[j]?) (hs : w.heap.size ≤ W.heap.size)
    (hat1 : vi'.ownBlock = vi.ownBlock ∨ ∀ q, vi'.ownBlock = some q → w.heap.size ≤ q) (hat2 : vn'.ownBlock = vn.ownBlock ∨ ∀ q, vn'.ownBlock = some q → w.heap.size ≤ q) (hI : W.ownsRow B 26 5 vi' is'.length cs') (hN : W.ownsRow B 9 1 vn' ns'.length (ns'.map Wp.mkT))
    (hc : ∀ i y, is'[i]? = some y → ∃ c0 c1 c2 c3 c4, Vl.Has5 cs' (i * 5) c0 c1 c2 c3 c4 ∧ Vl.Off2 d B w vi.ownBlock vn.ownBlock (.agg #[c0, c1, c2, c3, c4]) y) : Vl.Rows2 d B W vi' vn' is' ns' := by
  refine ⟨⟨cs', hI, fun i y hy => ?_⟩, hN⟩
  obtain ⟨c0, c1, c2, c3, c4, h5, hoff⟩ := hc i y hy
  refine ⟨c0, c1, c2, c3, c4, h5, fun W2 hW => hoff W2 (fun j h1 h2 h3 h4 => (hW j h1 (by omega) (fun e => ?_) (fun e => ?_)).trans (hk j h2 h3 h4))⟩
  · rcases hat1 with h | h
    · exact h3 (e.trans h)
    · have := h j e.symm; omega
  · rcases hat2 with h | h
    · exact h4 (e.trans h)
    · have := h j e.symm; omega
theorem Vl.slotsAt {w : World} {B g n cap k : Nat} {xs : List Value} (h : w.ownsRow B 26 5 (.slice (some ⟨g, 0, none⟩) n cap) n xs) (hk : k < n) :
    ∃ z0 z1 z2 z3 z4, (w.cell? ⟨g, k * 5, none⟩ = some z0 ∧ w.cell? ⟨g, k * 5 + 1, none⟩ = some z1 ∧ w.cell? ⟨g, k * 5 + 2, none⟩ = some z2 ∧ w.cell? ⟨g, k * 5 + 3, none⟩ = some z3 ∧ w.cell? ⟨g, k * 5 + 4, none⟩ = some z4) ∧
      w.frozen? ⟨g, k * 5, none⟩ = false ∧ w.frozen? ⟨g, k * 5 + 1, none⟩ = false ∧ w.frozen? ⟨g, k * 5 + 2, none⟩ = false ∧ w.frozen? ⟨g, k * 5 + 3, none⟩ = false ∧ w.frozen? ⟨g, k * 5 + 4, none⟩ = false := by
  have hl : xs.length = n * 5 := h.1
  have hc := h.cells (g := g) rfl
  have key : ∀ j (hj : j < 5), w.cell? ⟨g, k * 5 + j, none⟩ = some (xs[k * 5 + j]'(by rw [hl]; omega)) := fun j hj => by
    have := hc (k * 5 + j) _ (List.getElem?_eq_getElem (by rw [hl]; omega))
    rwa [show (⟨g, 0, none⟩ : Addr).add (k * 5 + j) = ⟨g, k * 5 + j, none⟩ by unfold Addr.add; split <;> simp_all] at this
  exact ⟨_, _, _, _, _, ⟨key 0 (by omega), key 1 (by omega), key 2 (by omega), key 3 (by omega), key 4 (by omega)⟩, h.frozenAt _, h.frozenAt _, h.frozenAt _, h.frozenAt _, h.frozenAt _⟩
theorem Vl.Off.off2 {d B C : Nat} {W : World} {u : Value} {y : Vl.V} (h : Vl.Off d C W none u y) (hB : B ≤ C) (p q : Option Nat) (hp : ∀ x, p = some x → x < C) (hq : ∀ x, q = some x → x < C) : Vl.Off2 d B W p q u y :=
  fun W' hW => h W' (fun j h1 h2 _ => hW j (by omega) h2 (fun e => by have := hp j e.symm; omega) (fun e => by have := hq j e.symm; omega))
end Go.Proofs.YtckcbdnlligndaaDoor
