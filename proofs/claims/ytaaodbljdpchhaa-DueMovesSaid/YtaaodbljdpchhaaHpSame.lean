
/-
  The walk of the reference's Same at two slices of timers: whether they read as one list. Condition: a list is of a size that a machine holds.
-/
import Derived.Test.YtaaodbljdpchhaaHpSort
namespace Go.Proofs.Ytaaodbljdpchhaa
open Go.RowKit Go.Lib Go.Shelf

theorem Hp.eq_of_all {a b : List (Int × Int × Int × Int)} (h : a.length = b.length) (he : ∀ k (h1 : k < a.length) (h2 : k < b.length), a[k] = b[k]) : a = b := List.ext_getElem h he
set_option maxHeartbeats 2000000 in
set_option maxRecDepth 100000 in
theorem hp_Same (a b : List (Int × Int × Int × Int)) (p q : Option Addr) (c d : Nat) (w : World) (hA : Hp.At w p a) (hB : Hp.At w q b) (hn : a.length ≤ 140737488351232) (_hm : b.length ≤ 140737488351232) :
    Calls Try.prog 20 #[.slice p a.length c, .slice q b.length d] w fun e w' => e = .returned (.bool (decide (a = b))) ∧ Below w.heap.size w w' := by
  have HA := Lib.hid hA
  have HB := Lib.hid hB
  clear hA hB
  obtain ⟨r, hr⟩ : ∃ r, r = decide (a = b) := ⟨_, rfl⟩
  have HR := Lib.hid hr
  rw [← hr]
  clear hr
  by_cases hl : a.length = b.length
  · have HE := Lib.hid (Hp.eq_of_all hl)
    have hdl : b.length = a.length := hl.symm
    rw [hdl]
    have Hl := Lib.hid hl
    clear hl hdl
    obtain ⟨n, hnl⟩ : ∃ n, n = a.length := ⟨_, rfl⟩
    have Hn := Lib.hid hnl
    rw [← hnl] at hn
    rw [← hnl]
    clear hnl
    go_enter Try.func20, Try.ntmps20
    go_wp2_with fail
    go_loopw [5, 13] (fun _ i wr => ∃ k : Nat, k ≤ n ∧ i = .int .i64 k ∧ Aside (∀ j (h1 : j < a.length) (h2 : j < b.length), j < k → a[j] = b[j]) ∧ Below w.heap.size w wr) (fun _ i _ => n - (RowKit.intOf i).toNat)
    case atStart => exact ⟨0, Nat.zero_le _, rfl, fun j _ _ h => absurd h (Nat.not_lt_zero _), Below.refl _ _⟩
    case round =>
      obtain ⟨k, hk, rfl, hE, hBw⟩ := hrel
      have BW := Lib.hid hBw
      have hz := hBw.size
      clear hBw
      by_cases hlt : k < n
      · have hka : k < a.length := by rw [← Hn.out]; exact hlt
        have hkb : k < b.length := by rw [← Hl.out, ← Hn.out]; exact hlt
        obtain ⟨b1, o1, rfl, e1, e2, e3, e4⟩ := (HA.out.below BW.out).get k hka
        obtain ⟨b2, o2, rfl, d1, d2, d3, d4⟩ := (HB.out.below BW.out).get k hkb
        have hltz : (k : Int) < (n : Int) := by omega
        have hk0 : (0 : Int) ≤ (k : Int) := by omega
        by_cases hxy : a[k] = b[k]
        · have hE2 : Aside (∀ j (h1 : j < a.length) (h2 : j < b.length), j < k + 1 → a[j] = b[j]) := fun j h1 h2 h3 => by
            by_cases e : j = k
            · subst e; exact hxy
            · exact hE.out j h1 h2 (by omega)
          rw [← hxy] at d1 d2 d3 d4
          generalize a[k] = x at e1 e2 e3 e4 d1 d2 d3 d4
          clear hxy hka hkb hE
          obtain ⟨x1, x2, x3, x4⟩ := x
          simp only [] at e1 e2 e3 e4 d1 d2 d3 d4
          go_wp2_with fail
          go_quiet (fail)
          go_wp2_with fail
          exact ⟨⟨k + 1, by omega, by go_num, hE2, below_drewN BW.out _⟩, by simp [RowKit.intOf]; omega⟩
        · have hne : ¬ a = b := fun h => hxy (by subst h; rfl)
          have Hne := Lib.hid hne
          generalize a[k] = x at e1 e2 e3 e4 hxy
          generalize b[k] = y at d1 d2 d3 d4 hxy
          clear hka hkb hE hne
          obtain ⟨x1, x2, x3, x4⟩ := x
          obtain ⟨y1, y2, y3, y4⟩ := y
          simp only [] at e1 e2 e3 e4 d1 d2 d3 d4
          have hxy2 : x1 ≠ y1 ∨ (x1 = y1 ∧ x2 ≠ y2) ∨ (x1 = y1 ∧ x2 = y2 ∧ x3 ≠ y3) ∨ (x1 = y1 ∧ x2 = y2 ∧ x3 = y3 ∧ x4 ≠ y4) := by
            by_cases h1 : x1 = y1
            · by_cases h2 : x2 = y2
              · by_cases h3 : x3 = y3
                · exact Or.inr (Or.inr (Or.inr ⟨h1, h2, h3, fun h4 => hxy (by rw [h1, h2, h3, h4])⟩))
                · exact Or.inr (Or.inr (Or.inl ⟨h1, h2, h3⟩))
              · exact Or.inr (Or.inl ⟨h1, h2⟩)
            · exact Or.inl h1
          clear hxy
          rcases hxy2 with h | ⟨rfl, h⟩ | ⟨rfl, rfl, h⟩ | ⟨rfl, rfl, rfl, h⟩
          · have q1 : (x1 == y1) = false := by simpa using h
            clear h
            go_wp2_with fail
            go_quiet (fail)
            go_wp2_with fail
            go_ret
            exact ⟨congrArg (fun x => Ending.returned (Value.bool x)) (show false = r by rw [HR.out, decide_eq_false Hne.out]), below_drewN BW.out _⟩
          · have q1 : (x2 == y2) = false := by simpa using h
            clear h
            go_wp2_with fail
            go_quiet (fail)
            go_wp2_with fail
            go_ret
            exact ⟨congrArg (fun x => Ending.returned (Value.bool x)) (show false = r by rw [HR.out, decide_eq_false Hne.out]), below_drewN BW.out _⟩
          · have q1 : (x3 == y3) = false := by simpa using h
            clear h
            go_wp2_with fail
            go_quiet (fail)
            go_wp2_with fail
            go_ret
            exact ⟨congrArg (fun x => Ending.returned (Value.bool x)) (show false = r by rw [HR.out, decide_eq_false Hne.out]), below_drewN BW.out _⟩
          · have q1 : (x4 == y4) = false := by simpa using h
            clear h
            go_wp2_with fail
            go_quiet (fail)
            go_wp2_with fail
            go_ret
            exact ⟨congrArg (fun x => Ending.returned (Value.bool x)) (show false = r by rw [HR.out, decide_eq_false Hne.out]), below_drewN BW.out _⟩
      · obtain rfl : k = n := by omega
        have hab : a = b := HE.out fun j h1 h2 => hE.out j h1 h2 (by rw [Hn.out]; exact h1)
        have Hab := Lib.hid hab
        clear hab hE
        go_wp2_with fail
        go_ret
        exact ⟨congrArg (fun x => Ending.returned (Value.bool x)) (show true = r by rw [HR.out, decide_eq_true Hab.out]), BW.out⟩
  · have hne : ¬ a = b := fun h => hl (by rw [h])
    have Hne := Lib.hid hne
    have hz : ((a.length : Int) == (b.length : Int)) = false := by simp; omega
    have hz2 : (a.length == b.length) = false := by simpa using hl
    clear hne hl HA HB
    generalize a.length = n at *
    generalize b.length = m at *
    go_enter Try.func20, Try.ntmps20
    go_wp2_with fail
    go_ret
    exact ⟨congrArg (fun x => Ending.returned (Value.bool x)) (show false = r by rw [HR.out, decide_eq_false Hne.out]), Below.refl _ _⟩
end Go.Proofs.Ytaaodbljdpchhaa
