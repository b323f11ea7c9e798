/-
  The walks of week.isEdge and week.Make: the week of any ranges, one of which may go on behind the week's end. Condition: a list is of a size that a machine holds.
-/
import Derived.Test.YtmfbplemelodcaaWkOr
namespace Go.Proofs.Ytmfbplemelodcaa
open Go.RowKit Go.Lib Go.Shelf

def Wk.edgeB (n : Int) : Bool := decide (0 ≤ n) && decide (n ≤ 10080)
theorem Wk.edgeB_iff {n : Int} : Wk.edgeB n = true ↔ Wk.Edge n := by unfold Wk.edgeB Wk.Edge; simp
theorem wk_isEdge (n : Int) (w : World) : Calls Try.prog 27 #[.int .i64 n] w fun e w' => e = .returned (.bool (Wk.edgeB n)) ∧ w = w' := by
  unfold Wk.edgeB
  by_cases h : 0 ≤ n
  · rw [decide_eq_true h, Bool.true_and]
    go_enter Try.func27, Try.ntmps27
    go_wp2_with fail
    go_ret
    exact ⟨rfl, rfl⟩
  · rw [decide_eq_false h, Bool.false_and]
    have h2 : n < 0 := by omega
    clear h
    go_enter Try.func27, Try.ntmps27
    go_wp2_with fail
    go_ret
    exact ⟨rfl, rfl⟩
def Wk.off (r : Int × Int) : Bool := !Wk.edgeB r.1 || !Wk.edgeB r.2
set_option maxHeartbeats 1000000 in
theorem wk_make1 (f t : Int) (W : World) :
    Calls Try.prog 26 #[.agg #[.int .i64 f, .int .i64 t]] W fun e w' => e = .returned (.bool (Wk.off (f, t))) ∧ Below W.heap.size W w' := by
  have HB := Lib.hid (wk_box W (.cells #[.int .i64 f, .int .i64 t] 38))
  have E1 := Lib.hid (fun w => wk_isEdge f w)
  have E2 := Lib.hid (fun w => wk_isEdge t w)
  unfold Wk.off
  simp only []
  cases h1 : Wk.edgeB f with
  | false =>
    rw [h1] at E1
    clear h1 E2
    rw [Bool.not_false, Bool.true_or]
    go_enter Try.func26, Try.ntmps26
    go_wp2_with fail
    refine (E1.out _).mono ?_
    rintro e w1 ⟨rfl, rfl⟩
    go_wp2_with fail
    go_ret
    exact ⟨rfl, HB.out⟩
  | true =>
    rw [h1] at E1
    rw [Bool.not_true, Bool.false_or]
    clear h1
    generalize Wk.edgeB t = b at *
    go_enter Try.func26, Try.ntmps26
    go_wp2_with fail
    refine (E1.out _).mono ?_
    rintro e w1 ⟨rfl, rfl⟩
    go_wp2_with fail
    refine (E2.out _).mono ?_
    rintro e w1 ⟨rfl, rfl⟩
    go_wp2_with fail
    go_ret
    exact ⟨rfl, HB.out⟩
theorem Wk.edges_iff {l : List (Int × Int)} : Wk.Edges l ↔ ∀ k, k < l.length → Wk.off (l.getD k (0, 0)) = false := by
  constructor
  · intro h k hk
    rw [List.getD_eq_getElem?_getD, List.getElem?_eq_getElem hk]
    obtain ⟨h1, h2⟩ := h l[k] (List.getElem_mem hk)
    show Wk.off l[k] = false
    unfold Wk.off
    rw [Wk.edgeB_iff.2 h1, Wk.edgeB_iff.2 h2]; rfl
  · intro h r hr
    obtain ⟨k, hk, rfl⟩ := List.getElem_of_mem hr
    have := h k hk
    rw [List.getD_eq_getElem?_getD, List.getElem?_eq_getElem hk] at this
    have h2 : Wk.off l[k] = false := this
    unfold Wk.off at h2
    rw [Bool.or_eq_false_iff] at h2
    exact ⟨Wk.edgeB_iff.1 (by simpa using h2.1), Wk.edgeB_iff.1 (by simpa using h2.2)⟩
instance Wk.decEdges (l : List (Int × Int)) : Decidable (Wk.Edges l) := by
  have : Wk.Edges l ↔ l.all (fun r => Wk.edgeB r.1 && Wk.edgeB r.2) = true := by
    rw [List.all_eq_true]
    constructor
    · intro h r hr; rw [Wk.edgeB_iff.2 (h r hr).1, Wk.edgeB_iff.2 (h r hr).2]; rfl
    · intro h r hr
      have := h r hr
      rw [Bool.and_eq_true] at this
      exact ⟨Wk.edgeB_iff.1 this.1, Wk.edgeB_iff.1 this.2⟩
  exact decidable_of_iff _ this.symm
theorem Wk.two_set {w : World} {g : Nat} {a b : Value} {t : TypeId} (h : w.heap[g]? = some (.cells #[a, b] t (0, 0))) (x : Value) : (w.setCell ⟨g, 0, none⟩ x).heap[g]? = some (.cells #[x, b] t (0, 0)) := by
  simp [World.setCell, Array.getElem?_modify, h]
/-- A store elsewhere leaves a row as it is. -/
theorem Wk.Own.other {w : World} {base : Nat} {v : Value} {l : List (Int × Int)} (h : Wk.Own w base v l) {g : Nat} (hg : ∀ k, v.ownBlock = some k → k ≠ g) (x : Value) : Wk.Own (w.setCell ⟨g, 0, none⟩ x) base v l :=
  World.ownsRow.kept (row := some g) h ⟨rfl, rfl, rfl, by simp [World.setCell], fun k _ hne => Below.heap_setCell _ _ _ _ (fun e => hne (by rw [e]))⟩ (by
    cases hv : v.ownBlock with
    | none => exact Or.inl rfl
    | some k => exact Or.inr fun e => hg k hv (by cases e; rfl))
/-- What Make tells. -/
def Wk.makeL (l : List (Int × Int)) : List (Int × Int) := if Wk.Edges l then (if l.length ≤ 64 then Wk.fitL (Wk.jnd (Wk.wraps l)) else []) else []
def Wk.makeC (l : List (Int × Int)) : Int := if Wk.Edges l then (if l.length ≤ 64 then Wk.fitC (Wk.jnd (Wk.wraps l)) else 12) else 1
theorem Wk.wraps_take (l : List (Int × Int)) (k : Nat) (h : k < l.length) : Wk.wraps (l.take (k + 1)) = Wk.wraps (l.take k) ++ Wk.wrap l[k] := by
  unfold Wk.wraps
  rw [List.take_succ_eq_append_getElem h, List.flatMap_append, List.flatMap_singleton]
theorem Wk.wraps_take_len (l : List (Int × Int)) (k : Nat) (h : l.length ≤ 64) : (Wk.wraps (l.take k)).length ≤ 128 := by
  have := Wk.wraps_len (l.take k)
  have h2 : (l.take k).length ≤ 64 := by rw [List.length_take]; omega
  omega
theorem wk_make_any (l : List (Int × Int)) (p : Option Addr) (c : Nat) (w : World) (hA : Wk.At w p l) (hn : l.length ≤ 140737488351232) :
    Calls Try.prog 28 #[.slice p l.length c, .func (.func 26) #[] #[]] w fun e w' => e = .returned (.bool (!decide (Wk.Edges l))) ∧ Below w.heap.size w w' := by
  refine (wk_contains l p c 26 #[] (enters_of Try.func26 (by kernel_rfl) rfl) w (fun k => Wk.off (l.getD k (0, 0))) (Wk.Kept w) hn (fun k W hI => hA.below hI.1)
    (fun k hk W hI => by
      have := wk_make1 l[k].1 l[k].2 W
      rw [List.getD_eq_getElem?_getD, List.getElem?_eq_getElem hk]
      exact this.mono fun e w' ⟨h1, h3⟩ => ⟨h1, wk_then hI.1 h3 hI.1.size, rfl⟩) ⟨Below.refl _ _, rfl⟩).mono ?_
  rintro e w' (⟨k, h1, h3, rfl, h4⟩ | ⟨h1, rfl, h4⟩)
  · have hne : ¬ Wk.Edges l := fun h => by have := Wk.edges_iff.1 h k h1; simp only [] at h3; rw [this] at h3; cases h3
    exact ⟨by rw [decide_eq_false hne]; rfl, h4.1⟩
  · exact ⟨by rw [decide_eq_true (Wk.edges_iff.2 h1)]; rfl, h4.1⟩
set_option maxHeartbeats 4000000 in
theorem wk_Make (l : List (Int × Int)) (p : Option Addr) (c : Nat) (w : World) (hA : Wk.At w p l) (hn : l.length ≤ 140737488351232) :
    Calls Try.prog 8 #[.slice p l.length c] w (Wk.WeekPost (Wk.makeL l) (Wk.makeC l) w) := by
  have HC := Lib.hid (wk_make_any l p c w hA hn)
  unfold Wk.makeL Wk.makeC
  by_cases he : Wk.Edges l
  · rw [decide_eq_true he] at HC
    rw [if_pos he, if_pos he]
    by_cases h64 : l.length ≤ 64
    · rw [if_pos h64, if_pos h64]
      have hfit := Wk.fit_wraps he
      have hjl : (Wk.jnd (Wk.wraps l)).length ≤ 100000 := by
        have := (Wk.jnd_joined hfit).2.2
        have := Wk.wraps_len l
        omega
      have HJ := Lib.hid (fun w1 v base (hO : Wk.Own w1 base v (Wk.wraps l)) (hbb : base ≤ w1.heap.size) => wk_join_jnd (Wk.wraps l) w1 base v hO hbb (by have := Wk.wraps_len l; omega) hfit)
      have HF := Lib.hid (fun p c w1 (h : Wk.At w1 p (Wk.jnd (Wk.wraps l))) => wk_fit (Wk.jnd (Wk.wraps l)) p c w1 h hjl)
      have HL := Lib.hid (fun k => Wk.wraps_take_len l k h64)
      have HAll := Lib.hid (show Wk.wraps (l.take l.length) = Wk.wraps l by rw [List.take_length])
      have HA := Lib.hid hA
      generalize Wk.jnd (Wk.wraps l) = J at *
      clear he hfit hjl hA hn
      obtain ⟨n, hnl⟩ : ∃ n, n = l.length := ⟨_, rfl⟩
      have Hn := Lib.hid hnl
      rw [← hnl] at h64 HC HAll
      rw [← hnl]
      clear hnl
      go_enter Try.func8, Try.ntmps8
      go_wp2_with fail
      refine HC.out.mono ?_
      rintro e w1 ⟨rfl, hb⟩
      have B1 := Lib.hid hb
      clear hb
      go_wp2_with fail
      go_loopw [5, 18] (fun v i wr => ∃ k : Nat, k ≤ n ∧ i = .int .i64 k ∧ Wk.Own wr w.heap.size v (Wk.wraps (l.take k)) ∧ Below w.heap.size w wr) (fun _ i _ => n - (RowKit.intOf i).toNat)
      case atStart => exact ⟨0, Nat.zero_le _, rfl, Wk.Own.nil _ _, B1.out⟩
      case round =>
        obtain ⟨k, hk, rfl, hO, hBw⟩ := hrel
        have HO := Lib.hid hO
        have HBw := Lib.hid hBw
        have hz := hBw.size
        clear hO hBw
        by_cases hlt : k < n
        · have hkl : k < l.length := by rw [← Hn.out]; exact hlt
          obtain ⟨bl, off, rfl, e1, e2⟩ := (HA.out.below HBw.out).get k hkl
          have HS := Lib.hid (Wk.wraps_take l k hkl)
          obtain ⟨y, hy⟩ : ∃ y, y = l[k] := ⟨_, rfl⟩
          rw [← hy] at e1 e2 HS
          clear hy hkl
          obtain ⟨y1, y2⟩ := y
          simp only [] at e1 e2
          have hltz : (k : Int) < (n : Int) := by omega
          have BX := Lib.hid (wk_box wr (.cells #[.int .i64 y1, .int .i64 y2] 38))
          have X0 := Lib.hid (wk_new wr (.cells #[.int .i64 y1, .int .i64 y2] 38))
          have hlen := HL.out k
          by_cases hy : y2 < y1
          · have HW : Wk.wrap (y1, y2) = Wk.rg y1 10080 ++ Wk.rg 0 y2 := if_pos hy
            rw [HW] at HS
            have HS' := Lib.hid HS.out
            clear HW HS
            have W1 := Lib.hid (wk_with _ y1 10080 _ w.heap.size _ (HO.out.below BX.out) (by omega) (by rw [World.size_alloc]; omega))
            go_wp2_with fail
            refine W1.out.mono ?_
            rintro e w2 ⟨v2, rfl, hO2, hg2, hk2⟩
            have O2 := Lib.hid hO2
            have X2 := Lib.hid ((hg2.block wr.heap.size (by rw [World.size_alloc]; omega) (fun e => by have := (HO.out.lt wr.heap.size e.symm).2; omega)).trans X0.out)
            have B2 := Lib.hid (HBw.out.trans ((BX.out.mono hz).trans (wk_grown_below hg2 (HO.out.below BX.out) (by rw [World.size_alloc]; omega))))
            have G2 := Lib.hid (show ∀ g, v2.ownBlock = some g → g ≠ wr.heap.size from fun g hg => by
              rcases hk2 g hg with h | h
              · have := (HO.out.lt g h).2; omega
              · rw [World.size_alloc] at h; omega)
            clear hO2 hg2 hk2 e1 e2
            obtain ⟨c0, c1, f0, f1⟩ := Wk.two_of X2.out
            have hsw : wr.heap.size < w2.heap.size := World.block_lt_of_cell? w2 _ c0
            have X3 := Lib.hid (Wk.two_set X2.out (.int .i64 0))
            have O3 := Lib.hid (O2.out.other G2.out (.int .i64 0))
            have B3 := Lib.hid (B2.out.setCell (p := ⟨wr.heap.size, 0, none⟩) hz (.int .i64 0))
            have hs3 : (w2.setCell ⟨wr.heap.size, 0, none⟩ (.int .i64 0)).heap.size = w2.heap.size := by simp [World.setCell]
            have W2 := Lib.hid (wk_with _ 0 y2 _ w.heap.size _ O3.out (by rw [List.length_append]; have := Wk.rg_len y1 10080; omega) (by rw [hs3]; omega))
            clear hs3
            go_wp2_with fail
            refine W2.out.mono ?_
            rintro e w4 ⟨v4, rfl, hO4, hg4, hk4⟩
            have O4 := Lib.hid hO4
            have B4 := Lib.hid (B3.out.trans (wk_grown_below hg4 O3.out B3.out.size))
            clear hO4 hg4 hk4 c0 c1 f0 f1
            go_wp2_with fail
            exact ⟨⟨k + 1, by omega, by go_num, by rw [HS'.out, ← List.append_assoc]; exact O4.out, B4.out⟩, by simp [RowKit.intOf]; omega⟩
          · have HW : Wk.wrap (y1, y2) = Wk.rg y1 y2 := if_neg hy
            rw [HW] at HS
            have HS' := Lib.hid HS.out
            have hy2 : y1 ≤ y2 := by omega
            clear HW HS hy
            have W1 := Lib.hid (wk_with _ y1 y2 _ w.heap.size _ (HO.out.below BX.out) (by omega) (by rw [World.size_alloc]; omega))
            go_wp2_with fail
            refine W1.out.mono ?_
            rintro e w2 ⟨v2, rfl, hO2, hg2, hk2⟩
            have O2 := Lib.hid hO2
            have B2 := Lib.hid (HBw.out.trans ((BX.out.mono hz).trans (wk_grown_below hg2 (HO.out.below BX.out) (by rw [World.size_alloc]; omega))))
            clear hO2 hg2 hk2 e1 e2
            go_wp2_with fail
            exact ⟨⟨k + 1, by omega, by go_num, by rw [HS'.out]; exact O2.out, B2.out⟩, by simp [RowKit.intOf]; omega⟩
        · obtain rfl : k = n := by omega
          rw [HAll.out] at HO
          go_wp2_with fail
          refine (HJ.out _ _ _ HO.out hz).mono ?_
          rintro e w4 ⟨p4, c4, rfl, hA4, hB4⟩
          have A4 := Lib.hid hA4
          have B4 := Lib.hid (HBw.out.trans hB4)
          clear hA4 hB4
          go_wp2_with fail
          refine (HF.out _ _ _ A4.out).mono ?_
          rintro e w5 ⟨⟨p5, c5, rfl, hA5⟩, rfl⟩
          have A5 := Lib.hid hA5
          clear hA5
          go_wp2_with fail
          go_ret2
          exact ⟨p5, c5, rfl, A5.out, B4.out⟩
    · rw [if_neg h64, if_neg h64]
      have h65 : 64 < l.length := by omega
      clear he h64 hA
      generalize l.length = n at *
      have h65z : (64 : Int) < (n : Int) := by omega
      go_enter Try.func8, Try.ntmps8
      go_wp2_with fail
      refine HC.out.mono ?_
      rintro e w1 ⟨rfl, hb⟩
      go_wp2_with fail
      go_ret2
      exact ⟨none, 0, rfl, Wk.At.nil _ _, hb⟩
  · rw [decide_eq_false he] at HC
    rw [if_neg he, if_neg he]
    clear he hA
    generalize l.length = n at *
    go_enter Try.func8, Try.ntmps8
    go_wp2_with fail
    refine HC.out.mono ?_
    rintro e w1 ⟨rfl, hb⟩
    go_wp2_with fail
    go_ret2
    exact ⟨none, 0, rfl, Wk.At.nil _ _, hb⟩
end Go.Proofs.Ytmfbplemelodcaa
