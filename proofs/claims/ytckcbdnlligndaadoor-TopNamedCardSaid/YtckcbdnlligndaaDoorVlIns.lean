/-
  The walk of slices.Insert at values, one put in: within the row where there is room, or in a new row. Conditions: as the theorems state.
  The walk of slices.Insert at texts, one put in: within the row where there is room, or in a new row. Conditions: as the theorems state.
-/
import Derived.Test.YtckcbdnlligndaaDoorVlRows
import Derived.Shelf.Spec.SlicesInsertGrow
import Derived.Laws.CopyRow
namespace Go.Proofs.YtckcbdnlligndaaDoor
open Go.RowKit

theorem Vl.run_copy_row {P : Program} (w : World) (dT sT ty elem : TypeId) (g o dLen dCap : Nat) (a : Addr) (sLen sCap : Nat) (cur : Array Value) (t : TypeId) (cs : List Value) (size : Nat)
    (hu : P.underlying dT = some (.slice elem)) (hs : (P.info? elem).map (·.size) = some size)
    (hg : w.heap[g]? = some (.cells cur t (0, 0))) (hn : cs.length = Nat.min sLen dLen * size)
    (hsrc : ∀ j v, cs[j]? = some v → w.cell? (a.add j) = some v) (hfit : o + cs.length ≤ cur.size) (h1 : ∀ v ∈ cs, v.oneCell' = true) :
    (Builtin.copy_ #[dT, sT] ty #[.slice (some ⟨g, o, none⟩) dLen dCap, .slice (some a) sLen sCap]).run P w =
      .ok (goInt (Nat.min sLen dLen)) (w.setRow g (cur.toList.take o ++ cs ++ cur.toList.drop (o + cs.length)).toArray) := by
  have hl := run_loadCells_list (P := P) w a cs hsrc
  have hst := run_storeCells_at P g o t cs 0 cur w hg (by simpa using hfit) h1
  cases hq : P.info? elem with
  | none => simp [hq] at hs
  | some i =>
    have hi : i.size = size := by simpa [hq] using hs
    simp [Builtin.copy_, run_underlying hu, Builtin.lenOf, Builtin.firstCells, sizeOf, typeInfo, hq, hi, ← hn, hl, hst]
theorem Vl.setRow_other {w : World} {g k : Nat} (r : Array Value) (h : k ≠ g) : (w.setRow g r).heap[k]? = w.heap[k]? := by
  show (w.heap.modify g _)[k]? = _
  rw [Array.getElem?_modify, if_neg (fun e => h e.symm)]
theorem Vl.setRow_size (w : World) (g : Nat) (r : Array Value) : (w.setRow g r).heap.size = w.heap.size := by
  show (w.heap.modify g _).size = _
  simp
theorem Vl.setRow_grown (w : World) (g : Nat) (r : Array Value) : w.grownBy (w.setRow g r) (some g) := ⟨rfl, rfl, rfl, by rw [Vl.setRow_size]; exact Nat.le_refl _, fun k _ hne => Vl.setRow_other r (fun e => hne (by rw [e]))⟩
/-- What Insert hands back: a row with one more. -/
def Vl.InsPost (T : TypeId) (B size n : Nat) (v : Value) (xs : List Value) (w : World) (e : Ending) (w' : World) : Prop :=
  ∃ v', e = .returned v' ∧ w'.ownsRow B T size v' (n + 1) xs ∧ w.grownBy w' v.ownBlock ∧ (v'.ownBlock = v.ownBlock ∨ v'.ownBlock = some w.heap.size)
theorem Vl.sizeV : ∀ w, (Go.sizeOf 26).run Tryd.prog w = .ok 5 w := fun w => by
  obtain ⟨i0, hi, hz0, hz1, hz2⟩ := Vl.infoVal
  simp [Go.sizeOf, typeInfo, hi, hz1]
set_option maxHeartbeats 1000000 in
set_option maxRecDepth 100000 in
/-- There is room: in place. -/
theorem insV_shift (g n cap i vb vc : Nat) (cur : Array Value) (cs news : List Value) (w : World) (hi : i < n) (hroom : n + 1 ≤ cap) (hcap : cap ≤ 9223372036854775807) (hvb : vb ≠ g)
    (hg : w.heap[g]? = some (.cells cur 26 (0, 0))) (hsz : cur.size = cap * 5) (hcs : cur.toList.take (n * 5) = cs) (hv : w.heap[vb]? = some (.cells news.toArray 26 (0, 0))) (hnl : news.length = 5) (h1c : ∀ v ∈ cs, v.oneCell' = true) (h1v : ∀ v ∈ news, v.oneCell' = true) :
    Calls Tryd.prog 79 #[.slice (some ⟨g, 0, none⟩) n cap, .int .i64 i, .slice (some ⟨vb, 0, none⟩) 1 vc] w fun e w' => e = .returned (.slice (some ⟨g, 0, none⟩) (n + 1) cap) ∧
      ∃ R1 R2 : List Value, R1 = cur.toList.take ((i + 1) * 5) ++ cs.drop (i * 5) ++ cur.toList.drop ((i + 1) * 5 + (cs.drop (i * 5)).length) ∧ R2 = R1.take (i * 5) ++ news ++ R1.drop (i * 5 + 5) ∧ w' = (w.drew.setRow g R1.toArray).setRow g R2.toArray := by
  have hz2 : ¬ ((i : Int) = (n : Int)) := by omega
  obtain ⟨i0, hi0, hz0, hz1, hz3⟩ := Vl.infoVal
  have hsz1 : (Tryd.prog.info? 26).map (·.size) = some 5 := by rw [hi0]; simp [hz1]
  have hlen : cs.length = n * 5 := by rw [← hcs, List.length_take, Array.length_toList, hsz]; omega
  have hdl : (cs.drop (i * 5)).length = (n - i) * 5 := by rw [List.length_drop, hlen]; omega
  have hcell : ∀ j v, cs[j]? = some v → w.cell? ⟨g, j, none⟩ = some v := fun j v hj => by
    rw [Lib.cell_of_heap hg, ← Array.getElem?_toList]
    rw [← hcs] at hj
    obtain ⟨hjl, _⟩ := List.getElem?_eq_some_iff.1 hj
    rw [List.length_take] at hjl
    rwa [List.getElem?_take_of_lt (by omega)] at hj
  have hov : ∀ lb cb, (callFunc 114 #[.slice (some ⟨vb, 0, none⟩) 1 vc, .slice (some ⟨g, (i + 1) * 5, none⟩) lb cb]).run Tryd.prog w = .ok (.value (.bool false)) w := fun lb cb => by
    rw [run_callFunc_extern Tryd.func114 (by kernel_rfl) (by kernel_rfl) (by kernel_rfl) (e := Extern.SlicesOverlaps.overlaps #[23, 23] #[4]) (by kernel_rfl),
      Lib.run_overlaps_apart w 23 4 26 Tryd.underlying23 5 Vl.sizeV ⟨vb, 0, none⟩ ⟨g, (i + 1) * 5, none⟩ 1 vc lb cb hvb 26 26 news.toArray.size cur.size (by simp [World.shape?, hv]) (by simp [World.shape?, hg]) (by omega) (by simp [World.frozen?, hv]) (by simp [World.frozen?, hv])]
    rfl
  obtain ⟨R1, hR1⟩ : ∃ R1, R1 = cur.toList.take ((i + 1) * 5) ++ cs.drop (i * 5) ++ cur.toList.drop ((i + 1) * 5 + (cs.drop (i * 5)).length) := ⟨_, rfl⟩
  have hR1l : R1.length = cap * 5 := by
    rw [hR1]
    simp only [List.length_append, List.length_take, List.length_drop, Array.length_toList, hlen, hsz]
    omega
  have hcp1 : ∀ ty dc sc, (Builtin.copy_ #[23, 23] ty #[.slice (some ⟨g, (i + 1) * 5, none⟩) (n - i) dc, .slice (some ⟨g, i * 5, none⟩) (n + 1 - i) sc]).run Tryd.prog w.drew = .ok (goInt (Nat.min (n + 1 - i) (n - i))) (w.drew.setRow g R1.toArray) := fun ty dc sc => by
    rw [hR1]
    exact Vl.run_copy_row w.drew _ _ ty 26 g ((i + 1) * 5) (n - i) dc ⟨g, i * 5, none⟩ (n + 1 - i) sc cur _ (cs.drop (i * 5)) 5 Tryd.underlying23 hsz1 hg (by rw [hdl]; simp only [Nat.min_def]; split <;> omega)
      (fun j v hj => by rw [List.getElem?_drop] at hj; rw [Addr.add_lit]; exact hcell _ v hj) (by rw [hdl, hsz]; omega) (fun v hv => h1c v (List.mem_of_mem_drop hv))
  obtain ⟨R2, hR2⟩ : ∃ R2, R2 = R1.take (i * 5) ++ news ++ R1.drop (i * 5 + 5) := ⟨_, rfl⟩
  have hgl : g < w.heap.size := (Array.getElem?_eq_some_iff.1 hg).1
  have hg1 : (w.drew.setRow g R1.toArray).heap[g]? = some (.cells R1.toArray 26 (0, 0)) := setRow_heap w.drew g cur _ _ _ hg
  have hv1 : (w.drew.setRow g R1.toArray).heap[vb]? = some (.cells news.toArray 26 (0, 0)) := (Vl.setRow_other _ hvb).trans hv
  have hcp2 : ∀ ty dc, (Builtin.copy_ #[23, 23] ty #[.slice (some ⟨g, i * 5, none⟩) (n + 1 - i) dc, .slice (some ⟨vb, 0, none⟩) 1 vc]).run Tryd.prog (w.drew.setRow g R1.toArray) = .ok (goInt (Nat.min 1 (n + 1 - i))) ((w.drew.setRow g R1.toArray).setRow g R2.toArray) := fun ty dc => by
    rw [hR2]
    have h := Vl.run_copy_row (w.drew.setRow g R1.toArray) 23 23 ty 26 g (i * 5) (n + 1 - i) dc ⟨vb, 0, none⟩ 1 vc R1.toArray _ news 5 Tryd.underlying23 hsz1 hg1 (by rw [hnl]; simp only [Nat.min_def]; split <;> omega)
      (fun j v hj => by rw [Addr.add_lit, Nat.zero_add, Lib.cell_of_heap hv1]; simpa using hj) (by rw [hnl, List.size_toArray, hR1l]; omega) h1v
    rw [hnl] at h
    exact h
  have hw1 : IntKind.i64.wrap ((i : Int) + 1) = (i : Int) + 1 := by rw [IntKind.wrap_i64]; omega
  have hb1 : (0 : Int) ≤ (i : Int) + 1 := by omega
  have hin : i ≤ n := by omega
  have htn : ((i : Int) + 1).toNat = i + 1 := by omega
  have hb2 : ¬ (cap = i + 1) := by omega
  have hb3 : (i : Int) ≤ (n : Int) + 1 := by omega
  have hb4 : ¬ (cap = i) := by omega
  have mixed : Tryd.prog.follows Departure.mixedOrders = true := by kernel_rfl
  have HR1 := Lib.hid hR1
  have HR2 := Lib.hid hR2
  clear hR1 hR2 hR1l hg1 hv1 hcell hdl hlen hcs hsz hnl
  go_enter Tryd.func79, Tryd.ntmps79
  go_wp2_with (simp only [hov])
  go_region_law_o (refine step_copy_runI rfl _ _ 23 23 rfl _ _ (by simp [Act.eval, Act.put]) (by simp [Act.eval, Act.put]) (hcp1 _ _ _) ?_)
  go_wp2_with (at_builtin; refine wpList_copy_runI _ rfl _ _ 23 23 rfl _ _ rfl rfl (hcp2 _ _) ?_)
  go_ret
  exact ⟨rfl, R1, R2, HR1.out, HR2.out, rfl⟩
set_option maxHeartbeats 1000000 in
set_option maxRecDepth 100000 in
/-- There is no room: a new row. -/
theorem insV_grow (g n cap i vb vc : Nat) (cur : Array Value) (cs news : List Value) (w : World) (hi : i < n) (hnc : n ≤ cap) (hroom : cap < n + 1) (hn : n ≤ 100000) (hvg : vb < w.heap.size)
    (hg : w.heap[g]? = some (.cells cur 26 (0, 0))) (hsz : cur.size = cap * 5) (hcs : cur.toList.take (n * 5) = cs) (hv : w.heap[vb]? = some (.cells news.toArray 26 (0, 0))) (hnl : news.length = 5) (h1c : ∀ v ∈ cs, v.oneCell' = true) (h1v : ∀ v ∈ news, v.oneCell' = true) :
    Calls Tryd.prog 79 #[.slice (some ⟨g, 0, none⟩) n cap, .int .i64 i, .slice (some ⟨vb, 0, none⟩) 1 vc] w fun e w' => ∃ (G : Nat) (R : List Value), e = .returned (.slice (some ⟨w.heap.size, 0, none⟩) (n + 1) G) ∧ n + 1 ≤ G ∧ G ≤ maxLen ∧ R.length = G * 5 ∧
      R.take ((n + 1) * 5) = cs.take (i * 5) ++ news ++ cs.drop (i * 5) ∧ w'.heap[w.heap.size]? = some (.cells R.toArray 26 (0, 0)) ∧ w.grownBy w' none := by
  have hz1 : ¬ ((1 : Int) = 0) := by omega
  have hz2 : ¬ ((i : Int) = (n : Int)) := by omega
  have hz3 : (cap : Int) < (n : Int) + 1 := by omega
  obtain ⟨i0, hi0, hz0, hzs, hzb⟩ := Vl.infoVal
  have hsz1 : (Tryd.prog.info? 26).map (·.size) = some 5 := by rw [hi0]; simp [hzs]
  have hlen : cs.length = n * 5 := by rw [← hcs, List.length_take, Array.length_toList, hsz]; omega
  have hdl : (cs.drop (i * 5)).length = (n - i) * 5 := by rw [List.length_drop, hlen]; omega
  have hcell : ∀ j v, cs[j]? = some v → w.cell? ⟨g, j, none⟩ = some v := fun j v hj => by
    rw [Lib.cell_of_heap hg, ← Array.getElem?_toList]
    rw [← hcs] at hj
    obtain ⟨hjl, _⟩ := List.getElem?_eq_some_iff.1 hj
    rw [List.length_take] at hjl
    rwa [List.getElem?_take_of_lt (by omega)] at hj
  have hgw : g < w.heap.size := (Array.getElem?_eq_some_iff.1 hg).1
  have hkk : (n : Int) + 1 - (i : Int) = ((n + 1 - i : Nat) : Int) := by omega
  have hik : i + (n + 1 - i) = n + 1 := by omega
  have hold : (Builtin.firstCells i0.size i (.slice (some ⟨g, 0, none⟩) i cap)).run Tryd.prog w.drew = .ok (cs.take (i * 5)).toArray w.drew := by
    rw [hzs]
    exact run_firstCells_some w.drew 5 i ⟨g, 0, none⟩ i cap (cs.take (i * 5)) (by rw [List.length_take, hlen]; omega) (fun j v hj => by
      rw [Addr.add_lit, Nat.zero_add]
      rw [List.getElem?_take] at hj
      split at hj
      · exact hcell j v hj
      · cases hj)
  obtain ⟨z, hzz⟩ : ∃ z, i0.zero = some z := ⟨_, hz0⟩
  have hzc : z.cells.size = 5 := by rw [hz0] at hzz; cases hzz; rfl
  obtain ⟨G, hG⟩ : ∃ G, G = grownCap w (n + 1) cap 26 := ⟨_, rfl⟩
  obtain ⟨ROW, hROW⟩ : ∃ ROW : List Value, ROW = ((cs.take (i * 5)).toArray ++ Builtin.zeroCells z.cells (n + 1 - i) ++ Builtin.zeroCells z.cells (G - (n + 1))).toList := ⟨_, rfl⟩
  have hrz : ∀ ty, (Builtin.append_ #[23, 3] ty #[.slice (some ⟨g, 0, none⟩) i cap, .int .i64 ((n : Int) + 1 - (i : Int))]).run Tryd.prog w =
      .ok (.slice (some ⟨w.heap.size, 0, none⟩) (n + 1) G) (w.drew.alloc (.cells ROW.toArray 26)) := fun ty => by
    have h := Lib.run_append_grow_zeros w 23 3 ty 26 i0 z .i64 .i64 Tryd.underlying23 Tryd.underlying3 hi0 hzz (some ⟨g, 0, none⟩) i cap (cs.take (i * 5)) hold (n + 1 - i) (by omega) (by omega) (by omega) (by omega) (by rw [hzb]; omega) (by rw [hzb, hik]; exact growslice_fits hroom (by omega))
    rw [hik, ← hG] at h
    rw [hkk, hROW, Array.toArray_toList]
    exact h
  have hGn : n + 1 ≤ G := by rw [hG]; exact grownCap_ge w _ _ _
  have hGm : G ≤ maxLen := by rw [hG]; exact grownCap_le_maxLen w (n + 1) cap 26 (by unfold maxLen; omega)
  have hzl : ∀ k, (Builtin.zeroCells z.cells k).size = k * 5 := fun k => by simp [Builtin.zeroCells, hzc]
  have hRl : ROW.length = G * 5 := by
    rw [hROW, Array.length_toList, Array.size_append, Array.size_append, hzl, hzl, List.size_toArray, List.length_take, hlen]
    omega
  have hRt : ROW.take (i * 5) = cs.take (i * 5) := by
    rw [hROW, Array.toList_append, Array.toList_append, List.append_assoc]
    exact List.take_left' (by rw [List.length_take, hlen]; omega)
  obtain ⟨R1, hR1⟩ : ∃ R1, R1 = ROW.take (i * 5) ++ news ++ ROW.drop (i * 5 + 5) := ⟨_, rfl⟩
  have hR1l : R1.length = G * 5 := by
    rw [hR1]
    simp only [List.length_append, List.length_take, List.length_drop, hRl, hnl]
    omega
  have hcpA : ∀ (W : World), W.heap = (w.alloc (.cells ROW.toArray 26)).heap → ∀ ty dc, (Builtin.copy_ #[23, 23] ty #[.slice (some ⟨w.heap.size, i * 5, none⟩) (n + 1 - i) dc, .slice (some ⟨vb, 0, none⟩) 1 vc]).run Tryd.prog W = .ok (goInt (Nat.min 1 (n + 1 - i))) (W.setRow w.heap.size R1.toArray) := fun W hW ty dc => by
    rw [hR1]
    have h := Vl.run_copy_row W 23 23 ty 26 w.heap.size (i * 5) (n + 1 - i) dc ⟨vb, 0, none⟩ 1 vc ROW.toArray 26 news 5 Tryd.underlying23 hsz1 (by rw [hW]; exact Vl.new w _) (by rw [hnl]; simp only [Nat.min_def]; split <;> omega)
      (fun j v hj => by rw [Addr.add_lit, Nat.zero_add, Lib.cell_of_heap (show W.heap[vb]? = _ by rw [hW]; exact (Vl.past w _ vb hvg).trans hv)]; simpa using hj) (by rw [hnl, List.size_toArray, hRl]; omega) h1v
    rw [hnl] at h
    exact h
  obtain ⟨R2, hR2⟩ : ∃ R2, R2 = R1.take ((i + 1) * 5) ++ cs.drop (i * 5) ++ R1.drop ((i + 1) * 5 + (cs.drop (i * 5)).length) := ⟨_, rfl⟩
  have hcpB : ∀ (W : World), W.heap = ((w.alloc (.cells ROW.toArray 26)).setRow w.heap.size R1.toArray).heap → ∀ ty dc sc, (Builtin.copy_ #[23, 23] ty #[.slice (some ⟨w.heap.size, (i + 1) * 5, none⟩) (n - i) dc, .slice (some ⟨g, i * 5, none⟩) (n - i) sc]).run Tryd.prog W = .ok (goInt (Nat.min (n - i) (n - i))) (W.setRow w.heap.size R2.toArray) := fun W hW ty dc sc => by
    rw [hR2]
    exact Vl.run_copy_row W _ _ ty 26 w.heap.size ((i + 1) * 5) (n - i) dc ⟨g, i * 5, none⟩ (n - i) sc R1.toArray 26 (cs.drop (i * 5)) 5 Tryd.underlying23 hsz1 (by rw [hW]; exact setRow_heap _ _ ROW.toArray _ _ _ (Vl.new w _)) (by rw [hdl, show Nat.min (n - i) (n - i) = n - i from Nat.min_self _])
      (fun j v hj => by
        rw [List.getElem?_drop] at hj
        rw [Addr.add_lit, World.cell?_of_block (w := w) (a := ⟨g, _, none⟩) (show W.heap[g]? = w.heap[g]? by rw [hW]; exact (Vl.setRow_other _ (by omega)).trans (Vl.past w _ g hgw))]
        exact hcell _ v hj) (by rw [hdl, List.size_toArray, hR1l]; omega) (fun v hv => h1c v (List.mem_of_mem_drop hv))
  have hfin : R2.length = G * 5 ∧ R2.take ((n + 1) * 5) = cs.take (i * 5) ++ news ++ cs.drop (i * 5) := by
    refine ⟨?_, ?_⟩
    · rw [hR2]
      simp only [List.length_append, List.length_take, List.length_drop, hR1l, hlen]
      omega
    · have e1 : R1.take ((i + 1) * 5) = cs.take (i * 5) ++ news := by
        rw [hR1, hRt]
        exact List.take_left' (by rw [List.length_append, List.length_take, hlen, hnl]; omega)
      rw [hR2, e1]
      exact List.take_left' (by rw [List.length_append, List.length_append, List.length_take, hlen, hnl, hdl]; omega)
  have hGi : ¬ (G = i) := by omega
  have hGim : ¬ (G = i + 1) := by omega
  have hci : ¬ (cap = i) := by omega
  have hw1 : IntKind.i64.wrap ((i : Int) + 1) = (i : Int) + 1 := by rw [IntKind.wrap_i64]; omega
  have hb1 : (0 : Int) ≤ (i : Int) + 1 := by omega
  have hin : i ≤ n := by omega
  have htn : ((i : Int) + 1).toNat = i + 1 := by omega
  have hb3 : (i : Int) ≤ (n : Int) := by omega
  have hG63 : G ≤ 9223372036854775807 := by unfold maxLen at hGm; omega
  have mixed : Tryd.prog.follows Departure.mixedOrders = true := by kernel_rfl
  have HF := Lib.hid hfin
  have HGm := Lib.hid hGm
  clear hkk hik hold hROW hG hRl hRt hR1 hR2 hR1l hfin hlen hdl hcell hzl hcs hsz hnl hGm hzc hzz
  have Hend := Lib.hid (fun (W : World) (h : W.heap = ((w.alloc (.cells ROW.toArray 26)).setRow w.heap.size R1.toArray).heap) (h1 : W.os = w.os) (h2 : W.tape = w.tape) (h3 : W.output = w.output) =>
    (⟨setRow_heap W w.heap.size R1.toArray _ _ _ (by rw [h]; exact setRow_heap _ _ ROW.toArray _ _ _ (Vl.new w _)), ⟨h1, h2, h3, by rw [Vl.setRow_size, h, Vl.setRow_size]; simp, fun k hk _ => (Vl.setRow_other _ (by omega)).trans (by rw [h]; exact (Vl.setRow_other _ (by omega)).trans (Vl.past w _ k hk))⟩⟩ : (W.setRow w.heap.size R2.toArray).heap[w.heap.size]? = some (.cells R2.toArray 26 (0, 0)) ∧ w.grownBy (W.setRow w.heap.size R2.toArray) none))
  go_enter Tryd.func79, Tryd.ntmps79
  go_upto_region 10 with (at_builtin; refine Lib.wpList_append_run _ rfl _ _ _ _ rfl _ _ rfl rfl _ _ (hrz _) ?_)
  go_wp2_with (with_reducible refine wpList_copy_runI _ rfl _ _ 23 23 rfl _ _ rfl rfl (hcpA ((w.alloc (.cells ROW.toArray 26)).drew) rfl _ _) ?_)
  go_region_law_o (refine step_copy_runI rfl _ _ 23 23 rfl (.slice (some ⟨w.heap.size, (i + 1) * 5, none⟩) (n - i) (G - (i + 1))) (.slice (some ⟨g, i * 5, none⟩) (n - i) (cap - i)) (by simp [Act.eval, Act.put]) (by simp [Act.eval, Act.put]) (hcpB (((w.alloc (.cells ROW.toArray 26)).drew.setRow w.heap.size R1.toArray).drew) rfl 3 (G - (i + 1)) (cap - i)) ?_)
  go_wp2_with fail
  go_ret
  exact ⟨G, R2, rfl, hGn, HGm.out, HF.out.1, HF.out.2, (Hend.out (((w.alloc (.cells ROW.toArray 26)).drew.setRow w.heap.size R1.toArray).drew) rfl rfl rfl rfl).1, (Hend.out (((w.alloc (.cells ROW.toArray 26)).drew.setRow w.heap.size R1.toArray).drew) rfl rfl rfl rfl).2⟩
set_option maxHeartbeats 1000000 in
set_option maxRecDepth 100000 in
/-- At the end. -/
theorem insV_end (B n vb vc : Nat) (v : Value) (cs news : List Value) (w : World) (hown : w.ownsRow B 26 5 v n cs) (hB : B ≤ w.heap.size) (hn : n ≤ 100000) (hv : w.heap[vb]? = some (.cells news.toArray 26 (0, 0))) (hnl : news.length = 5) (h1v : ∀ v ∈ news, v.oneCell' = true) :
    Calls Tryd.prog 79 #[v, .int .i64 n, .slice (some ⟨vb, 0, none⟩) 1 vc] w (Vl.InsPost 26 B 5 n v (cs ++ news) w) := by
  obtain ⟨i0, hi0, hz0, hz1, hz2⟩ := Vl.infoVal
  have hnew : ∀ j u, news[j]? = some u → w.cell? ((⟨vb, 0, none⟩ : Addr).add j) = some u := fun j u hj => by rw [Addr.add_lit, Nat.zero_add, Lib.cell_of_heap hv]; simpa using hj
  obtain ⟨p, c, rfl, hnc⟩ : ∃ p c, v = .slice p n c ∧ n ≤ c := by
    rcases hown.2 with ⟨rfl, rfl⟩ | ⟨g, cap, cur, rfl, _, _, h, _⟩
    · exact ⟨none, 0, rfl, Nat.le_refl _⟩
    · exact ⟨_, _, rfl, h⟩
  have HO := Lib.hid hown
  have hz3 : ¬ ((1 : Int) = 0) := by omega
  clear hown
  by_cases hcn : c = n
  · have hcn2 : n = c := hcn.symm
    clear hcn
    subst hcn2
    go_enter Tryd.func79, Tryd.ntmps79
    go_wp2_with (at_builtin; refine Vl.listApp _ rfl _ _ 23 rfl B 26 i0 _ 5 80 Tryd.underlying23 hi0 hz0 hz1 hz2 rfl (by decide) _ n _ rfl HO.out ⟨vb, 0, none⟩ 1 vc news rfl (by rw [hnl]) hnew h1v (by unfold maxLen; omega) (by omega) hB ?_)
    intro v' w2 hown hgrow hat
    have H1 := Lib.hid hown
    have H2 := Lib.hid hgrow
    have H3 := Lib.hid hat
    clear hown hgrow hat
    go_wp2_with fail
    go_ret
    exact ⟨v', rfl, H1.out, H2.out, H3.out⟩
  · go_enter Tryd.func79, Tryd.ntmps79
    go_wp2_with (at_builtin; refine Vl.listApp _ rfl _ _ 23 rfl B 26 i0 _ 5 80 Tryd.underlying23 hi0 hz0 hz1 hz2 rfl (by decide) _ n _ rfl HO.out ⟨vb, 0, none⟩ 1 vc news rfl (by rw [hnl]) hnew h1v (by unfold maxLen; omega) (by omega) hB ?_)
    intro v' w2 hown hgrow hat
    have H1 := Lib.hid hown
    have H2 := Lib.hid hgrow
    have H3 := Lib.hid hat
    clear hown hgrow hat
    go_wp2_with fail
    go_ret
    exact ⟨v', rfl, H1.out, H2.out, H3.out⟩
/-- Anywhere. -/
theorem insV_any (B n i vb vc : Nat) (v : Value) (cs news : List Value) (w : World) (hown : w.ownsRow B 26 5 v n cs) (hB : B ≤ w.heap.size) (hi : i ≤ n) (hn : n ≤ 100000) (hv : w.heap[vb]? = some (.cells news.toArray 26 (0, 0))) (hvb : v.ownBlock ≠ some vb) (hnl : news.length = 5) (h1c : ∀ v ∈ cs, v.oneCell' = true) (h1v : ∀ v ∈ news, v.oneCell' = true) :
    Calls Tryd.prog 79 #[v, .int .i64 i, .slice (some ⟨vb, 0, none⟩) 1 vc] w (Vl.InsPost 26 B 5 n v (cs.take (i * 5) ++ news ++ cs.drop (i * 5)) w) := by
  have hlen := hown.1
  by_cases he : i = n
  · subst he
    rw [List.take_of_length_le (by omega), List.drop_eq_nil_of_le (by omega), List.append_nil]
    exact insV_end B i vb vc v cs news w hown hB hn hv hnl h1v
  · rcases hown.2 with ⟨rfl, rfl⟩ | ⟨g, cap, cur, rfl, hg0, hg, hnc, hm, hsz, ht⟩
    · omega
    · have hgl := (Array.getElem?_eq_some_iff.1 hg).1
      have hvl := (Array.getElem?_eq_some_iff.1 hv).1
      have hne : vb ≠ g := fun e => hvb (by rw [e]; rfl)
      have hm' : cap ≤ 9223372036854775807 := by unfold maxLen at hm; omega
      have hsz2 := hsz; have ht2 := ht
      have hlen2 : cs.length = n * 5 := by rw [hlen]
      by_cases hr : n + 1 ≤ cap
      · refine (insV_shift g n cap i vb vc cur cs news w (by omega) hr hm' hne hg hsz2 ht2 hv hnl h1c h1v).mono ?_
        rintro e w' ⟨rfl, R1, R2, h1, h2, rfl⟩
        have hdl : (cs.drop (i * 5)).length = (n - i) * 5 := by rw [List.length_drop, hlen2]; omega
        have hR1l : R1.length = cap * 5 := by
          rw [h1]
          simp only [List.length_append, List.length_take, List.length_drop, Array.length_toList, hlen2, hsz2]
          omega
        have hR2l : R2.length = cap * 5 := by
          rw [h2]
          simp only [List.length_append, List.length_take, List.length_drop, hR1l, hnl]
          omega
        have e0 : (cur.toList.take ((i + 1) * 5)).length = i * 5 + 5 := by rw [List.length_take, Array.length_toList, hsz2]; omega
        have e1 : R1.take (i * 5) = cs.take (i * 5) := by
          rw [h1, List.append_assoc, List.take_append_of_le_length (by rw [e0]; omega), List.take_take, ← ht2, List.take_take]
          congr 1
          omega
        have e2 : R1.drop (i * 5 + 5) = cs.drop (i * 5) ++ cur.toList.drop ((i + 1) * 5 + (cs.drop (i * 5)).length) := by
          rw [h1, List.append_assoc]
          exact List.drop_left' e0
        have e3 : R2.take ((n + 1) * 5) = cs.take (i * 5) ++ news ++ cs.drop (i * 5) := by
          rw [h2, e1, e2, ← List.append_assoc]
          exact List.take_left' (by rw [List.length_append, List.length_append, List.length_take, hlen2, hnl, hdl]; omega)
        refine ⟨_, rfl, ⟨?_, Or.inr ⟨g, cap, R2.toArray, rfl, hg0, setRow_heap _ g R1.toArray _ _ _ (setRow_heap w.drew g cur _ _ _ hg), hr, hm, ?_, ?_⟩⟩, ?_, Or.inl rfl⟩
        · rw [List.length_append, List.length_append, List.length_take, hlen2, hnl, hdl]; omega
        · rw [List.size_toArray, hR2l]
        · exact e3
        · show w.grownBy _ (some g)
          exact grownBy_trans (grownBy_trans (b := w.drew) ⟨rfl, rfl, rfl, Nat.le_refl _, fun _ _ _ => rfl⟩ (Vl.setRow_grown w.drew g R1.toArray)) (Vl.setRow_grown _ g R2.toArray)
      · refine (insV_grow g n cap i vb vc cur cs news w (by omega) hnc (by omega) hn hvl hg hsz2 ht2 hv hnl h1c h1v).mono ?_
        rintro e w' ⟨G, R, rfl, k1, k2, k3, k4, k5, k6⟩
        refine ⟨_, rfl, ⟨?_, Or.inr ⟨w.heap.size, G, R.toArray, rfl, hB, k5, k1, k2, ?_, ?_⟩⟩, ⟨k6.os, k6.tape, k6.output, k6.size, fun k hk _ => k6.block k hk (by simp)⟩, Or.inr rfl⟩
        · rw [List.length_append, List.length_append, List.length_take, List.length_drop, hlen2, hnl]; omega
        · rw [List.size_toArray, k3]
        · exact k4
end Go.Proofs.YtckcbdnlligndaaDoor
namespace Go.Proofs.YtckcbdnlligndaaDoor
open Go.RowKit

theorem Vl.sizeS : ∀ w, (Go.sizeOf 9).run Tryd.prog w = .ok 1 w := fun w => by
  obtain ⟨i0, hi, hz0, hz1, hz2⟩ := Vl.infoText
  simp [Go.sizeOf, typeInfo, hi, hz1]
set_option maxHeartbeats 1000000 in
set_option maxRecDepth 100000 in
/-- There is room: in place. -/
theorem insS_shift (g n cap i vb vc : Nat) (cur : Array Value) (cs news : List Value) (w : World) (hi : i < n) (hroom : n + 1 ≤ cap) (hcap : cap ≤ 9223372036854775807) (hvb : vb ≠ g)
    (hg : w.heap[g]? = some (.cells cur 9 (0, 0))) (hsz : cur.size = cap) (hcs : cur.toList.take n = cs) (hv : w.heap[vb]? = some (.cells news.toArray 9 (0, 0))) (hnl : news.length = 1) (h1c : ∀ v ∈ cs, v.oneCell' = true) (h1v : ∀ v ∈ news, v.oneCell' = true) :
    Calls Tryd.prog 78 #[.slice (some ⟨g, 0, none⟩) n cap, .int .i64 i, .slice (some ⟨vb, 0, none⟩) 1 vc] w fun e w' => e = .returned (.slice (some ⟨g, 0, none⟩) (n + 1) cap) ∧
      ∃ R1 R2 : List Value, R1 = cur.toList.take (i + 1) ++ cs.drop i ++ cur.toList.drop (i + 1 + (cs.drop i).length) ∧ R2 = R1.take i ++ news ++ R1.drop (i + 1) ∧ w' = (w.drew.setRow g R1.toArray).setRow g R2.toArray := by
  have hz2 : ¬ ((i : Int) = (n : Int)) := by omega
  obtain ⟨i0, hi0, hz0, hz1, hz3⟩ := Vl.infoText
  have hsz1 : (Tryd.prog.info? 9).map (·.size) = some 1 := by rw [hi0]; simp [hz1]
  have hlen : cs.length = n := by rw [← hcs, List.length_take, Array.length_toList, hsz]; omega
  have hdl : (cs.drop i).length = n - i := by rw [List.length_drop, hlen]
  have hcell : ∀ j v, cs[j]? = some v → w.cell? ⟨g, j, none⟩ = some v := fun j v hj => by
    rw [Lib.cell_of_heap hg, ← Array.getElem?_toList]
    rw [← hcs] at hj
    obtain ⟨hjl, _⟩ := List.getElem?_eq_some_iff.1 hj
    rw [List.length_take] at hjl
    rwa [List.getElem?_take_of_lt (by omega)] at hj
  have hov : ∀ lb cb, (callFunc 112 #[.slice (some ⟨vb, 0, none⟩) 1 vc, .slice (some ⟨g, i + 1, none⟩) lb cb]).run Tryd.prog w = .ok (.value (.bool false)) w := fun lb cb => by
    rw [run_callFunc_extern Tryd.func112 (by kernel_rfl) (by kernel_rfl) (by kernel_rfl) (e := Extern.SlicesOverlaps.overlaps #[24, 24] #[4]) (by kernel_rfl),
      Lib.run_overlaps_apart w 24 4 9 Tryd.underlying24 1 Vl.sizeS ⟨vb, 0, none⟩ ⟨g, i + 1, none⟩ 1 vc lb cb hvb 9 9 news.toArray.size cur.size (by simp [World.shape?, hv]) (by simp [World.shape?, hg]) (by omega) (by simp [World.frozen?, hv]) (by simp [World.frozen?, hv])]
    rfl
  obtain ⟨R1, hR1⟩ : ∃ R1, R1 = cur.toList.take (i + 1) ++ cs.drop i ++ cur.toList.drop (i + 1 + (cs.drop i).length) := ⟨_, rfl⟩
  have hR1l : R1.length = cap := by
    rw [hR1]
    simp only [List.length_append, List.length_take, List.length_drop, Array.length_toList, hlen, hsz]
    omega
  have hcp1 : ∀ ty dc sc, (Builtin.copy_ #[24, 24] ty #[.slice (some ⟨g, i + 1, none⟩) (n - i) dc, .slice (some ⟨g, i, none⟩) (n + 1 - i) sc]).run Tryd.prog w.drew = .ok (goInt (Nat.min (n + 1 - i) (n - i))) (w.drew.setRow g R1.toArray) := fun ty dc sc => by
    rw [hR1]
    exact Vl.run_copy_row w.drew _ _ ty 9 g (i + 1) (n - i) dc ⟨g, i, none⟩ (n + 1 - i) sc cur _ (cs.drop i) 1 Tryd.underlying24 hsz1 hg (by rw [hdl]; simp only [Nat.min_def]; split <;> omega)
      (fun j v hj => by rw [List.getElem?_drop] at hj; rw [Addr.add_lit]; exact hcell _ v hj) (by rw [hdl, hsz]; omega) (fun v hv => h1c v (List.mem_of_mem_drop hv))
  obtain ⟨R2, hR2⟩ : ∃ R2, R2 = R1.take i ++ news ++ R1.drop (i + 1) := ⟨_, rfl⟩
  have hgl : g < w.heap.size := (Array.getElem?_eq_some_iff.1 hg).1
  have hg1 : (w.drew.setRow g R1.toArray).heap[g]? = some (.cells R1.toArray 9 (0, 0)) := setRow_heap w.drew g cur _ _ _ hg
  have hv1 : (w.drew.setRow g R1.toArray).heap[vb]? = some (.cells news.toArray 9 (0, 0)) := (Vl.setRow_other _ hvb).trans hv
  have hcp2 : ∀ ty dc, (Builtin.copy_ #[24, 24] ty #[.slice (some ⟨g, i, none⟩) (n + 1 - i) dc, .slice (some ⟨vb, 0, none⟩) 1 vc]).run Tryd.prog (w.drew.setRow g R1.toArray) = .ok (goInt (Nat.min 1 (n + 1 - i))) ((w.drew.setRow g R1.toArray).setRow g R2.toArray) := fun ty dc => by
    rw [hR2]
    have h := Vl.run_copy_row (w.drew.setRow g R1.toArray) 24 24 ty 9 g i (n + 1 - i) dc ⟨vb, 0, none⟩ 1 vc R1.toArray _ news 1 Tryd.underlying24 hsz1 hg1 (by rw [hnl]; simp only [Nat.min_def]; split <;> omega)
      (fun j v hj => by rw [Addr.add_lit, Nat.zero_add, Lib.cell_of_heap hv1]; simpa using hj) (by rw [hnl, List.size_toArray, hR1l]; omega) h1v
    rw [hnl] at h
    exact h
  have hw1 : IntKind.i64.wrap ((i : Int) + 1) = (i : Int) + 1 := by rw [IntKind.wrap_i64]; omega
  have hb1 : (0 : Int) ≤ (i : Int) + 1 := by omega
  have hin : i ≤ n := by omega
  have htn : ((i : Int) + 1).toNat = i + 1 := by omega
  have hb2 : ¬ (cap = i + 1) := by omega
  have hb3 : (i : Int) ≤ (n : Int) + 1 := by omega
  have hb4 : ¬ (cap = i) := by omega
  have mixed : Tryd.prog.follows Departure.mixedOrders = true := by kernel_rfl
  have HR1 := Lib.hid hR1
  have HR2 := Lib.hid hR2
  clear hR1 hR2 hR1l hg1 hv1 hcell hdl hlen hcs hsz hnl
  go_enter Tryd.func78, Tryd.ntmps78
  go_wp2_with (simp only [hov])
  go_region_law_o (refine step_copy_runI rfl _ _ 24 24 rfl _ _ (by simp [Act.eval, Act.put]) (by simp [Act.eval, Act.put]) (hcp1 _ _ _) ?_)
  go_wp2_with (at_builtin; refine wpList_copy_runI _ rfl _ _ 24 24 rfl _ _ rfl rfl (hcp2 _ _) ?_)
  go_ret
  exact ⟨rfl, R1, R2, HR1.out, HR2.out, rfl⟩
set_option maxHeartbeats 1000000 in
set_option maxRecDepth 100000 in
/-- There is no room: a new row. -/
theorem insS_grow (g n cap i vb vc : Nat) (cur : Array Value) (cs news : List Value) (w : World) (hi : i < n) (hnc : n ≤ cap) (hroom : cap < n + 1) (hn : n ≤ 100000) (hvg : vb < w.heap.size)
    (hg : w.heap[g]? = some (.cells cur 9 (0, 0))) (hsz : cur.size = cap) (hcs : cur.toList.take n = cs) (hv : w.heap[vb]? = some (.cells news.toArray 9 (0, 0))) (hnl : news.length = 1) (h1c : ∀ v ∈ cs, v.oneCell' = true) (h1v : ∀ v ∈ news, v.oneCell' = true) :
    Calls Tryd.prog 78 #[.slice (some ⟨g, 0, none⟩) n cap, .int .i64 i, .slice (some ⟨vb, 0, none⟩) 1 vc] w fun e w' => ∃ (G : Nat) (R : List Value), e = .returned (.slice (some ⟨w.heap.size, 0, none⟩) (n + 1) G) ∧ n + 1 ≤ G ∧ G ≤ maxLen ∧ R.length = G ∧
      R.take (n + 1) = cs.take i ++ news ++ cs.drop i ∧ w'.heap[w.heap.size]? = some (.cells R.toArray 9 (0, 0)) ∧ w.grownBy w' none := by
  have hz1 : ¬ ((1 : Int) = 0) := by omega
  have hz2 : ¬ ((i : Int) = (n : Int)) := by omega
  have hz3 : (cap : Int) < (n : Int) + 1 := by omega
  obtain ⟨i0, hi0, hz0, hzs, hzb⟩ := Vl.infoText
  have hsz1 : (Tryd.prog.info? 9).map (·.size) = some 1 := by rw [hi0]; simp [hzs]
  have hlen : cs.length = n := by rw [← hcs, List.length_take, Array.length_toList, hsz]; omega
  have hdl : (cs.drop i).length = n - i := by rw [List.length_drop, hlen]
  have hcell : ∀ j v, cs[j]? = some v → w.cell? ⟨g, j, none⟩ = some v := fun j v hj => by
    rw [Lib.cell_of_heap hg, ← Array.getElem?_toList]
    rw [← hcs] at hj
    obtain ⟨hjl, _⟩ := List.getElem?_eq_some_iff.1 hj
    rw [List.length_take] at hjl
    rwa [List.getElem?_take_of_lt (by omega)] at hj
  have hgw : g < w.heap.size := (Array.getElem?_eq_some_iff.1 hg).1
  have hkk : (n : Int) + 1 - (i : Int) = ((n + 1 - i : Nat) : Int) := by omega
  have hik : i + (n + 1 - i) = n + 1 := by omega
  have hold : (Builtin.firstCells i0.size i (.slice (some ⟨g, 0, none⟩) i cap)).run Tryd.prog w.drew = .ok (cs.take i).toArray w.drew := by
    rw [hzs]
    exact run_firstCells_some w.drew 1 i ⟨g, 0, none⟩ i cap (cs.take i) (by rw [List.length_take, hlen]; omega) (fun j v hj => by
      rw [Addr.add_lit, Nat.zero_add]
      rw [List.getElem?_take] at hj
      split at hj
      · exact hcell j v hj
      · cases hj)
  obtain ⟨z, hzz⟩ : ∃ z, i0.zero = some z := ⟨_, hz0⟩
  have hzc : z.cells.size = 1 := by rw [hz0] at hzz; cases hzz; rfl
  obtain ⟨G, hG⟩ : ∃ G, G = grownCap w (n + 1) cap 9 := ⟨_, rfl⟩
  obtain ⟨ROW, hROW⟩ : ∃ ROW : List Value, ROW = ((cs.take i).toArray ++ Builtin.zeroCells z.cells (n + 1 - i) ++ Builtin.zeroCells z.cells (G - (n + 1))).toList := ⟨_, rfl⟩
  have hrz : ∀ ty, (Builtin.append_ #[24, 3] ty #[.slice (some ⟨g, 0, none⟩) i cap, .int .i64 ((n : Int) + 1 - (i : Int))]).run Tryd.prog w =
      .ok (.slice (some ⟨w.heap.size, 0, none⟩) (n + 1) G) (w.drew.alloc (.cells ROW.toArray 9)) := fun ty => by
    have h := Lib.run_append_grow_zeros w 24 3 ty 9 i0 z .i64 .i64 Tryd.underlying24 Tryd.underlying3 hi0 hzz (some ⟨g, 0, none⟩) i cap (cs.take i) hold (n + 1 - i) (by omega) (by omega) (by omega) (by omega) (by rw [hzb]; omega) (by rw [hzb, hik]; exact growslice_fits hroom (by omega))
    rw [hik, ← hG] at h
    rw [hkk, hROW, Array.toArray_toList]
    exact h
  have hGn : n + 1 ≤ G := by rw [hG]; exact grownCap_ge w _ _ _
  have hGm : G ≤ maxLen := by rw [hG]; exact grownCap_le_maxLen w (n + 1) cap 9 (by unfold maxLen; omega)
  have hzl : ∀ k, (Builtin.zeroCells z.cells k).size = k := fun k => by simp [Builtin.zeroCells, hzc]
  have hRl : ROW.length = G := by
    rw [hROW, Array.length_toList, Array.size_append, Array.size_append, hzl, hzl, List.size_toArray, List.length_take, hlen]
    omega
  have hRt : ROW.take i = cs.take i := by
    rw [hROW, Array.toList_append, Array.toList_append, List.append_assoc]
    exact List.take_left' (by rw [List.length_take, hlen]; omega)
  obtain ⟨R1, hR1⟩ : ∃ R1, R1 = ROW.take i ++ news ++ ROW.drop (i + 1) := ⟨_, rfl⟩
  have hR1l : R1.length = G := by
    rw [hR1]
    simp only [List.length_append, List.length_take, List.length_drop, hRl, hnl]
    omega
  have hcpA : ∀ (W : World), W.heap = (w.alloc (.cells ROW.toArray 9)).heap → ∀ ty dc, (Builtin.copy_ #[24, 24] ty #[.slice (some ⟨w.heap.size, i, none⟩) (n + 1 - i) dc, .slice (some ⟨vb, 0, none⟩) 1 vc]).run Tryd.prog W = .ok (goInt (Nat.min 1 (n + 1 - i))) (W.setRow w.heap.size R1.toArray) := fun W hW ty dc => by
    rw [hR1]
    have h := Vl.run_copy_row W 24 24 ty 9 w.heap.size i (n + 1 - i) dc ⟨vb, 0, none⟩ 1 vc ROW.toArray 9 news 1 Tryd.underlying24 hsz1 (by rw [hW]; exact Vl.new w _) (by rw [hnl]; simp only [Nat.min_def]; split <;> omega)
      (fun j v hj => by rw [Addr.add_lit, Nat.zero_add, Lib.cell_of_heap (show W.heap[vb]? = _ by rw [hW]; exact (Vl.past w _ vb hvg).trans hv)]; simpa using hj) (by rw [hnl, List.size_toArray, hRl]; omega) h1v
    rw [hnl] at h
    exact h
  obtain ⟨R2, hR2⟩ : ∃ R2, R2 = R1.take (i + 1) ++ cs.drop i ++ R1.drop (i + 1 + (cs.drop i).length) := ⟨_, rfl⟩
  have hcpB : ∀ (W : World), W.heap = ((w.alloc (.cells ROW.toArray 9)).setRow w.heap.size R1.toArray).heap → ∀ ty dc sc, (Builtin.copy_ #[24, 24] ty #[.slice (some ⟨w.heap.size, i + 1, none⟩) (n - i) dc, .slice (some ⟨g, i, none⟩) (n - i) sc]).run Tryd.prog W = .ok (goInt (Nat.min (n - i) (n - i))) (W.setRow w.heap.size R2.toArray) := fun W hW ty dc sc => by
    rw [hR2]
    exact Vl.run_copy_row W _ _ ty 9 w.heap.size (i + 1) (n - i) dc ⟨g, i, none⟩ (n - i) sc R1.toArray 9 (cs.drop i) 1 Tryd.underlying24 hsz1 (by rw [hW]; exact setRow_heap _ _ ROW.toArray _ _ _ (Vl.new w _)) (by rw [hdl, show Nat.min (n - i) (n - i) = n - i from Nat.min_self _]; exact (Nat.mul_one _).symm)
      (fun j v hj => by
        rw [List.getElem?_drop] at hj
        rw [Addr.add_lit, World.cell?_of_block (w := w) (a := ⟨g, _, none⟩) (show W.heap[g]? = w.heap[g]? by rw [hW]; exact (Vl.setRow_other _ (by omega)).trans (Vl.past w _ g hgw))]
        exact hcell _ v hj) (by rw [hdl, List.size_toArray, hR1l]; omega) (fun v hv => h1c v (List.mem_of_mem_drop hv))
  have hfin : R2.length = G ∧ R2.take (n + 1) = cs.take i ++ news ++ cs.drop i := by
    refine ⟨?_, ?_⟩
    · rw [hR2]
      simp only [List.length_append, List.length_take, List.length_drop, hR1l, hlen]
      omega
    · have e1 : R1.take (i + 1) = cs.take i ++ news := by
        rw [hR1, hRt]
        exact List.take_left' (by rw [List.length_append, List.length_take, hlen, hnl]; omega)
      rw [hR2, e1]
      exact List.take_left' (by rw [List.length_append, List.length_append, List.length_take, hlen, hnl, hdl]; omega)
  have hGi : ¬ (G = i) := by omega
  have hGim : ¬ (G = i + 1) := by omega
  have hci : ¬ (cap = i) := by omega
  have hw1 : IntKind.i64.wrap ((i : Int) + 1) = (i : Int) + 1 := by rw [IntKind.wrap_i64]; omega
  have hb1 : (0 : Int) ≤ (i : Int) + 1 := by omega
  have hin : i ≤ n := by omega
  have htn : ((i : Int) + 1).toNat = i + 1 := by omega
  have hb3 : (i : Int) ≤ (n : Int) := by omega
  have hG63 : G ≤ 9223372036854775807 := by unfold maxLen at hGm; omega
  have mixed : Tryd.prog.follows Departure.mixedOrders = true := by kernel_rfl
  have HF := Lib.hid hfin
  have HGm := Lib.hid hGm
  clear hkk hik hold hROW hG hRl hRt hR1 hR2 hR1l hfin hlen hdl hcell hzl hcs hsz hnl hGm hzc hzz
  have Hend := Lib.hid (fun (W : World) (h : W.heap = ((w.alloc (.cells ROW.toArray 9)).setRow w.heap.size R1.toArray).heap) (h1 : W.os = w.os) (h2 : W.tape = w.tape) (h3 : W.output = w.output) =>
    (⟨setRow_heap W w.heap.size R1.toArray _ _ _ (by rw [h]; exact setRow_heap _ _ ROW.toArray _ _ _ (Vl.new w _)), ⟨h1, h2, h3, by rw [Vl.setRow_size, h, Vl.setRow_size]; simp, fun k hk _ => (Vl.setRow_other _ (by omega)).trans (by rw [h]; exact (Vl.setRow_other _ (by omega)).trans (Vl.past w _ k hk))⟩⟩ : (W.setRow w.heap.size R2.toArray).heap[w.heap.size]? = some (.cells R2.toArray 9 (0, 0)) ∧ w.grownBy (W.setRow w.heap.size R2.toArray) none))
  go_enter Tryd.func78, Tryd.ntmps78
  go_upto_region 10 with (at_builtin; refine Lib.wpList_append_run _ rfl _ _ _ _ rfl _ _ rfl rfl _ _ (hrz _) ?_)
  go_wp2_with (with_reducible refine wpList_copy_runI _ rfl _ _ 24 24 rfl _ _ rfl rfl (hcpA ((w.alloc (.cells ROW.toArray 9)).drew) rfl _ _) ?_)
  go_region_law_o (refine step_copy_runI rfl _ _ 24 24 rfl (.slice (some ⟨w.heap.size, i + 1, none⟩) (n - i) (G - (i + 1))) (.slice (some ⟨g, i, none⟩) (n - i) (cap - i)) (by simp [Act.eval, Act.put]) (by simp [Act.eval, Act.put]) (hcpB (((w.alloc (.cells ROW.toArray 9)).drew.setRow w.heap.size R1.toArray).drew) rfl 3 (G - (i + 1)) (cap - i)) ?_)
  go_wp2_with fail
  go_ret
  exact ⟨G, R2, rfl, hGn, HGm.out, HF.out.1, HF.out.2, (Hend.out (((w.alloc (.cells ROW.toArray 9)).drew.setRow w.heap.size R1.toArray).drew) rfl rfl rfl rfl).1, (Hend.out (((w.alloc (.cells ROW.toArray 9)).drew.setRow w.heap.size R1.toArray).drew) rfl rfl rfl rfl).2⟩
set_option maxHeartbeats 1000000 in
set_option maxRecDepth 100000 in
/-- At the end. -/
theorem insS_end (B n vb vc : Nat) (v : Value) (cs news : List Value) (w : World) (hown : w.ownsRow B 9 1 v n cs) (hB : B ≤ w.heap.size) (hn : n ≤ 100000) (hv : w.heap[vb]? = some (.cells news.toArray 9 (0, 0))) (hnl : news.length = 1) (h1v : ∀ v ∈ news, v.oneCell' = true) :
    Calls Tryd.prog 78 #[v, .int .i64 n, .slice (some ⟨vb, 0, none⟩) 1 vc] w (Vl.InsPost 9 B 1 n v (cs ++ news) w) := by
  obtain ⟨i0, hi0, hz0, hz1, hz2⟩ := Vl.infoText
  have hnew : ∀ j u, news[j]? = some u → w.cell? ((⟨vb, 0, none⟩ : Addr).add j) = some u := fun j u hj => by rw [Addr.add_lit, Nat.zero_add, Lib.cell_of_heap hv]; simpa using hj
  obtain ⟨p, c, rfl, hnc⟩ : ∃ p c, v = .slice p n c ∧ n ≤ c := by
    rcases hown.2 with ⟨rfl, rfl⟩ | ⟨g, cap, cur, rfl, _, _, h, _⟩
    · exact ⟨none, 0, rfl, Nat.le_refl _⟩
    · exact ⟨_, _, rfl, h⟩
  have HO := Lib.hid hown
  have hz3 : ¬ ((1 : Int) = 0) := by omega
  clear hown
  by_cases hcn : c = n
  · have hcn2 : n = c := hcn.symm
    clear hcn
    subst hcn2
    go_enter Tryd.func78, Tryd.ntmps78
    go_wp2_with (at_builtin; refine Vl.listApp _ rfl _ _ 24 rfl B 9 i0 _ 1 16 Tryd.underlying24 hi0 hz0 hz1 hz2 rfl (by decide) _ n _ rfl HO.out ⟨vb, 0, none⟩ 1 vc news rfl (by rw [hnl]) hnew h1v (by unfold maxLen; omega) (by omega) hB ?_)
    intro v' w2 hown hgrow hat
    have H1 := Lib.hid hown
    have H2 := Lib.hid hgrow
    have H3 := Lib.hid hat
    clear hown hgrow hat
    go_wp2_with fail
    go_ret
    exact ⟨v', rfl, H1.out, H2.out, H3.out⟩
  · go_enter Tryd.func78, Tryd.ntmps78
    go_wp2_with (at_builtin; refine Vl.listApp _ rfl _ _ 24 rfl B 9 i0 _ 1 16 Tryd.underlying24 hi0 hz0 hz1 hz2 rfl (by decide) _ n _ rfl HO.out ⟨vb, 0, none⟩ 1 vc news rfl (by rw [hnl]) hnew h1v (by unfold maxLen; omega) (by omega) hB ?_)
    intro v' w2 hown hgrow hat
    have H1 := Lib.hid hown
    have H2 := Lib.hid hgrow
    have H3 := Lib.hid hat
    clear hown hgrow hat
    go_wp2_with fail
    go_ret
    exact ⟨v', rfl, H1.out, H2.out, H3.out⟩
/-- Anywhere. -/
theorem insS_any (B n i vb vc : Nat) (v : Value) (cs news : List Value) (w : World) (hown : w.ownsRow B 9 1 v n cs) (hB : B ≤ w.heap.size) (hi : i ≤ n) (hn : n ≤ 100000) (hv : w.heap[vb]? = some (.cells news.toArray 9 (0, 0))) (hvb : v.ownBlock ≠ some vb) (hnl : news.length = 1) (h1c : ∀ v ∈ cs, v.oneCell' = true) (h1v : ∀ v ∈ news, v.oneCell' = true) :
    Calls Tryd.prog 78 #[v, .int .i64 i, .slice (some ⟨vb, 0, none⟩) 1 vc] w (Vl.InsPost 9 B 1 n v (cs.take i ++ news ++ cs.drop i) w) := by
  have hlen := hown.1
  by_cases he : i = n
  · subst he
    rw [List.take_of_length_le (by omega), List.drop_eq_nil_of_le (by omega), List.append_nil]
    exact insS_end B i vb vc v cs news w hown hB hn hv hnl h1v
  · rcases hown.2 with ⟨rfl, rfl⟩ | ⟨g, cap, cur, rfl, hg0, hg, hnc, hm, hsz, ht⟩
    · omega
    · have hgl := (Array.getElem?_eq_some_iff.1 hg).1
      have hvl := (Array.getElem?_eq_some_iff.1 hv).1
      have hne : vb ≠ g := fun e => hvb (by rw [e]; rfl)
      have hm' : cap ≤ 9223372036854775807 := by unfold maxLen at hm; omega
      have hsz2 : cur.size = cap := by rw [hsz, Nat.mul_one]
      have ht2 : cur.toList.take n = cs := by rw [← ht, Nat.mul_one]
      have hlen2 : cs.length = n := by rw [hlen]; exact Nat.mul_one _
      by_cases hr : n + 1 ≤ cap
      · refine (insS_shift g n cap i vb vc cur cs news w (by omega) hr hm' hne hg hsz2 ht2 hv hnl h1c h1v).mono ?_
        rintro e w' ⟨rfl, R1, R2, h1, h2, rfl⟩
        have hdl : (cs.drop i).length = n - i := by rw [List.length_drop, hlen2]
        have hR1l : R1.length = cap := by
          rw [h1]
          simp only [List.length_append, List.length_take, List.length_drop, Array.length_toList, hlen2, hsz2]
          omega
        have hR2l : R2.length = cap := by
          rw [h2]
          simp only [List.length_append, List.length_take, List.length_drop, hR1l, hnl]
          omega
        have e0 : (cur.toList.take (i + 1)).length = i + 1 := by rw [List.length_take, Array.length_toList, hsz2]; omega
        have e1 : R1.take i = cs.take i := by
          rw [h1, List.append_assoc, List.take_append_of_le_length (by rw [e0]; omega), List.take_take, ← ht2, List.take_take]
          congr 1
          omega
        have e2 : R1.drop (i + 1) = cs.drop i ++ cur.toList.drop (i + 1 + (cs.drop i).length) := by
          rw [h1, List.append_assoc]
          exact List.drop_left' e0
        have e3 : R2.take (n + 1) = cs.take i ++ news ++ cs.drop i := by
          rw [h2, e1, e2, ← List.append_assoc]
          exact List.take_left' (by rw [List.length_append, List.length_append, List.length_take, hlen2, hnl, hdl]; omega)
        refine ⟨_, rfl, ⟨?_, Or.inr ⟨g, cap, R2.toArray, rfl, hg0, setRow_heap _ g R1.toArray _ _ _ (setRow_heap w.drew g cur _ _ _ hg), hr, hm, ?_, ?_⟩⟩, ?_, Or.inl rfl⟩
        · rw [List.length_append, List.length_append, List.length_take, hlen2, hnl, hdl]; omega
        · rw [List.size_toArray, hR2l]; exact (Nat.mul_one _).symm
        · rw [Nat.mul_one]; exact e3
        · show w.grownBy _ (some g)
          exact grownBy_trans (grownBy_trans (b := w.drew) ⟨rfl, rfl, rfl, Nat.le_refl _, fun _ _ _ => rfl⟩ (Vl.setRow_grown w.drew g R1.toArray)) (Vl.setRow_grown _ g R2.toArray)
      · refine (insS_grow g n cap i vb vc cur cs news w (by omega) hnc (by omega) hn hvl hg hsz2 ht2 hv hnl h1c h1v).mono ?_
        rintro e w' ⟨G, R, rfl, k1, k2, k3, k4, k5, k6⟩
        refine ⟨_, rfl, ⟨?_, Or.inr ⟨w.heap.size, G, R.toArray, rfl, hB, k5, k1, k2, ?_, ?_⟩⟩, ⟨k6.os, k6.tape, k6.output, k6.size, fun k hk _ => k6.block k hk (by simp)⟩, Or.inr rfl⟩
        · rw [List.length_append, List.length_append, List.length_take, List.length_drop, hlen2, hnl]; omega
        · rw [List.size_toArray, k3]; exact (Nat.mul_one _).symm
        · rw [Nat.mul_one]; exact k4
end Go.Proofs.YtckcbdnlligndaaDoor
