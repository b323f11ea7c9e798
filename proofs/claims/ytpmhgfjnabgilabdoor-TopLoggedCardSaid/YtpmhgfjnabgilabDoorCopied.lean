
/-
  The walk of block.copied: a device in memory of its own. Conditions: the device is right.
-/
import Derived.Test.YtpmhgfjnabgilabDoorCopyTexts
import Derived.Test.YtpmhgfjnabgilabDoorLaid
namespace Go.Proofs.YtpmhgfjnabgilabDoor
open Go.RowKit

def Wp.wcells (l : List (Int × ByteArray)) : List Value := l.flatMap fun x => [.int .i64 x.1, .string x.2]
set_option maxRecDepth 100000 in
theorem Wp.wcells_len (l : List (Int × ByteArray)) : (Wp.wcells l).length = l.length * 2 := by
  induction l with
  | nil => rfl
  | cons x l ih => simp only [Wp.wcells, List.flatMap_cons, List.length_append, List.length_cons, List.length_nil] at ih ⊢; omega
set_option maxRecDepth 100000 in
theorem Wp.wcells_get (l : List (Int × ByteArray)) (i : Nat) (h : i < l.length) : (Wp.wcells l)[i * 2]? = some (.int .i64 l[i].1) ∧ (Wp.wcells l)[i * 2 + 1]? = some (.string l[i].2) := by
  induction l generalizing i with
  | nil => simp at h
  | cons x l ih =>
    cases i with
    | zero => simp [Wp.wcells]
    | succ i =>
      have := ih i (by simpa using h)
      have e : Wp.wcells (x :: l) = .int .i64 x.1 :: .string x.2 :: Wp.wcells l := rfl
      rw [e, show (i + 1) * 2 = i * 2 + 1 + 1 by omega, show i * 2 + 1 + 1 + 1 = (i * 2 + 1) + 1 + 1 by omega]
      simpa using this
set_option maxRecDepth 100000 in
theorem Wp.wcells_one (l : List (Int × ByteArray)) : ∀ v ∈ Wp.wcells l, v.oneCell' = true := by
  intro v hv
  simp only [Wp.wcells, List.mem_flatMap, List.mem_cons, List.not_mem_nil, or_false] at hv
  obtain ⟨x, _, rfl | rfl⟩ := hv <;> rfl
set_option maxRecDepth 100000 in
theorem infoWait_some : ∃ i, Tryd.prog.info? 86 = some i ∧ i.zero = some (.agg #[.int .i64 0, .string ⟨#[]⟩]) ∧ i.size = 2 ∧ i.bytes = 24 := info_parts (by kernel_rfl)
set_option maxRecDepth 100000 in
/-- copy(dst, src) of elements of two cells each, all of src. -/
theorem copy_two {P : Program} (w : World) (dT sT ty elem : TypeId) (g dLen dCap : Nat) (a : Addr) (sLen sCap : Nat) (cur : Array Value) (t : TypeId) (cs : List Value)
    (hu : P.underlying dT = some (.slice elem)) (hs : (P.info? elem).map (·.size) = some 2)
    (hg : w.heap[g]? = some (.cells cur t (0, 0))) (hn : sLen ≤ dLen) (hl2 : cs.length = sLen * 2)
    (hsrc : ∀ j v, cs[j]? = some v → w.cell? (a.add j) = some v) (hfit : cs.length ≤ cur.size) (h1 : ∀ v ∈ cs, v.oneCell' = true) :
    (Builtin.copy_ #[dT, sT] ty #[.slice (some ⟨g, 0, none⟩) dLen dCap, .slice (some a) sLen sCap]).run P w =
      .ok (goInt sLen) (w.setRow g (cs ++ cur.toList.drop cs.length).toArray) := by
  have hl := run_loadCells_list (P := P) w a cs hsrc
  have hst := run_storeCells_at P g 0 t cs 0 cur w hg (by simpa using hfit) h1
  have hmin : Nat.min sLen dLen = sLen := Nat.min_eq_left hn
  cases hq : P.info? elem with
  | none => simp [hq] at hs
  | some i =>
    have hi : i.size = 2 := by simpa [hq] using hs
    rw [hl2] at hl
    simp [Builtin.copy_, run_underlying hu, Builtin.lenOf, Builtin.firstCells, sizeOf, typeInfo, hq, hi, hmin, hl, hst]
set_option maxRecDepth 100000 in
theorem copy_zero {P : Program} (w : World) (dT sT ty elem : TypeId) (d a : Option Addr) (dLen dCap sCap : Nat)
    (hu : P.underlying dT = some (.slice elem)) (hs : (P.info? elem).map (·.size) = some 2) :
    (Builtin.copy_ #[dT, sT] ty #[.slice d dLen dCap, .slice a 0 sCap]).run P w = .ok (goInt 0) w := by
  cases hq : P.info? elem with
  | none => simp [hq] at hs
  | some i =>
    have hi : i.size = 2 := by simpa [hq] using hs
    cases a <;> cases d <;> simp [Builtin.copy_, run_underlying hu, Builtin.lenOf, Builtin.firstCells, sizeOf, typeInfo, hq, storeCells, loadCells, loadCellsFrom]
set_option maxRecDepth 100000 in
theorem setCell_same (w : World) (g i : Nat) (C : Array Value) (t : TypeId) (v : Value) (hg : w.heap[g]? = some (.cells C t (0, 0))) (hv : C[i]? = some v) : w.setCell ⟨g, i, none⟩ v = w := by
  have hi : i < C.size := (Array.getElem?_eq_some_iff.1 hv).1
  have hs : C.setIfInBounds i v = C := by
    apply Array.ext_getElem?
    intro j
    rw [Array.getElem?_setIfInBounds]
    by_cases e : i = j
    · subst e; rw [if_pos rfl, if_pos hi, hv]
    · rw [if_neg e]
  rw [setCell_eq_setRow w g i C t (0, 0) v hg, hs, setRow_self w g C t (0, 0) hg]
set_option maxRecDepth 100000 in
/-- What 'copy(waits, d.Waits)' leaves. -/
theorem waits_copied (w : World) (pw : Option Addr) (cw : Nat) (ws : List (Int × ByteArray)) (C0 : Array Value) (h0 : C0.size = (ws.length + 1) * 2) (haw : Wp.AtW w pw ws) :
    ∃ C1 : Array Value, (Builtin.copy_ #[36, 36] 3 #[.slice (some ⟨w.heap.size, 0, none⟩) ws.length (ws.length + 1), .slice pw ws.length cw]).run Tryd.prog (w.alloc (.cells C0 86)) =
      .ok (goInt ws.length) (w.alloc (.cells C1 86)) ∧ C1.size = (ws.length + 1) * 2 ∧ C1.toList.take (ws.length * 2) = Wp.wcells ws := by
  obtain ⟨iw, hiw, hiw0, hiw1, hiw2⟩ := infoWait_some
  have hs : (Tryd.prog.info? 86).map (·.size) = some 2 := by rw [hiw]; simp [hiw1]
  rcases haw with rfl | ⟨b, off, rfl, hc⟩
  · refine ⟨C0, ?_, h0, rfl⟩
    exact copy_zero _ _ _ _ 86 _ _ _ _ _ Tryd.underlying36 hs
  · refine ⟨(Wp.wcells ws ++ C0.toList.drop (Wp.wcells ws).length).toArray, ?_, ?_, ?_⟩
    · have h := copy_two (P := Tryd.prog) (w.alloc (.cells C0 86)) 36 36 3 86 w.heap.size ws.length (ws.length + 1) ⟨b, off, none⟩ ws.length cw C0 86 (Wp.wcells ws)
        Tryd.underlying36 hs (by show (w.heap.push _)[w.heap.size]? = _; simp) (Nat.le_refl _) (Wp.wcells_len ws) ?_ (by rw [Wp.wcells_len]; omega) (Wp.wcells_one ws)
      · rw [h, setRow_alloc]
      · intro j v hj
        have hjl := (List.getElem?_eq_some_iff.1 hj).1
        rw [Wp.wcells_len] at hjl
        have e : (⟨b, off, none⟩ : Addr).add j = ⟨b, off + j, none⟩ := by simp [Addr.add]
        rw [e]
        have hi : j / 2 < ws.length := by omega
        have hh := hc (j / 2) hi
        have hg := Wp.wcells_get ws (j / 2) hi
        have hlt : b < w.heap.size := World.block_lt_of_cell? w _ hh.1
        rw [World.cell?_alloc_past _ _ _ hlt]
        rcases Nat.mod_two_eq_zero_or_one j with h2 | h2
        · have e2 : j / 2 * 2 = j := by omega
          rw [e2] at hh hg
          rw [hh.1]
          rw [hg.1] at hj
          exact hj
        · have e2 : j / 2 * 2 + 1 = j := by omega
          rw [show off + j / 2 * 2 + 1 = off + j by omega] at hh
          rw [e2] at hg
          rw [hh.2]
          rw [hg.2] at hj
          exact hj
    · simp only [List.size_toArray, List.length_append, List.length_drop, Array.length_toList, Wp.wcells_len]; omega
    · simp only [← Wp.wcells_len ws, List.take_left]

set_option maxRecDepth 100000 in
/-- A result of a struct's type that lies in a box. -/
theorem ret_cell1 {P : Program} {fn : Func} {p : Tmp} {ty : TypeId} (h : fn.results = #[.cell p ty]) (tmps : Array Value) (w : World) (g : Nat) (t : TypeId) (cs : Array Value) (d : TypeDesc) (hp : tmps.getD p undef = .pointer (some ⟨g, 0, none⟩))
    (hg : w.heap[g]? = some (.cells cs t (0, 0))) (hu : P.underlying ty = some d) (hd : (match d with | .struct _ | .array _ _ => true | _ => false) = true) (hi : (P.info? ty).map (·.size) = some cs.size) :
    (results fn tmps).run P w = .ok (.agg cs) w := by
  have hl := run_loadVar_row w g t ty cs (0, 0) d hg hu hd hi
  have hp2 : tmps[p]?.getD undef = .pointer (some ⟨g, 0, none⟩) := by simpa using hp
  simp only [results, h]
  simp [hp2, asAddr, hl]
set_option maxRecDepth 100000 in
theorem ownsRow_at {w w' : World} {base base' : Nat} {e : TypeId} {size : Nat} {v : Value} {n : Nat} {xs : List Value} (h : w.ownsRow base e size v n xs) (hb : base' ≤ base) (hk : ∀ k, base ≤ k → w'.heap[k]? = w.heap[k]?) : w'.ownsRow base' e size v n xs := by
  refine ⟨h.1, ?_⟩
  rcases h.2 with h0 | ⟨g, cap, cur, hv, hg, hc, rest⟩
  · exact Or.inl h0
  · exact Or.inr ⟨g, cap, cur, hv, Nat.le_trans hb hg, (hk g hg).trans hc, rest⟩
set_option maxRecDepth 100000 in
theorem ownsRow_block {w : World} {base : Nat} {e : TypeId} {size : Nat} {v : Value} {n : Nat} {xs : List Value} (h : w.ownsRow base e size v n xs) (k : Nat) (hk : k < base) : v.ownBlock ≠ some k := by
  rcases h.2 with ⟨rfl, _⟩ | ⟨g, cap, cur, rfl, hg, _⟩
  · simp [Value.ownBlock]
  · simp [Value.ownBlock]; omega
set_option maxRecDepth 100000 in
set_option maxHeartbeats 2000000 in
theorem copied_any (v : Value) (d : Wp.Dev) (w : World) (hv : Wp.DevAt w v d) (hb : d.bl.length ≤ 4096) (hw : d.ws.length ≤ 4096) (hbs : ∀ x ∈ d.bl, x.size ≤ 64) (hws : ∀ x ∈ d.ws, x.2.size ≤ 64) :
    Calls Tryd.prog 37 #[v] w fun e w' => ∃ vb vw, e = .returned (.agg #[vb, vw, .int .i64 d.fu, .bool d.dn]) ∧ w'.ownsRow w.heap.size 9 1 vb d.bl.length (d.bl.map Wp.mkT) ∧
      w'.ownsRow w.heap.size 86 2 vw d.ws.length (Wp.wcells d.ws) ∧ vw.ownBlock ≠ none ∧ vb.ownBlock ≠ vw.ownBlock ∧ Below w.heap.size w w' := by
  obtain ⟨pb, cb, pw, cw, rfl, hab, haw⟩ := hv
  unfold Wp.devV
  obtain ⟨bl, ws, fu, dn⟩ := d
  simp only [] at *
  have Hab := Lib.hid hab
  have Haw := Lib.hid haw
  have Hbs := Lib.hid hbs
  have Hws := Lib.hid hws
  clear hab haw hbs hws
  obtain ⟨n, hnn⟩ : ∃ n, n = bl.length := ⟨_, rfl⟩
  obtain ⟨m, hmm⟩ : ∃ m, m = ws.length := ⟨_, rfl⟩
  rw [← hnn] at hb ⊢
  rw [← hmm] at hw ⊢
  have Hn := Lib.hid hnn
  have Hm := Lib.hid hmm
  clear hnn hmm
  obtain ⟨it, hit, hit0, hit1, hit2⟩ := infoText_some
  obtain ⟨iw, hiw, hiw0, hiw1, hiw2⟩ := infoWait_some
  go_enter Tryd.func37, Tryd.ntmps37
  go_wp2_with fail
  have hsz : ((w.alloc (.cells #[.slice pb n cb, .slice pw m cw, .int .i64 fu, .bool dn] 38)).alloc (.cells #[.slice none 0 0, .slice none 0 0, .int .i64 0, .bool false] 82)).heap.size = w.heap.size + 2 := by simp
  have hb0 : Below w.heap.size w ((w.alloc (.cells #[.slice pb n cb, .slice pw m cw, .int .i64 fu, .bool dn] 38)).alloc (.cells #[.slice none 0 0, .slice none 0 0, .int .i64 0, .bool false] 82)) := ((Below.refl _ _).alloc (Nat.le_refl _) _).alloc (by simp) _
  have Hbox := Lib.hid (show ((w.alloc (.cells #[.slice pb n cb, .slice pw m cw, .int .i64 fu, .bool dn] 38)).alloc (.cells #[.slice none 0 0, .slice none 0 0, .int .i64 0, .bool false] 82)).heap[w.heap.size]? = some (.cells #[.slice pb n cb, .slice pw m cw, .int .i64 fu, .bool dn] 38 (0, 0)) by rw [alloc_past _ _ _ (by simp), alloc_new])
  have Hres := Lib.hid (show ((w.alloc (.cells #[.slice pb n cb, .slice pw m cw, .int .i64 fu, .bool dn] 38)).alloc (.cells #[.slice none 0 0, .slice none 0 0, .int .i64 0, .bool false] 82)).heap[w.heap.size + 1]? = some (.cells #[.slice none 0 0, .slice none 0 0, .int .i64 0, .bool false] 82 (0, 0)) from alloc_at _ _ _ (by simp))
  obtain ⟨w1, hw1⟩ : ∃ w1, (w.alloc (.cells #[.slice pb n cb, .slice pw m cw, .int .i64 fu, .bool dn] 38)).alloc (.cells #[.slice none 0 0, .slice none 0 0, .int .i64 0, .bool false] 82) = w1 := ⟨_, rfl⟩
  rw [hw1] at hsz hb0 Hbox Hres ⊢
  clear hw1
  have hmk := run_makeSlice (P := Tryd.prog) w1 36 86 iw _ Tryd.underlying36 hiw hiw0 .i64 .i64 (m : Int) ((m : Int) + 1) (by omega) (by omega) (by rw [hiw1]; omega) (by rw [hiw2]; omega) (by omega)
  rw [hiw1, Int.toNat_natCast, show ((m : Int) + 1).toNat = m + 1 by omega] at hmk
  have hC0s : (madeCells (Value.agg #[.int .i64 0, .string ⟨#[]⟩]).cells ((m + 1) * 2)).size = (ws.length + 1) * 2 := by rw [size_madeCells, Hm.out]
  generalize madeCells (Value.agg #[.int .i64 0, .string ⟨#[]⟩]).cells ((m + 1) * 2) = C0 at hmk hC0s
  obtain ⟨C1, hcp, hC1s, hC1t⟩ := waits_copied w1 pw cw ws C0 hC0s (Haw.out.below hb0)
  rw [← Hm.out] at hcp hC1s hC1t
  rw [hsz] at hcp
  have HC1s := Lib.hid hC1s
  have HC1t := Lib.hid hC1t
  clear hC1s hC1t hC0s
  have hmk2 := run_makeSlice (P := Tryd.prog) (w1.alloc (.cells C1 86)) 22 9 it _ Tryd.underlying22 hit hit0 .i64 .i64 (m : Int) (m : Int) (by omega) (by omega) (by rw [hit1]; omega) (by rw [hit2]; omega) (by omega)
  rw [hit1, Nat.mul_one, Int.toNat_natCast, show (w1.alloc (.cells C1 86)).heap.size = w.heap.size + 3 by rw [World.size_alloc, hsz]] at hmk2
  have hT0s : (madeCells (Value.string ⟨#[]⟩).cells m).size = m := by rw [size_madeCells]
  generalize madeCells (Value.string ⟨#[]⟩).cells m = T0 at hmk2 hT0s
  have hc0 : w1.cell? ⟨w.heap.size, 1, none⟩ = some (.slice pw m cw) := by rw [Lib.cell_of_heap Hbox.out]; rfl
  have hlt1 : w.heap.size < w1.heap.size := by omega
  rw [hmk]
  go_wp2_with fail
  have hsz2 : ((w1.alloc (.cells C1 86)).alloc (.cells T0 9)).heap.size = w.heap.size + 4 := by rw [World.size_alloc, World.size_alloc, hsz]
  have hb2 : Below w.heap.size w ((w1.alloc (.cells C1 86)).alloc (.cells T0 9)) := (hb0.alloc (by omega) _).alloc (by rw [World.size_alloc]; omega) _
  have Hbox2 := Lib.hid (show ((w1.alloc (.cells C1 86)).alloc (.cells T0 9)).heap[w.heap.size]? = some (.cells #[.slice pb n cb, .slice pw m cw, .int .i64 fu, .bool dn] 38 (0, 0)) by rw [alloc_past _ _ _ (by rw [World.size_alloc]; omega), alloc_past _ _ _ (by omega)]; exact Hbox.out)
  have Hres2 := Lib.hid (show ((w1.alloc (.cells C1 86)).alloc (.cells T0 9)).heap[w.heap.size + 1]? = some (.cells #[.slice none 0 0, .slice none 0 0, .int .i64 0, .bool false] 82 (0, 0)) by rw [alloc_past _ _ _ (by rw [World.size_alloc]; omega), alloc_past _ _ _ (by omega)]; exact Hres.out)
  have HC1 := Lib.hid (show ((w1.alloc (.cells C1 86)).alloc (.cells T0 9)).heap[w.heap.size + 2]? = some (.cells C1 86 (0, 0)) by rw [alloc_past _ _ _ (by rw [World.size_alloc]; omega), alloc_at _ _ _ (by omega)])
  have HT0 := Lib.hid (show ((w1.alloc (.cells C1 86)).alloc (.cells T0 9)).heap[w.heap.size + 3]? = some (.cells T0 9 (0, 0)) by rw [alloc_at _ _ _ (by rw [World.size_alloc]; omega)])
  obtain ⟨w2, hw2⟩ : ∃ w2, (w1.alloc (.cells C1 86)).alloc (.cells T0 9) = w2 := ⟨_, rfl⟩
  rw [hw2] at hsz2 hb2 Hbox2 Hres2 HC1 HT0 ⊢
  clear hw2 hcp hmk hmk2 Hbox Hres hc0 hb0 hlt1 hsz
  go_loopw [28] (fun t wr => ∃ (k : Nat) (C : Array Value), k ≤ m ∧ t = .int .i64 k ∧ wr.heap[w.heap.size + 3]? = some (.cells C 9 (0, 0)) ∧ C.size = m ∧ (∀ i (hi : i < ws.length), i < k → C[i]? = some (.string ws[i].2)) ∧ w2.heap.size ≤ wr.heap.size ∧ Below (w.heap.size + 3) w2 wr) (fun t _ => m - (intOf t).toNat)
  case atStart => exact ⟨0, T0, Nat.zero_le _, rfl, HT0.out, hT0s, fun i _ h => absurd h (Nat.not_lt_zero _), Nat.le_refl _, Below.refl _ _⟩
  case round =>
    obtain ⟨k, C, hk, rfl, hC, hCs, hgood, hle, hB⟩ := hrel
    have Hgood := Lib.hid hgood
    have HC := Lib.hid hC
    clear hgood hC
    by_cases hlt : k < m
    · have hkl : k < ws.length := by rw [← Hm.out]; exact hlt
      obtain ⟨b, off, rfl, hcell1, hcell2⟩ := Haw.out.get k hkl
      have hblt : b < w.heap.size := World.block_lt_of_cell? w _ hcell1
      have hcell3 := (hB.cell (p := ⟨b, off + k * 2, none⟩) (show b < w.heap.size + 3 by omega)).trans ((hb2.cell (p := ⟨b, off + k * 2, none⟩) hblt).trans hcell1)
      have hcell4 := (hB.cell (p := ⟨b, off + k * 2 + 1, none⟩) (show b < w.heap.size + 3 by omega)).trans ((hb2.cell (p := ⟨b, off + k * 2 + 1, none⟩) hblt).trans hcell2)
      clear hcell1 hcell2
      have hgood2 := fun (C2 : Array Value) (h0 : C2[k]? = some (.string ws[k].2)) (h : ∀ i, i < k → C2[i]? = C[i]?) => (fun i (hi : i < ws.length) (h2 : i < k + 1) => (if e : i = k then by subst e; exact h0 else by rw [h i (by omega)]; exact Hgood.out i hi (by omega)) : ∀ i (hi : i < ws.length), i < k + 1 → C2[i]? = some (.string ws[i].2))
      have Hgood2 := Lib.hid hgood2
      clear hgood2
      obtain ⟨x, hxe⟩ : ∃ x, x = ws[k] := ⟨_, rfl⟩
      rw [← hxe] at hcell3 hcell4 Hgood2
      clear hxe hkl
      obtain ⟨xa, xd⟩ := x
      simp only [] at hcell3 hcell4
      have hcg : wr.cell? ⟨w.heap.size + 3, k, none⟩ = some (C[k]'(by omega)) := by rw [Lib.cell_of_heap HC.out, Array.getElem?_eq_getElem]
      have hfg : wr.frozen? ⟨w.heap.size + 3, k, none⟩ = false := by simp [World.frozen?, HC.out]
      have hlt3 : w.heap.size + 3 < wr.heap.size := by omega
      go_wp2_with fail
      refine ⟨⟨k + 1, C.setIfInBounds k (.string xd), by omega, by go_num, ?_, by rw [Array.size_setIfInBounds]; exact hCs, Hgood2.out _ (by rw [Array.getElem?_setIfInBounds, if_pos rfl, if_pos (by omega)]) (fun i hi => by rw [Array.getElem?_setIfInBounds, if_neg (by omega)]), ?_, ?_⟩, by simp [intOf]; omega⟩
      · rw [alloc_past _ _ _ (by simp [World.setCell]; omega)]
        exact Lib.heap_setCell_same (i := k) HC.out _
      · simp [World.setCell]; omega
      · exact (hB.setCell (p := ⟨w.heap.size + 3, k, none⟩) (Nat.le_refl _) _).alloc (by simp [World.setCell]; omega) _
    · obtain rfl : k = m := by omega
      have hcall := copyTexts_any (some ⟨w.heap.size + 3, 0, none⟩) k (ws.map (·.2)) wr (by rw [List.length_map, ← Hm.out]; exact hw) (Or.inr ⟨_, 0, rfl, fun i hi => by
        rw [List.length_map] at hi
        rw [Lib.cell_of_heap HC.out, Nat.zero_add, Hgood.out i hi (by rw [Hm.out]; exact hi), List.getElem_map]
        rfl⟩) (by
        intro x hx
        obtain ⟨y, hy, rfl⟩ := List.mem_map.1 hx
        exact Hws.out y hy)
      rw [List.length_map, ← Hm.out] at hcall
      have hx0 : wr.cell? ⟨w.heap.size, 0, none⟩ = some (.slice pb n cb) := by rw [Lib.cell_of_heap ((hB.block w.heap.size (by omega)).trans Hbox2.out)]; rfl
      go_wp2_with fail
      refine hcall.mono ?_
      rintro e w3 ⟨v, rfl, hown, hb3⟩
      clear hcall
      obtain ⟨p3, c3, rfl, hat3⟩ := owns_at (mk := Wp.mkT) (l := ws.map (·.2)) (by rw [List.length_map, ← Hm.out]; exact hown)
      rw [List.length_map, ← Hm.out]
      have Hat3 := Lib.hid hat3
      clear hat3 hown
      have hB3 : Below (w.heap.size + 3) w2 w3 := hB.trans (hb3.mono (by omega))
      have hsz3 : w.heap.size + 3 < w3.heap.size := by have := hb3.size; omega
      have HC3 := Lib.hid ((hB3.block (w.heap.size + 2) (by omega)).trans HC1.out)
      have Hbox3 := Lib.hid ((hB3.block w.heap.size (by omega)).trans Hbox2.out)
      have Hres3 := Lib.hid ((hB3.block (w.heap.size + 1) (by omega)).trans Hres2.out)
      clear hB hb3
      go_wp2_with fail
      go_loopw [42] (fun t wr => ∃ j : Nat, j ≤ k ∧ t = .int .i64 j ∧ Below w3.heap.size w3 wr) (fun t _ => k - (intOf t).toNat)
      case atStart => exact ⟨0, Nat.zero_le _, rfl, Below.refl _ _⟩
      case round =>
        obtain ⟨j, hj, rfl, hB4⟩ := hrel
        have hsz4 := hB4.size
        have HC4 := Lib.hid ((hB4.block (w.heap.size + 2) (by omega)).trans HC3.out)
        by_cases hlt2 : j < k
        · have hjl : j < ws.length := by rw [← Hm.out]; exact hlt2
          obtain ⟨b, off, rfl, hcell⟩ := (Hat3.out.below hB4).get j (by rw [List.length_map]; exact hjl)
          have hcc : C1[j * 2 + 1]? = some (.string ws[j].2) := by
            have h1 := (Wp.wcells_get ws j hjl).2
            rw [← HC1t.out, List.getElem?_take_of_lt (by omega), Array.getElem?_toList] at h1
            exact h1
          rw [List.getElem_map, show Wp.mkT ws[j].2 = Value.string ws[j].2 from rfl] at hcell
          generalize ws[j].2 = x at hcell hcc
          have Hsame := Lib.hid (setCell_same _ _ _ C1 _ (.string x) HC4.out hcc)
          have hcg : wr.cell? ⟨w.heap.size + 2, j * 2 + 1, none⟩ = some (.string x) := by rw [Lib.cell_of_heap HC4.out, hcc]
          have hfg : wr.frozen? ⟨w.heap.size + 2, j * 2 + 1, none⟩ = false := by simp [World.frozen?, HC4.out]
          clear hcc
          go_wp2_with fail
          refine ⟨⟨j + 1, by omega, by go_num, ?_⟩, by simp [intOf]; omega⟩
          rw [Hsame.out]
          exact hB4
        · obtain rfl : j = k := by omega
          have hbx := (hB4.block w.heap.size (by omega)).trans Hbox3.out
          have hx0 : wr.cell? ⟨w.heap.size, 0, none⟩ = some (.slice pb n cb) := by rw [Lib.cell_of_heap hbx]; rfl
          have hbel : Below w.heap.size w wr := (hb2.trans (hB3.mono (by omega))).trans (hB4.mono (by omega))
          have hcall := copyTexts_any pb cb bl wr (by rw [← Hn.out]; exact hb) (Hab.out.below hbel) Hbs.out
          rw [← Hn.out] at hcall
          have Hcall := Lib.hid hcall
          have Hbx := Lib.hid hbx
          clear hcall hbx
          go_wp2_with fail
          refine Hcall.out.mono ?_
          rintro e w5 ⟨vb, rfl, hown5, hb5⟩
          have hblk : (Value.slice none 0 0).ownBlock = none := rfl
          have hv5 : ∃ p5 c5, vb = .slice p5 n c5 := by
            obtain ⟨p5, c5, h5, _⟩ := owns_at (mk := Wp.mkT) (l := bl) (by rw [← Hn.out]; exact hown5)
            exact ⟨p5, c5, by rw [h5, Hn.out]⟩
          obtain ⟨p5, c5, rfl⟩ := hv5
          have Hown5 := Lib.hid hown5
          clear hown5 hx0
          have hsz5 := hb5.size
          have HC5 := Lib.hid ((hb5.block (w.heap.size + 2) (by omega)).trans HC4.out)
          have hbx5 := (hb5.block w.heap.size (by omega)).trans Hbx.out
          have hrs5 := (hb5.block (w.heap.size + 1) (by omega)).trans ((hB4.block (w.heap.size + 1) (by omega)).trans Hres3.out)
          have x0 : w5.cell? ⟨w.heap.size, 0, none⟩ = some (.slice pb n cb) := by rw [Lib.cell_of_heap hbx5]; rfl
          have x1 : w5.cell? ⟨w.heap.size, 1, none⟩ = some (.slice pw j cw) := by rw [Lib.cell_of_heap hbx5]; rfl
          have x2 : w5.cell? ⟨w.heap.size, 2, none⟩ = some (.int .i64 fu) := by rw [Lib.cell_of_heap hbx5]; rfl
          have x3 : w5.cell? ⟨w.heap.size, 3, none⟩ = some (.bool dn) := by rw [Lib.cell_of_heap hbx5]; rfl
          have y0 : w5.cell? ⟨w.heap.size + 1, 0, none⟩ = some (.slice none 0 0) := by rw [Lib.cell_of_heap hrs5]; rfl
          have y1 : w5.cell? ⟨w.heap.size + 1, 1, none⟩ = some (.slice none 0 0) := by rw [Lib.cell_of_heap hrs5]; rfl
          have y2 : w5.cell? ⟨w.heap.size + 1, 2, none⟩ = some (.int .i64 0) := by rw [Lib.cell_of_heap hrs5]; rfl
          have y3 : w5.cell? ⟨w.heap.size + 1, 3, none⟩ = some (.bool false) := by rw [Lib.cell_of_heap hrs5]; rfl
          have z0 : w5.frozen? ⟨w.heap.size + 1, 0, none⟩ = false := by simp [World.frozen?, hrs5]
          have z1 : w5.frozen? ⟨w.heap.size + 1, 1, none⟩ = false := by simp [World.frozen?, hrs5]
          have z2 : w5.frozen? ⟨w.heap.size + 1, 2, none⟩ = false := by simp [World.frozen?, hrs5]
          have z3 : w5.frozen? ⟨w.heap.size + 1, 3, none⟩ = false := by simp [World.frozen?, hrs5]
          have f0 : w5.frozen? ⟨w.heap.size, 0, none⟩ = false := by simp [World.frozen?, hbx5]
          have f1 : w5.frozen? ⟨w.heap.size, 1, none⟩ = false := by simp [World.frozen?, hbx5]
          have Hbx5 := Lib.hid hbx5
          have Hrs5 := Lib.hid hrs5
          clear hbx5 hrs5 hblk
          go_wp2_with fail
          have hr6 := Lib.heap_setCell_same (i := 3) (Lib.heap_setCell_same (i := 2) (Lib.heap_setCell_same (i := 1) (Lib.heap_setCell_same (i := 0) (((Below.heap_setCell _ _ _ _ (by simp)).trans ((Below.heap_setCell _ _ _ _ (by simp)).trans Hrs5.out)) : ((w5.setCell ⟨w.heap.size, 0, none⟩ (.slice p5 n c5)).setCell ⟨w.heap.size, 1, none⟩ (.slice (some ⟨w.heap.size + 2, 0, none⟩) j (j + 1))).heap[w.heap.size + 1]? = _) (.slice p5 n c5)) (.slice (some ⟨w.heap.size + 2, 0, none⟩) j (j + 1))) (.int .i64 fu)) (.bool dn)
          have hr7 := hr6.trans (show _ = some (.cells #[.slice p5 n c5, .slice (some ⟨w.heap.size + 2, 0, none⟩) j (j + 1), .int .i64 fu, .bool dn] 82 (0, 0)) from rfl)
          have hk7 : ∀ k, w.heap.size + 2 ≤ k → ((((((w5.setCell ⟨w.heap.size, 0, none⟩ (.slice p5 n c5)).setCell ⟨w.heap.size, 1, none⟩ (.slice (some ⟨w.heap.size + 2, 0, none⟩) j (j + 1))).setCell ⟨w.heap.size + 1, 0, none⟩ (.slice p5 n c5)).setCell ⟨w.heap.size + 1, 1, none⟩ (.slice (some ⟨w.heap.size + 2, 0, none⟩) j (j + 1))).setCell ⟨w.heap.size + 1, 2, none⟩ (.int .i64 fu)).setCell ⟨w.heap.size + 1, 3, none⟩ (.bool dn)).heap[k]? = w5.heap[k]? := fun k hk => by
            rw [Below.heap_setCell _ _ _ _ (by simp; omega), Below.heap_setCell _ _ _ _ (by simp; omega), Below.heap_setCell _ _ _ _ (by simp; omega), Below.heap_setCell _ _ _ _ (by simp; omega), Below.heap_setCell _ _ _ _ (by simp; omega), Below.heap_setCell _ _ _ _ (by simp; omega)]
          have hbl7 := ((((((hbel.trans (hb5.mono (by omega))).setCell (p := ⟨w.heap.size, 0, none⟩) (Nat.le_refl _) (.slice p5 n c5)).setCell (p := ⟨w.heap.size, 1, none⟩) (Nat.le_refl _) (.slice (some ⟨w.heap.size + 2, 0, none⟩) j (j + 1))).setCell (p := ⟨w.heap.size + 1, 0, none⟩) (by simp) (.slice p5 n c5)).setCell (p := ⟨w.heap.size + 1, 1, none⟩) (by simp) (.slice (some ⟨w.heap.size + 2, 0, none⟩) j (j + 1))).setCell (p := ⟨w.heap.size + 1, 2, none⟩) (by simp) (.int .i64 fu)).setCell (p := ⟨w.heap.size + 1, 3, none⟩) (by simp) (.bool dn)
          refine bodyPost_ret (ret_cell1 rfl _ _ (w.heap.size + 1) 82 _ _ rfl hr7 Tryd.underlying82 rfl (by kernel_rfl)) rfl ?_
          refine ⟨_, _, rfl, ownsRow_at Hown5.out (by omega) (fun k hk => hk7 k (by omega)), ⟨by rw [Wp.wcells_len, Hm.out], Or.inr ⟨w.heap.size + 2, j + 1, C1, rfl, by omega, (hk7 _ (by omega)).trans HC5.out, by omega, by unfold maxLen; omega, HC1s.out, HC1t.out⟩⟩, by simp [Value.ownBlock], ownsRow_block Hown5.out (w.heap.size + 2) (by omega), hbl7⟩
end Go.Proofs.YtpmhgfjnabgilabDoor
