/-
  The walks of tree's Tokens and Paths. Conditions: lists are of a size that a machine holds; texts are below four thousand million bytes; the table lies where it was laid.
  The walk of tree's Paths. Conditions: lists are of a size that a machine holds; texts are below four thousand million bytes; the table lies where it was laid.
-/
import Derived.Test.YteiccjakaabfnaaGreatDoorZ49
import Derived.Test.YteiccjakaabfnaaGreatDoorZ37
namespace Go.Proofs.YteiccjakaabfnaaGreatDoor
open Go.RowKit

/-- A token that is read off blocks but one. -/
def Nd.TokO (W : World) (g : Nat) (u : Value) (y : Sc.T) : Prop := ∀ W' : World, (∀ j, j < W.heap.size → j ≠ g → W'.heap[j]? = W.heap[j]?) → Sc.Tok W' u y
theorem Nd.TokO.later {W W2 : World} {g : Nat} {u : Value} {y : Sc.T} (h : Nd.TokO W g u y) (hg : W.grownBy W2 (some g)) : Nd.TokO W2 g u y := fun W' hW => h W' (fun j h1 h2 => (hW j (Nat.lt_of_lt_of_le h1 hg.size) h2).trans (hg.block j h1 (fun e => by cases e; exact h2 rfl)))
/-- A row of tokens in a block of its own, whatever stands behind them. -/
def Nd.TBlk (W : World) (g : Nat) (l : List Sc.T) : Prop :=
  ∃ cur, W.heap[g]? = some (.cells cur 110 (0, 0)) ∧ ∀ i y, l[i]? = some y → ∃ c0 c1 c2, cur[i * 3]? = some c0 ∧ cur[i * 3 + 1]? = some c1 ∧ cur[i * 3 + 2]? = some c2 ∧ Nd.TokO W g (.agg #[c0, c1, c2]) y
theorem Nd.TBlk.at {W : World} {g : Nat} {l : List Sc.T} (h : Nd.TBlk W g l) : Sc.At W (some ⟨g, 0, none⟩) l := fun i hi => by
  obtain ⟨cur, hc, hk⟩ := h
  obtain ⟨c0, c1, c2, e0, e1, e2, ho⟩ := hk i l[i] (List.getElem?_eq_getElem hi)
  have key : ∀ j c, cur[j]? = some c → W.cell? ⟨g, 0 + j, none⟩ = some c := fun j c e => by rw [Lib.cell_of_heap hc, Nat.zero_add]; exact e
  exact ⟨g, 0, c0, c1, c2, rfl, ⟨key _ _ e0, key _ _ e1, key _ _ e2⟩, l[i], List.getElem?_eq_getElem hi, ho W (fun _ _ _ => rfl)⟩
theorem Nd.TBlk.later {W W2 : World} {g : Nat} {l : List Sc.T} (h : Nd.TBlk W g l) (hb : Below W.heap.size W W2) : Nd.TBlk W2 g l := by
  obtain ⟨cur, hc, hk⟩ := h
  refine ⟨cur, (hb.block g (Array.getElem?_eq_some_iff.1 hc).1).trans hc, fun i y hy => ?_⟩
  obtain ⟨c0, c1, c2, e0, e1, e2, ho⟩ := hk i y hy
  exact ⟨c0, c1, c2, e0, e1, e2, ho.later (grownBy_of hb _)⟩
/-- The row that put has made. -/
theorem Nd.TRow.blk {w0 W : World} {v : Value} {l : List Sc.T} (h : Nd.TRow w0 w0.heap.size W v l) (hb : Below w0.heap.size w0 W) : (l = [] ∧ v = .slice none 0 0) ∨ ∃ g c, v = .slice (some ⟨g, 0, none⟩) l.length c ∧ (l.length ≤ c ∧ c ≤ 9223372036854775807) ∧ w0.heap.size ≤ g ∧ Nd.TBlk W g l := by
  obtain ⟨cs, hown, hk⟩ := h
  rcases hown.2 with ⟨hv, h0⟩ | ⟨g, cap, cur, hv, hg, hc, hn, hm, hs, ht⟩
  · exact Or.inl ⟨List.length_eq_zero_iff.1 h0, hv⟩
  · refine Or.inr ⟨g, cap, hv, ⟨hn, hm⟩, hg, cur, hc, fun i y hy => ?_⟩
    obtain ⟨c0, c1, c2, e0, e1, e2, htk⟩ := hk i y hy
    have hi := (List.getElem?_eq_some_iff.1 hy).1
    have key : ∀ j q, cs[j]? = some q → cur[j]? = some q := fun j q hq => by
      rw [← Array.getElem?_toList]
      rw [← ht] at hq
      obtain ⟨hjl, _⟩ := List.getElem?_eq_some_iff.1 hq
      rw [List.length_take] at hjl
      rwa [List.getElem?_take_of_lt (by omega)] at hq
    refine ⟨c0, c1, c2, key _ _ e0, key _ _ e1, key _ _ e2, fun W' hW => ?_⟩
    obtain ⟨pn, cn, e, hf, hp⟩ := htk
    refine ⟨pn, cn, e, hf, ?_⟩
    rcases hp with hp | ⟨b, off, hpe, hcl⟩
    · exact Or.inl hp
    · by_cases hz : y.path = []
      · exact Or.inl hz
      · refine Or.inr ⟨b, off, hpe, fun i hi => ?_⟩
        have hlt := World.block_lt_of_cell? w0 _ (hcl i hi)
        have hlt : b < w0.heap.size := hlt
        exact (World.cell?_of_block (a := ⟨b, off + i, none⟩) ((hW b (Nat.lt_of_lt_of_le hlt hb.size) (by omega)).trans (hb.block b hlt))).trans (hcl i hi)
/-- A cell of a token is stored, and what it reads as stays. -/
theorem Nd.TBlk.set1 {W : World} {g : Nat} {l : List Sc.T} (h : Nd.TBlk W g l) (k : Nat) (hk : k < l.length) : ∃ pn cn, W.cell? ⟨g, k * 3, none⟩ = some (.int .u8 (l[k].kind : Nat)) ∧ W.cell? ⟨g, k * 3 + 1, none⟩ = some (.string l[k].text) ∧ W.cell? ⟨g, k * 3 + 2, none⟩ = some (.slice pn l[k].path.length cn) ∧ W.frozen? ⟨g, k * 3 + 1, none⟩ = false ∧ W.frozen? ⟨g, k * 3 + 2, none⟩ = false ∧ (∀ W' : World, (∀ j, j < W.heap.size → j ≠ g → W'.heap[j]? = W.heap[j]?) → Wp.At Wp.mkT W' pn l[k].path) ∧ Sc.Fits l[k] cn := by
  obtain ⟨cur, hc, hq⟩ := h
  obtain ⟨c0, c1, c2, e0, e1, e2, ho⟩ := hq k l[k] (List.getElem?_eq_getElem hk)
  obtain ⟨pn, cn, e, hf, hp⟩ := ho W (fun _ _ _ => rfl)
  simp only [Value.agg.injEq, Array.mk.injEq, List.cons.injEq, and_true] at e
  obtain ⟨rfl, rfl, rfl⟩ := e
  exact ⟨pn, cn, by rw [Lib.cell_of_heap hc]; exact e0, by rw [Lib.cell_of_heap hc]; exact e1, by rw [Lib.cell_of_heap hc]; exact e2, by simp [World.frozen?, hc], by simp [World.frozen?, hc], fun W' hW => (by
    obtain ⟨pn2, cn2, e3, -, hp2⟩ := ho W' hW
    simp only [Value.agg.injEq, Array.mk.injEq, List.cons.injEq, and_true, Value.slice.injEq] at e3
    obtain ⟨-, -, rfl, -⟩ := e3
    exact hp2), hf⟩
theorem Nd.TBlk.same {W : World} {g : Nat} {l : List Sc.T} (h : Nd.TBlk W g l) (k : Nat) (hk : k < l.length) : Nd.TBlk (W.setCell ⟨g, k * 3 + 1, none⟩ (.string l[k].text)) g l := by
  obtain ⟨cur, hc, hq⟩ := h
  refine ⟨_, Lib.heap_setCell_same (i := k * 3 + 1) hc _, fun i y hy => ?_⟩
  obtain ⟨c0, c1, c2, e0, e1, e2, ho⟩ := hq i y hy
  have ho2 := ho.later (Vl.set1_grown W g (k * 3 + 1) (.string l[k].text))
  by_cases hik : i = k
  · subst hik
    obtain rfl : y = l[i] := Option.some.inj (hy.symm.trans (List.getElem?_eq_getElem hk))
    obtain ⟨pn, cn, e, -, -⟩ := ho W (fun _ _ _ => rfl)
    simp only [Value.agg.injEq, Array.mk.injEq, List.cons.injEq, and_true] at e
    obtain ⟨rfl, rfl, rfl⟩ := e
    have hlt := (Array.getElem?_eq_some_iff.1 e1).1
    exact ⟨_, _, _, by rw [Array.getElem?_setIfInBounds_ne (by omega)]; exact e0, by rw [Array.getElem?_setIfInBounds_self_of_lt hlt], by rw [Array.getElem?_setIfInBounds_ne (by omega)]; exact e2, ho2⟩
  · exact ⟨c0, c1, c2, by rw [Array.getElem?_setIfInBounds_ne (by omega)]; exact e0, by rw [Array.getElem?_setIfInBounds_ne (by omega)]; exact e1, by rw [Array.getElem?_setIfInBounds_ne (by omega)]; exact e2, ho2⟩
/-- A path of its own is stored. -/
theorem Nd.TBlk.path {W : World} {g : Nat} {l : List Sc.T} (h : Nd.TBlk W g l) (k : Nat) (hk : k < l.length) (pp : Option Addr) (cp : Nat) (hcp : l[k].path.length ≤ cp) (hp : ∀ W' : World, (∀ j, j < W.heap.size → j ≠ g → W'.heap[j]? = W.heap[j]?) → Wp.At Wp.mkT W' pp l[k].path) :
    Nd.TBlk (W.setCell ⟨g, k * 3 + 2, none⟩ (.slice pp l[k].path.length cp)) g l := by
  obtain ⟨cur, hc, hq⟩ := h
  have hgr := Vl.set1_grown W g (k * 3 + 2) (.slice pp l[k].path.length cp)
  refine ⟨_, Lib.heap_setCell_same (i := k * 3 + 2) hc _, fun i y hy => ?_⟩
  obtain ⟨c0, c1, c2, e0, e1, e2, ho⟩ := hq i y hy
  by_cases hik : i = k
  · subst hik
    obtain rfl : y = l[i] := Option.some.inj (hy.symm.trans (List.getElem?_eq_getElem hk))
    obtain ⟨pn, cn, e, ⟨⟨f1, -⟩, f3, f4, f5⟩, -⟩ := ho W (fun _ _ _ => rfl)
    simp only [Value.agg.injEq, Array.mk.injEq, List.cons.injEq, and_true] at e
    obtain ⟨rfl, rfl, rfl⟩ := e
    have hlt := (Array.getElem?_eq_some_iff.1 e2).1
    refine ⟨_, _, _, by rw [Array.getElem?_setIfInBounds_ne (by omega)]; exact e0, by rw [Array.getElem?_setIfInBounds_ne (by omega)]; exact e1, by rw [Array.getElem?_setIfInBounds_self_of_lt hlt], fun W' hW => ?_⟩
    exact ⟨pp, cp, rfl, ⟨⟨f1, hcp⟩, f3, f4, f5⟩, hp W' (fun j h1 h2 => (hW j (by rw [World.size_setCell]; exact h1) h2).trans (hgr.block j h1 (fun e => by cases e; exact h2 rfl)))⟩
  · exact ⟨c0, c1, c2, by rw [Array.getElem?_setIfInBounds_ne (by omega)]; exact e0, by rw [Array.getElem?_setIfInBounds_ne (by omega)]; exact e1, by rw [Array.getElem?_setIfInBounds_ne (by omega)]; exact e2, ho.later hgr⟩
/-- What Tokens hands back. -/
def Nd.TokensPost (R : List Sc.T × Int) (w : World) (e : Ending) (w' : World) : Prop := ∃ p c, e = .returned (.tuple #[.slice p R.1.length c, .int .i64 R.2]) ∧ Sc.At w' p R.1 ∧ (R.1.length ≤ c ∧ c ≤ 9223372036854775807) ∧ Below w.heap.size w w'
theorem Nd.toksR_facts (l : List Nd.N) : (Nd.toksR l).1.length ≤ 1000 ∧ ∀ t ∈ (Nd.toksR l).1, Sc.okT t = true := by
  unfold Nd.toksR
  split
  · rename_i h
    unfold Nd.good Nd.shapedP at h
    rw [Bool.and_eq_true, Bool.and_eq_true, decide_eq_true_eq] at h
    have := Nd.toks_len 8 l h.1.1
    exact ⟨by show (Nd.toksL l).length ≤ 1000; omega, Nd.all_of h.2⟩
  · exact ⟨by simp, fun t ht => by simp at ht⟩
theorem Nd.join_le2 : ∀ (p : List ByteArray), p ≠ [] → (∀ n ∈ p, n.data.toList.length ≤ 32) → (Sc.joinP p).length + 1 ≤ 33 * p.length
  | [], h, _ => absurd rfl h
  | [a], _, h => by
    have := h a (by simp)
    rw [Sc.joinP, List.length_singleton]
    omega
  | a :: b :: r, _, h => by
    have h1 := h a (by simp)
    have h2 := Nd.join_le2 (b :: r) (by simp) (fun n hn => h n (List.mem_cons_of_mem _ hn))
    rw [Sc.joinP, List.length_append, List.length_cons]
    simp only [List.length_cons] at h2 ⊢
    omega
theorem Nd.path4 {t : Sc.T} (h : Sc.okT t = true) : t.path.length ≤ 4 ∧ (Sc.joinP t.path).length ≤ 131 := by
  have key : ∀ p : List ByteArray, Sc.pathOk (p.map (·.data.toList)) = true → p.length ≤ 4 ∧ (Sc.joinP p).length ≤ 131 := fun p hp => by
    obtain ⟨h1, h2, h3, _⟩ := Sc.pathOk_facts hp
    have := Nd.join_le2 p h1 (fun n hn => by
      have := h3 n hn
      unfold Vl.nameL at this
      simp only [Bool.and_eq_true, decide_eq_true_eq] at this
      exact this.1.1)
    omega
  have knil : ∀ p : List ByteArray, p.length = 0 → p.length ≤ 4 ∧ (Sc.joinP p).length ≤ 131 := fun p hp => by
    rw [List.length_eq_zero_iff.1 hp]
    simp [Sc.joinP]
  unfold Sc.okT at h
  split at h
  · simp only [Bool.and_eq_true, decide_eq_true_eq] at h; exact knil _ h.2
  · rw [Bool.and_eq_true] at h; exact key _ h.2
  · rw [Bool.and_eq_true] at h; exact key _ h.2
  · rw [Bool.and_eq_true] at h; exact key _ h.2
  · simp only [Bool.and_eq_true, decide_eq_true_eq] at h; exact knil _ h.2
  · simp only [Bool.and_eq_true, decide_eq_true_eq] at h; exact knil _ h.2
  · cases h
end Go.Proofs.YteiccjakaabfnaaGreatDoor
namespace Go.Proofs.YteiccjakaabfnaaGreatDoor
open Go.RowKit

theorem Nd.words_snoc (l : List Sc.T) (k : Nat) (h : k < l.length) : Nd.wordsT (l.take (k + 1)) = Nd.wordsT (l.take k) ++ (if l[k].path.length ≠ 0 then [Wp.B (Sc.joinP l[k].path)] else []) := by
  rw [List.take_succ_eq_append_getElem h]
  unfold Nd.wordsT
  rw [List.filter_append, List.map_append]
  congr 1
  by_cases hz : l[k].path.length = 0
  · rw [if_neg (fun h => h hz), List.filter_cons, decide_eq_false (fun h => h hz)]
    rfl
  · rw [if_pos hz, List.filter_cons, decide_eq_true hz]
    rfl
theorem Nd.words_len (l : List Sc.T) (k : Nat) : (Nd.wordsT (l.take k)).length ≤ l.length := by
  unfold Nd.wordsT
  rw [List.length_map]
  have h1 := List.length_filter_le (fun t : Sc.T => decide (t.path.length ≠ 0)) (l.take k)
  rw [List.length_take] at h1
  omega
/-- What Paths hands back. -/
def Nd.PathsPost (R : List ByteArray × Int) (w : World) (e : Ending) (w' : World) : Prop := ∃ v, e = .returned (.tuple #[v, .int .i64 R.2]) ∧ w'.ownsRow w.heap.size 9 1 v R.1.length (R.1.map Wp.mkT) ∧ Below w.heap.size w w'
theorem Nd.pathsR_eq (l : List Nd.N) : Nd.pathsR l = (Nd.wordsT (Nd.toksR l).1, (Nd.toksR l).2) := by
  unfold Nd.pathsR Nd.toksR
  split <;> rfl
set_option maxRecDepth 100000 in
set_option maxHeartbeats 2000000 in
theorem ndPaths_any (l : List Nd.N) (q : Option Addr) (c : Nat) (w : World) (hn : l.length ≤ 140737488351232) (hA : Nd.Row w q l) (hts : ∀ t ∈ Nd.toksL l, t.text.size ≤ 4000000000) (hT : Sc.Laid w) (hM : Sc.MaxLen w) :
    Calls Tryz.prog 38 #[.slice q l.length c] w (Nd.PathsPost (Nd.pathsR l) w) := by
  have C := Lib.hid (ndRightTokens_any l q c w hn hA hts hT hM)
  have HF := Lib.hid (Nd.toksR_facts l)
  rw [Nd.pathsR_eq]
  generalize Nd.toksR l = R at *
  obtain ⟨tl, tc⟩ := R
  simp only at HF ⊢
  clear hA hts hT hM hn
  generalize l.length = n0 at *
  obtain ⟨ws, hws⟩ : ∃ ws, ws = Nd.wordsT tl := ⟨_, rfl⟩
  rw [← hws]
  have Hws := Lib.hid hws
  clear hws
  obtain ⟨i0, hi, hz0, hz1, hz2⟩ := Vl.infoText
  go_enter Tryz.func38, Tryz.ntmps38
  go_wp2_with fail
  refine C.out.mono ?_
  rintro e w1 ⟨v, rfl, hO, hb⟩
  have HB := Lib.hid hb
  obtain ⟨p1, c1, hv, hA1⟩ := hO.at hb
  have hv : v = .slice p1 tl.length c1 := hv
  subst hv
  have HA1 := Lib.hid (show Sc.At w1 p1 tl from hA1)
  clear hO hb C hA1
  obtain ⟨n, hnn⟩ : ∃ n, n = tl.length := ⟨_, rfl⟩
  have Hn := Lib.hid hnn
  have hn1 : n ≤ 1000 := by have := HF.out.1; omega
  rw [← hnn]
  clear hnn
  go_wp2_with fail
  go_loopw [6, 8, 16] (fun v6 _ t wr => ∃ k : Nat, k ≤ n ∧ t = .int .i64 k ∧ Hid (wr.ownsRow w1.heap.size 9 1 v6 (Nd.wordsT (tl.take k)).length ((Nd.wordsT (tl.take k)).map Wp.mkT)) ∧ Hid (Below w1.heap.size w1 wr)) (fun _ _ t _ => n - (intOf t).toNat)
  case atStart => exact ⟨0, Nat.zero_le _, rfl, Lib.hid (World.ownsRow_nil _ _ _ _), Lib.hid (Below.refl _ _)⟩
  case round =>
    obtain ⟨k, hk, rfl, HO, HB1⟩ := hrel
    by_cases hlt : k < n
    · have hkl : k < tl.length := by rw [← Hn.out]; exact hlt
      obtain ⟨b, off, c0, c1', c2, hpe, ⟨e0, e1, e2⟩, y, hy, pn, cn, hv, hft, hpt⟩ := (HA1.out.below HB1.out) k hkl
      obtain rfl : y = tl[k] := (Option.some.inj ((List.getElem?_eq_getElem hkl).symm.trans hy)).symm
      simp only [Value.agg.injEq, Array.mk.injEq, List.cons.injEq, and_true] at hv
      obtain ⟨rfl, rfl, rfl⟩ := hv
      subst hpe
      obtain ⟨⟨-, hcn⟩, -, -, -⟩ := hft
      obtain ⟨hp4, hp5⟩ := Nd.path4 (HF.out.2 _ (List.getElem_mem hkl))
      have Hsn := Lib.hid (Nd.words_snoc tl k hkl)
      have Hwl := Lib.hid (Nd.words_len tl k)
      clear hy
      generalize tl[k].kind = kd at *
      generalize tl[k].text = tx at *
      generalize tl[k].path = ph at *
      have HX := Lib.hid ((Below.refl wr.heap.size wr).alloc (Nat.le_refl _) (.cells #[.int .u8 (kd : Nat), .string tx, .slice pn ph.length cn] 110))
      have HV := Lib.hid (Vl.new wr (.cells #[.int .u8 (kd : Nat), .string tx, .slice pn ph.length cn] 110))
      have HJ := Lib.hid (fun W (h : Below wr.heap.size wr W) => Sc.join_any pn cn ph W (hpt.below h) hcn hp4 hp5)
      generalize Nd.wordsT (tl.take k) = wk at *
      obtain ⟨k0, k1, k2⟩ := Sc.three_of HV.out
      clear hpt
      by_cases hz : ph.length = 0
      · have hq2 : ¬ (0 : Int) < (ph.length : Int) := by omega
        have Hsn2 := Lib.hid (show Nd.wordsT (tl.take (k + 1)) = wk by rw [Hsn.out, if_neg (by simpa using hz), List.append_nil])
        have HO2 := Lib.hid (HO.out.alloc (.cells #[.int .u8 (kd : Nat), .string tx, .slice pn ph.length cn] 110))
        have HB2 := Lib.hid (HB1.out.alloc HB1.out.size (.cells #[.int .u8 (kd : Nat), .string tx, .slice pn ph.length cn] 110))
        clear Hsn HJ hz
        go_wp2_with fail
        exact ⟨⟨k + 1, by omega, by go_num, Lib.hid (by rw [Hsn2.out]; exact HO2.out), HB2⟩, by simp [intOf]; omega⟩
      · have hq2 : (0 : Int) < (ph.length : Int) := by omega
        have Hsn2 := Lib.hid (show Nd.wordsT (tl.take (k + 1)) = wk ++ [Wp.B (Sc.joinP ph)] by rw [Hsn.out, if_pos hz])
        have HCl := Lib.hid (fun W => vlClone_any (Wp.B (Sc.joinP ph)) W (by rw [Wp.B_size]; omega))
        have HJ2 := Lib.hid (HJ.out _ HX.out)
        clear Hsn hz HJ
        generalize Wp.B (Sc.joinP ph) = wd at *
        go_wp2_with fail
        refine HJ2.out.mono ?_
        rintro e w2 ⟨rfl, hb2⟩
        have HY2 := Lib.hid (HX.out.trans (hb2.mono HX.out.size))
        clear hb2 HJ2 k0 k1 k2 e0 e1 e2
        go_wp2_with fail
        refine (HCl.out _).mono ?_
        rintro e w3 ⟨rfl, hb3⟩
        have HY3 := Lib.hid (HY2.out.trans (hb3.mono HY2.out.size))
        have HO3 := Lib.hid ((ownsRow_below HO.out HY3.out).alloc (.cells #[.string wd] 9))
        have HB3 := Lib.hid ((HB1.out.trans (HY3.out.mono HB1.out.size)).alloc (Nat.le_trans HB1.out.size HY3.out.size) (.cells #[.string wd] 9))
        have Hnew := Lib.hid (Vl.one_of (Vl.new w3 (.cells #[.string wd] 9)))
        have Hq := Lib.hid (show ∀ j q, ([.string wd] : List Value)[j]? = some q → (w3.alloc (.cells #[.string wd] 9)).cell? ((⟨w3.heap.size, 0, none⟩ : Addr).add j) = some q from fun j q hq => by
          match j, hq with
          | 0, hq => cases hq; exact Hnew.out.1
          | j + 1, hq => simp at hq)
        have Hlk := Lib.hid (show wk.length + 1 ≤ maxLen by have := Hwl.out; have := Hn.out; unfold maxLen; omega)
        have Hlk2 := Lib.hid (show (wk.length + 1) * 16 ≤ 140737488355328 by have := Hwl.out; have := Hn.out; omega)
        clear hb3 HCl HO HB1 HY2 HX
        go_wp2_with (at_builtin; refine Vl.listApp _ rfl _ _ 23 rfl w1.heap.size 9 i0 _ 1 16 Tryz.underlying23 hi hz0 hz1 hz2 rfl (by decide) _ wk.length _ rfl HO3.out ⟨w3.heap.size, 0, none⟩ 1 1 [.string wd] rfl rfl Hq.out (by intro q hq; simp at hq; subst hq; rfl) Hlk.out Hlk2.out HB3.out.size ?_)
        intro v' w4 hown hgrow _
        have HB4 := Lib.hid (below_grown5 HB3.out HO3.out (Nat.le_refl _) hgrow)
        have HOw := Lib.hid hown
        clear hown hgrow HO3 HB3 Hnew Hq
        go_wp2_with fail
        exact ⟨⟨k + 1, by omega, by go_num, Lib.hid (by rw [Hsn2.out, List.length_append, List.map_append]; exact HOw.out), HB4⟩, by simp [intOf]; omega⟩
    · obtain rfl : k = n := by omega
      have HO1 := Lib.hid (show wr.ownsRow w1.heap.size 9 1 _ ws.length (ws.map Wp.mkT) by have := HO.out; rwa [Hn.out, List.take_length, ← Hws.out] at this)
      go_wp2_with fail
      go_ret2
      refine ⟨_, rfl, ?_, HB.out.trans (HB1.out.mono HB.out.size)⟩
      exact ⟨HO1.out.1, HO1.out.2.imp id fun ⟨g, cap, cur, a, b, rest⟩ => ⟨g, cap, cur, a, Nat.le_trans HB.out.size b, rest⟩⟩
end Go.Proofs.YteiccjakaabfnaaGreatDoor
