/-
  What stands while the document's reader reads items. No condition but those that the theorems state.
  The walk of the document's own guess and Decode (bellmanref09.guess, Decode). Condition: what is decoded is of a size that a machine holds.
-/
import Derived.Test.YtckcbdnlligndaaDoorVlRows3
import Derived.Test.YtckcbdnlligndaaDoorVlLives
import Derived.Test.YtckcbdnlligndaaDoorRVlMath
import Derived.Test.YtckcbdnlligndaaDoorRVlEnc
import Derived.Test.YtckcbdnlligndaaDoorVlDecode
namespace Go.Proofs.YtckcbdnlligndaaDoor
open Go.RowKit

/-- A value was put behind. -/
theorem Vl.Rows2.item {d B : Nat} {W W' : World} {vi vi' vn : Value} {is : List Vl.V} {ns : List ByteArray} {cs : List Value} {c0 c1 c2 c3 c4 : Value} {y : Vl.V} (h : Vl.Rows2 d B W vi vn is ns) (hcs : W.ownsRow B 26 5 vi is.length cs)
    (hu : Vl.Off2 d B W vi.ownBlock vn.ownBlock (.agg #[c0, c1, c2, c3, c4]) y)
    (hown : W'.ownsRow B 26 5 vi' (is.length + 1) (cs ++ [c0, c1, c2, c3, c4])) (hg : W.grownBy W' vi.ownBlock)
    (hat : vi'.ownBlock = vi.ownBlock ∨ vi'.ownBlock = some W.heap.size) : Vl.Rows2 d B W' vi' vn (is ++ [y]) ns := by
  obtain ⟨⟨cs', hO, hk⟩, hN⟩ := h
  obtain rfl : cs' = cs := Vl.own_same hO hcs
  have hlen : cs'.length = is.length * 5 := hO.1
  have tr : ∀ u z, Vl.Off2 d B W vi.ownBlock vn.ownBlock u z → Vl.Off2 d B W' vi'.ownBlock vn.ownBlock u z := fun u z hz W2 hW => hz W2 (fun j h1 h2 h3 h4 => (hW j h1 (Nat.lt_of_lt_of_le h2 hg.size) (fun e => by
    rcases hat with h | h
    · exact h3 (e.trans h)
    · have := e.trans h; cases this; omega) h4).trans (hg.block j h2 h3))
  refine ⟨⟨_, by rw [List.length_append]; exact hown, fun i z hy => ?_⟩, hN.kept hg (Vl.own_ne hN hO (by decide))⟩
  by_cases hi : i < is.length
  · rw [List.getElem?_append_left hi] at hy
    obtain ⟨a0, a1, a2, a3, a4, ⟨e0, e1, e2, e3, e4⟩, hoff⟩ := hk i z hy
    refine ⟨a0, a1, a2, a3, a4, ⟨?_, ?_, ?_, ?_, ?_⟩, tr _ _ hoff⟩
    · rw [List.getElem?_append_left (by omega)]; exact e0
    · rw [List.getElem?_append_left (by omega)]; exact e1
    · rw [List.getElem?_append_left (by omega)]; exact e2
    · rw [List.getElem?_append_left (by omega)]; exact e3
    · rw [List.getElem?_append_left (by omega)]; exact e4
  · obtain ⟨hil, hie⟩ := List.getElem?_eq_some_iff.1 hy
    have hik : i = is.length := by rw [List.length_append] at hil; simp at hil; omega
    subst hik
    rw [List.getElem?_concat_length] at hy
    cases hy
    have key : ∀ j q, (cs' ++ [c0, c1, c2, c3, c4])[is.length * 5 + j]? = q ↔ ([c0, c1, c2, c3, c4] : List Value)[j]? = q := fun j q => by
      rw [List.getElem?_append_right (by omega), hlen, Nat.add_sub_cancel_left]
    exact ⟨_, _, _, _, _, ⟨(key 0 _).2 rfl, (key 1 _).2 rfl, (key 2 _).2 rfl, (key 3 _).2 rfl, (key 4 _).2 rfl⟩, tr _ _ hu⟩
/-- A row of values and one of names, that lie in a box; all else of the call's start is kept, and another box. -/
structure Vl.GSt (d g0 k : Nat) (w W : World) (vi vn : Value) (is : List Vl.V) (ns : List ByteArray) : Prop where
  hB : Below g0 w W
  le : g0 = w.heap.size
  sz : g0 + 2 ≤ W.heap.size
  rb : W.heap[g0]? = some (.cells #[.int .u8 0, .string ⟨#[]⟩, .int .i64 0, .slice none 0 0, .slice none 0 0] 26 (0, 0))
  vb : W.heap[g0 + 1]? = some (.cells #[.int .u8 (k : Nat), .string ⟨#[]⟩, .int .i64 0, vi, vn] 26 (0, 0))
  rows : Vl.Rows2 d (g0 + 2) W vi vn is ns
theorem Vl.GSt.below {d g0 k : Nat} {w W W' : World} {vi vn : Value} {is : List Vl.V} {ns : List ByteArray} (h : Vl.GSt d g0 k w W vi vn is ns) (hb : Below W.heap.size W W') : Vl.GSt d g0 k w W' vi vn is ns := by
  have hs := h.sz
  exact ⟨h.hB.trans (hb.mono (by omega)), h.le, Nat.le_trans hs hb.size, (hb.block g0 (by omega)).trans h.rb, (hb.block (g0 + 1) (by omega)).trans h.vb, h.rows.below hb⟩
theorem Vl.GSt.alloc {d g0 k : Nat} {w W : World} {vi vn : Value} {is : List Vl.V} {ns : List ByteArray} (h : Vl.GSt d g0 k w W vi vn is ns) (o : Obj) : Vl.GSt d g0 k w (W.alloc o) vi vn is ns := h.below ((Below.refl _ _).alloc (Nat.le_refl _) o)
theorem Vl.GSt.drew {d g0 k : Nat} {w W : World} {vi vn : Value} {is : List Vl.V} {ns : List ByteArray} (h : Vl.GSt d g0 k w W vi vn is ns) : Vl.GSt d g0 k w W.drew vi vn is ns := h.below ((Below.refl _ _).drew)
theorem Vl.GSt.lt {d g0 k : Nat} {w W : World} {vi vn : Value} {is : List Vl.V} {ns : List ByteArray} (h : Vl.GSt d g0 k w W vi vn is ns) : (∀ x, vi.ownBlock = some x → g0 + 2 ≤ x ∧ x < W.heap.size) ∧ (∀ x, vn.ownBlock = some x → g0 + 2 ≤ x ∧ x < W.heap.size) := by
  obtain ⟨cs, hO, _⟩ := h.rows.items
  exact ⟨fun x e => hO.lt x e, fun x e => h.rows.names.lt x e⟩
/-- A name was put behind, and boxed: ahead of that the box's cell is there. -/
theorem Vl.GSt.name {d g0 k : Nat} {w W W' : World} {vi vn vn' : Value} {is : List Vl.V} {ns : List ByteArray} {t : ByteArray} (h : Vl.GSt d g0 k w W vi vn is ns) (hown : W'.ownsRow (g0 + 2) 9 1 vn' (ns.length + 1) (ns.map Wp.mkT ++ [.string t])) (hg : W.grownBy W' vn.ownBlock)
    (hat : vn'.ownBlock = vn.ownBlock ∨ vn'.ownBlock = some W.heap.size) : Vl.GSt d g0 k w (W'.setCell ⟨g0 + 1, 4, none⟩ vn') vi vn' is (ns ++ [t]) ∧ W'.cell? ⟨g0 + 1, 4, none⟩ = some vn ∧ W'.frozen? ⟨g0 + 1, 4, none⟩ = false := by
  have hs := h.sz
  have hl := h.lt.2
  have hle := h.le
  have hk : ∀ j, j < g0 + 2 → W'.heap[j]? = W.heap[j]? := fun j hj => hg.block j (by omega) (fun e => by have := (hl j e.symm).1; omega)
  have hv := (hk (g0 + 1) (by omega)).trans h.vb
  have hG : W'.grownBy (W'.setCell ⟨g0 + 1, 4, none⟩ vn') (some (g0 + 1)) := Vl.set1_grown W' (g0 + 1) 4 vn'
  have hgs := hg.size
  have hB1 : Below g0 w W' := h.hB.grown hg (by omega) (fun x e => by have := (hl x e).1; omega)
  exact ⟨⟨below_grownBy hB1 hG (by omega) (by omega), h.le, Nat.le_trans (by omega) hG.size, (hG.block g0 (by omega) (fun e => by have := Option.some.inj e; omega)).trans ((hk g0 (by omega)).trans h.rb), Lib.heap_setCell_same (i := 4) hv vn', (h.rows.name hown hg hat).keep hG (by omega)⟩, (Vl.five_of hv).2.2.2.2, (Vl.fiveF_of hv).2.2.2.2⟩
/-- A value was put behind, and boxed. -/
theorem Vl.GSt.item {d g0 k : Nat} {w W W' : World} {vi vi' vn : Value} {is : List Vl.V} {ns : List ByteArray} {cs : List Value} {c0 c1 c2 c3 c4 : Value} {y : Vl.V} (h : Vl.GSt d g0 k w W vi vn is ns) (hcs : W.ownsRow (g0 + 2) 26 5 vi is.length cs)
    (hu : Vl.Off2 d (g0 + 2) W vi.ownBlock vn.ownBlock (.agg #[c0, c1, c2, c3, c4]) y) (hown : W'.ownsRow (g0 + 2) 26 5 vi' (is.length + 1) (cs ++ [c0, c1, c2, c3, c4])) (hg : W.grownBy W' vi.ownBlock)
    (hat : vi'.ownBlock = vi.ownBlock ∨ vi'.ownBlock = some W.heap.size) : Vl.GSt d g0 k w (W'.setCell ⟨g0 + 1, 3, none⟩ vi') vi' vn (is ++ [y]) ns ∧ W'.cell? ⟨g0 + 1, 3, none⟩ = some vi ∧ W'.frozen? ⟨g0 + 1, 3, none⟩ = false := by
  have hs := h.sz
  have hl := h.lt.1
  have hle := h.le
  have hk : ∀ j, j < g0 + 2 → W'.heap[j]? = W.heap[j]? := fun j hj => hg.block j (by omega) (fun e => by have := (hl j e.symm).1; omega)
  have hv := (hk (g0 + 1) (by omega)).trans h.vb
  have hG : W'.grownBy (W'.setCell ⟨g0 + 1, 3, none⟩ vi') (some (g0 + 1)) := Vl.set1_grown W' (g0 + 1) 3 vi'
  have hgs := hg.size
  have hB1 : Below g0 w W' := h.hB.grown hg (by omega) (fun x e => by have := (hl x e).1; omega)
  exact ⟨⟨below_grownBy hB1 hG (by omega) (by omega), h.le, Nat.le_trans (by omega) hG.size, (hG.block g0 (by omega) (fun e => by have := Option.some.inj e; omega)).trans ((hk g0 (by omega)).trans h.rb), Lib.heap_setCell_same (i := 3) hv vi', (h.rows.item hcs hu hown hg hat).keep hG (by omega)⟩, (Vl.five_of hv).2.2.2.1, (Vl.fiveF_of hv).2.2.2.1⟩
end Go.Proofs.YtckcbdnlligndaaDoor
namespace Go.Proofs.YtckcbdnlligndaaDoor
open Go.RowKit

/-- What guess hands back. -/
def Vl.GP (d : Nat) (T : Vl.V × List UInt8 × Bool) (w : World) (e : Ending) (w' : World) : Prop := ∃ u, e = .returned (.tuple #[u, .string (Wp.B T.2.1), .bool T.2.2]) ∧ Vl.Off d w.heap.size w' none u T.1 ∧ Below w.heap.size w w'
theorem Vl.gLoop_stop (gv : List UInt8 → Vl.V × List UInt8 × Bool) (k : Nat) (ns : List ByteArray) (is : List Vl.V) (l : List UInt8) : Vl.gLoop gv k 0 ns is l = (ns, is, l, true) := rfl
theorem Vl.gLoop_name {gv : List UInt8 → Vl.V × List UInt8 × Bool} {k : Nat} (hk : k = 5) (m : Nat) (ns : List ByteArray) (is : List Vl.V) (l : List UInt8) : Vl.gLoop gv k (m + 1) ns is l = if (Wp.getText l).2.2 = 0 then (if (gv (Wp.getText l).2.1).2.2 = true then Vl.gLoop gv k m (ns ++ [Wp.B (Wp.getText l).1]) (is ++ [(gv (Wp.getText l).2.1).1]) (gv (Wp.getText l).2.1).2.1 else ([], [], [], false)) else ([], [], [], false) := by
  rw [Vl.gLoop, if_pos hk]
theorem Vl.gLoop_item {gv : List UInt8 → Vl.V × List UInt8 × Bool} {k : Nat} (hk : ¬ k = 5) (m : Nat) (ns : List ByteArray) (is : List Vl.V) (l : List UInt8) : Vl.gLoop gv k (m + 1) ns is l = if (gv l).2.2 = true then Vl.gLoop gv k m ns (is ++ [(gv l).1]) (gv l).2.1 else ([], [], [], false) := by
  rw [Vl.gLoop, if_neg hk]
theorem Vl.At.fitsR : ∀ {d : Nat} {w : World} {v : Value} {x : Vl.V}, Vl.At d w v x → ∀ e, Vl.fits e x
  | _, _, _, _, _, 0 => trivial
  | 0, _, _, _, h, _ + 1 => h.elim
  | d + 1, w, v, x, ⟨pi, ci, pn, cn, _, hf, _, hi⟩, e + 1 => by
    refine ⟨hf.2.2.1, fun y hy => ?_⟩
    rcases hi with hi | ⟨b, off, _, hc⟩
    · rw [hi] at hy; cases hy
    · obtain ⟨i, hil, rfl⟩ := List.getElem_of_mem hy
      obtain ⟨_, _, _, _, _, _, ha⟩ := hc i hil
      exact Vl.At.fitsR ha e
theorem Vl.zero_off (d B : Nat) (W : World) (blk : Option Nat) : Vl.Off (d + 1) B W blk (.agg #[.int .u8 0, .string ⟨#[]⟩, .int .i64 0, .slice none 0 0, .slice none 0 0]) Vl.zero := fun W' _ => Vl.At.zero d W'
theorem Vl.leaf_off (d B : Nat) (W : World) (blk : Option Nat) (k : Nat) (t : ByteArray) (i : Int) (hk : k ≤ 255) (ht : t.size ≤ 140737488351232) (hi : Wp.I64 i) : Vl.Off (d + 1) B W blk (.agg #[.int .u8 (k : Nat), .string t, .int .i64 i, .slice none 0 0, .slice none 0 0]) (.mk k t i [] []) :=
  fun _ _ => ⟨none, 0, none, 0, rfl, ⟨hk, ht, hi, by show (0 : Nat) ≤ _; omega, by show (0 : Nat) ≤ _; omega, fun s hs => by cases hs⟩, Or.inl rfl, Or.inl rfl⟩
theorem Vl.gt_len (l : List UInt8) : (Wp.getText l).1.length ≤ l.length ∧ (Wp.getText l).2.1.length ≤ l.length := by
  have := Wp.gt_rest (Wp.B l) (Wp.getText l).1 (Wp.getText l).2.1 (Wp.getText l).2.2 (by unfold Wp.gt; rw [Wp.B_data])
  rw [Wp.B_size] at this
  exact ⟨this.2, this.1⟩
theorem Vl.gn_I64 (l : List UInt8) : Wp.I64 (Wp.getNum l).1 := by
  by_cases h : (Wp.getNum l).2.2 = 0
  · exact (Wp.getNum_ok l h).2
  · rw [(Wp.getNum_bad l h).1]; exact ⟨by omega, by omega⟩
theorem Vl.gLoop_len {gv : List UInt8 → Vl.V × List UInt8 × Bool} (hl : ∀ l, (gv l).2.1.length ≤ l.length) (k : Nat) : ∀ (m : Nat) (ns : List ByteArray) (is : List Vl.V) (l : List UInt8), (Vl.gLoop gv k m ns is l).2.2.1.length ≤ l.length
  | 0, _, _, _ => Nat.le_refl _
  | m + 1, ns, is, l => by
    rw [Vl.gLoop]
    have h1 := (Vl.gt_len l).2
    split
    · split
      · split
        · exact Nat.le_trans (Vl.gLoop_len hl k m _ _ _) (Nat.le_trans (hl _) h1)
        · simp
      · simp
    · split
      · exact Nat.le_trans (Vl.gLoop_len hl k m _ _ _) (hl _)
      · simp
theorem Vl.guess_len : ∀ (L : Nat) (l : List UInt8), (Vl.guessP L l).2.1.length ≤ l.length
  | 0, [] => by rw [Vl.guessP]; exact Nat.le_refl _
  | _ + 1, [] => by rw [Vl.guessP]; exact Nat.le_refl _
  | 0, _ :: _ => by rw [Vl.guessP]; simp
  | L + 1, a :: t => by
    have h1 := (Vl.gt_len t).2
    have h2 := Vl.getNum_len t
    rw [Vl.guessP]
    split
    · show (Wp.getText t).2.1.length ≤ _; simp; omega
    · split
      · show (Wp.getNum t).2.1.length ≤ _; simp; omega
      · split
        · have h3 := Vl.gLoop_len (Vl.guess_len L) a.toNat (Wp.getNum t).1.toNat [] [] (Wp.getNum t).2.1
          split
          · show (Vl.gLoop _ _ _ _ _ _).2.2.1.length ≤ _
            simp
            omega
          · simp
        · simp
set_option maxRecDepth 100000 in
set_option maxHeartbeats 1000000 in
theorem refGuess_none (d : Nat) (s : ByteArray) (z : Int) (w : World) (h : s.size = 0 ∨ z = 0) :
    Calls Tryd.prog 38 #[.string s, .int .i64 z] w (Vl.GP (d + 1) (Vl.zero, [], false) w) := by
  have R1 := Lib.hid (Vl.new w (.cells #[.int .u8 0, .string ⟨#[]⟩, .int .i64 0, .slice none 0 0, .slice none 0 0] 26))
  have B1 := Lib.hid ((Below.refl w.heap.size w).alloc (Nat.le_refl _) (.cells #[.int .u8 0, .string ⟨#[]⟩, .int .i64 0, .slice none 0 0, .slice none 0 0] 26))
  have hq : (s.toList == []) = true ∨ ((s.toList == []) = false ∧ (z == 0) = true) := by
    by_cases h0 : s.size = 0
    · left; rw [Vl.empty_eq, decide_eq_true h0]
    · right
      exact ⟨by rw [Vl.empty_eq, decide_eq_false h0], by rw [h.resolve_left h0]; rfl⟩
  clear h
  rcases hq with hq | ⟨hq, hz⟩
  · go_enter Tryd.func38, Tryd.ntmps38
    go_wp2_with fail
    refine bodyPost_ret (Vl.ret3 rfl _ _ w.heap.size 26 _ _ rfl R1.out Tryd.underlying26 rfl (by kernel_rfl)) rfl ?_
    exact ⟨_, rfl, Vl.zero_off _ _ _ _, B1.out⟩
  · go_enter Tryd.func38, Tryd.ntmps38
    go_wp2_with fail
    refine bodyPost_ret (Vl.ret3 rfl _ _ w.heap.size 26 _ _ rfl R1.out Tryd.underlying26 rfl (by kernel_rfl)) rfl ?_
    exact ⟨_, rfl, Vl.zero_off _ _ _ _, B1.out⟩
set_option maxRecDepth 100000 in
set_option maxHeartbeats 4000000 in
theorem refGuess_step (d : Nat) (gv : List UInt8 → Vl.V × List UInt8 × Bool) (z : Int) (hz1 : 1 ≤ z) (hz2 : z ≤ 8) (hgl : ∀ l, (gv l).2.1.length ≤ l.length)
    (hih : ∀ (l : List UInt8) (W : World), l.length ≤ 140737488351232 → Calls Tryd.prog 38 #[.string (Wp.B l), .int .i64 (z - 1)] W (Vl.GP (d + 1) (gv l) W))
    (a : UInt8) (t : List UInt8) (ht : t.length + 1 ≤ 140737488351232) (w : World) (T : Vl.V × List UInt8 × Bool)
    (hT1 : a.toNat = 1 → T = (.mk a.toNat (Wp.B (Wp.getText t).1) 0 [] [], (Wp.getText t).2.1, decide ((Wp.getText t).2.2 = 0)))
    (hT2 : a.toNat = 2 ∨ a.toNat = 3 → T = (.mk a.toNat ⟨#[]⟩ (Wp.getNum t).1 [] [], (Wp.getNum t).2.1, decide ((Wp.getNum t).2.2 = 0)))
    (hT3 : ¬ a.toNat = 1 → ¬ (a.toNat = 2 ∨ a.toNat = 3) → ((Wp.getNum t).2.2 = 0 ∧ 0 ≤ (Wp.getNum t).1 ∧ (Wp.getNum t).1 ≤ 256) → ∀ G, G = Vl.gLoop gv a.toNat (Wp.getNum t).1.toNat [] [] (Wp.getNum t).2.1 → T = if G.2.2.2 = true then (.mk a.toNat ⟨#[]⟩ 0 G.2.1 G.1, G.2.2.1, true) else (Vl.zero, [], false))
    (hT4 : ¬ a.toNat = 1 → ¬ (a.toNat = 2 ∨ a.toNat = 3) → ¬ ((Wp.getNum t).2.2 = 0 ∧ 0 ≤ (Wp.getNum t).1 ∧ (Wp.getNum t).1 ≤ 256) → T = (Vl.zero, [], false)) :
    Calls Tryd.prog 38 #[.string (Wp.B (a :: t)), .int .i64 z] w (Vl.GP (d + 2) T w) := by
  obtain ⟨k, hk⟩ : ∃ k, k = a.toNat := ⟨_, rfl⟩
  have hk255 : k ≤ 255 := by have := a.toNat_lt; omega
  rw [← hk] at hT1 hT2 hT3 hT4
  obtain ⟨s, hs⟩ : ∃ s, s = Wp.B (a :: t) := ⟨_, rfl⟩
  have hsz : s.size = t.length + 1 := by rw [hs, Wp.B_size]; rfl
  have hpos : 0 < s.size := by omega
  have hs0 : s[0].toNat = k := by rw [hk]; subst hs; rfl
  have he : (s.toList == []) = false := by rw [Vl.empty_eq, decide_eq_false (by omega)]
  have hz0 : (z == 0) = false := beq_eq_false_iff_ne.2 (by omega)
  have hsl : ∀ W, (Instr.sliceAt 9 (.string s) (some (.int .i64 1)) none none).run Tryd.prog W = .ok (.string (Wp.B t)) W := by
    intro W
    rw [run_sliceAt_string (h := Tryd.underlying9), run_slice_string_l (ht := Tryd.underlying9) (h0 := by omega) (h1 := by omega)]
    rw [hs, Wp.extract_B, Wp.B_data, Wp.B_size]
    simp
  have HT1 := Lib.hid hT1
  have HT2 := Lib.hid hT2
  have HT3 := Lib.hid hT3
  have HT4 := Lib.hid hT4
  have HI := Lib.hid hih
  have Hgl := Lib.hid hgl
  rw [← hs]
  have HGt : Hid (∀ (l : List UInt8) W, l.length ≤ 140737488351232 → Calls Tryd.prog 75 #[.string (Wp.B l)] W fun e w' => e = .returned (.tuple #[.string (Wp.B (Wp.getText l).1), .string (Wp.B (Wp.getText l).2.1), .int .i64 (Wp.getText l).2.2]) ∧ Below W.heap.size W w') := Lib.hid (fun l W h => by
    have := rgetText_any (Wp.B l) W (by rw [Wp.B_size]; omega)
    unfold Wp.gt at this
    rwa [Wp.B_data] at this)
  have HGn : Hid (∀ (l : List UInt8) W, l.length ≤ 140737488351232 → Calls Tryd.prog 76 #[.string (Wp.B l)] W fun e w' => e = .returned (.tuple #[.int .i64 (Wp.getNum l).1, .string (Wp.B (Wp.getNum l).2.1), .int .i64 (Wp.getNum l).2.2]) ∧ Below W.heap.size W w') := Lib.hid (fun l W h => by
    have := rgetNum_any (Wp.B l) W (by rw [Wp.B_size]; omega)
    unfold Wp.gn at this
    rwa [Wp.B_data] at this)
  have hR2 : ((w.alloc (.cells #[.int .u8 0, .string ⟨#[]⟩, .int .i64 0, .slice none 0 0, .slice none 0 0] 26)).alloc (.cells #[.int .u8 (k : Nat), .string ⟨#[]⟩, .int .i64 0, .slice none 0 0, .slice none 0 0] 26)).heap[w.heap.size]? = some (.cells #[.int .u8 0, .string ⟨#[]⟩, .int .i64 0, .slice none 0 0, .slice none 0 0] 26 (0, 0)) := by rw [Vl.past _ _ _ (by simp)]; exact Vl.new _ _
  have hV2 := Vl.newAt (w.alloc (.cells #[.int .u8 0, .string ⟨#[]⟩, .int .i64 0, .slice none 0 0, .slice none 0 0] 26)) (.cells #[.int .u8 (k : Nat), .string ⟨#[]⟩, .int .i64 0, .slice none 0 0, .slice none 0 0] 26) (w.heap.size + 1) (by simp)
  have hB2 := ((Below.refl w.heap.size w).alloc (Nat.le_refl _) (.cells #[.int .u8 0, .string ⟨#[]⟩, .int .i64 0, .slice none 0 0, .slice none 0 0] 26)).alloc (by simp) (.cells #[.int .u8 (k : Nat), .string ⟨#[]⟩, .int .i64 0, .slice none 0 0, .slice none 0 0] 26)
  have hS2 : ((w.alloc (.cells #[.int .u8 0, .string ⟨#[]⟩, .int .i64 0, .slice none 0 0, .slice none 0 0] 26)).alloc (.cells #[.int .u8 (k : Nat), .string ⟨#[]⟩, .int .i64 0, .slice none 0 0, .slice none 0 0] 26)).heap.size = w.heap.size + 2 := by simp
  have HG0 : Hid (Vl.GSt (d + 1) w.heap.size k w ((w.alloc (.cells #[.int .u8 0, .string ⟨#[]⟩, .int .i64 0, .slice none 0 0, .slice none 0 0] 26)).alloc (.cells #[.int .u8 (k : Nat), .string ⟨#[]⟩, .int .i64 0, .slice none 0 0, .slice none 0 0] 26)) (.slice none 0 0) (.slice none 0 0) [] []) :=
    Lib.hid ⟨hB2, rfl, by rw [hS2]; omega, hR2, hV2, Vl.Rows2.nil _ _ _⟩
  clear hs hk hT1 hT2 hT3 hT4 hih hgl hR2 hV2 hB2 hS2
  by_cases k1 : k = 1
  · have e1 : ((k : Int) == 1) = true := by rw [k1]; rfl
    have HT := Lib.hid (HT1.out k1)
    have HC := Lib.hid (fun W => HGt.out t W (by omega))
    have htl := Vl.gt_len t
    clear k1
    generalize Wp.getText t = G at *
    obtain ⟨x, r, c⟩ := G
    simp only [] at *
    go_enter Tryd.func38, Tryd.ntmps38
    go_wp2_with fail
    refine (HC.out _).mono ?_
    rintro e w3 ⟨rfl, hb3⟩
    have HG3 := Lib.hid (HG0.out.below hb3)
    clear hb3
    obtain ⟨m0, m1, m2, m3, m4⟩ := Vl.five_of HG3.out.vb
    obtain ⟨n0, n1, n2, n3, n4⟩ := Vl.fiveF_of HG3.out.vb
    obtain ⟨r0, r1, r2, r3, r4⟩ := Vl.five_of HG3.out.rb
    obtain ⟨f0, f1, f2, f3, f4⟩ := Vl.fiveF_of HG3.out.rb
    have HR4 := Lib.hid ((Below.heap_setCell w3 ⟨w.heap.size + 1, 1, none⟩ (.string (Wp.B x)) w.heap.size (by show w.heap.size ≠ w.heap.size + 1; omega)).trans HG3.out.rb)
    have HB4 := Lib.hid (HG3.out.hB.setCell (p := ⟨w.heap.size + 1, 1, none⟩) (by show w.heap.size ≤ w.heap.size + 1; omega) (.string (Wp.B x)))
    go_wp2_with fail
    refine bodyPost_ret (Vl.ret3 rfl _ _ w.heap.size 26 _ _ rfl (Vl.set5 HR4.out _ _ _ _ _) Tryd.underlying26 rfl (by kernel_rfl)) rfl ?_
    have hT := HT.out
    subst hT
    exact ⟨_, rfl, Vl.leaf_off _ _ _ _ k (Wp.B x) 0 hk255 (by rw [Wp.B_size]; have := htl.1; omega) ⟨by omega, by omega⟩, below_grownBy HB4.out (Vl.set5_grown _ _ _ _ _ _ _) (Nat.le_refl _) HB4.out.size⟩
  · have e1 : ((k : Int) == 1) = false := beq_eq_false_iff_ne.2 (by omega)
    by_cases k23 : k = 2 ∨ k = 3
    · have hT := HT2.out k23
      have HC := Lib.hid (fun W => HGn.out t W (by omega))
      have hI := Vl.gn_I64 t
      generalize Wp.getNum t = G at *
      obtain ⟨x, r, c⟩ := G
      simp only [] at *
      have HT := Lib.hid hT
      have HI5 := Lib.hid hI
      have e23 : ((k : Int) == 2) = true ∨ (((k : Int) == 2) = false ∧ ((k : Int) == 3) = true) := by
        rcases k23 with h | h
        · left; rw [h]; rfl
        · right; rw [h]; exact ⟨rfl, rfl⟩
      clear k1 k23 hT hI
      rcases e23 with e2 | ⟨e2, e3⟩
      · go_enter Tryd.func38, Tryd.ntmps38
        go_wp2_with fail
        refine (HC.out _).mono ?_
        rintro e w3 ⟨rfl, hb3⟩
        have HG3 := Lib.hid (HG0.out.below hb3)
        clear hb3
        obtain ⟨m0, m1, m2, m3, m4⟩ := Vl.five_of HG3.out.vb
        obtain ⟨n0, n1, n2, n3, n4⟩ := Vl.fiveF_of HG3.out.vb
        obtain ⟨r0, r1, r2, r3, r4⟩ := Vl.five_of HG3.out.rb
        obtain ⟨f0, f1, f2, f3, f4⟩ := Vl.fiveF_of HG3.out.rb
        have HR4 := Lib.hid ((Below.heap_setCell w3 ⟨w.heap.size + 1, 2, none⟩ (.int .i64 x) w.heap.size (by show w.heap.size ≠ w.heap.size + 1; omega)).trans HG3.out.rb)
        have HB4 := Lib.hid (HG3.out.hB.setCell (p := ⟨w.heap.size + 1, 2, none⟩) (by show w.heap.size ≤ w.heap.size + 1; omega) (.int .i64 x))
        go_wp2_with fail
        refine bodyPost_ret (Vl.ret3 rfl _ _ w.heap.size 26 _ _ rfl (Vl.set5 HR4.out _ _ _ _ _) Tryd.underlying26 rfl (by kernel_rfl)) rfl ?_
        have hT := HT.out
        subst hT
        exact ⟨_, rfl, Vl.leaf_off _ _ _ _ k ⟨#[]⟩ x hk255 (by show (0 : Nat) ≤ _; omega) HI5.out, below_grownBy HB4.out (Vl.set5_grown _ _ _ _ _ _ _) (Nat.le_refl _) HB4.out.size⟩
      · go_enter Tryd.func38, Tryd.ntmps38
        go_wp2_with fail
        refine (HC.out _).mono ?_
        rintro e w3 ⟨rfl, hb3⟩
        have HG3 := Lib.hid (HG0.out.below hb3)
        clear hb3
        obtain ⟨m0, m1, m2, m3, m4⟩ := Vl.five_of HG3.out.vb
        obtain ⟨n0, n1, n2, n3, n4⟩ := Vl.fiveF_of HG3.out.vb
        obtain ⟨r0, r1, r2, r3, r4⟩ := Vl.five_of HG3.out.rb
        obtain ⟨f0, f1, f2, f3, f4⟩ := Vl.fiveF_of HG3.out.rb
        have HR4 := Lib.hid ((Below.heap_setCell w3 ⟨w.heap.size + 1, 2, none⟩ (.int .i64 x) w.heap.size (by show w.heap.size ≠ w.heap.size + 1; omega)).trans HG3.out.rb)
        have HB4 := Lib.hid (HG3.out.hB.setCell (p := ⟨w.heap.size + 1, 2, none⟩) (by show w.heap.size ≤ w.heap.size + 1; omega) (.int .i64 x))
        go_wp2_with fail
        refine bodyPost_ret (Vl.ret3 rfl _ _ w.heap.size 26 _ _ rfl (Vl.set5 HR4.out _ _ _ _ _) Tryd.underlying26 rfl (by kernel_rfl)) rfl ?_
        have hT := HT.out
        subst hT
        exact ⟨_, rfl, Vl.leaf_off _ _ _ _ k ⟨#[]⟩ x hk255 (by show (0 : Nat) ≤ _; omega) HI5.out, below_grownBy HB4.out (Vl.set5_grown _ _ _ _ _ _ _) (Nat.le_refl _) HB4.out.size⟩
    · have hT3 := HT3.out k1 k23
      have hT4 := HT4.out k1 k23
      have e2 : ((k : Int) == 2) = false := beq_eq_false_iff_ne.2 (by omega)
      have e3 : ((k : Int) == 3) = false := beq_eq_false_iff_ne.2 (by omega)
      have HC := Lib.hid (fun W => HGn.out t W (by omega))
      have hI := Vl.gn_I64 t
      have hrl := Vl.getNum_len t
      generalize Wp.getNum t = G at *
      obtain ⟨x, r, c⟩ := G
      simp only [] at *
      obtain ⟨hI1, hI2⟩ := hI
      by_cases hbad : ¬ (c = 0 ∧ 0 ≤ x ∧ x ≤ 256)
      · have HTz := Lib.hid (hT4 hbad)
        have hq : (c != 0) = true ∨ ((c != 0) = false ∧ x < 0) ∨ ((c != 0) = false ∧ 0 ≤ x ∧ 256 < x) := by
          by_cases hc : c = 0
          · right
            have hcq : (c != 0) = false := by rw [hc]; rfl
            by_cases hx : x < 0
            · exact Or.inl ⟨hcq, hx⟩
            · exact Or.inr ⟨hcq, by omega, by omega⟩
          · left; rw [bne_iff_ne]; exact hc
        clear hT3 hT4 hbad k1 k23
        rcases hq with q1 | ⟨q1, q2⟩ | ⟨q1, q2, q3⟩
        · go_enter Tryd.func38, Tryd.ntmps38
          go_wp2_with fail
          refine (HC.out _).mono ?_
          rintro e w3 ⟨rfl, hb3⟩
          have HG3 := Lib.hid (HG0.out.below hb3)
          clear hb3
          obtain ⟨r0, r1, r2, r3, r4⟩ := Vl.five_of (HG3.out).rb
          obtain ⟨f0, f1, f2, f3, f4⟩ := Vl.fiveF_of (HG3.out).rb
          have HR4 := Lib.hid (HG3.out).rb
          have HB4 := Lib.hid (HG3.out).hB
          go_wp2_with fail
          refine bodyPost_ret (Vl.ret3 rfl _ _ w.heap.size 26 _ _ rfl (Vl.set5 HR4.out _ _ _ _ _) Tryd.underlying26 rfl (by kernel_rfl)) rfl ?_
          have hT := HTz.out
          subst hT
          exact ⟨_, rfl, Vl.zero_off _ _ _ _, below_grownBy HB4.out (Vl.set5_grown _ _ _ _ _ _ _) (Nat.le_refl _) HB4.out.size⟩
        · go_enter Tryd.func38, Tryd.ntmps38
          go_wp2_with fail
          refine (HC.out _).mono ?_
          rintro e w3 ⟨rfl, hb3⟩
          have HG3 := Lib.hid (HG0.out.below hb3)
          clear hb3
          obtain ⟨r0, r1, r2, r3, r4⟩ := Vl.five_of (HG3.out).rb
          obtain ⟨f0, f1, f2, f3, f4⟩ := Vl.fiveF_of (HG3.out).rb
          have HR4 := Lib.hid (HG3.out).rb
          have HB4 := Lib.hid (HG3.out).hB
          go_wp2_with fail
          refine bodyPost_ret (Vl.ret3 rfl _ _ w.heap.size 26 _ _ rfl (Vl.set5 HR4.out _ _ _ _ _) Tryd.underlying26 rfl (by kernel_rfl)) rfl ?_
          have hT := HTz.out
          subst hT
          exact ⟨_, rfl, Vl.zero_off _ _ _ _, below_grownBy HB4.out (Vl.set5_grown _ _ _ _ _ _ _) (Nat.le_refl _) HB4.out.size⟩
        · go_enter Tryd.func38, Tryd.ntmps38
          go_wp2_with fail
          refine (HC.out _).mono ?_
          rintro e w3 ⟨rfl, hb3⟩
          have HG3 := Lib.hid (HG0.out.below hb3)
          clear hb3
          obtain ⟨r0, r1, r2, r3, r4⟩ := Vl.five_of (HG3.out).rb
          obtain ⟨f0, f1, f2, f3, f4⟩ := Vl.fiveF_of (HG3.out).rb
          have HR4 := Lib.hid (HG3.out).rb
          have HB4 := Lib.hid (HG3.out).hB
          go_wp2_with fail
          refine bodyPost_ret (Vl.ret3 rfl _ _ w.heap.size 26 _ _ rfl (Vl.set5 HR4.out _ _ _ _ _) Tryd.underlying26 rfl (by kernel_rfl)) rfl ?_
          have hT := HTz.out
          subst hT
          exact ⟨_, rfl, Vl.zero_off _ _ _ _, below_grownBy HB4.out (Vl.set5_grown _ _ _ _ _ _ _) (Nat.le_refl _) HB4.out.size⟩
      · have hok : c = 0 ∧ 0 ≤ x ∧ x ≤ 256 := Classical.not_not.1 hbad
        obtain ⟨hc0, hx0, hx1⟩ := hok
        obtain ⟨N, hN⟩ := Int.eq_ofNat_of_zero_le hx0
        have HT := Lib.hid (hT3 ⟨hc0, hx0, hx1⟩)
        subst hc0 hN
        rw [Int.toNat_natCast] at HT
        have hN256 : N ≤ 256 := by omega
        obtain ⟨i0, hi, hy0, hy1, hy2⟩ := Vl.infoVal
        obtain ⟨j0, hj, hx0', hx1', hx2'⟩ := Vl.infoText
        obtain ⟨b5, hb5⟩ : ∃ b : Bool, b = decide (k = 5) := ⟨_, rfl⟩
        have hkb : ((k : Int) == 5) = b5 := by
          rw [hb5]
          by_cases h5 : k = 5
          · subst h5; rfl
          · rw [decide_eq_false h5]; exact beq_eq_false_iff_ne.2 (by omega)
        have Hb5 := Lib.hid hb5
        clear hT3 hT4 hbad k1 k23 hb5 hx0 hx1
        go_enter Tryd.func38, Tryd.ntmps38
        go_wp2_with fail
        refine (HC.out _).mono ?_
        rintro e w3 ⟨rfl, hb3⟩
        have HG3 := Lib.hid (HG0.out.below hb3)
        clear hb3
        go_wp2_with fail
        go_loopw [8, 11] (fun rs iv wr => ∃ (kk : Nat) (is : List Vl.V) (ns : List ByteArray) (l' : List UInt8) (vi vn : Value), kk ≤ N ∧ iv = .int .i64 kk ∧ rs = .string (Wp.B l') ∧ l'.length ≤ r.length ∧ ns.length ≤ kk ∧ Hid (is.length = kk) ∧ Hid (Vl.GSt (d + 1) w.heap.size k w wr vi vn is ns) ∧ Hid (Vl.gLoop gv k N [] [] r = Vl.gLoop gv k (N - kk) ns is l') ∧ Hid (∀ s ∈ ns, s.size ≤ 140737488351232)) (fun _ iv _ => N - (intOf iv).toNat)
        case atStart => exact ⟨0, [], [], r, _, _, Nat.zero_le _, rfl, rfl, Nat.le_refl _, Nat.le_refl _, Lib.hid rfl, HG3, Lib.hid rfl, Lib.hid (fun s hs => by cases hs)⟩
        case round =>
          obtain ⟨kk, is, ns, l', vi, vn, hkk, rfl, rfl, hl', hns, Hil, HS, HE, Hsm⟩ := hrel
          obtain ⟨m0, m1, m2, m3, m4⟩ := Vl.five_of HS.out.vb
          by_cases hlt : kk < N
          · obtain ⟨pvi, cvi, pvn, cvn, rfl, rfl, _⟩ := HS.out.rows.off
            have hil : is.length ≤ 256 := by have := Hil.out; omega
            obtain ⟨mm, hmm⟩ : ∃ mm, mm = N - (kk + 1) := ⟨_, rfl⟩
            have HE1 : Hid (Vl.gLoop gv k N [] [] r = Vl.gLoop gv k (mm + 1) ns is l') := Lib.hid (by rw [hmm, show N - (kk + 1) + 1 = N - kk by omega]; exact HE.out)
            have Hmm := Lib.hid hmm
            clear hmm
            have hk0 : (0 : Int) ≤ (kk : Int) := by omega
            have hk1 : (kk : Int) < (N : Int) := by omega
            have hll : l'.length ≤ 140737488351232 := by omega
            cases b5 with
            | true =>
              have k5 : k = 5 := of_decide_eq_true Hb5.out.symm
              have he5 := Vl.gLoop_name (gv := gv) k5 mm ns is l'
              have HX := Lib.hid (HGt.out l')
              have hgt := Vl.gt_len l'
              generalize Wp.getText l' = G5 at *
              obtain ⟨x5, r5, c5⟩ := G5
              simp only [] at *
              obtain ⟨hx5, hr5⟩ := hgt
              have HE5 := Lib.hid (HE1.out.trans he5)
              clear he5 k5
              go_wp2_with fail
              refine (HX.out _ (by omega)).mono ?_
              rintro e w5 ⟨rfl, hb5⟩
              have HS5a := Lib.hid (HS.out.below hb5)
              clear hb5 m0 m1 m2 m3 m4
              by_cases hc5 : c5 = 0
              · have HEn := HE5.out
                rw [if_pos hc5] at HEn
                have Heqb := Lib.hid (fun (h : (gv r5).2.2 = false) => (show T = (Vl.zero, [], false) by
                  have e := HEn
                  rw [h, if_neg (by simp)] at e
                  have := HT.out _ e.symm
                  rw [this]
                  rfl))
                have Heqo := Lib.hid (fun (h : (gv r5).2.2 = true) => (show Vl.gLoop gv k (mm + 1) ns is l' = Vl.gLoop gv k (N - (kk + 1)) (ns ++ [Wp.B x5]) (is ++ [(gv r5).1]) (gv r5).2.1 by
                  have e := HEn
                  rw [h, if_pos rfl] at e
                  rw [← HE1.out, e, Hmm.out]))
                have HE := HE1
                have hcq : (c5 != 0) = false := by rw [hc5]; rfl
                have HSb := Lib.hid (HS5a.out.alloc (.cells #[.string (Wp.B x5)] 9))
                have HC1 := Lib.hid (cell_one_new w5 (.string (Wp.B x5)) 9)
                have hs5 := HS5a.out.sz
                obtain ⟨m0, m1, m2, m3, m4⟩ := Vl.five_of HS5a.out.vb
                clear hc5 HEn HE5
                go_wp2_with (at_builtin; refine Vl.listApp _ rfl _ _ 24 rfl (w.heap.size + 2) 9 j0 _ 1 16 Tryd.underlying24 hj hx0' hx1' hx2' rfl (by decide) _ ns.length _ rfl HSb.out.rows.names ⟨w5.heap.size, 0, none⟩ 1 1 [.string (Wp.B x5)] rfl rfl ?c1 ?c2 ?c3 ?c4 ?c5 ?_)
                case c1 => exact HC1.out
                case c2 => simp [Value.oneCell']
                case c3 => unfold maxLen; omega
                case c4 => omega
                case c5 => simp; omega
                intro v6 w6 hown6 hgrow6 hat6
                obtain ⟨pv6, cv6, rfl⟩ := Vl.own_shape hown6
                obtain ⟨hS7, hc7, hf7⟩ := HSb.out.name hown6 hgrow6 (by rw [World.size_alloc]; exact hat6)
                have HS7 := Lib.hid hS7
                clear hown6 hgrow6 hat6 hS7 m0 m1 m2 m3 m4
                have hnl7 : (ns ++ [Wp.B x5]).length ≤ kk + 1 := by simp; omega
                have Hsm7 : Hid (∀ s ∈ ns ++ [Wp.B x5], s.size ≤ 140737488351232) := Lib.hid (fun s hs => by
                  rcases List.mem_append.1 hs with h | h
                  · exact Hsm.out s h
                  · rw [List.mem_singleton.1 h, Wp.B_size]; omega)
                have HCg := Lib.hid (HI.out r5 (w6.setCell ⟨w.heap.size + 1, 4, none⟩ (.slice pv6 (ns.length + 1) cv6)) (by omega))
                have hzw : IntKind.i64.wrap (z - 1) = z - 1 := IntWalk.i64_in _ (by omega)
                go_wp2_with fail
                refine HCg.out.mono ?_
                rintro e w4 ⟨u, rfl, hoff, hb4⟩
                obtain ⟨k2, t2, i2, pi2, ni2, ci2, pn2, nn2, cn2, rfl⟩ := hoff.at.shape
                have HS4 := Lib.hid (HS7.out.below hb4)
                have HU4 := Lib.hid ((hoff.off2 HS7.out.sz _ _ (fun x e => (HS7.out.lt.1 x e).2) (fun x e => (HS7.out.lt.2 x e).2) : Vl.Off2 (d + 1) (w.heap.size + 2) w4 (Value.slice pvi is.length cvi).ownBlock (Value.slice pv6 (ns.length + 1) cv6).ownBlock _ _))
                have HS5 := Lib.hid (HS4.out.alloc (.cells #[.int .u8 k2, .string t2, .int .i64 i2, .slice pi2 ni2 ci2, .slice pn2 nn2 cn2] 26))
                clear hoff hb4 HCg
                cases hok5 : (gv r5).2.2 with
                | false =>
                  have HTz := Lib.hid (Heqb.out hok5)
                  obtain ⟨r0, r1, r2, r3, r4⟩ := Vl.five_of (HS5.out).rb
                  obtain ⟨f0, f1, f2, f3, f4⟩ := Vl.fiveF_of (HS5.out).rb
                  have HR4 := Lib.hid (HS5.out).rb
                  have HB4 := Lib.hid (HS5.out).hB
                  go_wp2_with fail
                  refine bodyPost_ret (Vl.ret3 rfl _ _ w.heap.size 26 _ _ rfl (Vl.set5 HR4.out _ _ _ _ _) Tryd.underlying26 rfl (by kernel_rfl)) rfl ?_
                  have hT := HTz.out
                  subst hT
                  exact ⟨_, rfl, Vl.zero_off _ _ _ _, below_grownBy HB4.out (Vl.set5_grown _ _ _ _ _ _ _) (Nat.le_refl _) HB4.out.size⟩
                | true =>
                  have Heq5 := Lib.hid (Heqo.out hok5)
                  have HS6 := Lib.hid (HS5.out.alloc (.cells #[.int .u8 k2, .string t2, .int .i64 i2, .slice pi2 ni2 ci2, .slice pn2 nn2 cn2] 26))
                  have HU6 := Lib.hid ((HU4.out.below ((Below.refl _ w4).alloc (Nat.le_refl _) (.cells #[.int .u8 k2, .string t2, .int .i64 i2, .slice pi2 ni2 ci2, .slice pn2 nn2 cn2] 26))).below ((Below.refl _ _).alloc (Nat.le_refl _) (.cells #[.int .u8 k2, .string t2, .int .i64 i2, .slice pi2 ni2 ci2, .slice pn2 nn2 cn2] 26)))
                  have Hnew := Lib.hid (Vl.five_of (Vl.newAt (w4.alloc (.cells #[.int .u8 k2, .string t2, .int .i64 i2, .slice pi2 ni2 ci2, .slice pn2 nn2 cn2] 26)) (.cells #[.int .u8 k2, .string t2, .int .i64 i2, .slice pi2 ni2 ci2, .slice pn2 nn2 cn2] 26) (w4.heap.size + 1) (by simp)))
                  obtain ⟨cs6, hO6, _⟩ := HS6.out.rows.items
                  have HO6 := Lib.hid hO6
                  have hgl5 := Hgl.out r5
                  have hs6 := HS4.out.sz
                  clear hO6 hok5
                  obtain ⟨m0, m1, m2, m3, m4⟩ := Vl.five_of HS5.out.vb
                  go_wp2_with (at_builtin; refine Vl.listApp _ rfl _ _ 23 rfl (w.heap.size + 2) 26 i0 _ 5 80 Tryd.underlying23 hi hy0 hy1 hy2 rfl (by decide) _ is.length _ rfl HO6.out ⟨w4.heap.size + 1, 0, none⟩ 1 1 [.int .u8 k2, .string t2, .int .i64 i2, .slice pi2 ni2 ci2, .slice pn2 nn2 cn2] rfl rfl ?c1 ?c2 ?c3 ?c4 ?c5 ?_)
                  case c1 =>
                    intro j q hq
                    obtain ⟨n0, n1, n2, n3, n4⟩ := Hnew.out
                    match j, hq with
                    | 0, hq => cases hq; exact n0
                    | 1, hq => cases hq; exact n1
                    | 2, hq => cases hq; exact n2
                    | 3, hq => cases hq; exact n3
                    | 4, hq => cases hq; exact n4
                    | j + 5, hq => simp at hq
                  case c2 => intro q hq; simp at hq; rcases hq with rfl | rfl | rfl | rfl | rfl <;> rfl
                  case c3 => unfold maxLen; omega
                  case c4 => omega
                  case c5 => simp; omega
                  intro v' w8 hown hgrow hat
                  obtain ⟨pv8, cv8, rfl⟩ := Vl.own_shape hown
                  obtain ⟨hS8, hc8, hf8⟩ := HS6.out.item HO6.out HU6.out hown hgrow (by rw [World.size_alloc, World.size_alloc]; first | exact hat | (simpa using hat))
                  have HS8 := Lib.hid hS8
                  clear hown hgrow hat hS8 m0 m1 m2 m3 m4
                  go_wp2_with fail
                  exact ⟨⟨kk + 1, is ++ [(gv r5).1], ns ++ [Wp.B x5], (gv r5).2.1, _, _, by omega, by go_num, rfl, by omega, hnl7, Lib.hid (by rw [List.length_append, Hil.out]; rfl), HS8, Lib.hid (HE.out.trans Heq5.out), Hsm7⟩, by simp [intOf]; omega⟩
              · have HTz := Lib.hid (show T = (Vl.zero, [], false) by
                  have e := HE5.out
                  rw [if_neg hc5] at e
                  have := HT.out _ e.symm
                  rw [this]
                  rfl)
                have hcq : (c5 != 0) = true := by rw [bne_iff_ne]; exact hc5
                clear hc5 HE5
                obtain ⟨r0, r1, r2, r3, r4⟩ := Vl.five_of (HS5a.out).rb
                obtain ⟨f0, f1, f2, f3, f4⟩ := Vl.fiveF_of (HS5a.out).rb
                have HR4 := Lib.hid (HS5a.out).rb
                have HB4 := Lib.hid (HS5a.out).hB
                go_wp2_with fail
                refine bodyPost_ret (Vl.ret3 rfl _ _ w.heap.size 26 _ _ rfl (Vl.set5 HR4.out _ _ _ _ _) Tryd.underlying26 rfl (by kernel_rfl)) rfl ?_
                have hT := HTz.out
                subst hT
                exact ⟨_, rfl, Vl.zero_off _ _ _ _, below_grownBy HB4.out (Vl.set5_grown _ _ _ _ _ _ _) (Nat.le_refl _) HB4.out.size⟩
            | false =>
              have k5 : ¬ k = 5 := of_decide_eq_false Hb5.out.symm
              have he5 := Vl.gLoop_item (gv := gv) k5 mm ns is l'
              have HEn := HE1.out.trans he5
              have Heqb := Lib.hid (fun (h : (gv l').2.2 = false) => (show T = (Vl.zero, [], false) by
                have e := HEn
                rw [h, if_neg (by simp)] at e
                have := HT.out _ e.symm
                rw [this]
                rfl))
              have Heqo := Lib.hid (fun (h : (gv l').2.2 = true) => (show Vl.gLoop gv k (mm + 1) ns is l' = Vl.gLoop gv k (N - (kk + 1)) ns (is ++ [(gv l').1]) (gv l').2.1 by
                have e := HEn
                rw [h, if_pos rfl] at e
                rw [← HE1.out, e, Hmm.out]))
              have HE := HE1
              have hnl7 : ns.length ≤ kk + 1 := by omega
              clear he5 HEn k5
              have HCg := Lib.hid (HI.out l' wr (by omega))
              have hzw : IntKind.i64.wrap (z - 1) = z - 1 := IntWalk.i64_in _ (by omega)
              go_wp2_with fail
              refine HCg.out.mono ?_
              rintro e w4 ⟨u, rfl, hoff, hb4⟩
              obtain ⟨k2, t2, i2, pi2, ni2, ci2, pn2, nn2, cn2, rfl⟩ := hoff.at.shape
              have HS4 := Lib.hid (HS.out.below hb4)
              have HU4 := Lib.hid ((hoff.off2 HS.out.sz _ _ (fun x e => (HS.out.lt.1 x e).2) (fun x e => (HS.out.lt.2 x e).2) : Vl.Off2 (d + 1) (w.heap.size + 2) w4 (Value.slice pvi is.length cvi).ownBlock (Value.slice pvn ns.length cvn).ownBlock _ _))
              have HS5 := Lib.hid (HS4.out.alloc (.cells #[.int .u8 k2, .string t2, .int .i64 i2, .slice pi2 ni2 ci2, .slice pn2 nn2 cn2] 26))
              clear hoff hb4 HCg
              cases hok5 : (gv l').2.2 with
              | false =>
                have HTz := Lib.hid (Heqb.out hok5)
                obtain ⟨r0, r1, r2, r3, r4⟩ := Vl.five_of (HS5.out).rb
                obtain ⟨f0, f1, f2, f3, f4⟩ := Vl.fiveF_of (HS5.out).rb
                have HR4 := Lib.hid (HS5.out).rb
                have HB4 := Lib.hid (HS5.out).hB
                go_wp2_with fail
                refine bodyPost_ret (Vl.ret3 rfl _ _ w.heap.size 26 _ _ rfl (Vl.set5 HR4.out _ _ _ _ _) Tryd.underlying26 rfl (by kernel_rfl)) rfl ?_
                have hT := HTz.out
                subst hT
                exact ⟨_, rfl, Vl.zero_off _ _ _ _, below_grownBy HB4.out (Vl.set5_grown _ _ _ _ _ _ _) (Nat.le_refl _) HB4.out.size⟩
              | true =>
                have Heq5 := Lib.hid (Heqo.out hok5)
                have HS6 := Lib.hid (HS5.out.alloc (.cells #[.int .u8 k2, .string t2, .int .i64 i2, .slice pi2 ni2 ci2, .slice pn2 nn2 cn2] 26))
                have HU6 := Lib.hid ((HU4.out.below ((Below.refl _ w4).alloc (Nat.le_refl _) (.cells #[.int .u8 k2, .string t2, .int .i64 i2, .slice pi2 ni2 ci2, .slice pn2 nn2 cn2] 26))).below ((Below.refl _ _).alloc (Nat.le_refl _) (.cells #[.int .u8 k2, .string t2, .int .i64 i2, .slice pi2 ni2 ci2, .slice pn2 nn2 cn2] 26)))
                have Hnew := Lib.hid (Vl.five_of (Vl.newAt (w4.alloc (.cells #[.int .u8 k2, .string t2, .int .i64 i2, .slice pi2 ni2 ci2, .slice pn2 nn2 cn2] 26)) (.cells #[.int .u8 k2, .string t2, .int .i64 i2, .slice pi2 ni2 ci2, .slice pn2 nn2 cn2] 26) (w4.heap.size + 1) (by simp)))
                obtain ⟨cs6, hO6, _⟩ := HS6.out.rows.items
                have HO6 := Lib.hid hO6
                have hgl5 := Hgl.out l'
                have hs6 := HS4.out.sz
                clear hO6 hok5
                obtain ⟨m0, m1, m2, m3, m4⟩ := Vl.five_of HS5.out.vb
                go_wp2_with (at_builtin; refine Vl.listApp _ rfl _ _ 23 rfl (w.heap.size + 2) 26 i0 _ 5 80 Tryd.underlying23 hi hy0 hy1 hy2 rfl (by decide) _ is.length _ rfl HO6.out ⟨w4.heap.size + 1, 0, none⟩ 1 1 [.int .u8 k2, .string t2, .int .i64 i2, .slice pi2 ni2 ci2, .slice pn2 nn2 cn2] rfl rfl ?c1 ?c2 ?c3 ?c4 ?c5 ?_)
                case c1 =>
                  intro j q hq
                  obtain ⟨n0, n1, n2, n3, n4⟩ := Hnew.out
                  match j, hq with
                  | 0, hq => cases hq; exact n0
                  | 1, hq => cases hq; exact n1
                  | 2, hq => cases hq; exact n2
                  | 3, hq => cases hq; exact n3
                  | 4, hq => cases hq; exact n4
                  | j + 5, hq => simp at hq
                case c2 => intro q hq; simp at hq; rcases hq with rfl | rfl | rfl | rfl | rfl <;> rfl
                case c3 => unfold maxLen; omega
                case c4 => omega
                case c5 => simp; omega
                intro v' w8 hown hgrow hat
                obtain ⟨pv8, cv8, rfl⟩ := Vl.own_shape hown
                obtain ⟨hS8, hc8, hf8⟩ := HS6.out.item HO6.out HU6.out hown hgrow (by rw [World.size_alloc, World.size_alloc]; first | exact hat | (simpa using hat))
                have HS8 := Lib.hid hS8
                clear hown hgrow hat hS8 m0 m1 m2 m3 m4
                go_wp2_with fail
                exact ⟨⟨kk + 1, is ++ [(gv l').1], ns, (gv l').2.1, _, _, by omega, by go_num, rfl, by omega, hnl7, Lib.hid (by rw [List.length_append, Hil.out]; rfl), HS8, Lib.hid (HE.out.trans Heq5.out), Hsm⟩, by simp [intOf]; omega⟩
          · obtain rfl : kk = N := by omega
            have hE := HE.out
            rw [Nat.sub_self, Vl.gLoop_stop] at hE
            have hT := HT.out _ hE.symm
            simp only [if_true] at hT
            have HTf := Lib.hid hT
            obtain ⟨r0, r1, r2, r3, r4⟩ := Vl.five_of HS.out.rb
            obtain ⟨f0, f1, f2, f3, f4⟩ := Vl.fiveF_of HS.out.rb
            obtain ⟨pvi, cvi, pvn, cvn, rfl, rfl, hoff⟩ := HS.out.rows.off
            have Hoff := Lib.hid hoff
            have hk1 : ¬ (kk : Int) < (kk : Int) := by omega
            clear hE hT hoff
            go_wp2_with fail
            refine bodyPost_ret (Vl.ret3 rfl _ _ w.heap.size 26 _ _ rfl (Vl.set5 HS.out.rb _ _ _ _ _) Tryd.underlying26 rfl (by kernel_rfl)) rfl ?_
            have hT := HTf.out
            subst hT
            refine ⟨_, rfl, fun W' hW => ?_, below_grownBy HS.out.hB (Vl.set5_grown _ _ _ _ _ _ _) (Nat.le_refl _) HS.out.hB.size⟩
            obtain ⟨h1, h2⟩ := Hoff.out W' (fun j h1 h2 => (hW j (by omega) (by rw [Vl.set5_size]; exact h2) (by simp)).trans (Vl.set5_rest _ _ _ _ _ _ _ j (by omega)))
            have hlen := Hil.out
            exact ⟨pvi, cvi, pvn, cvn, rfl, ⟨hk255, by show (0 : Nat) ≤ _; omega, ⟨by show (-9223372036854775808 : Int) ≤ 0; omega, by show (0 : Int) ≤ _; omega⟩, by show is.length ≤ _; omega, by show ns.length ≤ _; omega, Hsm.out⟩, h2, h1⟩
theorem refGuess_any : ∀ (L : Nat) (l : List UInt8) (w : World), L ≤ 8 → l.length ≤ 140737488351232 → Calls Tryd.prog 38 #[.string (Wp.B l), .int .i64 (L : Nat)] w (Vl.GP (L + 1) (Vl.guessP L l) w)
  | L, [], w, _, _ => by
    have e : Vl.guessP L [] = (Vl.zero, [], false) := by cases L <;> rfl
    rw [e]
    exact refGuess_none L (Wp.B []) L w (Or.inl (by rw [Wp.B_size]; rfl))
  | 0, a :: t, w, _, _ => by
    rw [show Vl.guessP 0 (a :: t) = (Vl.zero, [], false) from rfl]
    exact refGuess_none 0 (Wp.B (a :: t)) _ w (Or.inr rfl)
  | L + 1, a :: t, w, h8, hl => by
    refine refGuess_step L (Vl.guessP L) ((L + 1 : Nat) : Int) (by omega) (by omega) (Vl.guess_len L) (fun l' W h => ?_) a t (by simpa using hl) w _ (fun h => ?_) (fun h => ?_) (fun h1 h2 h3 G hG => ?_) (fun h1 h2 h3 => ?_)
    · have := refGuess_any L l' W (by omega) h
      rwa [show ((L + 1 : Nat) : Int) - 1 = (L : Nat) by omega]
    · rw [Vl.guessP, if_pos h, h]
    · rw [Vl.guessP, if_neg (by omega), if_pos h]
    · rw [Vl.guessP, if_neg h1, if_neg h2, if_pos h3, hG]
    · rw [Vl.guessP, if_neg h1, if_neg h2, if_neg h3]
/-- What the document's Decode hands back. -/
def Vl.RDP (l : List UInt8) (w : World) (e : Ending) (w' : World) : Prop := ∃ u, e = .returned (.tuple #[u, .string (Wp.B (Vl.guessR l).2.1), .int .i64 (Vl.guessR l).2.2]) ∧ Vl.At 9 w' u (Vl.guessR l).1 ∧ Below w.heap.size w w' ∧ ∀ e, Vl.fits e (Vl.guessP 8 l).1
set_option maxRecDepth 100000 in
set_option maxHeartbeats 2000000 in
theorem refDecode_any (l : List UInt8) (w : World) (hl : l.length ≤ 140737488351232) :
    Calls Tryd.prog 13 #[.string (Wp.B l)] w (Vl.RDP l w) := by
  have HR1 := Lib.hid (Vl.new w (.cells #[.int .u8 0, .string ⟨#[]⟩, .int .i64 0, .slice none 0 0, .slice none 0 0] 26))
  have HB1 := Lib.hid ((Below.refl w.heap.size w).alloc (Nat.le_refl _) (.cells #[.int .u8 0, .string ⟨#[]⟩, .int .i64 0, .slice none 0 0, .slice none 0 0] 26))
  have HC : Hid (∀ W, Calls Tryd.prog 38 #[.string (Wp.B l), .int .i64 8] W (Vl.GP 9 (Vl.guessP 8 l) W)) := Lib.hid (fun W => refGuess_any 8 l W (by omega) hl)
  have HP : Hid (∀ (W : World) u, (∀ e, Vl.fits e (Vl.guessP 8 l).1) → Vl.At 9 W u (Vl.guessR l).1 → Below w.heap.size w W → Vl.RDP l w (.returned (.tuple #[u, .string (Wp.B (Vl.guessR l).2.1), .int .i64 (Vl.guessR l).2.2])) W) := Lib.hid (fun W u h1 h2 h3 => ⟨u, rfl, h2, h3, h1⟩)
  have HG := Lib.hid (show Vl.guessR l = if (Vl.guessP 8 l).2.2 = true ∧ Vl.good (Vl.guessP 8 l).1 = true then ((Vl.guessP 8 l).1, (Vl.guessP 8 l).2.1, 0) else (Vl.zero, [], 7) from rfl)
  generalize Vl.RDP l w = Post at *
  generalize Vl.guessR l = T at *
  generalize Vl.guessP 8 l = Q at *
  obtain ⟨x, r, ok⟩ := Q
  simp only [] at *
  go_enter Tryd.func13, Tryd.ntmps13
  go_wp2_with fail
  refine (HC.out _).mono ?_
  rintro e w3 ⟨u, rfl, hoff, hb3⟩
  have hfit := fun e => Vl.At.fitsR hoff.at e
  obtain ⟨k5, t5, i5, pi5, ni5, ci5, pn5, nn5, cn5, rfl⟩ := hoff.at.shape
  have hbW := (Below.refl w3.heap.size w3).alloc (Nat.le_refl _) (.cells #[.int .u8 k5, .string t5, .int .i64 i5, .slice pi5 ni5 ci5, .slice pn5 nn5 cn5] 26)
  have HV := Lib.hid (Vl.new w3 (.cells #[.int .u8 k5, .string t5, .int .i64 i5, .slice pi5 ni5 ci5, .slice pn5 nn5 cn5] 26))
  have hr3 := (hb3.block w.heap.size (Array.getElem?_eq_some_iff.1 HR1.out).1).trans HR1.out
  have HBW := Lib.hid ((HB1.out.trans (hb3.mono HB1.out.size)).trans (hbW.mono (by have := hb3.size; rw [World.size_alloc] at this; omega)))
  have HRW := Lib.hid (Vl.keepBox hr3 hbW)
  have Hoff := Lib.hid hoff
  have Hsz := Lib.hid (show w.heap.size + 1 ≤ w3.heap.size by have := hb3.size; rwa [World.size_alloc] at this)
  have HbW := Lib.hid hbW
  have hck := fun W (h : Below (w3.alloc (.cells #[.int .u8 k5, .string t5, .int .i64 i5, .slice pi5 ni5 ci5, .slice pn5 nn5 cn5] 26)).heap.size (w3.alloc (.cells #[.int .u8 k5, .string t5, .int .i64 i5, .slice pi5 ni5 ci5, .slice pn5 nn5 cn5] 26)) W) => refCheck_any 9 x _ W ((hoff.at.below hbW).below h)
  rw [show Vl.chk x = if Vl.good x then 0 else 2 from rfl] at hck
  have HK := Lib.hid (hck _ (Below.refl _ _))
  have Hfit := Lib.hid hfit
  clear hoff hb3 hbW hr3 hck HC hfit
  cases ok with
  | false =>
    have hTe : T = (Vl.zero, [], 7) := by rw [HG.out, if_neg (by simp)]
    subst hTe
    obtain ⟨r0, r1, r2, r3, r4⟩ := Vl.five_of HRW.out
    obtain ⟨n0, n1, n2, n3, n4⟩ := Vl.fiveF_of HRW.out
    go_wp2_with fail
    refine bodyPost_ret (Vl.ret3 rfl _ _ w.heap.size 26 _ _ rfl (Vl.set5 HRW.out _ _ _ _ _) Tryd.underlying26 rfl (by kernel_rfl)) rfl ?_
    exact HP.out _ _ Hfit.out (Vl.At.zero 8 _) (below_grownBy HBW.out (Vl.set5_grown _ _ _ _ _ _ _) (Nat.le_refl _) HBW.out.size)
  | true =>
    obtain ⟨m0, m1, m2, m3, m4⟩ := Vl.five_of HV.out
    go_wp2_with fail
    refine HK.out.mono ?_
    rintro e w4 ⟨rfl, hb4⟩
    have HR4 := Lib.hid (Vl.keepBox HRW.out hb4)
    have HV4 := Lib.hid (Vl.keepBox HV.out hb4)
    have HB4 := Lib.hid (HBW.out.trans (hb4.mono HBW.out.size))
    have HO4 := Lib.hid (fun j (hj : j < w3.heap.size) => (hb4.block j (by rw [World.size_alloc]; omega)).trans (HbW.out.block j hj))
    clear hb4 m0 m1 m2 m3 m4 HK
    cases hgd : Vl.good x with
    | false =>
      have hTe : T = (Vl.zero, [], 7) := by rw [HG.out, hgd, if_neg (by simp)]
      subst hTe
      obtain ⟨r0, r1, r2, r3, r4⟩ := Vl.five_of HR4.out
      obtain ⟨n0, n1, n2, n3, n4⟩ := Vl.fiveF_of HR4.out
      go_wp2_with fail
      refine bodyPost_ret (Vl.ret3 rfl _ _ w.heap.size 26 _ _ rfl (Vl.set5 HR4.out _ _ _ _ _) Tryd.underlying26 rfl (by kernel_rfl)) rfl ?_
      exact HP.out _ _ Hfit.out (Vl.At.zero 8 _) (below_grownBy HB4.out (Vl.set5_grown _ _ _ _ _ _ _) (Nat.le_refl _) HB4.out.size)
    | true =>
      have hTe : T = (x, r, 0) := by rw [HG.out, hgd, if_pos (by simp)]
      subst hTe
      obtain ⟨r0, r1, r2, r3, r4⟩ := Vl.five_of HR4.out
      obtain ⟨n0, n1, n2, n3, n4⟩ := Vl.fiveF_of HR4.out
      obtain ⟨m0, m1, m2, m3, m4⟩ := Vl.five_of HV4.out
      go_wp2_with fail
      refine bodyPost_ret (Vl.ret3 rfl _ _ w.heap.size 26 _ _ rfl (Vl.set5 HR4.out _ _ _ _ _) Tryd.underlying26 rfl (by kernel_rfl)) rfl ?_
      have hsz := Hsz.out
      refine HP.out _ _ Hfit.out (Hoff.out _ (fun j h1 h2 _ => ?_)) (below_grownBy HB4.out (Vl.set5_grown _ _ _ _ _ _ _) (Nat.le_refl _) HB4.out.size)
      rw [World.size_alloc] at h1
      exact (Vl.set5_rest _ _ _ _ _ _ _ j (by omega)).trans (HO4.out j h2)
end Go.Proofs.YtckcbdnlligndaaDoor
