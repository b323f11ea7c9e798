/-
  What stands while the document's With makes a map. No condition but those that the theorems state.
  The walk of the document's own With (bellmanref09.With). Conditions: values' texts and lists, and the name, are of a size that a machine holds.
-/
import Derived.Test.YtckcbdnlligndaaDoorRG
import Derived.Test.YtckcbdnlligndaaDoorRVlMath
import Derived.Test.YtckcbdnlligndaaDoorRX
import Derived.Test.YtckcbdnlligndaaDoorRV
import Derived.Deep.AppendLies
import Derived.Deep.RegionLaw
namespace Go.Proofs.YtckcbdnlligndaaDoor
open Go.RowKit

/-- A row of values and one of names, that lie in a box; all below that box is kept. -/
structure Vl.WSt (d g : Nat) (w W : World) (vi vn : Value) (is : List Vl.V) (ns : List ByteArray) : Prop where
  hB : Below g w W
  le : g = w.heap.size
  sz : g + 1 ≤ W.heap.size
  vb : W.heap[g]? = some (.cells #[.int .u8 5, .string ⟨#[]⟩, .int .i64 0, vi, vn] 26 (0, 0))
  rows : Vl.Rows2 d (g + 1) W vi vn is ns
theorem Vl.WSt.below {d g : Nat} {w W W' : World} {vi vn : Value} {is : List Vl.V} {ns : List ByteArray} (h : Vl.WSt d g w W vi vn is ns) (hb : Below W.heap.size W W') : Vl.WSt d g w W' vi vn is ns := by
  have hs := h.sz
  exact ⟨h.hB.trans (hb.mono (by omega)), h.le, Nat.le_trans hs hb.size, (hb.block g (by omega)).trans h.vb, h.rows.below hb⟩
theorem Vl.WSt.alloc {d g : Nat} {w W : World} {vi vn : Value} {is : List Vl.V} {ns : List ByteArray} (h : Vl.WSt d g w W vi vn is ns) (o : Obj) : Vl.WSt d g w (W.alloc o) vi vn is ns := h.below ((Below.refl _ _).alloc (Nat.le_refl _) o)
theorem Vl.WSt.drew {d g : Nat} {w W : World} {vi vn : Value} {is : List Vl.V} {ns : List ByteArray} (h : Vl.WSt d g w W vi vn is ns) : Vl.WSt d g w W.drew vi vn is ns := h.below ((Below.refl _ _).drew)
theorem Vl.WSt.lt {d g : Nat} {w W : World} {vi vn : Value} {is : List Vl.V} {ns : List ByteArray} (h : Vl.WSt d g w W vi vn is ns) : (∀ x, vi.ownBlock = some x → g + 1 ≤ x ∧ x < W.heap.size) ∧ (∀ x, vn.ownBlock = some x → g + 1 ≤ x ∧ x < W.heap.size) := by
  obtain ⟨cs, hO, _⟩ := h.rows.items
  exact ⟨fun x e => hO.lt x e, fun x e => h.rows.names.lt x e⟩
theorem Vl.WSt.name {d g : Nat} {w W W' : World} {vi vn vn' : Value} {is : List Vl.V} {ns : List ByteArray} {t : ByteArray} (h : Vl.WSt d g w W vi vn is ns) (hown : W'.ownsRow (g + 1) 9 1 vn' (ns.length + 1) (ns.map Wp.mkT ++ [.string t])) (hg : W.grownBy W' vn.ownBlock)
    (hat : vn'.ownBlock = vn.ownBlock ∨ vn'.ownBlock = some W.heap.size) : Vl.WSt d g w (W'.setCell ⟨g, 4, none⟩ vn') vi vn' is (ns ++ [t]) ∧ W'.cell? ⟨g, 4, none⟩ = some vn ∧ W'.frozen? ⟨g, 4, none⟩ = false := by
  have hs := h.sz
  have hl := h.lt.2
  have hle := h.le
  have hk : ∀ j, j < g + 1 → W'.heap[j]? = W.heap[j]? := fun j hj => hg.block j (by omega) (fun e => by have := (hl j e.symm).1; omega)
  have hv := (hk g (by omega)).trans h.vb
  have hG : W'.grownBy (W'.setCell ⟨g, 4, none⟩ vn') (some g) := Vl.set1_grown W' g 4 vn'
  have hgs := hg.size
  have hB1 : Below g w W' := h.hB.grown hg (by omega) (fun x e => by have := (hl x e).1; omega)
  exact ⟨⟨below_grownBy hB1 hG (by omega) (by omega), h.le, Nat.le_trans (by omega) hG.size, Lib.heap_setCell_same (i := 4) hv vn', (h.rows.name hown hg hat).keep hG (by omega)⟩, (Vl.five_of hv).2.2.2.2, (Vl.fiveF_of hv).2.2.2.2⟩
theorem Vl.WSt.item {d g : Nat} {w W W' : World} {vi vi' vn : Value} {is : List Vl.V} {ns : List ByteArray} {cs : List Value} {c0 c1 c2 c3 c4 : Value} {y : Vl.V} (h : Vl.WSt d g w W vi vn is ns) (hcs : W.ownsRow (g + 1) 26 5 vi is.length cs)
    (hu : Vl.Off2 d (g + 1) W vi.ownBlock vn.ownBlock (.agg #[c0, c1, c2, c3, c4]) y) (hown : W'.ownsRow (g + 1) 26 5 vi' (is.length + 1) (cs ++ [c0, c1, c2, c3, c4])) (hg : W.grownBy W' vi.ownBlock)
    (hat : vi'.ownBlock = vi.ownBlock ∨ vi'.ownBlock = some W.heap.size) : Vl.WSt d g w (W'.setCell ⟨g, 3, none⟩ vi') vi' vn (is ++ [y]) ns ∧ W'.cell? ⟨g, 3, none⟩ = some vi ∧ W'.frozen? ⟨g, 3, none⟩ = false := by
  have hs := h.sz
  have hl := h.lt.1
  have hle := h.le
  have hk : ∀ j, j < g + 1 → W'.heap[j]? = W.heap[j]? := fun j hj => hg.block j (by omega) (fun e => by have := (hl j e.symm).1; omega)
  have hv := (hk g (by omega)).trans h.vb
  have hG : W'.grownBy (W'.setCell ⟨g, 3, none⟩ vi') (some g) := Vl.set1_grown W' g 3 vi'
  have hgs := hg.size
  have hB1 : Below g w W' := h.hB.grown hg (by omega) (fun x e => by have := (hl x e).1; omega)
  exact ⟨⟨below_grownBy hB1 hG (by omega) (by omega), h.le, Nat.le_trans (by omega) hG.size, Lib.heap_setCell_same (i := 3) hv vi', (h.rows.item hcs hu hown hg hat).keep hG (by omega)⟩, (Vl.five_of hv).2.2.2.1, (Vl.fiveF_of hv).2.2.2.1⟩
/-- A copy, and its five cells. -/
theorem Vl.copy_five {d : Nat} {x : Vl.V} {v : Value} {W : World} (hA : Vl.At d W v x) (hf : Vl.few d x) : Calls Tryd.prog 43 #[v] W fun e W' => ∃ (k2 : Nat) (t2 : ByteArray) (i2 : Int) (pi2 : Option Addr) (ni2 ci2 : Nat) (pn2 : Option Addr) (nn2 cn2 : Nat),
    e = .returned (.agg #[.int .u8 k2, .string t2, .int .i64 i2, .slice pi2 ni2 ci2, .slice pn2 nn2 cn2]) ∧ Vl.Off d W.heap.size W' none (.agg #[.int .u8 k2, .string t2, .int .i64 i2, .slice pi2 ni2 ci2, .slice pn2 nn2 cn2]) x ∧ Below W.heap.size W W' := by
  refine (refCopy_any d x v W hA hf).mono ?_
  rintro e W' ⟨u, rfl, h1, h2⟩
  obtain ⟨k2, t2, i2, pi2, ni2, ci2, pn2, nn2, cn2, rfl⟩ := h1.at.shape
  exact ⟨k2, t2, i2, pi2, ni2, ci2, pn2, nn2, cn2, rfl, h1, h2⟩
/-- A copy's cells, as a part of the rows' own. -/
theorem Vl.WSt.copied {d g : Nat} {w W W' : World} {vi vn u : Value} {is : List Vl.V} {ns : List ByteArray} {y : Vl.V} (h : Vl.WSt d g w W vi vn is ns) (hoff : Vl.Off d W.heap.size W' none u y) : Vl.Off2 d (g + 1) W' vi.ownBlock vn.ownBlock u y :=
  hoff.off2 h.sz _ _ (fun x e => (h.lt.1 x e).2) (fun x e => (h.lt.2 x e).2)
theorem Vl.Okay.few {x : Vl.V} (h : Vl.Okay x) : ∀ d, Vl.few d x
  | 0 => trivial
  | d + 1 => by
    have h1 := h.names
    have h2 := Vl.cntL_len x.items
    have h3 := x.cnt_eq
    have h4 := h.2
    exact ⟨by omega, by omega, fun y hy => (h.item hy).few d⟩
end Go.Proofs.YtckcbdnlligndaaDoor
namespace Go.Proofs.YtckcbdnlligndaaDoor
open Go.RowKit

/-- What the document's With hands back. -/
def Vl.RWP (T : Vl.V × Int) (w : World) (e : Ending) (w' : World) : Prop := ∃ u, e = .returned (.tuple #[u, .int .i64 T.2]) ∧ (∃ d, Vl.At d w' u T.1) ∧ Below w.heap.size w w'
set_option maxRecDepth 100000 in
set_option maxHeartbeats 16000000 in
theorem refWith_any (d : Nat) (V X : Vl.V) (v u : Value) (s : ByteArray) (w : World) (hA : Vl.At (d + 1) w v V) (hX : Vl.At d w u X) (hs : s.size ≤ 140737488351232) :
    Calls Tryd.prog 15 #[v, .string s, u] w (Vl.RWP (Vl.withR V s X) w) := by
  obtain ⟨k1, t1, i1, pi1, ni1, ci1, pn1, nn1, cn1, rfl⟩ := hA.shape
  obtain ⟨kx, tx, ix, pix, nix, cix, pnx, nnx, cnx, rfl⟩ := hX.shape
  obtain ⟨T, hT0⟩ : ∃ T, T = Vl.withR V s X := ⟨_, rfl⟩
  have hT : T = if !Vl.good V then (Vl.zero, 2) else if !Vl.good X then (Vl.zero, 2) else if V.kind ≠ 5 then (Vl.zero, 2) else if !Vl.named s then (Vl.zero, 13) else if !Vl.good (Vl.withV V s X) then (Vl.zero, 11) else (Vl.withV V s X, 0) := hT0
  rw [← hT0]
  have HT := Lib.hid hT
  have HA := Lib.hid hA
  have HX := Lib.hid hX
  have hck := fun W (h : Below w.heap.size w W) => refCheck_any (d + 1) V _ W (hA.below h)
  have hcx := fun W (h : Below w.heap.size w W) => refCheck_any d X _ W (hX.below h)
  rw [show Vl.chk V = if Vl.good V then 0 else 2 from rfl] at hck
  rw [show Vl.chk X = if Vl.good X then 0 else 2 from rfl] at hcx
  have Hck := Lib.hid hck
  have Hcx := Lib.hid hcx
  have HNm := Lib.hid (fun W => refNamed_any s W (by omega))
  have HkV := Lib.hid (show (V.kind : Nat) = k1 from by
    obtain ⟨_, _, _, _, e, _⟩ := hA
    simp only [Value.agg.injEq, Array.mk.injEq, List.cons.injEq, Value.int.injEq, true_and] at e
    omega)
  have hR0 : (((w.alloc (.cells #[.int .u8 k1, .string t1, .int .i64 i1, .slice pi1 ni1 ci1, .slice pn1 nn1 cn1] 26)).alloc (.cells #[.int .u8 kx, .string tx, .int .i64 ix, .slice pix nix cix, .slice pnx nnx cnx] 26)).alloc (.cells #[.int .u8 0, .string ⟨#[]⟩, .int .i64 0, .slice none 0 0, .slice none 0 0] 26)).heap[w.heap.size + 2]? = some (.cells #[.int .u8 0, .string ⟨#[]⟩, .int .i64 0, .slice none 0 0, .slice none 0 0] 26 (0, 0)) := Vl.newAt _ _ _ (by simp)
  have hV0 : (((w.alloc (.cells #[.int .u8 k1, .string t1, .int .i64 i1, .slice pi1 ni1 ci1, .slice pn1 nn1 cn1] 26)).alloc (.cells #[.int .u8 kx, .string tx, .int .i64 ix, .slice pix nix cix, .slice pnx nnx cnx] 26)).alloc (.cells #[.int .u8 0, .string ⟨#[]⟩, .int .i64 0, .slice none 0 0, .slice none 0 0] 26)).heap[w.heap.size]? = some (.cells #[.int .u8 k1, .string t1, .int .i64 i1, .slice pi1 ni1 ci1, .slice pn1 nn1 cn1] 26 (0, 0)) := by rw [Vl.past _ _ _ (by simp; omega), Vl.past _ _ _ (by simp)]; exact Vl.new _ _
  have hX0 : (((w.alloc (.cells #[.int .u8 k1, .string t1, .int .i64 i1, .slice pi1 ni1 ci1, .slice pn1 nn1 cn1] 26)).alloc (.cells #[.int .u8 kx, .string tx, .int .i64 ix, .slice pix nix cix, .slice pnx nnx cnx] 26)).alloc (.cells #[.int .u8 0, .string ⟨#[]⟩, .int .i64 0, .slice none 0 0, .slice none 0 0] 26)).heap[w.heap.size + 1]? = some (.cells #[.int .u8 kx, .string tx, .int .i64 ix, .slice pix nix cix, .slice pnx nnx cnx] 26 (0, 0)) := by rw [Vl.past _ _ _ (by simp)]; exact Vl.newAt _ _ _ (by simp)
  have hB0 : Below w.heap.size w (((w.alloc (.cells #[.int .u8 k1, .string t1, .int .i64 i1, .slice pi1 ni1 ci1, .slice pn1 nn1 cn1] 26)).alloc (.cells #[.int .u8 kx, .string tx, .int .i64 ix, .slice pix nix cix, .slice pnx nnx cnx] 26)).alloc (.cells #[.int .u8 0, .string ⟨#[]⟩, .int .i64 0, .slice none 0 0, .slice none 0 0] 26)) := (((Below.refl w.heap.size w).alloc (Nat.le_refl _) _).alloc (by simp) _).alloc (by simp; omega) _
  have HR0 := Lib.hid hR0
  have HV0 := Lib.hid hV0
  have HX0 := Lib.hid hX0
  have HB0 := Lib.hid hB0
  clear hT0 hT hA hX hck hcx hR0 hV0 hX0 hB0
  go_enter Tryd.func15, Tryd.ntmps15
  go_wp2_with fail
  refine (Hck.out _ HB0.out).mono ?_
  rintro e w1 ⟨rfl, hb⟩
  have HR1 := Lib.hid (Vl.keepBox HR0.out hb)
  have HV1 := Lib.hid (Vl.keepBox HV0.out hb)
  have HX1 := Lib.hid (Vl.keepBox HX0.out hb)
  have HB1 := Lib.hid (HB0.out.trans (hb.mono HB0.out.size))
  clear hb HR0 HV0 HX0 HB0
  cases hgV : Vl.good V with
  | false =>
    have HTz := Lib.hid (show T = (Vl.zero, 2) by rw [HT.out, hgV]; rfl)
    obtain ⟨r0, r1, r2, r3, r4⟩ := Vl.five_of HR1.out
    obtain ⟨n0, n1, n2, n3, n4⟩ := Vl.fiveF_of HR1.out
    go_wp2_with fail
    refine bodyPost_ret (Vl.ret2 rfl _ _ (w.heap.size + 2) 26 _ _ rfl (Vl.set5 HR1.out _ _ _ _ _) Tryd.underlying26 rfl (by kernel_rfl)) rfl ?_
    have hT := HTz.out
    subst hT
    exact ⟨_, rfl, ⟨1, Vl.At.zero 0 _⟩, below_grownBy HB1.out (Vl.set5_grown _ _ _ _ _ _ _) (by omega) HB1.out.size⟩
  | true =>
    have HgV := Lib.hid hgV
    obtain ⟨m0, m1, m2, m3, m4⟩ := Vl.five_of HX1.out
    go_wp2_with fail
    refine (Hcx.out _ HB1.out).mono ?_
    rintro e w2 ⟨rfl, hb⟩
    have HR2 := Lib.hid (Vl.keepBox HR1.out hb)
    have HV2 := Lib.hid (Vl.keepBox HV1.out hb)
    have HX2 := Lib.hid (Vl.keepBox HX1.out hb)
    have HB2 := Lib.hid (HB1.out.trans (hb.mono HB1.out.size))
    clear hb HR1 HV1 HX1 HB1 m0 m1 m2 m3 m4
    cases hgX : Vl.good X with
    | false =>
      have HTz := Lib.hid (show T = (Vl.zero, 2) by rw [HT.out, hgV, hgX]; rfl)
      obtain ⟨r0, r1, r2, r3, r4⟩ := Vl.five_of HR2.out
      obtain ⟨n0, n1, n2, n3, n4⟩ := Vl.fiveF_of HR2.out
      go_wp2_with fail
      refine bodyPost_ret (Vl.ret2 rfl _ _ (w.heap.size + 2) 26 _ _ rfl (Vl.set5 HR2.out _ _ _ _ _) Tryd.underlying26 rfl (by kernel_rfl)) rfl ?_
      have hT := HTz.out
      subst hT
      exact ⟨_, rfl, ⟨1, Vl.At.zero 0 _⟩, below_grownBy HB2.out (Vl.set5_grown _ _ _ _ _ _ _) (by omega) HB2.out.size⟩
    | true =>
      have HgX := Lib.hid hgX
      obtain ⟨q0, q1, q2, q3, q4⟩ := Vl.five_of HV2.out
      by_cases hk5 : k1 = 5
      · have e5 : ((k1 : Int) != 5) = false := by rw [hk5]; rfl
        have e5' : ((k1 : Int) == 5) = true := by rw [hk5]; rfl
        have Hk5 := Lib.hid hk5
        clear hk5
        go_wp2_with fail
        refine (HNm.out _).mono ?_
        rintro e w3 ⟨rfl, rfl⟩
        cases hnm : Vl.named s with
        | false =>
          have HTz := Lib.hid (show T = (Vl.zero, 13) by rw [HT.out, hgV, hgX, hnm, HkV.out, Hk5.out]; rfl)
          obtain ⟨r0, r1, r2, r3, r4⟩ := Vl.five_of HR2.out
          obtain ⟨n0, n1, n2, n3, n4⟩ := Vl.fiveF_of HR2.out
          go_wp2_with fail
          refine bodyPost_ret (Vl.ret2 rfl _ _ (w.heap.size + 2) 26 _ _ rfl (Vl.set5 HR2.out _ _ _ _ _) Tryd.underlying26 rfl (by kernel_rfl)) rfl ?_
          have hT := HTz.out
          subst hT
          exact ⟨_, rfl, ⟨1, Vl.At.zero 0 _⟩, below_grownBy HB2.out (Vl.set5_grown _ _ _ _ _ _ _) (by omega) HB2.out.size⟩
        | true =>
          have Hnm := Lib.hid hnm
          obtain ⟨pi9, ci9, pn9, cn9, he9, ⟨a1, a2, a3, a4, a5, a6⟩, hn9, hi9⟩ := HA.out
          simp only [Value.agg.injEq, Array.mk.injEq, List.cons.injEq, Value.slice.injEq, Value.int.injEq, Value.string.injEq, true_and, and_true] at he9
          obtain ⟨-, -, -, ⟨hpi, hni, -⟩, hpn, hnn, -⟩ := he9
          have hgm := Vl.goodMap hgV (by rw [HkV.out]; exact Hk5.out)
          obtain ⟨g1, g2', g3, g4⟩ := hgm
          have hOk := Vl.Okay.of hgV
          have hOx := Vl.Okay.of hgX
          have hnl : nn1 ≤ 256 := by
            have h1 := Vl.cntL_len V.items
            have h2 := V.cnt_eq
            have h3 := hOk.2
            omega
          have HNl := Lib.hid (show nn1 = V.names.length from hnn)
          have HIl := Lib.hid (show ni1 = V.items.length from hni)
          have HV9 := Lib.hid a6
          have Hg2 := Lib.hid g2'
          have HNi := Lib.hid (show ni1 = nn1 by rw [hni, hnn, g2'])
          have Hn9 := Lib.hid (show Wp.At Wp.mkT w pn1 V.names by rw [hpn]; exact hn9)
          have Hi9 := Lib.hid (fun W (h : Below w.heap.size w W) => (show Vl.RowIs W pi1 V.items.length (Vl.G d w V.items) by rw [hpi]; exact Vl.rowIs hi9 W h))
          have Hwe := Lib.hid (show Vl.withV V s X = .mk 5 ⟨#[]⟩ 0 (Vl.wEnd s X (Vl.wFold s X (false, [], []) V.names V.items)).2 (Vl.wEnd s X (Vl.wFold s X (false, [], []) V.names V.items)).1 by
            have e := Vl.wFold_eq s X V.names V.items g2' g1
            rw [e, Vl.withV, HkV.out, Hk5.out, g4, Vl.ba_nil g3]
            split <;> rfl)
          have HT2 := Lib.hid (show T = if !Vl.good (Vl.withV V s X) then (Vl.zero, 11) else (Vl.withV V s X, 0) by rw [HT.out, hgV, hgX, hnm, HkV.out, Hk5.out]; rfl)
          have hs3 : w.heap.size + 3 ≤ w3.heap.size := by
            have := (Array.getElem?_eq_some_iff.1 HR2.out).1
            omega
          obtain ⟨i0, hi, hy0, hy1, hy2⟩ := Vl.infoVal
          obtain ⟨j0, hj, hx0', hx1', hx2'⟩ := Vl.infoText
          have HS0 : Hid (Vl.WSt d w3.heap.size w3 (w3.alloc (.cells #[.int .u8 5, .string ⟨#[]⟩, .int .i64 0, .slice none 0 0, .slice none 0 0] 26)) (.slice none 0 0) (.slice none 0 0) [] []) := Lib.hid ⟨(Below.refl _ w3).alloc (Nat.le_refl _) _, rfl, by simp, Vl.new _ _, Vl.Rows2.nil _ _ _⟩
          have HcX := Lib.hid (fun W (h : Below w.heap.size w W) => Vl.copy_five (HX.out.below h) (Vl.few_of d X hOx.1 hOx.2))
          have HcY := Lib.hid (fun y (hy : y ∈ V.items) (v : Value) W (hv : Vl.At d W v y) => Vl.copy_five hv (Vl.few_of d y (hOk.item hy).1 (hOk.item hy).2))
          clear hpi hni hpn hnn hn9 hi9 g1 g2' g3 g4 hOk hOx hgV hgX hnm a1 a2 a3 a4 a5 a6 HT HkV Hck Hcx HNm HgV HgX Hnm e5' Hk5
          have q4v := (Vl.five_of (Vl.keepBox HV2.out HS0.out.hB)).2.2.2.2
          clear q0 q1 q2 q3 q4
          go_wp2_with fail
          go_loopw [9, 34] (fun pv iv wr => ∃ (kk : Nat) (p : Bool) (is : List Vl.V) (ns : List ByteArray) (vi vn : Value), kk ≤ nn1 ∧ iv = .int .i64 kk ∧ pv = .bool p ∧ Hid (∀ t ∈ ns, t.size ≤ 140737488351232) ∧ Hid (Vl.wFold s X (false, [], []) (V.names.take kk) (V.items.take kk) = (p, ns, is)) ∧ Hid (Vl.WSt d w3.heap.size w3 wr vi vn is ns)) (fun _ iv _ => nn1 - (intOf iv).toNat)
          case atStart => exact ⟨0, false, [], [], _, _, Nat.zero_le _, rfl, rfl, Lib.hid (fun t ht => by cases ht), Lib.hid rfl, HS0⟩
          case round =>
            obtain ⟨kk, p, is, ns, vi, vn, hkk, rfl, rfl, Hsm, HE, HS⟩ := hrel
            by_cases hlt : kk < nn1
            · have hkn : kk < V.names.length := by rw [← HNl.out]; exact hlt
              have hki : kk < V.items.length := by rw [← HIl.out, HNi.out]; exact hlt
              have HBw := Lib.hid (HB2.out.trans (HS.out.hB.mono (by omega)))
              obtain ⟨b5, o5, hp5, hcell⟩ := (Hn9.out.below HBw.out).get kk hkn
              rw [show Wp.mkT V.names[kk] = Value.string V.names[kk] from rfl] at hcell
              obtain ⟨y, hyd⟩ : ∃ y, y = V.items[kk] := ⟨_, rfl⟩
              have hy : V.items[kk]? = some y := by rw [hyd, List.getElem?_eq_getElem hki]
              have hst := Vl.wFold_step s X V.names V.items kk V.names[kk] y (List.getElem?_eq_getElem hkn) hy
              have hwl := Vl.wFold_len s X V.names V.items Hg2.out kk (by omega)
              rw [HE.out] at hst hwl
              simp only at hwl
              have hym := List.mem_of_getElem? hy
              have hnmS := HV9.out V.names[kk] (List.getElem_mem _)
              generalize V.names[kk] = nm at *
              have Hst := Lib.hid hst
              have hk0 : (0 : Int) ≤ (kk : Int) := by omega
              have hk1 : (kk : Int) < (nn1 : Int) := by omega
              have hk2 : (kk : Int) < (ni1 : Int) := by rw [HNi.out]; omega
              have hnsl : ns.length ≤ 258 := by omega
              have hisl : is.length ≤ 258 := by omega
              obtain ⟨pvi, cvi, pvn, cvn, rfl, rfl, _⟩ := HS.out.rows.off
              have hp5' := hp5
              subst hp5
              have h3 : (Vl.ltB nm s = true ∧ nm ≠ s) ∨ (Vl.ltB nm s = false ∧ nm = s) ∨ (Vl.ltB nm s = false ∧ nm ≠ s) := by
                cases hl : Vl.ltB nm s with
                | true => exact Or.inl ⟨rfl, Vl.ltB_ne hl⟩
                | false =>
                  by_cases he : nm = s
                  · exact Or.inr (Or.inl ⟨rfl, he⟩)
                  · exact Or.inr (Or.inr ⟨rfl, he⟩)
              clear hyd hst hwl hp5'
              rcases h3 with ⟨h31, h32⟩ | ⟨h31, h32⟩ | ⟨h31, h32⟩
              · have qL : Op.bytesLess nm.toList s.toList = true := h31
                have qN : (nm.toList != s.toList) = true := by rw [bne_iff_ne]; exact fun e => h32 (Vl.ba_ext e)
                have qE : (nm.toList == s.toList) = false := by rw [beq_eq_false_iff_ne]; exact fun e => h32 (Vl.ba_ext e)
                have Heq := Lib.hid (show Vl.wFold s X (false, [], []) (V.names.take (kk + 1)) (V.items.take (kk + 1)) = (p, ns ++ [nm], is ++ [y]) by rw [Hst.out]; unfold Vl.wStep; simp [h31, h32])
                clear h31 h32 Hst
                cases p with
                | false =>
                  have HSb := Lib.hid (HS.out.alloc (.cells #[.string nm] 9))
                  have HC1 := Lib.hid (cell_one_new wr (.string nm) 9)
                  have hsz5 := HS.out.sz
                  obtain ⟨o0, o1, o2, o3, o4⟩ := Vl.five_of HS.out.vb
                  go_wp2_with (at_builtin; refine Vl.listApp _ rfl _ _ 24 rfl (w3.heap.size + 1) 9 j0 _ 1 16 Tryd.underlying24 hj hx0' hx1' hx2' rfl (by decide) _ (ns).length _ rfl HSb.out.rows.names ⟨(wr).heap.size, 0, none⟩ 1 1 [.string nm] rfl rfl ?c1 ?c2 ?c3 ?c4 ?c5 ?_)
                  try case c1 => exact HC1.out
                  case c2 => simp [Value.oneCell']
                  case c3 => unfold maxLen; omega
                  case c4 => omega
                  case c5 => first | omega | (simp; omega)
                  intro v6 w6 hown6 hgrow6 hat6
                  obtain ⟨pv6, cv6, rfl⟩ := Vl.own_shape hown6
                  obtain ⟨hS7, hc7, hf7⟩ := HSb.out.name hown6 hgrow6 (by rw [World.size_alloc]; exact hat6)
                  have HS7 := Lib.hid hS7
                  clear hown6 hgrow6 hat6 hS7 o0 o1 o2 o3 o4
                  go_wp2_with fail
                  generalize (w6.setCell ⟨w3.heap.size, 4, none⟩ (.slice pv6 ((ns).length + 1) cv6)) = W7 at *
                  clear hc7 hf7
                  have HBw7 := Lib.hid (HB2.out.trans (HS7.out.hB.mono (by omega)))
                  obtain ⟨b6, o6, c0, c1, c2, c3, c4, hp6, ⟨e0, e1, e2, e3, e4⟩, y', hy', hAyW⟩ := Hi9.out _ HBw7.out kk hki
                  obtain rfl : y' = y := Option.some.inj (hy'.symm.trans hy)
                  obtain ⟨k6, t6, i6, pi6, ni6, ci6, pn6, nn6, cn6, hsh⟩ := hAyW.shape
                  simp only [Value.agg.injEq, Array.mk.injEq, List.cons.injEq, and_true] at hsh
                  obtain ⟨rfl, rfl, rfl, rfl, rfl⟩ := hsh
                  have Hcy7 := Lib.hid (fun W' (h : Below W7.heap.size W7 W') => HcY.out y' hym _ W' (hAyW.below (HBw7.out.trans (h.mono HBw7.out.size))))
                  have q3 := (Vl.five_of (Vl.keepBox HV2.out HS7.out.hB)).2.2.2.1
                  subst hp6
                  clear hAyW hy'
                  have HCc := Lib.hid (Hcy7.out W7.drew ((Below.refl _ W7).drew))
                  have HSd := Lib.hid HS7.out.drew
                  have hszd := HS7.out.sz
                  obtain ⟨o0, o1, o2, o3, o4⟩ := Vl.five_of HS7.out.vb
                  
                  go_region_law (first
                    | (refine step_append_lies _ (by rfl) _ _ _ (by rfl) (w3.heap.size + 1) 26 i0 _ 5 80 Tryd.underlying23 hi hy0 hy1 hy2 rfl (by omega) (Value.slice pvi is.length cvi) is.length cs4 (by rfl) (hO4.alloc _) ⟨w4.heap.size, 0, none⟩ 1 1 [.int .u8 k2, .string t2, .int .i64 i2, .slice pi2 ni2 ci2, .slice pn2 nn2 cn2] (by rfl) (by rfl) (World.news_of_block (cs := #[.int .u8 k2, .string t2, .int .i64 i2, .slice pi2 ni2 ci2, .slice pn2 nn2 cn2]) (t := 26) (fr := (0, 0)) (Vl.new w4 _)) (by simp [Value.oneCell']) (by omega) (by unfold maxLen; omega) (by omega) (by have := S4.sz; simp; omega) (w4.heap.size + 1) (by simp) ?_; intro g2 cap w5 hown5 hgrow5 hat5 hlt5; have hat : (Value.slice (some ⟨g2, 0, none⟩) (is.length + 1) cap).ownBlock = ((Value.slice pvi is.length cvi)).ownBlock ∨ (Value.slice (some ⟨g2, 0, none⟩) (is.length + 1) cap).ownBlock = some (w4.alloc (.cells #[.int .u8 k2, .string t2, .int .i64 i2, .slice pi2 ni2 ci2, .slice pn2 nn2 cn2] 26)).heap.size := (hat5.elim (fun h => Or.inl h.symm) (fun h => Or.inr (by rw [h, World.size_alloc]; rfl))); obtain ⟨S8, c8, f8⟩ := (S4.alloc (.cells #[.int .u8 k2, .string t2, .int .i64 i2, .slice pi2 ni2 ci2, .slice pn2 nn2 cn2] 26)).item (hO4.alloc _) (U4.below ((Below.refl _ w4).alloc (Nat.le_refl _) (.cells #[.int .u8 k2, .string t2, .int .i64 i2, .slice pi2 ni2 ci2, .slice pn2 nn2 cn2] 26))) hown5 hgrow5 hat)
                    | (go_simp; (with_reducible refine HCc.out.mono ?_); rintro e w4 ⟨k2, t2, i2, pi2, ni2, ci2, pn2, nn2, cn2, rfl, hoff4, hb4⟩; have S4 := HSd.out.below hb4; have U4 := HSd.out.copied hoff4; obtain ⟨cs4, hO4, _⟩ := S4.rows.items; obtain ⟨o0b, o1b, o2b, o3b, o4b⟩ := Vl.five_of S4.vb; have hlt4 : w3.heap.size < w4.heap.size := (by have := S4.sz; omega)))
                  all_goals
                    have HS9 := Lib.hid S8
                    clear S8 c8 f8 hown5 hgrow5 hat5 hlt5 hat S4 U4 hO4 o0 o1 o2 o3 o4 o0b o1b o2b o3b o4b hoff4 hb4 HCc HSd hlt4
                    go_wp2_with fail
                    generalize (w5.setCell ⟨w3.heap.size, 3, none⟩ (.slice (some ⟨g2, 0, none⟩) (is.length + 1) cap)) = W9 at *
                    clear e0 e1 e2 e3 e4 q3
                    exact ⟨⟨kk + 1, false, is ++ [y'], ns ++ [nm], _, _, by omega, by go_num, rfl, Lib.hid (fun t ht => (List.mem_append.1 ht).elim (fun h => Hsm.out t h) (fun h => by rw [List.mem_singleton.1 h]; first | exact hnmS | exact hs)), Heq, HS9⟩, by simp [intOf]; omega⟩
                | true =>
                  have HSb := Lib.hid (HS.out.alloc (.cells #[.string nm] 9))
                  have HC1 := Lib.hid (cell_one_new wr (.string nm) 9)
                  have hsz5 := HS.out.sz
                  obtain ⟨o0, o1, o2, o3, o4⟩ := Vl.five_of HS.out.vb
                  go_wp2_with (at_builtin; refine Vl.listApp _ rfl _ _ 24 rfl (w3.heap.size + 1) 9 j0 _ 1 16 Tryd.underlying24 hj hx0' hx1' hx2' rfl (by decide) _ (ns).length _ rfl HSb.out.rows.names ⟨(wr).heap.size, 0, none⟩ 1 1 [.string nm] rfl rfl ?c1 ?c2 ?c3 ?c4 ?c5 ?_)
                  try case c1 => exact HC1.out
                  case c2 => simp [Value.oneCell']
                  case c3 => unfold maxLen; omega
                  case c4 => omega
                  case c5 => first | omega | (simp; omega)
                  intro v6 w6 hown6 hgrow6 hat6
                  obtain ⟨pv6, cv6, rfl⟩ := Vl.own_shape hown6
                  obtain ⟨hS7, hc7, hf7⟩ := HSb.out.name hown6 hgrow6 (by rw [World.size_alloc]; exact hat6)
                  have HS7 := Lib.hid hS7
                  clear hown6 hgrow6 hat6 hS7 o0 o1 o2 o3 o4
                  go_wp2_with fail
                  generalize (w6.setCell ⟨w3.heap.size, 4, none⟩ (.slice pv6 ((ns).length + 1) cv6)) = W7 at *
                  clear hc7 hf7
                  have HBw7 := Lib.hid (HB2.out.trans (HS7.out.hB.mono (by omega)))
                  obtain ⟨b6, o6, c0, c1, c2, c3, c4, hp6, ⟨e0, e1, e2, e3, e4⟩, y', hy', hAyW⟩ := Hi9.out _ HBw7.out kk hki
                  obtain rfl : y' = y := Option.some.inj (hy'.symm.trans hy)
                  obtain ⟨k6, t6, i6, pi6, ni6, ci6, pn6, nn6, cn6, hsh⟩ := hAyW.shape
                  simp only [Value.agg.injEq, Array.mk.injEq, List.cons.injEq, and_true] at hsh
                  obtain ⟨rfl, rfl, rfl, rfl, rfl⟩ := hsh
                  have Hcy7 := Lib.hid (fun W' (h : Below W7.heap.size W7 W') => HcY.out y' hym _ W' (hAyW.below (HBw7.out.trans (h.mono HBw7.out.size))))
                  have q3 := (Vl.five_of (Vl.keepBox HV2.out HS7.out.hB)).2.2.2.1
                  subst hp6
                  clear hAyW hy'
                  have HCc := Lib.hid (Hcy7.out W7.drew ((Below.refl _ W7).drew))
                  have HSd := Lib.hid HS7.out.drew
                  have hszd := HS7.out.sz
                  obtain ⟨o0, o1, o2, o3, o4⟩ := Vl.five_of HS7.out.vb
                  
                  go_region_law (first
                    | (refine step_append_lies _ (by rfl) _ _ _ (by rfl) (w3.heap.size + 1) 26 i0 _ 5 80 Tryd.underlying23 hi hy0 hy1 hy2 rfl (by omega) (Value.slice pvi is.length cvi) is.length cs4 (by rfl) (hO4.alloc _) ⟨w4.heap.size, 0, none⟩ 1 1 [.int .u8 k2, .string t2, .int .i64 i2, .slice pi2 ni2 ci2, .slice pn2 nn2 cn2] (by rfl) (by rfl) (World.news_of_block (cs := #[.int .u8 k2, .string t2, .int .i64 i2, .slice pi2 ni2 ci2, .slice pn2 nn2 cn2]) (t := 26) (fr := (0, 0)) (Vl.new w4 _)) (by simp [Value.oneCell']) (by omega) (by unfold maxLen; omega) (by omega) (by have := S4.sz; simp; omega) (w4.heap.size + 1) (by simp) ?_; intro g2 cap w5 hown5 hgrow5 hat5 hlt5; have hat : (Value.slice (some ⟨g2, 0, none⟩) (is.length + 1) cap).ownBlock = ((Value.slice pvi is.length cvi)).ownBlock ∨ (Value.slice (some ⟨g2, 0, none⟩) (is.length + 1) cap).ownBlock = some (w4.alloc (.cells #[.int .u8 k2, .string t2, .int .i64 i2, .slice pi2 ni2 ci2, .slice pn2 nn2 cn2] 26)).heap.size := (hat5.elim (fun h => Or.inl h.symm) (fun h => Or.inr (by rw [h, World.size_alloc]; rfl))); obtain ⟨S8, c8, f8⟩ := (S4.alloc (.cells #[.int .u8 k2, .string t2, .int .i64 i2, .slice pi2 ni2 ci2, .slice pn2 nn2 cn2] 26)).item (hO4.alloc _) (U4.below ((Below.refl _ w4).alloc (Nat.le_refl _) (.cells #[.int .u8 k2, .string t2, .int .i64 i2, .slice pi2 ni2 ci2, .slice pn2 nn2 cn2] 26))) hown5 hgrow5 hat)
                    | (go_simp; (with_reducible refine HCc.out.mono ?_); rintro e w4 ⟨k2, t2, i2, pi2, ni2, ci2, pn2, nn2, cn2, rfl, hoff4, hb4⟩; have S4 := HSd.out.below hb4; have U4 := HSd.out.copied hoff4; obtain ⟨cs4, hO4, _⟩ := S4.rows.items; obtain ⟨o0b, o1b, o2b, o3b, o4b⟩ := Vl.five_of S4.vb; have hlt4 : w3.heap.size < w4.heap.size := (by have := S4.sz; omega)))
                  all_goals
                    have HS9 := Lib.hid S8
                    clear S8 c8 f8 hown5 hgrow5 hat5 hlt5 hat S4 U4 hO4 o0 o1 o2 o3 o4 o0b o1b o2b o3b o4b hoff4 hb4 HCc HSd hlt4
                    go_wp2_with fail
                    generalize (w5.setCell ⟨w3.heap.size, 3, none⟩ (.slice (some ⟨g2, 0, none⟩) (is.length + 1) cap)) = W9 at *
                    clear e0 e1 e2 e3 e4 q3
                    exact ⟨⟨kk + 1, true, is ++ [y'], ns ++ [nm], _, _, by omega, by go_num, rfl, Lib.hid (fun t ht => (List.mem_append.1 ht).elim (fun h => Hsm.out t h) (fun h => by rw [List.mem_singleton.1 h]; first | exact hnmS | exact hs)), Heq, HS9⟩, by simp [intOf]; omega⟩
              · have qL : Op.bytesLess nm.toList s.toList = false := h31
                have qN : (nm.toList != s.toList) = false := by rw [h32]; simp
                have qE : (nm.toList == s.toList) = true := by rw [h32]; simp
                have Heq := Lib.hid (show Vl.wFold s X (false, [], []) (V.names.take (kk + 1)) (V.items.take (kk + 1)) = (true, if p then ns else ns ++ [s], if p then is else is ++ [X]) by have h34 : Vl.ltB s s = false := Vl.bl_irrefl _; rw [Hst.out]; unfold Vl.wStep; simp [h32, h34])
                clear h31 h32 Hst
                cases p with
                | false =>
                  have HSb := Lib.hid (HS.out.alloc (.cells #[.string s] 9))
                  have HC1 := Lib.hid (cell_one_new wr (.string s) 9)
                  have hsz5 := HS.out.sz
                  obtain ⟨o0, o1, o2, o3, o4⟩ := Vl.five_of HS.out.vb
                  go_wp2_with (at_builtin; refine Vl.listApp _ rfl _ _ 24 rfl (w3.heap.size + 1) 9 j0 _ 1 16 Tryd.underlying24 hj hx0' hx1' hx2' rfl (by decide) _ (ns).length _ rfl HSb.out.rows.names ⟨(wr).heap.size, 0, none⟩ 1 1 [.string s] rfl rfl ?c1 ?c2 ?c3 ?c4 ?c5 ?_)
                  try case c1 => exact HC1.out
                  case c2 => simp [Value.oneCell']
                  case c3 => unfold maxLen; omega
                  case c4 => omega
                  case c5 => first | omega | (simp; omega)
                  intro v6 w6 hown6 hgrow6 hat6
                  obtain ⟨pv6, cv6, rfl⟩ := Vl.own_shape hown6
                  obtain ⟨hS7, hc7, hf7⟩ := HSb.out.name hown6 hgrow6 (by rw [World.size_alloc]; exact hat6)
                  have HS7 := Lib.hid hS7
                  clear hown6 hgrow6 hat6 hS7 o0 o1 o2 o3 o4
                  go_wp2_with fail
                  generalize (w6.setCell ⟨w3.heap.size, 4, none⟩ (.slice pv6 ((ns).length + 1) cv6)) = W7 at *
                  clear hc7 hf7
                  have HBw7 := Lib.hid (HB2.out.trans (HS7.out.hB.mono (by omega)))
                  have Hcx7 := Lib.hid (fun W' (h : Below W7.heap.size W7 W') => HcX.out W' (HBw7.out.trans (h.mono HBw7.out.size)))
                  obtain ⟨x0, x1, x2, x3, x4⟩ := Vl.five_of (Vl.keepBox HX2.out HS7.out.hB)
                  have HCc := Lib.hid (Hcx7.out W7.drew ((Below.refl _ W7).drew))
                  have HSd := Lib.hid HS7.out.drew
                  have hszd := HS7.out.sz
                  obtain ⟨o0, o1, o2, o3, o4⟩ := Vl.five_of HS7.out.vb
                  
                  go_region_law (first
                    | (refine step_append_lies _ (by rfl) _ _ _ (by rfl) (w3.heap.size + 1) 26 i0 _ 5 80 Tryd.underlying23 hi hy0 hy1 hy2 rfl (by omega) (Value.slice pvi is.length cvi) is.length cs4 (by rfl) (hO4.alloc _) ⟨w4.heap.size, 0, none⟩ 1 1 [.int .u8 k2, .string t2, .int .i64 i2, .slice pi2 ni2 ci2, .slice pn2 nn2 cn2] (by rfl) (by rfl) (World.news_of_block (cs := #[.int .u8 k2, .string t2, .int .i64 i2, .slice pi2 ni2 ci2, .slice pn2 nn2 cn2]) (t := 26) (fr := (0, 0)) (Vl.new w4 _)) (by simp [Value.oneCell']) (by omega) (by unfold maxLen; omega) (by omega) (by have := S4.sz; simp; omega) (w4.heap.size + 1) (by simp) ?_; intro g2 cap w5 hown5 hgrow5 hat5 hlt5; have hat : (Value.slice (some ⟨g2, 0, none⟩) (is.length + 1) cap).ownBlock = ((Value.slice pvi is.length cvi)).ownBlock ∨ (Value.slice (some ⟨g2, 0, none⟩) (is.length + 1) cap).ownBlock = some (w4.alloc (.cells #[.int .u8 k2, .string t2, .int .i64 i2, .slice pi2 ni2 ci2, .slice pn2 nn2 cn2] 26)).heap.size := (hat5.elim (fun h => Or.inl h.symm) (fun h => Or.inr (by rw [h, World.size_alloc]; rfl))); obtain ⟨S8, c8, f8⟩ := (S4.alloc (.cells #[.int .u8 k2, .string t2, .int .i64 i2, .slice pi2 ni2 ci2, .slice pn2 nn2 cn2] 26)).item (hO4.alloc _) (U4.below ((Below.refl _ w4).alloc (Nat.le_refl _) (.cells #[.int .u8 k2, .string t2, .int .i64 i2, .slice pi2 ni2 ci2, .slice pn2 nn2 cn2] 26))) hown5 hgrow5 hat)
                    | (go_simp; (with_reducible refine HCc.out.mono ?_); rintro e w4 ⟨k2, t2, i2, pi2, ni2, ci2, pn2, nn2, cn2, rfl, hoff4, hb4⟩; have S4 := HSd.out.below hb4; have U4 := HSd.out.copied hoff4; obtain ⟨cs4, hO4, _⟩ := S4.rows.items; obtain ⟨o0b, o1b, o2b, o3b, o4b⟩ := Vl.five_of S4.vb; have hlt4 : w3.heap.size < w4.heap.size := (by have := S4.sz; omega)))
                  all_goals
                    have HS9 := Lib.hid S8
                    clear S8 c8 f8 hown5 hgrow5 hat5 hlt5 hat S4 U4 hO4 o0 o1 o2 o3 o4 o0b o1b o2b o3b o4b hoff4 hb4 HCc HSd hlt4
                    go_wp2_with fail
                    generalize (w5.setCell ⟨w3.heap.size, 3, none⟩ (.slice (some ⟨g2, 0, none⟩) (is.length + 1) cap)) = W9 at *
                    clear x0 x1 x2 x3 x4 HBw7 Hcx7
                    exact ⟨⟨kk + 1, true, is ++ [X], ns ++ [s], _, _, by omega, by go_num, rfl, Lib.hid (fun t ht => (List.mem_append.1 ht).elim (fun h => Hsm.out t h) (fun h => by rw [List.mem_singleton.1 h]; first | exact hnmS | exact hs)), Heq, HS9⟩, by simp [intOf]; omega⟩
                | true =>
                  go_wp2_with fail
                  exact ⟨⟨kk + 1, true, is, ns, _, _, by omega, by go_num, rfl, Hsm, Heq, HS⟩, by simp [intOf]; omega⟩
              · have qL : Op.bytesLess nm.toList s.toList = false := h31
                have qN : (nm.toList != s.toList) = true := by rw [bne_iff_ne]; exact fun e => h32 (Vl.ba_ext e)
                have qE : (nm.toList == s.toList) = false := by rw [beq_eq_false_iff_ne]; exact fun e => h32 (Vl.ba_ext e)
                have Heq := Lib.hid (show Vl.wFold s X (false, [], []) (V.names.take (kk + 1)) (V.items.take (kk + 1)) = (true, (if p then ns else ns ++ [s]) ++ [nm], (if p then is else is ++ [X]) ++ [y]) by rw [Hst.out]; unfold Vl.wStep; simp [h31, h32])
                clear h31 h32 Hst
                cases p with
                | false =>
                  have HSb := Lib.hid (HS.out.alloc (.cells #[.string s] 9))
                  have HC1 := Lib.hid (cell_one_new wr (.string s) 9)
                  have hsz5 := HS.out.sz
                  obtain ⟨o0, o1, o2, o3, o4⟩ := Vl.five_of HS.out.vb
                  go_wp2_with (at_builtin; refine Vl.listApp _ rfl _ _ 24 rfl (w3.heap.size + 1) 9 j0 _ 1 16 Tryd.underlying24 hj hx0' hx1' hx2' rfl (by decide) _ (ns).length _ rfl HSb.out.rows.names ⟨(wr).heap.size, 0, none⟩ 1 1 [.string s] rfl rfl ?c1 ?c2 ?c3 ?c4 ?c5 ?_)
                  try case c1 => exact HC1.out
                  case c2 => simp [Value.oneCell']
                  case c3 => unfold maxLen; omega
                  case c4 => omega
                  case c5 => first | omega | (simp; omega)
                  intro v6 w6 hown6 hgrow6 hat6
                  obtain ⟨pv6, cv6, rfl⟩ := Vl.own_shape hown6
                  obtain ⟨hS7, hc7, hf7⟩ := HSb.out.name hown6 hgrow6 (by rw [World.size_alloc]; exact hat6)
                  have HS7 := Lib.hid hS7
                  clear hown6 hgrow6 hat6 hS7 o0 o1 o2 o3 o4
                  go_wp2_with fail
                  generalize (w6.setCell ⟨w3.heap.size, 4, none⟩ (.slice pv6 ((ns).length + 1) cv6)) = W7 at *
                  clear hc7 hf7
                  have HBw7 := Lib.hid (HB2.out.trans (HS7.out.hB.mono (by omega)))
                  have Hcx7 := Lib.hid (fun W' (h : Below W7.heap.size W7 W') => HcX.out W' (HBw7.out.trans (h.mono HBw7.out.size)))
                  obtain ⟨x0, x1, x2, x3, x4⟩ := Vl.five_of (Vl.keepBox HX2.out HS7.out.hB)
                  have HCc := Lib.hid (Hcx7.out W7.drew ((Below.refl _ W7).drew))
                  have HSd := Lib.hid HS7.out.drew
                  have hszd := HS7.out.sz
                  obtain ⟨o0, o1, o2, o3, o4⟩ := Vl.five_of HS7.out.vb
                  
                  go_region_law (first
                    | (refine step_append_lies _ (by rfl) _ _ _ (by rfl) (w3.heap.size + 1) 26 i0 _ 5 80 Tryd.underlying23 hi hy0 hy1 hy2 rfl (by omega) (Value.slice pvi is.length cvi) is.length cs4 (by rfl) (hO4.alloc _) ⟨w4.heap.size, 0, none⟩ 1 1 [.int .u8 k2, .string t2, .int .i64 i2, .slice pi2 ni2 ci2, .slice pn2 nn2 cn2] (by rfl) (by rfl) (World.news_of_block (cs := #[.int .u8 k2, .string t2, .int .i64 i2, .slice pi2 ni2 ci2, .slice pn2 nn2 cn2]) (t := 26) (fr := (0, 0)) (Vl.new w4 _)) (by simp [Value.oneCell']) (by omega) (by unfold maxLen; omega) (by omega) (by have := S4.sz; simp; omega) (w4.heap.size + 1) (by simp) ?_; intro g2 cap w5 hown5 hgrow5 hat5 hlt5; have hat : (Value.slice (some ⟨g2, 0, none⟩) (is.length + 1) cap).ownBlock = ((Value.slice pvi is.length cvi)).ownBlock ∨ (Value.slice (some ⟨g2, 0, none⟩) (is.length + 1) cap).ownBlock = some (w4.alloc (.cells #[.int .u8 k2, .string t2, .int .i64 i2, .slice pi2 ni2 ci2, .slice pn2 nn2 cn2] 26)).heap.size := (hat5.elim (fun h => Or.inl h.symm) (fun h => Or.inr (by rw [h, World.size_alloc]; rfl))); obtain ⟨S8, c8, f8⟩ := (S4.alloc (.cells #[.int .u8 k2, .string t2, .int .i64 i2, .slice pi2 ni2 ci2, .slice pn2 nn2 cn2] 26)).item (hO4.alloc _) (U4.below ((Below.refl _ w4).alloc (Nat.le_refl _) (.cells #[.int .u8 k2, .string t2, .int .i64 i2, .slice pi2 ni2 ci2, .slice pn2 nn2 cn2] 26))) hown5 hgrow5 hat)
                    | (go_simp; (with_reducible refine HCc.out.mono ?_); rintro e w4 ⟨k2, t2, i2, pi2, ni2, ci2, pn2, nn2, cn2, rfl, hoff4, hb4⟩; have S4 := HSd.out.below hb4; have U4 := HSd.out.copied hoff4; obtain ⟨cs4, hO4, _⟩ := S4.rows.items; obtain ⟨o0b, o1b, o2b, o3b, o4b⟩ := Vl.five_of S4.vb; have hlt4 : w3.heap.size < w4.heap.size := (by have := S4.sz; omega)))
                  all_goals
                    have HS9 := Lib.hid S8
                    clear S8 c8 f8 hown5 hgrow5 hat5 hlt5 hat S4 U4 hO4 o0 o1 o2 o3 o4 o0b o1b o2b o3b o4b hoff4 hb4 HCc HSd hlt4
                    go_upto_region 15 with fail
                    generalize (w5.setCell ⟨w3.heap.size, 3, none⟩ (.slice (some ⟨g2, 0, none⟩) (is.length + 1) cap)) = W9 at *
                    clear x0 x1 x2 x3 x4 HBw7 Hcx7
                    obtain ⟨pvi2, cvi2, pvn2, cvn2, hv1, hv2, _⟩ := HS9.out.rows.off
                    have HS9b := Lib.hid (by have := HS9.out; rw [hv1, hv2] at this; exact this : Vl.WSt d w3.heap.size w3 W9 (.slice pvi2 (is ++ [X]).length cvi2) (.slice pvn2 (ns ++ [s]).length cvn2) (is ++ [X]) (ns ++ [s]))
                    have hil2 : (is ++ [X]).length ≤ 259 := by simp; omega
                    have hnl2 : (ns ++ [s]).length ≤ 259 := by simp; omega
                    clear hv1 hv2
                    generalize hi2 : is ++ [X] = is2 at HS9b hil2
                    generalize hn2 : ns ++ [s] = ns2 at HS9b hnl2
                    have Hi2 := Lib.hid hi2
                    have Hn2 := Lib.hid hn2
                    have Heq2 := Lib.hid (show Vl.wFold s X (false, [], []) (V.names.take (kk + 1)) (V.items.take (kk + 1)) = (true, ns2 ++ [nm], is2 ++ [y]) by rw [← hi2, ← hn2]; exact Heq.out)
                    have Hsm2 := Lib.hid (show ∀ t ∈ ns2 ++ [nm], t.size ≤ 140737488351232 from fun t ht => (List.mem_append.1 ht).elim (fun h => by rw [← hn2] at h; exact (List.mem_append.1 h).elim (fun h => Hsm.out t h) (fun h => by rw [List.mem_singleton.1 h]; exact hs)) (fun h => by rw [List.mem_singleton.1 h]; exact hnmS))
                    clear hi2 hn2 HS9 Heq
                    have HSb := Lib.hid (HS9b.out.alloc (.cells #[.string nm] 9))
                    have HC1 := Lib.hid (cell_one_new W9 (.string nm) 9)
                    have hsz5 := HS9b.out.sz
                    obtain ⟨o0, o1, o2, o3, o4⟩ := Vl.five_of HS9b.out.vb
                    go_wp2_with (at_builtin; refine Vl.listApp _ rfl _ _ 24 rfl (w3.heap.size + 1) 9 j0 _ 1 16 Tryd.underlying24 hj hx0' hx1' hx2' rfl (by decide) _ (ns2).length _ rfl HSb.out.rows.names ⟨(W9).heap.size, 0, none⟩ 1 1 [.string nm] rfl rfl ?c1 ?c2 ?c3 ?c4 ?c5 ?_)
                    try case c1 => exact HC1.out
                    case c2 => simp [Value.oneCell']
                    case c3 => unfold maxLen; omega
                    case c4 => omega
                    case c5 => first | omega | (simp; omega)
                    intro v6' w6' hown6' hgrow6' hat6'
                    obtain ⟨pv6', cv6', rfl⟩ := Vl.own_shape hown6'
                    obtain ⟨hS7, hc7, hf7⟩ := HSb.out.name hown6' hgrow6' (by rw [World.size_alloc]; exact hat6')
                    have HS10 := Lib.hid hS7
                    clear hown6' hgrow6' hat6' hS7 o0 o1 o2 o3 o4
                    go_wp2_with fail
                    generalize (w6'.setCell ⟨w3.heap.size, 4, none⟩ (.slice pv6' ((ns2).length + 1) cv6')) = W10 at *
                    clear hc7 hf7
                    have HBw7 := Lib.hid (HB2.out.trans (HS10.out.hB.mono (by omega)))
                    obtain ⟨b6, o6, c0, c1, c2, c3, c4, hp6, ⟨e0, e1, e2, e3, e4⟩, y', hy', hAyW⟩ := Hi9.out _ HBw7.out kk hki
                    obtain rfl : y' = y := Option.some.inj (hy'.symm.trans hy)
                    obtain ⟨k6, t6, i6, pi6, ni6, ci6, pn6, nn6, cn6, hsh⟩ := hAyW.shape
                    simp only [Value.agg.injEq, Array.mk.injEq, List.cons.injEq, and_true] at hsh
                    obtain ⟨rfl, rfl, rfl, rfl, rfl⟩ := hsh
                    have Hcy7 := Lib.hid (fun W' (h : Below W10.heap.size W10 W') => HcY.out y' hym _ W' (hAyW.below (HBw7.out.trans (h.mono HBw7.out.size))))
                    have q3 := (Vl.five_of (Vl.keepBox HV2.out HS10.out.hB)).2.2.2.1
                    subst hp6
                    clear hAyW hy'
                    have HCc := Lib.hid (Hcy7.out W10.drew ((Below.refl _ W10).drew))
                    have HSd := Lib.hid HS10.out.drew
                    have hszd := HS10.out.sz
                    obtain ⟨o0, o1, o2, o3, o4⟩ := Vl.five_of HS10.out.vb
                    
                    go_region_law (first
                      | (refine step_append_lies _ (by rfl) _ _ _ (by rfl) (w3.heap.size + 1) 26 i0 _ 5 80 Tryd.underlying23 hi hy0 hy1 hy2 rfl (by omega) (Value.slice pvi2 is2.length cvi2) is2.length cs4 (by rfl) (hO4.alloc _) ⟨w4.heap.size, 0, none⟩ 1 1 [.int .u8 k2, .string t2, .int .i64 i2, .slice pi2 ni2 ci2, .slice pn2 nn2 cn2] (by rfl) (by rfl) (World.news_of_block (cs := #[.int .u8 k2, .string t2, .int .i64 i2, .slice pi2 ni2 ci2, .slice pn2 nn2 cn2]) (t := 26) (fr := (0, 0)) (Vl.new w4 _)) (by simp [Value.oneCell']) (by omega) (by unfold maxLen; omega) (by omega) (by have := S4.sz; simp; omega) (w4.heap.size + 1) (by simp) ?_; intro g2 cap w5 hown5 hgrow5 hat5 hlt5; have hat : (Value.slice (some ⟨g2, 0, none⟩) (is2.length + 1) cap).ownBlock = ((Value.slice pvi2 is2.length cvi2)).ownBlock ∨ (Value.slice (some ⟨g2, 0, none⟩) (is2.length + 1) cap).ownBlock = some (w4.alloc (.cells #[.int .u8 k2, .string t2, .int .i64 i2, .slice pi2 ni2 ci2, .slice pn2 nn2 cn2] 26)).heap.size := (hat5.elim (fun h => Or.inl h.symm) (fun h => Or.inr (by rw [h, World.size_alloc]; rfl))); obtain ⟨S8, c8, f8⟩ := (S4.alloc (.cells #[.int .u8 k2, .string t2, .int .i64 i2, .slice pi2 ni2 ci2, .slice pn2 nn2 cn2] 26)).item (hO4.alloc _) (U4.below ((Below.refl _ w4).alloc (Nat.le_refl _) (.cells #[.int .u8 k2, .string t2, .int .i64 i2, .slice pi2 ni2 ci2, .slice pn2 nn2 cn2] 26))) hown5 hgrow5 hat)
                      | (go_simp; (with_reducible refine HCc.out.mono ?_); rintro e w4 ⟨k2, t2, i2, pi2, ni2, ci2, pn2, nn2, cn2, rfl, hoff4, hb4⟩; have S4 := HSd.out.below hb4; have U4 := HSd.out.copied hoff4; obtain ⟨cs4, hO4, _⟩ := S4.rows.items; obtain ⟨o0b, o1b, o2b, o3b, o4b⟩ := Vl.five_of S4.vb; have hlt4 : w3.heap.size < w4.heap.size := (by have := S4.sz; omega)))
                    all_goals
                      have HS11 := Lib.hid S8
                      clear S8 c8 f8 hown5 hgrow5 hat5 hlt5 hat S4 U4 hO4 o0 o1 o2 o3 o4 o0b o1b o2b o3b o4b hoff4 hb4 HCc HSd hlt4
                      go_wp2_with fail
                      generalize (w5.setCell ⟨w3.heap.size, 3, none⟩ (.slice (some ⟨g2, 0, none⟩) (is2.length + 1) cap)) = W11 at *
                      clear e0 e1 e2 e3 e4 q3
                      exact ⟨⟨kk + 1, true, is2 ++ [y'], ns2 ++ [nm], _, _, by omega, by go_num, rfl, Hsm2, Heq2, HS11⟩, by simp [intOf]; omega⟩
                | true =>
                  have HSb := Lib.hid (HS.out.alloc (.cells #[.string nm] 9))
                  have HC1 := Lib.hid (cell_one_new wr (.string nm) 9)
                  have hsz5 := HS.out.sz
                  obtain ⟨o0, o1, o2, o3, o4⟩ := Vl.five_of HS.out.vb
                  go_wp2_with (at_builtin; refine Vl.listApp _ rfl _ _ 24 rfl (w3.heap.size + 1) 9 j0 _ 1 16 Tryd.underlying24 hj hx0' hx1' hx2' rfl (by decide) _ (ns).length _ rfl HSb.out.rows.names ⟨(wr).heap.size, 0, none⟩ 1 1 [.string nm] rfl rfl ?c1 ?c2 ?c3 ?c4 ?c5 ?_)
                  try case c1 => exact HC1.out
                  case c2 => simp [Value.oneCell']
                  case c3 => unfold maxLen; omega
                  case c4 => omega
                  case c5 => first | omega | (simp; omega)
                  intro v6 w6 hown6 hgrow6 hat6
                  obtain ⟨pv6, cv6, rfl⟩ := Vl.own_shape hown6
                  obtain ⟨hS7, hc7, hf7⟩ := HSb.out.name hown6 hgrow6 (by rw [World.size_alloc]; exact hat6)
                  have HS7 := Lib.hid hS7
                  clear hown6 hgrow6 hat6 hS7 o0 o1 o2 o3 o4
                  go_wp2_with fail
                  generalize (w6.setCell ⟨w3.heap.size, 4, none⟩ (.slice pv6 ((ns).length + 1) cv6)) = W7 at *
                  clear hc7 hf7
                  have HBw7 := Lib.hid (HB2.out.trans (HS7.out.hB.mono (by omega)))
                  obtain ⟨b6, o6, c0, c1, c2, c3, c4, hp6, ⟨e0, e1, e2, e3, e4⟩, y', hy', hAyW⟩ := Hi9.out _ HBw7.out kk hki
                  obtain rfl : y' = y := Option.some.inj (hy'.symm.trans hy)
                  obtain ⟨k6, t6, i6, pi6, ni6, ci6, pn6, nn6, cn6, hsh⟩ := hAyW.shape
                  simp only [Value.agg.injEq, Array.mk.injEq, List.cons.injEq, and_true] at hsh
                  obtain ⟨rfl, rfl, rfl, rfl, rfl⟩ := hsh
                  have Hcy7 := Lib.hid (fun W' (h : Below W7.heap.size W7 W') => HcY.out y' hym _ W' (hAyW.below (HBw7.out.trans (h.mono HBw7.out.size))))
                  have q3 := (Vl.five_of (Vl.keepBox HV2.out HS7.out.hB)).2.2.2.1
                  subst hp6
                  clear hAyW hy'
                  have HCc := Lib.hid (Hcy7.out W7.drew ((Below.refl _ W7).drew))
                  have HSd := Lib.hid HS7.out.drew
                  have hszd := HS7.out.sz
                  obtain ⟨o0, o1, o2, o3, o4⟩ := Vl.five_of HS7.out.vb
                  
                  go_region_law (first
                    | (refine step_append_lies _ (by rfl) _ _ _ (by rfl) (w3.heap.size + 1) 26 i0 _ 5 80 Tryd.underlying23 hi hy0 hy1 hy2 rfl (by omega) (Value.slice pvi is.length cvi) is.length cs4 (by rfl) (hO4.alloc _) ⟨w4.heap.size, 0, none⟩ 1 1 [.int .u8 k2, .string t2, .int .i64 i2, .slice pi2 ni2 ci2, .slice pn2 nn2 cn2] (by rfl) (by rfl) (World.news_of_block (cs := #[.int .u8 k2, .string t2, .int .i64 i2, .slice pi2 ni2 ci2, .slice pn2 nn2 cn2]) (t := 26) (fr := (0, 0)) (Vl.new w4 _)) (by simp [Value.oneCell']) (by omega) (by unfold maxLen; omega) (by omega) (by have := S4.sz; simp; omega) (w4.heap.size + 1) (by simp) ?_; intro g2 cap w5 hown5 hgrow5 hat5 hlt5; have hat : (Value.slice (some ⟨g2, 0, none⟩) (is.length + 1) cap).ownBlock = ((Value.slice pvi is.length cvi)).ownBlock ∨ (Value.slice (some ⟨g2, 0, none⟩) (is.length + 1) cap).ownBlock = some (w4.alloc (.cells #[.int .u8 k2, .string t2, .int .i64 i2, .slice pi2 ni2 ci2, .slice pn2 nn2 cn2] 26)).heap.size := (hat5.elim (fun h => Or.inl h.symm) (fun h => Or.inr (by rw [h, World.size_alloc]; rfl))); obtain ⟨S8, c8, f8⟩ := (S4.alloc (.cells #[.int .u8 k2, .string t2, .int .i64 i2, .slice pi2 ni2 ci2, .slice pn2 nn2 cn2] 26)).item (hO4.alloc _) (U4.below ((Below.refl _ w4).alloc (Nat.le_refl _) (.cells #[.int .u8 k2, .string t2, .int .i64 i2, .slice pi2 ni2 ci2, .slice pn2 nn2 cn2] 26))) hown5 hgrow5 hat)
                    | (go_simp; (with_reducible refine HCc.out.mono ?_); rintro e w4 ⟨k2, t2, i2, pi2, ni2, ci2, pn2, nn2, cn2, rfl, hoff4, hb4⟩; have S4 := HSd.out.below hb4; have U4 := HSd.out.copied hoff4; obtain ⟨cs4, hO4, _⟩ := S4.rows.items; obtain ⟨o0b, o1b, o2b, o3b, o4b⟩ := Vl.five_of S4.vb; have hlt4 : w3.heap.size < w4.heap.size := (by have := S4.sz; omega)))
                  all_goals
                    have HS9 := Lib.hid S8
                    clear S8 c8 f8 hown5 hgrow5 hat5 hlt5 hat S4 U4 hO4 o0 o1 o2 o3 o4 o0b o1b o2b o3b o4b hoff4 hb4 HCc HSd hlt4
                    go_wp2_with fail
                    generalize (w5.setCell ⟨w3.heap.size, 3, none⟩ (.slice (some ⟨g2, 0, none⟩) (is.length + 1) cap)) = W9 at *
                    clear e0 e1 e2 e3 e4 q3
                    exact ⟨⟨kk + 1, true, is ++ [y'], ns ++ [nm], _, _, by omega, by go_num, rfl, Lib.hid (fun t ht => (List.mem_append.1 ht).elim (fun h => Hsm.out t h) (fun h => by rw [List.mem_singleton.1 h]; first | exact hnmS | exact hs)), Heq, HS9⟩, by simp [intOf]; omega⟩
            · obtain rfl : kk = nn1 := by omega
              have hE := HE.out
              rw [List.take_of_length_le (by rw [HNl.out]; exact Nat.le_refl _), List.take_of_length_le (by rw [← HIl.out, HNi.out]; exact Nat.le_refl _)] at hE
              have hwl := Vl.wFold_len s X V.names V.items Hg2.out V.names.length (Nat.le_refl _)
              rw [List.take_of_length_le (Nat.le_refl _), List.take_of_length_le (by rw [Hg2.out]; exact Nat.le_refl _), hE] at hwl
              simp only at hwl
              have hwe := Hwe.out
              rw [hE] at hwe
              have hnsl : ns.length ≤ 258 := by have := HNl.out; omega
              have hisl : is.length ≤ 258 := by have := HNl.out; omega
              obtain ⟨pvi, cvi, pvn, cvn, rfl, rfl, _⟩ := HS.out.rows.off
              have hk1 : ¬ (kk : Int) < (kk : Int) := by omega
              have Hwe2 := Lib.hid hwe
              clear hE hwl hwe
              cases p with
              | true =>
                have HFin := Lib.hid (show Vl.withV V s X = .mk 5 ⟨#[]⟩ 0 is ns from Hwe2.out)
                obtain ⟨pviz, cviz, pvnz, cvnz, hv1, hv2, hoffz⟩ := HS.out.rows.off
                have HSz := Lib.hid (by have := HS.out; rw [hv1, hv2] at this; exact this : Vl.WSt d w3.heap.size w3 wr (.slice pviz (is).length cviz) (.slice pvnz (ns).length cvnz) (is) (ns))
                have Hoffz := Lib.hid hoffz
                have hilz : (is).length ≤ 260 := by first | omega | (simp; omega)
                have hnlz : (ns).length ≤ 260 := by first | omega | (simp; omega)
                have Hsmz := Lib.hid (show ∀ t ∈ ns, t.size ≤ 140737488351232 from Hsm.out)
                clear hv1 hv2 hoffz
                generalize is = isz at *
                generalize ns = nsz at *
                have HAz := Lib.hid (fun W' (h : ∀ j, w3.heap.size + 1 ≤ j → j < wr.heap.size → W'.heap[j]? = wr.heap[j]?) => (show Vl.At (d + 1) W' (.agg #[.int .u8 5, .string ⟨#[]⟩, .int .i64 0, .slice pviz isz.length cviz, .slice pvnz nsz.length cvnz]) (.mk 5 ⟨#[]⟩ 0 isz nsz) from
                  ⟨pviz, cviz, pvnz, cvnz, rfl, ⟨by show (5 : Nat) ≤ 255; omega, by show (0 : Nat) ≤ _; omega, ⟨by show (-9223372036854775808 : Int) ≤ 0; omega, by show (0 : Int) ≤ _; omega⟩, by show isz.length ≤ _; omega, by show nsz.length ≤ _; omega, Hsmz.out⟩, (Hoffz.out W' h).2, (Hoffz.out W' h).1⟩))
                have HCz := Lib.hid (refCheck_any (d + 1) _ _ wr (HAz.out wr (fun _ _ _ => rfl)))
                have hchz : Vl.chk (.mk 5 ⟨#[]⟩ 0 isz nsz) = if Vl.good (Vl.withV V s X) then 0 else 2 := by rw [HFin.out]; rfl
                rw [hchz] at HCz
                have HRz := Lib.hid (Vl.keepBox HR2.out HSz.out.hB)
                have HBz := Lib.hid (HB2.out.trans (HSz.out.hB.mono (by omega)))
                obtain ⟨z0, z1, z2, z3, z4⟩ := Vl.five_of HSz.out.vb
                clear hchz
                go_wp2_with fail
                refine HCz.out.mono ?_
                rintro e w9 ⟨rfl, hb9⟩
                have HR9 := Lib.hid (Vl.keepBox HRz.out hb9)
                have HB9 := Lib.hid (HBz.out.trans (hb9.mono HBz.out.size))
                have HS9z := Lib.hid (HSz.out.below hb9)
                have HK9 := Lib.hid (fun j (hj : j < wr.heap.size) => hb9.block j hj)
                clear hb9 HCz z0 z1 z2 z3 z4
                obtain ⟨r0, r1, r2, r3, r4⟩ := Vl.five_of HR9.out
                obtain ⟨n0, n1, n2, n3, n4⟩ := Vl.fiveF_of HR9.out
                cases hgw : Vl.good (Vl.withV V s X) with
                | false =>
                  have HTz := Lib.hid (show T = (Vl.zero, 11) by rw [HT2.out, hgw]; rfl)
                  go_wp2_with fail
                  refine bodyPost_ret (Vl.ret2 rfl _ _ (w.heap.size + 2) 26 _ _ rfl (Vl.set5 HR9.out _ _ _ _ _) Tryd.underlying26 rfl (by kernel_rfl)) rfl ?_
                  have hT := HTz.out
                  subst hT
                  exact ⟨_, rfl, ⟨1, Vl.At.zero 0 _⟩, below_grownBy HB9.out (Vl.set5_grown _ _ _ _ _ _ _) (by omega) HB9.out.size⟩
                | true =>
                  have HTz := Lib.hid (show T = (.mk 5 ⟨#[]⟩ 0 isz nsz, 0) by rw [HT2.out, hgw, ← HFin.out]; rfl)
                  obtain ⟨z0, z1, z2, z3, z4⟩ := Vl.five_of HS9z.out.vb
                  go_wp2_with fail
                  refine bodyPost_ret (Vl.ret2 rfl _ _ (w.heap.size + 2) 26 _ _ rfl (Vl.set5 HR9.out _ _ _ _ _) Tryd.underlying26 rfl (by kernel_rfl)) rfl ?_
                  have hT := HTz.out
                  subst hT
                  exact ⟨_, rfl, ⟨d + 1, HAz.out _ (fun j h1 h2 => (Vl.set5_rest _ _ _ _ _ _ _ j (by omega)).trans (HK9.out j h2))⟩, below_grownBy HB9.out (Vl.set5_grown _ _ _ _ _ _ _) (by omega) HB9.out.size⟩
              | false =>
                have HFin := Lib.hid (show Vl.withV V s X = .mk 5 ⟨#[]⟩ 0 (is ++ [X]) (ns ++ [s]) from Hwe2.out)
                have HSb := Lib.hid (HS.out.alloc (.cells #[.string s] 9))
                have HC1 := Lib.hid (cell_one_new wr (.string s) 9)
                have hsz5 := HS.out.sz
                obtain ⟨o0, o1, o2, o3, o4⟩ := Vl.five_of HS.out.vb
                go_wp2_with (at_builtin; refine Vl.listApp _ rfl _ _ 24 rfl (w3.heap.size + 1) 9 j0 _ 1 16 Tryd.underlying24 hj hx0' hx1' hx2' rfl (by decide) _ (ns).length _ rfl HSb.out.rows.names ⟨(wr).heap.size, 0, none⟩ 1 1 [.string s] rfl rfl ?f1 ?f2 ?f3 ?f4 ?f5 ?_)
                try case f1 => exact HC1.out
                case f2 => simp [Value.oneCell']
                case f3 => unfold maxLen; omega
                case f4 => omega
                case f5 => first | omega | (simp; omega)
                intro v6 w6 hown6 hgrow6 hat6
                obtain ⟨pv6, cv6, rfl⟩ := Vl.own_shape hown6
                obtain ⟨hS7, hc7, hf7⟩ := HSb.out.name hown6 hgrow6 (by rw [World.size_alloc]; exact hat6)
                have HS7 := Lib.hid hS7
                clear hown6 hgrow6 hat6 hS7 o0 o1 o2 o3 o4
                go_wp2_with fail
                generalize (w6.setCell ⟨w3.heap.size, 4, none⟩ (.slice pv6 ((ns).length + 1) cv6)) = W7 at *
                clear hc7 hf7
                have HBw7 := Lib.hid (HB2.out.trans (HS7.out.hB.mono (by omega)))
                have Hcx7 := Lib.hid (fun W' (h : Below W7.heap.size W7 W') => HcX.out W' (HBw7.out.trans (h.mono HBw7.out.size)))
                obtain ⟨x0, x1, x2, x3, x4⟩ := Vl.five_of (Vl.keepBox HX2.out HS7.out.hB)
                have HCc := Lib.hid (Hcx7.out W7.drew ((Below.refl _ W7).drew))
                have HSd := Lib.hid HS7.out.drew
                have hszd := HS7.out.sz
                obtain ⟨o0, o1, o2, o3, o4⟩ := Vl.five_of HS7.out.vb
                
                go_region_law (first
                  | (refine step_append_lies _ (by rfl) _ _ _ (by rfl) (w3.heap.size + 1) 26 i0 _ 5 80 Tryd.underlying23 hi hy0 hy1 hy2 rfl (by omega) (Value.slice pvi is.length cvi) is.length cs4 (by rfl) (hO4.alloc _) ⟨w4.heap.size, 0, none⟩ 1 1 [.int .u8 k2, .string t2, .int .i64 i2, .slice pi2 ni2 ci2, .slice pn2 nn2 cn2] (by rfl) (by rfl) (World.news_of_block (cs := #[.int .u8 k2, .string t2, .int .i64 i2, .slice pi2 ni2 ci2, .slice pn2 nn2 cn2]) (t := 26) (fr := (0, 0)) (Vl.new w4 _)) (by simp [Value.oneCell']) (by omega) (by unfold maxLen; omega) (by omega) (by have := S4.sz; simp; omega) (w4.heap.size + 1) (by simp) ?_; intro g2 cap w5 hown5 hgrow5 hat5 hlt5; have hat : (Value.slice (some ⟨g2, 0, none⟩) (is.length + 1) cap).ownBlock = ((Value.slice pvi is.length cvi)).ownBlock ∨ (Value.slice (some ⟨g2, 0, none⟩) (is.length + 1) cap).ownBlock = some (w4.alloc (.cells #[.int .u8 k2, .string t2, .int .i64 i2, .slice pi2 ni2 ci2, .slice pn2 nn2 cn2] 26)).heap.size := (hat5.elim (fun h => Or.inl h.symm) (fun h => Or.inr (by rw [h, World.size_alloc]; rfl))); obtain ⟨S8, c8, f8⟩ := (S4.alloc (.cells #[.int .u8 k2, .string t2, .int .i64 i2, .slice pi2 ni2 ci2, .slice pn2 nn2 cn2] 26)).item (hO4.alloc _) (U4.below ((Below.refl _ w4).alloc (Nat.le_refl _) (.cells #[.int .u8 k2, .string t2, .int .i64 i2, .slice pi2 ni2 ci2, .slice pn2 nn2 cn2] 26))) hown5 hgrow5 hat)
                  | (go_simp; (with_reducible refine HCc.out.mono ?_); rintro e w4 ⟨k2, t2, i2, pi2, ni2, ci2, pn2, nn2, cn2, rfl, hoff4, hb4⟩; have S4 := HSd.out.below hb4; have U4 := HSd.out.copied hoff4; obtain ⟨cs4, hO4, _⟩ := S4.rows.items; obtain ⟨o0b, o1b, o2b, o3b, o4b⟩ := Vl.five_of S4.vb; have hlt4 : w3.heap.size < w4.heap.size := (by have := S4.sz; omega)))
                all_goals
                  have HS9 := Lib.hid S8
                  clear S8 c8 f8 hown5 hgrow5 hat5 hlt5 hat S4 U4 hO4 o0 o1 o2 o3 o4 o0b o1b o2b o3b o4b hoff4 hb4 HCc HSd hlt4
                  go_upto_region 21 with fail
                  generalize (w5.setCell ⟨w3.heap.size, 3, none⟩ (.slice (some ⟨g2, 0, none⟩) (is.length + 1) cap)) = W9 at *
                  clear x0 x1 x2 x3 x4 HBw7 Hcx7
                  obtain ⟨pviz, cviz, pvnz, cvnz, hv1, hv2, hoffz⟩ := HS9.out.rows.off
                  have HSz := Lib.hid (by have := HS9.out; rw [hv1, hv2] at this; exact this : Vl.WSt d w3.heap.size w3 W9 (.slice pviz (is ++ [X]).length cviz) (.slice pvnz (ns ++ [s]).length cvnz) (is ++ [X]) (ns ++ [s]))
                  have Hoffz := Lib.hid hoffz
                  have hilz : (is ++ [X]).length ≤ 260 := by first | omega | (simp; omega)
                  have hnlz : (ns ++ [s]).length ≤ 260 := by first | omega | (simp; omega)
                  have Hsmz := Lib.hid (show ∀ t ∈ ns ++ [s], t.size ≤ 140737488351232 from fun t ht => (List.mem_append.1 ht).elim (fun h => Hsm.out t h) (fun h => by rw [List.mem_singleton.1 h]; exact hs))
                  clear hv1 hv2 hoffz
                  generalize is ++ [X] = isz at *
                  generalize ns ++ [s] = nsz at *
                  have HAz := Lib.hid (fun W' (h : ∀ j, w3.heap.size + 1 ≤ j → j < W9.heap.size → W'.heap[j]? = W9.heap[j]?) => (show Vl.At (d + 1) W' (.agg #[.int .u8 5, .string ⟨#[]⟩, .int .i64 0, .slice pviz isz.length cviz, .slice pvnz nsz.length cvnz]) (.mk 5 ⟨#[]⟩ 0 isz nsz) from
                    ⟨pviz, cviz, pvnz, cvnz, rfl, ⟨by show (5 : Nat) ≤ 255; omega, by show (0 : Nat) ≤ _; omega, ⟨by show (-9223372036854775808 : Int) ≤ 0; omega, by show (0 : Int) ≤ _; omega⟩, by show isz.length ≤ _; omega, by show nsz.length ≤ _; omega, Hsmz.out⟩, (Hoffz.out W' h).2, (Hoffz.out W' h).1⟩))
                  have HCz := Lib.hid (refCheck_any (d + 1) _ _ W9 (HAz.out W9 (fun _ _ _ => rfl)))
                  have hchz : Vl.chk (.mk 5 ⟨#[]⟩ 0 isz nsz) = if Vl.good (Vl.withV V s X) then 0 else 2 := by rw [HFin.out]; rfl
                  rw [hchz] at HCz
                  have HRz := Lib.hid (Vl.keepBox HR2.out HSz.out.hB)
                  have HBz := Lib.hid (HB2.out.trans (HSz.out.hB.mono (by omega)))
                  obtain ⟨z0, z1, z2, z3, z4⟩ := Vl.five_of HSz.out.vb
                  clear hchz
                  go_wp2_with fail
                  refine HCz.out.mono ?_
                  rintro e w9 ⟨rfl, hb9⟩
                  have HR9 := Lib.hid (Vl.keepBox HRz.out hb9)
                  have HB9 := Lib.hid (HBz.out.trans (hb9.mono HBz.out.size))
                  have HS9z := Lib.hid (HSz.out.below hb9)
                  have HK9 := Lib.hid (fun j (hj : j < W9.heap.size) => hb9.block j hj)
                  clear hb9 HCz z0 z1 z2 z3 z4
                  obtain ⟨r0, r1, r2, r3, r4⟩ := Vl.five_of HR9.out
                  obtain ⟨n0, n1, n2, n3, n4⟩ := Vl.fiveF_of HR9.out
                  cases hgw : Vl.good (Vl.withV V s X) with
                  | false =>
                    have HTz := Lib.hid (show T = (Vl.zero, 11) by rw [HT2.out, hgw]; rfl)
                    go_wp2_with fail
                    refine bodyPost_ret (Vl.ret2 rfl _ _ (w.heap.size + 2) 26 _ _ rfl (Vl.set5 HR9.out _ _ _ _ _) Tryd.underlying26 rfl (by kernel_rfl)) rfl ?_
                    have hT := HTz.out
                    subst hT
                    exact ⟨_, rfl, ⟨1, Vl.At.zero 0 _⟩, below_grownBy HB9.out (Vl.set5_grown _ _ _ _ _ _ _) (by omega) HB9.out.size⟩
                  | true =>
                    have HTz := Lib.hid (show T = (.mk 5 ⟨#[]⟩ 0 isz nsz, 0) by rw [HT2.out, hgw, ← HFin.out]; rfl)
                    obtain ⟨z0, z1, z2, z3, z4⟩ := Vl.five_of HS9z.out.vb
                    go_wp2_with fail
                    refine bodyPost_ret (Vl.ret2 rfl _ _ (w.heap.size + 2) 26 _ _ rfl (Vl.set5 HR9.out _ _ _ _ _) Tryd.underlying26 rfl (by kernel_rfl)) rfl ?_
                    have hT := HTz.out
                    subst hT
                    exact ⟨_, rfl, ⟨d + 1, HAz.out _ (fun j h1 h2 => (Vl.set5_rest _ _ _ _ _ _ _ j (by omega)).trans (HK9.out j h2))⟩, below_grownBy HB9.out (Vl.set5_grown _ _ _ _ _ _ _) (by omega) HB9.out.size⟩
      · have e5 : ((k1 : Int) != 5) = true := by rw [bne_iff_ne]; omega
        have HTz := Lib.hid (show T = (Vl.zero, 2) by rw [HT.out, hgV, hgX, HkV.out]; simp [hk5])
        clear hk5
        obtain ⟨r0, r1, r2, r3, r4⟩ := Vl.five_of HR2.out
        obtain ⟨n0, n1, n2, n3, n4⟩ := Vl.fiveF_of HR2.out
        go_wp2_with fail
        refine bodyPost_ret (Vl.ret2 rfl _ _ (w.heap.size + 2) 26 _ _ rfl (Vl.set5 HR2.out _ _ _ _ _) Tryd.underlying26 rfl (by kernel_rfl)) rfl ?_
        have hT := HTz.out
        subst hT
        exact ⟨_, rfl, ⟨1, Vl.At.zero 0 _⟩, below_grownBy HB2.out (Vl.set5_grown _ _ _ _ _ _ _) (by omega) HB2.out.size⟩
end Go.Proofs.YtckcbdnlligndaaDoor
