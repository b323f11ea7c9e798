/-
  append onto a row of the call's own whose elements are one cell each, of a slice that lies anywhere; as a step of a region that draws its order, too. No condition but those that the theorems state.
  The walk of the document's own Copy (bellmanref09.Copy). Conditions: a value's texts and lists are of a size that a machine holds; no list within it has more than 100000 items or names.
-/
import Derived.Test.YtckcbdnlligndaaDoorAt
import Derived.Deep.AppendSrc
import Derived.Deep.RegionLaw
import Derived.Maps.AppendAt
import Derived.Test.YtckcbdnlligndaaDoorVlFind
namespace Go.Proofs.YtckcbdnlligndaaDoor
open Go.RowKit

def Wp.mkB (x : Bool) : Value := .bool x
structure Ow.Ty (t e : TypeId) (z : Value) : Prop where
  und : Tryd.prog.underlying t = some (.slice e)
  inf : ∃ i, Tryd.prog.info? e = some i ∧ i.zero = some z ∧ i.size = 1 ∧ i.bytes ≤ 16
  one : z.cells.size = 1
theorem Ow.append {α : Type} {mk : α → Value} (h1 : ∀ x, (mk x).oneCell' = true) {t e : TypeId} {z : Value} (hT : Ow.Ty t e z) (l m : List α) (v : Value) (q : Option Addr) (n c : Nat) (base : Nat) (ty : TypeId) (w : World) (hO : w.ownsRow base e 1 v l.length (l.map mk)) (hA : Wp.At mk w q m) (hn : n = m.length) (hl : l.length ≤ 3000000) (hm : m.length ≤ 3000000) (hb : base ≤ w.heap.size) :
    ∃ v' w', (Builtin.append_ #[t, t] ty #[v, .slice q n c]).run Tryd.prog w = .ok v' w' ∧ w'.ownsRow base e 1 v' (l ++ m).length ((l ++ m).map mk) ∧ w.grownBy w' v.ownBlock := by
  obtain ⟨i0, hi, hz0, hz1, hz2⟩ := hT.inf
  subst hn
  have hone : ∀ u ∈ m.map mk, u.oneCell' = true := by
    intro u hu
    obtain ⟨x, _, rfl⟩ := List.mem_map.1 hu
    exact h1 x
  cases q with
  | some ad =>
    have hnews : ∀ j u, (m.map mk)[j]? = some u → w.cell? (ad.add j) = some u := by
      intro j u hj
      rcases hA with rfl | ⟨b, off, hp, hc⟩
      · simp at hj
      · cases hp
        obtain ⟨hjl, hje⟩ := List.getElem?_eq_some_iff.1 hj
        rw [List.length_map] at hjl
        rw [List.getElem_map] at hje
        rw [show (⟨b, off, none⟩ : Addr).add j = ⟨b, off + j, none⟩ by simp [Addr.add], hc j hjl, hje]
    have hbb : (l.length + m.length) * i0.bytes ≤ 140737488355328 := by
      have := Nat.mul_le_mul (show l.length + m.length ≤ 6000000 by omega) hz2
      omega
    obtain ⟨v', w', hr, h2, h3, _, _⟩ := run_append_own_at (P := Tryd.prog) w base t ty e i0 z 1 i0.bytes hT.und hi hz0 hz1 rfl hT.one (by decide) v l.length (l.map mk) hO ad m.length c (m.map mk) (by rw [List.length_map, Nat.mul_one]) hnews hone (by unfold maxLen; omega) hbb hb
    refine ⟨v', w', hr, ?_, h3⟩
    rw [List.map_append, List.length_append]
    exact h2
  | none =>
    have hm0 : m = [] := by
      rcases hA with h | ⟨b, off, hp, _⟩
      · exact h
      · cases hp
    subst hm0
    rw [List.append_nil]
    rcases hO.2 with ⟨rfl, h0⟩ | ⟨g, cap, cur, rfl, hg, hc, hn, hm2, hs, ht⟩
    · refine ⟨.slice none 0 0, w, ?_, hO, ⟨rfl, rfl, rfl, Nat.le_refl _, fun _ _ _ => rfl⟩⟩
      have hf := run_firstCells_none (P := Tryd.prog) w i0.size 0 0 c
      simp [Builtin.append_, run_underlying hT.und, sizeOf, typeInfo, hi, Builtin.lenOf, hf]
    · refine ⟨.slice (some ⟨g, 0, none⟩) l.length cap, w, ?_, hO, ⟨rfl, rfl, rfl, Nat.le_refl _, fun _ _ _ => rfl⟩⟩
      exact run_append_room_src (P := Tryd.prog) w t t ty e i0 hT.und hi g 0 l.length cap (.slice none 0 c) 0 [] (Src.ofNil w hT.und c) (by omega) (by simp) (by simp)
theorem Ow.step {ops : Array Oper} {o : Oper} {a : Act} {w : World} {K : Act → World → Prop} {Q : Exit → Act → World → Prop} {E : Prop} {α : Type} {mk : α → Value}
    (hg : o.guard = none) (s x : Operand) (t : TypeId) (hop : o.op = Op.call { callee := Callee.builtin Builtin.append, args := #[s, x], argTypes := #[t, t] })
    (h1 : ∀ x, (mk x).oneCell' = true) {e : TypeId} {z : Value} (hT : Ow.Ty t e z) (l m : List α) (v : Value) (q : Option Addr) (n c : Nat) (base : Nat) (hs : a.eval s = v) (hx : a.eval x = .slice q n c)
    (hO : w.ownsRow base e 1 v l.length (l.map mk)) (hA : Wp.At mk w q m) (hn : n = m.length) (hl : l.length ≤ 3000000) (hm : m.length ≤ 3000000) (hb : base ≤ w.heap.size)
    (hK : ∀ v' w', w'.ownsRow base e 1 v' (l ++ m).length ((l ++ m).map mk) → w.grownBy w' v.ownBlock → K (a.put o.dst v') w') :
    if Region.wanted o (yielded ops a.tmps) = true then Oper.wp Tryd.prog o a w K Q else E := by
  have hw : Region.wanted o (yielded ops a.tmps) = true := by simp [Region.wanted, hg]
  rw [if_pos hw]
  obtain ⟨v', w', hr, h2, h3⟩ := Ow.append h1 hT l m v q n c base o.type w hO hA hn hl hm hb
  unfold Oper.wp
  simp [execOp, hop, resolve, invoke, builtin, hs, hx, hr, Result.andThen]
  exact hK v' w' h2 h3
section
variable (W : World) (t : TypeId) (o : Obj) (x : Value)
/-- An empty literal; with a new cell behind it; with one ahead of it. -/
theorem Ow.a1 : ((W.alloc (.cells #[] t)).drew).ownsRow W.heap.size t 1 (.slice (some ⟨W.heap.size, 0, none⟩) 0 0) 0 [] := World.ownsRow_made W #[] 0 (Nat.le_refl _) (Nat.zero_le _) rfl
theorem Ow.b1 : (((W.alloc (.cells #[] t)).alloc o).drew).ownsRow W.heap.size t 1 (.slice (some ⟨W.heap.size, 0, none⟩) 0 0) 0 [] := (World.ownsRow_made W #[] 0 (Nat.le_refl _) (Nat.zero_le _) rfl).alloc o
theorem Ow.c1 : (((W.alloc o).alloc (.cells #[] t)).drew).ownsRow W.heap.size t 1 (.slice (some ⟨W.heap.size + 1, 0, none⟩) 0 0) 0 [] := by
  have h := World.ownsRow_made (base := W.heap.size) (e := t) (size := 1) (W.alloc o) #[] 0 (by rw [World.size_alloc]; omega) (Nat.zero_le _) rfl
  rw [World.size_alloc] at h
  exact h
theorem Ow.a2 : Below W.heap.size W (W.alloc o).drew := ((Below.refl _ _).alloc (Nat.le_refl _) o).drew
theorem Ow.b2 (o' : Obj) : Below W.heap.size W ((W.alloc o).alloc o').drew := (((Below.refl _ _).alloc (Nat.le_refl _) o).alloc (by rw [World.size_alloc]; omega) o').drew
theorem Ow.b3 : (((W.alloc o).alloc (.cells #[x] t)).drew).cell? ⟨W.heap.size + 1, 0, none⟩ = some x := by
  have h : (((W.alloc o).alloc (.cells #[x] t)).drew).heap[(W.alloc o).heap.size]? = some (.cells #[x] t (0, 0)) := heap_alloc_new (W.alloc o) _
  rw [World.size_alloc] at h
  rw [Lib.cell_of_heap h]; rfl
theorem Ow.c3 : (((W.alloc (.cells #[x] t)).alloc o).drew).cell? ⟨W.heap.size, 0, none⟩ = some x := by
  have h : (((W.alloc (.cells #[x] t)).alloc o).drew).heap[W.heap.size]? = some (.cells #[x] t (0, 0)) := (show ((W.alloc (.cells #[x] t)).heap.push o)[W.heap.size]? = _ by rw [Array.getElem?_push, if_neg (by rw [World.size_alloc]; omega)]).trans (heap_alloc_new W _)
  rw [Lib.cell_of_heap h]; rfl
theorem Ow.n3 : (W.alloc (.cells #[x] t)).cell? ⟨W.heap.size, 0, none⟩ = some x := by
  rw [Lib.cell_of_heap (heap_alloc_new W _)]; rfl
end
theorem Ow.one {α : Type} {mk : α → Value} {w : World} {g : Nat} {x : α} (h : w.cell? ⟨g, 0, none⟩ = some (mk x)) : Wp.At mk w (some ⟨g, 0, none⟩) [x] := by
  refine Or.inr ⟨g, 0, rfl, fun i hi => ?_⟩
  obtain rfl : i = 0 := by simp at hi; omega
  exact h
theorem Ow.grown {w0 w w' : World} {base : Nat} {e : TypeId} {v : Value} {n : Nat} {xs : List Value} (h : Below base w0 w) (hO : w.ownsRow base e 1 v n xs) (hg : w.grownBy w' v.ownBlock) (hb : base ≤ w.heap.size) : Below base w0 w' := h.grown hg hb (fun k hk => (hO.lt k hk).1)
end Go.Proofs.YtckcbdnlligndaaDoor
namespace Go.Proofs.YtckcbdnlligndaaDoor
open Go.RowKit

theorem Vl.tyNames : Ow.Ty 24 9 (.string ⟨#[]⟩) := ⟨Tryd.underlying24, by obtain ⟨i, h1, h2, h3, h4⟩ : ∃ i, Tryd.prog.info? 9 = some i ∧ i.zero = some (.string ⟨#[]⟩) ∧ i.size = 1 ∧ i.bytes = 16 := info_parts (by kernel_rfl); exact ⟨i, h1, h2, h3, by omega⟩, rfl⟩
theorem Ow.listV {ops : Array Oper} {rest : List Oper} {o : Oper} {a : Act} {w : World} {Q : Exit → Act → World → Prop} {α : Type} {mk : α → Value}
    (hgd : o.guard = none) (s x : Operand) (t : TypeId) (hop : o.op = Op.call { callee := Callee.builtin Builtin.append, args := #[s, x], argTypes := #[t, t] })
    (h1 : ∀ x, (mk x).oneCell' = true) {e : TypeId} {z : Value} (hT : Ow.Ty t e z) (l m : List α) (v : Value) (q : Option Addr) (n c : Nat) (base : Nat) (hs : a.eval s = v) (hx : a.eval x = .slice q n c)
    (hO : w.ownsRow base e 1 v l.length (l.map mk)) (hA : Wp.At mk w q m) (hn : n = m.length) (hl : l.length ≤ 3000000) (hm : m.length ≤ 3000000) (hb : base ≤ w.heap.size)
    (hK : ∀ v' w', w'.ownsRow base e 1 v' (l ++ m).length ((l ++ m).map mk) → w.grownBy w' v.ownBlock → wpList Tryd.prog ops Q rest (a.put o.dst v') w') : wpList Tryd.prog ops Q (o :: rest) a w := by
  refine wpList_plain hgd fun K hK2 => ?_
  obtain ⟨v', w', hr, h2, h3⟩ := Ow.append h1 hT l m v q n c base o.type w hO hA hn hl hm hb
  unfold Oper.wp
  simp [execOp, hop, resolve, invoke, builtin, hs, hx, hr, Result.andThen]
  exact hK2 _ _ (hK v' w' h2 h3)
set_option maxRecDepth 100000 in
set_option maxHeartbeats 2000000 in
theorem refCopy_step (d : Nat) (x : Vl.V) (k : Nat) (t : ByteArray) (i : Int) (is : List Vl.V) (ns : List ByteArray) (pi : Option Addr) (n ci : Nat) (pn : Option Addr) (nn cn : Nat) (w : World) (hN : n = is.length) (hNn : nn = ns.length) (f1 : n ≤ 100000) (f2 : nn ≤ 100000)
    (hn : Wp.At Wp.mkT w pn ns) (hrow : ∀ W, Below w.heap.size w W → Vl.RowIs W pi n (Vl.G d w is))
    (hih : ∀ y ∈ is, ∀ u W, Vl.At d W u y → Calls Tryd.prog 43 #[u] W (Vl.Copied d y W))
    (hend : ∀ (W' : World) pi' ci' pn' cn', Vl.Its d W' pi' is → Wp.At Wp.mkT W' pn' ns → Vl.At (d + 1) W' (.agg #[.int .u8 (k : Nat), .string t, .int .i64 i, .slice pi' n ci', .slice pn' nn cn']) x) :
    Calls Tryd.prog 43 #[.agg #[.int .u8 (k : Nat), .string t, .int .i64 i, .slice pi n ci, .slice pn nn cn]] w (Vl.Copied (d + 1) x w) := by
  have HN := Lib.hid hN
  have HNn := Lib.hid hNn
  have Hn := Lib.hid hn
  have HR := Lib.hid hrow
  have HI := Lib.hid hih
  have Hend := Lib.hid hend
  obtain ⟨i0, hi, hz0, hz1, hz2⟩ := Vl.infoVal
  have X1 := Lib.hid (show ((w.alloc (.cells #[.int .u8 (k : Nat), .string t, .int .i64 i, .slice pi n ci, .slice pn nn cn] 26)).alloc (.cells #[.int .u8 0, .string ⟨#[]⟩, .int .i64 0, .slice none 0 0, .slice none 0 0] 26)).heap[w.heap.size]? = some (.cells #[.int .u8 (k : Nat), .string t, .int .i64 i, .slice pi n ci, .slice pn nn cn] 26 (0, 0)) by rw [Vl.past _ _ _ (by simp)]; exact Vl.new _ _)
  have R1 := Lib.hid (Vl.newAt (w.alloc (.cells #[.int .u8 (k : Nat), .string t, .int .i64 i, .slice pi n ci, .slice pn nn cn] 26)) (.cells #[.int .u8 0, .string ⟨#[]⟩, .int .i64 0, .slice none 0 0, .slice none 0 0] 26) (w.heap.size + 1) (by simp))
  have B1 := Lib.hid (((Below.refl w.heap.size w).alloc (Nat.le_refl _) (.cells #[.int .u8 (k : Nat), .string t, .int .i64 i, .slice pi n ci, .slice pn nn cn] 26)).alloc (by simp) (.cells #[.int .u8 0, .string ⟨#[]⟩, .int .i64 0, .slice none 0 0, .slice none 0 0] 26))
  have hs1 : ((w.alloc (.cells #[.int .u8 (k : Nat), .string t, .int .i64 i, .slice pi n ci, .slice pn nn cn] 26)).alloc (.cells #[.int .u8 0, .string ⟨#[]⟩, .int .i64 0, .slice none 0 0, .slice none 0 0] 26)).heap.size = w.heap.size + 2 := by simp
  have Hs1 := Lib.hid hs1
  clear hs1 hN hNn hn hrow hih hend
  go_enter Tryd.func43, Tryd.ntmps43
  go_upto_region 1 with fail
  generalize ((w.alloc (.cells #[.int .u8 (k : Nat), .string t, .int .i64 i, .slice pi n ci, .slice pn nn cn] 26)).alloc (.cells #[.int .u8 0, .string ⟨#[]⟩, .int .i64 0, .slice none 0 0, .slice none 0 0] 26)) = W1 at *
  have hbe := (Below.refl W1.heap.size W1).alloc (Nat.le_refl _) (.cells #[] 9)
  have Hbe := Lib.hid hbe
  have HA1 := Lib.hid ((Hn.out.below B1.out).below hbe)
  have hs1 : W1.heap.size = w.heap.size + 2 := Hs1.out
  obtain ⟨m0, m1, m2, m3, m4⟩ := Vl.five_of ((hbe.block w.heap.size (by omega)).trans X1.out)
  obtain ⟨n0, n1, n2, n3, n4⟩ := Vl.fiveF_of ((hbe.block w.heap.size (by omega)).trans X1.out)
  clear hbe hs1
  go_wp2_with (at_builtin; refine Ow.listV (mk := Wp.mkT) rfl _ _ _ rfl (fun _ => rfl) Vl.tyNames [] ns (.slice (some ⟨W1.heap.size, 0, none⟩) 0 0) _ _ _ W1.heap.size rfl rfl (World.ownsRow_made W1 #[] 0 (Nat.le_refl _) (Nat.zero_le _) rfl) HA1.out HNn.out (by simp) (by rw [← HNn.out]; omega) Hbe.out.size ?_)
  intro va wa hoa hga
  have ha : Below W1.heap.size W1 wa := Ow.grown Hbe.out (World.ownsRow_made W1 #[] 0 (Nat.le_refl _) (Nat.zero_le _) rfl) hga Hbe.out.size
  rw [← HNn.out] at hoa
  obtain ⟨p3, c3, rfl, hoff3⟩ := Vl.texts_off hoa
  have Hoff3 := Lib.hid hoff3
  have hs1 : W1.heap.size = w.heap.size + 2 := Hs1.out
  have hsa : W1.heap.size ≤ wa.heap.size := ha.size
  have hx3 := (ha.block w.heap.size (by omega)).trans X1.out
  have hr3 := (ha.block (w.heap.size + 1) (by omega)).trans R1.out
  have hB3 := B1.out.trans (ha.mono (by omega))
  clear m0 m1 m2 m3 m4 n0 n1 n2 n3 n4 hoa hga hoff3 HA1 Hbe
  obtain ⟨m0, m1, m2, m3, m4⟩ := Vl.five_of hx3
  obtain ⟨n0, n1, n2, n3, n4⟩ := Vl.fiveF_of hx3
  have X2 := Lib.hid ((Lib.heap_setCell_same (i := 4) hx3 (.slice p3 nn c3)).trans rfl : (wa.setCell ⟨w.heap.size, 4, none⟩ (.slice p3 nn c3)).heap[w.heap.size]? = some (.cells #[.int .u8 (k : Nat), .string t, .int .i64 i, .slice pi n ci, .slice p3 nn c3] 26 (0, 0)))
  have R2 := Lib.hid ((Below.heap_setCell wa ⟨w.heap.size, 4, none⟩ (.slice p3 nn c3) (w.heap.size + 1) (by simp)).trans hr3)
  have B2 := Lib.hid (hB3.setCell (p := ⟨w.heap.size, 4, none⟩) (Nat.le_refl _) (.slice p3 nn c3))
  have hs2 : (wa.setCell ⟨w.heap.size, 4, none⟩ (.slice p3 nn c3)).heap.size = wa.heap.size := World.size_setCell _ _ _
  have K2 := Lib.hid (fun j (hj : j ≠ w.heap.size) => Below.heap_setCell wa ⟨w.heap.size, 4, none⟩ (.slice p3 nn c3) j hj)
  have HS1 := Lib.hid hs1
  have hsz2 : w.heap.size + 2 ≤ (wa.setCell ⟨w.heap.size, 4, none⟩ (.slice p3 nn c3)).heap.size := by omega
  have HS2 := Lib.hid hs2
  clear ha hx3 hr3 hB3 hs1 hs2
  go_upto_region 2 with fail
  generalize (wa.setCell ⟨w.heap.size, 4, none⟩ (.slice p3 nn c3)) = W2 at *
  clear m0 m1 m2 m3 m4 n0 n1 n2 n3 n4
  have HR2 := Lib.hid (fun W (h : Below W2.heap.size W2 W) => HR.out W (B2.out.trans (h.mono B2.out.size)))
  obtain ⟨m0, m1, m2, m3, m4⟩ := Vl.five_of X2.out
  go_wp2_with fail
  go_loopw [3, 14] (fun v s wr => ∃ kk : Nat, kk ≤ n ∧ s = .int .i64 kk ∧ Hid (Vl.OwnRow d W2.heap.size wr v kk (is.take kk)) ∧ Hid (Below W2.heap.size W2 wr)) (fun _ s _ => n - (intOf s).toNat)
  case atStart => exact ⟨0, Nat.zero_le _, rfl, Lib.hid (Vl.OwnRow.nil _ _ _), Lib.hid (Below.refl _ _)⟩
  case round =>
    obtain ⟨kk, hk, rfl, HO, HB⟩ := hrel
    by_cases hlt : kk < n
    · obtain ⟨b, off, c0, c1, c2, c3', c4, rfl, ⟨e0, e1, e2, e3, e4⟩, y, hy, hAy⟩ := HR2.out _ HB.out kk hlt
      obtain ⟨k1, t1, i1, pi1, ni1, ci1, pn1, nn1, cn1, hsh⟩ := hAy.shape
      simp only [Value.agg.injEq, Array.mk.injEq, List.cons.injEq, and_true] at hsh
      obtain ⟨rfl, rfl, rfl, rfl, rfl⟩ := hsh
      have Htk := Lib.hid (show is.take (kk + 1) = is.take kk ++ [y] by rw [List.take_add_one, hy]; rfl)
      have Hlk := Lib.hid (show (is.take kk).length = kk by have := HN.out; rw [List.length_take]; omega)
      have hwr : W2.heap.size ≤ wr.heap.size := HB.out.size
      have hby := (Below.refl wr.heap.size wr).alloc (Nat.le_refl _) (.cells #[.int .u8 (k1 : Nat), .string t1, .int .i64 i1, .slice pi1 ni1 ci1, .slice pn1 nn1 cn1] 26)
      have HC := Lib.hid (HI.out y (List.mem_of_getElem? hy) _ (wr.alloc (.cells #[.int .u8 (k1 : Nat), .string t1, .int .i64 i1, .slice pi1 ni1 ci1, .slice pn1 nn1 cn1] 26)) ((hAy.below (B2.out.trans (HB.out.mono B2.out.size))).below hby))
      obtain ⟨cs, g1, g2, g3⟩ := HO.out
      have HG := Lib.hid g3
      have HO2 := Lib.hid g1
      clear hby hAy hy HO g1 g2 g3
      go_wp2_with fail
      refine HC.out.mono ?_
      rintro e w1 ⟨u, rfl, hoff, hb1⟩
      obtain ⟨k2, t2, i2, pi2, ni2, ci2, pn2, nn2, cn2, rfl⟩ := hoff.at.shape
      rw [World.size_alloc] at hb1 hoff
      have hbw : Below wr.heap.size wr w1 := ((Below.refl _ wr).alloc (Nat.le_refl _) (.cells #[.int .u8 (k1 : Nat), .string t1, .int .i64 i1, .slice pi1 ni1 ci1, .slice pn1 nn1 cn1] 26)).trans (hb1.mono (by omega))
      have hs1 : wr.heap.size + 1 ≤ w1.heap.size := by have := hb1.size; rwa [World.size_alloc] at this
      have Hoff := Lib.hid (fun W' h => hoff W' (fun j h1 h2 h3 => h j (by omega) h2 h3) : Vl.Off d wr.heap.size w1 none _ y)
      have HO1 := Lib.hid ((ownsRow_below HO2.out hbw).alloc (.cells #[.int .u8 (k2 : Nat), .string t2, .int .i64 i2, .slice pi2 ni2 ci2, .slice pn2 nn2 cn2] 26))
      have Hbw := Lib.hid hbw
      have HB1 := Lib.hid ((HB.out.trans (hbw.mono hwr)).alloc (by omega) (.cells #[.int .u8 (k2 : Nat), .string t2, .int .i64 i2, .slice pi2 ni2 ci2, .slice pn2 nn2 cn2] 26))
      have Hnew := Lib.hid (Vl.five_of (Vl.new w1 (.cells #[.int .u8 (k2 : Nat), .string t2, .int .i64 i2, .slice pi2 ni2 ci2, .slice pn2 nn2 cn2] 26)))
      clear hoff hb1 hbw e0 e1 e2 e3 e4 HB HC
      go_wp2_with (at_builtin; refine Vl.listApp _ rfl _ _ 23 rfl W2.heap.size 26 i0 _ 5 80 Tryd.underlying23 hi hz0 hz1 hz2 rfl (by decide) _ kk _ rfl HO1.out ⟨w1.heap.size, 0, none⟩ 1 1 [.int .u8 (k2 : Nat), .string t2, .int .i64 i2, .slice pi2 ni2 ci2, .slice pn2 nn2 cn2] rfl rfl ?c1 ?c2 ?c3 ?c4 ?c5 ?_)
      case c1 =>
        intro j q hq
        obtain ⟨n0, n1, n2, n3, n4⟩ := Hnew.out
        match j, hq with
        | 0, hq => cases hq; exact n0
        | 1, hq => cases hq; exact n1
        | 2, hq => cases hq; exact n2
        | 3, hq => cases hq; exact n3
        | 4, hq => cases hq; exact n4
        | j + 5, hq => simp at hq
      case c2 => intro q hq; simp at hq; rcases hq with rfl | rfl | rfl | rfl | rfl <;> rfl
      case c3 => unfold maxLen; omega
      case c4 => omega
      case c5 => exact HB1.out.size
      intro v' w2 hown hgrow hat
      have HB2 := Lib.hid (below_grown5 HB1.out HO1.out (Nat.le_refl _) hgrow)
      have HOw := Lib.hid (Vl.OwnRow.grow Hlk.out HO2.out HG.out hwr Hbw.out rfl Hoff.out _ hown hgrow hat)
      clear hown hgrow HO1 HB1 hat HO2 HG Hbw Hoff Hnew
      go_wp2_with fail
      refine ⟨⟨kk + 1, by omega, by go_num, Lib.hid (by rw [Htk.out]; exact HOw.out), HB2⟩, by simp [intOf]; omega⟩
    · have hkn : kk = n := by omega
      subst hkn
      have HO1 := Lib.hid (show Vl.OwnRow d W2.heap.size _ _ kk is by have := HO.out; rwa [HN.out, List.take_length, ← HN.out] at this)
      obtain ⟨p5, c5, rfl, hoff5⟩ := HO1.out.off
      have Hoff5 := Lib.hid hoff5
      have hsr := HB.out.size
      have hx5 := (HB.out.block w.heap.size (by omega)).trans X2.out
      have hr5 := (HB.out.block (w.heap.size + 1) (by omega)).trans R2.out
      have hB5 := B2.out.trans (HB.out.mono (by omega))
      clear m0 m1 m2 m3 m4 HO HO1 hoff5
      obtain ⟨m0, m1, m2, m3, m4⟩ := Vl.five_of hx5
      obtain ⟨n0, n1, n2, n3, n4⟩ := Vl.fiveF_of hx5
      have X6 := Lib.hid ((Lib.heap_setCell_same (i := 3) hx5 (.slice p5 kk c5)).trans rfl : (wr.setCell ⟨w.heap.size, 3, none⟩ (.slice p5 kk c5)).heap[w.heap.size]? = some (.cells #[.int .u8 (k : Nat), .string t, .int .i64 i, .slice p5 kk c5, .slice p3 nn c3] 26 (0, 0)))
      have R6 := Lib.hid ((Below.heap_setCell wr ⟨w.heap.size, 3, none⟩ (.slice p5 kk c5) (w.heap.size + 1) (by simp)).trans hr5)
      have B6 := Lib.hid (hB5.setCell (p := ⟨w.heap.size, 3, none⟩) (Nat.le_refl _) (.slice p5 kk c5))
      have hs6 : (wr.setCell ⟨w.heap.size, 3, none⟩ (.slice p5 kk c5)).heap.size = wr.heap.size := World.size_setCell _ _ _
      have K6 := Lib.hid (fun j (hj : j ≠ w.heap.size) => Below.heap_setCell wr ⟨w.heap.size, 3, none⟩ (.slice p5 kk c5) j hj)
      have HS6 := Lib.hid hs6
      clear hx5 hr5 hB5 X2 R2 B2 hs6
      go_upto_region 9 with fail
      generalize (wr.setCell ⟨w.heap.size, 3, none⟩ (.slice p5 kk c5)) = W6 at *
      clear m0 m1 m2 m3 m4 n0 n1 n2 n3 n4
      obtain ⟨m0, m1, m2, m3, m4⟩ := Vl.five_of X6.out
      obtain ⟨r0, r1, r2, r3, r4⟩ := Vl.five_of R6.out
      obtain ⟨n0, n1, n2, n3, n4⟩ := Vl.fiveF_of R6.out
      go_wp2_with fail
      refine bodyPost_ret (Vl.ret1 rfl _ _ (w.heap.size + 1) 26 _ _ rfl (Vl.set5 R6.out _ _ _ _ _) Tryd.underlying26 rfl (by kernel_rfl)) rfl ?_
      have hs2 := HS2.out
      have hs1 := HS1.out
      have hs6 := HS6.out
      refine ⟨_, rfl, fun W' hW => ?_, ?_⟩
      · rw [Vl.set5_size] at hW
        have hW6 : ∀ j, w.heap.size + 2 ≤ j → j < W6.heap.size → W'.heap[j]? = W6.heap[j]? := fun j h1 h2 => (hW j (by omega) h2 (by simp)).trans (Vl.set5_rest _ _ _ _ _ _ _ j (by omega))
        refine Hend.out W' p5 c5 p3 c3 (Hoff5.out W' (fun j h1 h2 => (hW6 j (by omega) (by omega)).trans (K6.out j (by omega)))) (Hoff3.out W' (fun j h1 h2 => ?_))
        exact (hW6 j (by omega) (by omega)).trans ((K6.out j (by omega)).trans ((HB.out.block j (by omega)).trans (K2.out j (by omega))))
      · exact below_grownBy B6.out (Vl.set5_grown _ _ _ _ _ _ _) (by omega) (by omega)
theorem refCopy_any : ∀ (d : Nat) (x : Vl.V) (v : Value) (w : World), Vl.At d w v x → Vl.few d x → Calls Tryd.prog 43 #[v] w (Vl.Copied d x w)
  | 0, _, _, _, h, _ => h.elim
  | d + 1, x, v, w, hA, hF => by
    obtain ⟨pi, ci, pn, cn, rfl, ⟨q1, q2, q3, q4, q5, q6⟩, hn, hi⟩ := hA
    obtain ⟨f1, f2, f3⟩ := hF
    exact refCopy_step d x x.kind x.text x.num x.items x.names pi x.items.length ci pn x.names.length cn w rfl rfl f1 f2 hn (Vl.rowIs hi)
      (fun y hy u W ha => refCopy_any d y u W ha (f3 y hy)) (fun W' pi' ci' pn' cn' e1 e2 => ⟨pi', ci', pn', cn', rfl, ⟨q1, q2, q3, q4, q5, q6⟩, e2, e1⟩)
end Go.Proofs.YtckcbdnlligndaaDoor
