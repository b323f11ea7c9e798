
/-
  The walk of value's with: a map of the call's own, with a value by a name. Conditions: the names rise, and there are as many as items, at most 256.
-/
import Derived.Test.YtcpebkhpocdeoaaDoorVlRows3
import Derived.Test.YtcpebkhpocdeoaaDoorVlWithMath
import Derived.Test.YtcpebkhpocdeoaaDoorVlDecode
namespace Go.Proofs.YtcpebkhpocdeoaaDoor
open Go.RowKit

def Vl.insIs (ns : List ByteArray) (is : List Vl.V) (s : ByteArray) (x : Vl.V) : List Vl.V := if Vl.hasAt ns (Vl.posN s ns) s then is.set (Vl.posN s ns) x else is.take (Vl.posN s ns) ++ x :: is.drop (Vl.posN s ns)
def Vl.insNs (ns : List ByteArray) (s : ByteArray) : List ByteArray := if Vl.hasAt ns (Vl.posN s ns) s then ns else ns.take (Vl.posN s ns) ++ s :: ns.drop (Vl.posN s ns)
theorem Vl.withV_eq (v : Vl.V) (s : ByteArray) (x : Vl.V) : Vl.withV v s x = .mk v.kind v.text v.num (Vl.insIs v.names v.items s x) (Vl.insNs v.names s) := by
  unfold Vl.withV Vl.insIs Vl.insNs
  split <;> rfl
theorem Vl.own_shape {W : World} {B : Nat} {e : TypeId} {size : Nat} {v : Value} {n : Nat} {xs : List Value} (h : W.ownsRow B e size v n xs) : ∃ p c, v = .slice p n c := by
  rcases h.2 with ⟨rfl, rfl⟩ | ⟨g, cap, cur, rfl, _⟩
  · exact ⟨none, 0, rfl⟩
  · exact ⟨_, _, rfl⟩
/-- What with hands back: rows made out of older ones. -/
def Vl.WPost (P : Value → Vl.V → Prop) (B : Nat) (k0 : Nat) (t : ByteArray) (n : Int) (is : List Vl.V) (ns : List ByteArray) (p q : Option Nat) (w : World) (e : Ending) (w' : World) : Prop := ∃ vi vn cs, e = .returned (.agg #[.int .u8 (k0 : Nat), .string t, .int .i64 n, vi, vn]) ∧
  w'.ownsRow B 26 5 vi is.length cs ∧ w'.ownsRow B 9 1 vn ns.length (ns.map Wp.mkT) ∧ (∀ i y, is[i]? = some y → ∃ c0 c1 c2 c3 c4, Vl.Has5 cs (i * 5) c0 c1 c2 c3 c4 ∧ P (.agg #[c0, c1, c2, c3, c4]) y) ∧
  (∀ j, j < w.heap.size → some j ≠ p → some j ≠ q → w'.heap[j]? = w.heap[j]?) ∧ w.heap.size ≤ w'.heap.size ∧ (vi.ownBlock = p ∨ ∀ x, vi.ownBlock = some x → w.heap.size ≤ x) ∧ (vn.ownBlock = q ∨ ∀ x, vn.ownBlock = some x → w.heap.size ≤ x) ∧ Below B w w'
set_option maxRecDepth 100000 in
set_option maxHeartbeats 1000000 in
theorem with_there (P : Value → Vl.V → Prop) (B k0 k : Nat) (t : ByteArray) (n : Int) (vi vn : Value) (is : List Vl.V) (ns : List ByteArray) (s : ByteArray) (x : Vl.V) (u : Value) (cs : List Value) (w : World) (hO : w.ownsRow B 26 5 vi is.length cs) (hN : w.ownsRow B 9 1 vn ns.length (ns.map Wp.mkT)) (hc : ∀ i y, is[i]? = some y → ∃ c0 c1 c2 c3 c4, Vl.Has5 cs (i * 5) c0 c1 c2 c3 c4 ∧ P (.agg #[c0, c1, c2, c3, c4]) y)
    (hP : ∀ u y, P u y → ∃ d w, Vl.At d w u y) (hB : B ≤ w.heap.size) (hx : P u x) (hlen : ns.length = is.length) (hle : is.length ≤ 256) (hk : k ≤ ns.length) (hs : ∀ t (h : t < ns.length), Vl.ltB ns[t] s = decide (t < k)) (hat : Vl.hasAt ns k s = true) :
    Calls Tryd.prog 45 #[.agg #[.int .u8 (k0 : Nat), .string t, .int .i64 n, vi, vn], .string s, u] w (Vl.WPost P B k0 t n (is.set k x) ns vi.ownBlock vn.ownBlock w) := by
  obtain ⟨dx, wx, hax⟩ := hP _ _ hx
  obtain ⟨k5, t5, i5, pi5, ni5, ci5, pn5, nn5, cn5, rfl⟩ := hax.shape
  obtain ⟨hkl, _⟩ := Vl.hasAt_eq hat
  have hki : k < is.length := by omega
  obtain ⟨pn, cn, hvnE, hnAt⟩ := Vl.texts_off hN
  rcases hO.2 with ⟨_, h0⟩ | ⟨g, cap, cur, hviE, hgB, hg, hnc, hm, hsz, ht⟩
  · omega
  subst hviE
  subst hvnE
  have hgl := (Array.getElem?_eq_some_iff.1 hg).1
  have hA : Below w.heap.size w (((w.alloc (.cells #[.int .u8 (k0 : Nat), .string t, .int .i64 n, .slice (some ⟨g, 0, none⟩) is.length cap, .slice pn ns.length cn] 26)).alloc (.cells #[.int .u8 k5, .string t5, .int .i64 i5, .slice pi5 ni5 ci5, .slice pn5 nn5 cn5] 26)).alloc (.cells #[.int .u8 0, .string ⟨#[]⟩, .int .i64 0, .slice none 0 0, .slice none 0 0] 26)) :=
    (((Below.refl w.heap.size w).alloc (Nat.le_refl _) _).alloc (by simp) _).alloc (by simp; omega) _
  have hsA : (((w.alloc (.cells #[.int .u8 (k0 : Nat), .string t, .int .i64 n, .slice (some ⟨g, 0, none⟩) is.length cap, .slice pn ns.length cn] 26)).alloc (.cells #[.int .u8 k5, .string t5, .int .i64 i5, .slice pi5 ni5 ci5, .slice pn5 nn5 cn5] 26)).alloc (.cells #[.int .u8 0, .string ⟨#[]⟩, .int .i64 0, .slice none 0 0, .slice none 0 0] 26)).heap.size = w.heap.size + 3 := by simp
  have hx0 : (((w.alloc (.cells #[.int .u8 (k0 : Nat), .string t, .int .i64 n, .slice (some ⟨g, 0, none⟩) is.length cap, .slice pn ns.length cn] 26)).alloc (.cells #[.int .u8 k5, .string t5, .int .i64 i5, .slice pi5 ni5 ci5, .slice pn5 nn5 cn5] 26)).alloc (.cells #[.int .u8 0, .string ⟨#[]⟩, .int .i64 0, .slice none 0 0, .slice none 0 0] 26)).heap[w.heap.size]? = some (.cells #[.int .u8 (k0 : Nat), .string t, .int .i64 n, .slice (some ⟨g, 0, none⟩) is.length cap, .slice pn ns.length cn] 26 (0, 0)) := by
    rw [Vl.past _ _ _ (by simp; omega), Vl.past _ _ _ (by simp)]; exact Vl.new _ _
  have hx1 : (((w.alloc (.cells #[.int .u8 (k0 : Nat), .string t, .int .i64 n, .slice (some ⟨g, 0, none⟩) is.length cap, .slice pn ns.length cn] 26)).alloc (.cells #[.int .u8 k5, .string t5, .int .i64 i5, .slice pi5 ni5 ci5, .slice pn5 nn5 cn5] 26)).alloc (.cells #[.int .u8 0, .string ⟨#[]⟩, .int .i64 0, .slice none 0 0, .slice none 0 0] 26)).heap[w.heap.size + 1]? = some (.cells #[.int .u8 k5, .string t5, .int .i64 i5, .slice pi5 ni5 ci5, .slice pn5 nn5 cn5] 26 (0, 0)) := by
    rw [Vl.past _ _ _ (by simp)]; exact Vl.newAt _ _ _ (by simp)
  have hx2 : (((w.alloc (.cells #[.int .u8 (k0 : Nat), .string t, .int .i64 n, .slice (some ⟨g, 0, none⟩) is.length cap, .slice pn ns.length cn] 26)).alloc (.cells #[.int .u8 k5, .string t5, .int .i64 i5, .slice pi5 ni5 ci5, .slice pn5 nn5 cn5] 26)).alloc (.cells #[.int .u8 0, .string ⟨#[]⟩, .int .i64 0, .slice none 0 0, .slice none 0 0] 26)).heap[w.heap.size + 2]? = some (.cells #[.int .u8 0, .string ⟨#[]⟩, .int .i64 0, .slice none 0 0, .slice none 0 0] 26 (0, 0)) := Vl.newAt _ _ _ (by simp)
  have hse := vlSearch_any pn cn ns s k _ (by omega) hk hs (((hnAt w (fun _ _ _ => rfl))).below hA)
  rw [hat] at hse
  have Hse := Lib.hid hse
  have HsA := Lib.hid hsA
  have HA := Lib.hid hA
  have HX0 := Lib.hid hx0
  have HX1 := Lib.hid hx1
  have HX2 := Lib.hid hx2
  have hset := Vl.has_set hO.1 hki hc hx
  have Hset := Lib.hid hset
  have HO := Lib.hid hO
  have HN := Lib.hid hN
  have Hlen := Lib.hid hlen
  clear hse hsA hA hx0 hx1 hx2 hset hc hx hs hat ht hsz hg hlen hnAt hO hN hm hax hP
  go_enter Tryd.func45, Tryd.ntmps45
  go_wp2_with fail
  refine Hse.out.mono ?_
  rintro e w1 ⟨rfl, hb1⟩
  have hs1 : w.heap.size + 3 ≤ w1.heap.size := by have := hb1.size; rwa [HsA.out] at this
  have hbw : Below w.heap.size w w1 := HA.out.trans (hb1.mono (by rw [HsA.out]; omega))
  have hx0 := (hb1.block w.heap.size (by rw [HsA.out]; omega)).trans HX0.out
  have hx1 := (hb1.block (w.heap.size + 1) (by rw [HsA.out]; omega)).trans HX1.out
  have hx2 := (hb1.block (w.heap.size + 2) (by rw [HsA.out]; omega)).trans HX2.out
  have hO1 := ownsRow_below HO.out hbw
  have hN1 := ownsRow_below HN.out hbw
  obtain ⟨z0, z1, z2, z3, z4, ⟨y0, y1, y2, y3, y4⟩, f0, f1, f2, f3, f4⟩ := Vl.slotsAt hO1 hki
  obtain ⟨o1, g1⟩ := hO1.stored (k * 5) (.int .u8 k5)
  obtain ⟨o2, g2⟩ := o1.stored (k * 5 + 1) (.string t5)
  obtain ⟨o3, g3⟩ := o2.stored (k * 5 + 2) (.int .i64 i5)
  obtain ⟨o4, g4⟩ := o3.stored (k * 5 + 3) (.slice pi5 ni5 ci5)
  obtain ⟨o5, g5⟩ := o4.stored (k * 5 + 4) (.slice pn5 nn5 cn5)
  have hG : w1.grownBy _ (some g) := grownBy_trans (grownBy_trans (grownBy_trans (grownBy_trans g1 g2) g3) g4) g5
  have hN5 := hN1.kept hG (by have h := Vl.own_ne HN.out HO.out (by decide); exact h)
  have hsz5 : (((((w1.setCell ⟨g, k * 5, none⟩ (.int .u8 k5)).setCell ⟨g, k * 5 + 1, none⟩ (.string t5)).setCell ⟨g, k * 5 + 2, none⟩ (.int .i64 i5)).setCell ⟨g, k * 5 + 3, none⟩ (.slice pi5 ni5 ci5)).setCell ⟨g, k * 5 + 4, none⟩ (.slice pn5 nn5 cn5)).heap.size = w1.heap.size := by
    rw [World.size_setCell, World.size_setCell, World.size_setCell, World.size_setCell, World.size_setCell]
  have hk0 : (0 : Int) ≤ (k : Int) := by omega
  have hk1 : (k : Int) < (is.length : Int) := by omega
  have HO5 := Lib.hid o5
  have HN5 := Lib.hid hN5
  have HG5 := Lib.hid hG
  have Hsz := Lib.hid hsz5
  have Hbw := Lib.hid hbw
  have X5 := Lib.hid ((hG.block w.heap.size (by omega) (by intro e; have := Option.some.inj e; omega)).trans hx0)
  have R5 := Lib.hid ((hG.block (w.heap.size + 2) (by omega) (by intro e; have := Option.some.inj e; omega)).trans hx2)
  obtain ⟨m0, m1, m2, m3, m4⟩ := Vl.five_of hx0
  obtain ⟨r0, r1, r2, r3, r4⟩ := Vl.five_of hx1
  clear hb1 hbw hx0 hx1 hx2 hO1 hN1 o1 o2 o3 o4 o5 g1 g2 g3 g4 g5 hG hN5 hsz5 HA HX0 HX1 HX2 Hse HsA
  go_upto_region 4 with fail
  generalize (((((w1.setCell ⟨g, k * 5, none⟩ (.int .u8 k5)).setCell ⟨g, k * 5 + 1, none⟩ (.string t5)).setCell ⟨g, k * 5 + 2, none⟩ (.int .i64 i5)).setCell ⟨g, k * 5 + 3, none⟩ (.slice pi5 ni5 ci5)).setCell ⟨g, k * 5 + 4, none⟩ (.slice pn5 nn5 cn5)) = W5 at *
  clear m0 m1 m2 m3 m4 r0 r1 r2 r3 r4 y0 y1 y2 y3 y4 f0 f1 f2 f3 f4
  obtain ⟨m0, m1, m2, m3, m4⟩ := Vl.five_of X5.out
  obtain ⟨r0, r1, r2, r3, r4⟩ := Vl.five_of R5.out
  obtain ⟨n0, n1, n2, n3, n4⟩ := Vl.fiveF_of R5.out
  go_wp2_with fail
  refine bodyPost_ret (Vl.ret1 rfl _ _ (w.heap.size + 2) 26 _ _ rfl (Vl.set5 R5.out _ _ _ _ _) Tryd.underlying26 rfl (by kernel_rfl)) rfl ?_
  have hr := Vl.set5_grown W5 (w.heap.size + 2) (.int .u8 (k0 : Nat)) (.string t) (.int .i64 n) (.slice (some ⟨g, 0, none⟩) is.length cap) (.slice pn ns.length cn)
  have hvnl : ∀ q, (Value.slice pn ns.length cn).ownBlock = some q → q < w.heap.size := fun q e => (HN.out.lt q e).2
  refine ⟨_, _, _, rfl, ?_, ?_, Hset.out, fun j h1 h2 h3 => ?_, ?_, Or.inl rfl, Or.inl rfl, ?_⟩
  · rw [List.length_set]; exact HO5.out.kept hr (Or.inr (by show some g ≠ _; intro e; have := Option.some.inj e; omega))
  · refine HN5.out.kept hr ?_
    cases hq : (Value.slice pn ns.length cn).ownBlock with
    | none => exact Or.inl rfl
    | some q => exact Or.inr (by intro e; have := Option.some.inj e; have := hvnl q hq; omega)
  · exact (hr.block j (by rw [Hsz.out]; omega) (by intro e; have := Option.some.inj e; omega)).trans ((HG5.out.block j (by omega) h2).trans (Hbw.out.block j h1))
  · rw [Vl.set5_size, Hsz.out]; omega
  · exact below_grownBy (below_grownBy (Hbw.out.mono hB) HG5.out hgB (by omega)) hr (by omega) (by rw [Hsz.out]; omega)
set_option maxRecDepth 100000 in
set_option maxHeartbeats 1000000 in
theorem with_new (P : Value → Vl.V → Prop) (B k0 k : Nat) (t : ByteArray) (n : Int) (vi vn : Value) (is : List Vl.V) (ns : List ByteArray) (s : ByteArray) (x : Vl.V) (u : Value) (cs : List Value) (w : World) (hO : w.ownsRow B 26 5 vi is.length cs) (hN : w.ownsRow B 9 1 vn ns.length (ns.map Wp.mkT)) (hc : ∀ i y, is[i]? = some y → ∃ c0 c1 c2 c3 c4, Vl.Has5 cs (i * 5) c0 c1 c2 c3 c4 ∧ P (.agg #[c0, c1, c2, c3, c4]) y)
    (hP : ∀ u y, P u y → ∃ d w, Vl.At d w u y) (hB : B ≤ w.heap.size) (hx : P u x) (hlen : ns.length = is.length) (hle : is.length ≤ 256) (hk : k ≤ ns.length) (hs : ∀ t (h : t < ns.length), Vl.ltB ns[t] s = decide (t < k)) (hat : Vl.hasAt ns k s = false) :
    Calls Tryd.prog 45 #[.agg #[.int .u8 (k0 : Nat), .string t, .int .i64 n, vi, vn], .string s, u] w (Vl.WPost P B k0 t n (is.take k ++ x :: is.drop k) (ns.take k ++ s :: ns.drop k) vi.ownBlock vn.ownBlock w) := by
  obtain ⟨dx, wx, hax⟩ := hP _ _ hx
  obtain ⟨k5, t5, i5, pi5, ni5, ci5, pn5, nn5, cn5, rfl⟩ := hax.shape
  have hone := Vl.has_one hO.1 hP hc
  obtain ⟨pi, ci, rfl⟩ := Vl.own_shape hO
  obtain ⟨pn, cn, rfl, hoff⟩ := Vl.texts_off hN
  have hki : k ≤ is.length := by omega
  have hnAt := hoff w (fun _ _ _ => rfl)
  have hA : Below w.heap.size w (((w.alloc (.cells #[.int .u8 (k0 : Nat), .string t, .int .i64 n, .slice pi is.length ci, .slice pn ns.length cn] 26)).alloc (.cells #[.int .u8 k5, .string t5, .int .i64 i5, .slice pi5 ni5 ci5, .slice pn5 nn5 cn5] 26)).alloc (.cells #[.int .u8 0, .string ⟨#[]⟩, .int .i64 0, .slice none 0 0, .slice none 0 0] 26)) :=
    (((Below.refl w.heap.size w).alloc (Nat.le_refl _) _).alloc (by simp) _).alloc (by simp; omega) _
  have hsA : (((w.alloc (.cells #[.int .u8 (k0 : Nat), .string t, .int .i64 n, .slice pi is.length ci, .slice pn ns.length cn] 26)).alloc (.cells #[.int .u8 k5, .string t5, .int .i64 i5, .slice pi5 ni5 ci5, .slice pn5 nn5 cn5] 26)).alloc (.cells #[.int .u8 0, .string ⟨#[]⟩, .int .i64 0, .slice none 0 0, .slice none 0 0] 26)).heap.size = w.heap.size + 3 := by simp
  have hx0 : (((w.alloc (.cells #[.int .u8 (k0 : Nat), .string t, .int .i64 n, .slice pi is.length ci, .slice pn ns.length cn] 26)).alloc (.cells #[.int .u8 k5, .string t5, .int .i64 i5, .slice pi5 ni5 ci5, .slice pn5 nn5 cn5] 26)).alloc (.cells #[.int .u8 0, .string ⟨#[]⟩, .int .i64 0, .slice none 0 0, .slice none 0 0] 26)).heap[w.heap.size]? = some (.cells #[.int .u8 (k0 : Nat), .string t, .int .i64 n, .slice pi is.length ci, .slice pn ns.length cn] 26 (0, 0)) := by
    rw [Vl.past _ _ _ (by simp; omega), Vl.past _ _ _ (by simp)]; exact Vl.new _ _
  have hx1 : (((w.alloc (.cells #[.int .u8 (k0 : Nat), .string t, .int .i64 n, .slice pi is.length ci, .slice pn ns.length cn] 26)).alloc (.cells #[.int .u8 k5, .string t5, .int .i64 i5, .slice pi5 ni5 ci5, .slice pn5 nn5 cn5] 26)).alloc (.cells #[.int .u8 0, .string ⟨#[]⟩, .int .i64 0, .slice none 0 0, .slice none 0 0] 26)).heap[w.heap.size + 1]? = some (.cells #[.int .u8 k5, .string t5, .int .i64 i5, .slice pi5 ni5 ci5, .slice pn5 nn5 cn5] 26 (0, 0)) := by
    rw [Vl.past _ _ _ (by simp)]; exact Vl.newAt _ _ _ (by simp)
  have hx2 : (((w.alloc (.cells #[.int .u8 (k0 : Nat), .string t, .int .i64 n, .slice pi is.length ci, .slice pn ns.length cn] 26)).alloc (.cells #[.int .u8 k5, .string t5, .int .i64 i5, .slice pi5 ni5 ci5, .slice pn5 nn5 cn5] 26)).alloc (.cells #[.int .u8 0, .string ⟨#[]⟩, .int .i64 0, .slice none 0 0, .slice none 0 0] 26)).heap[w.heap.size + 2]? = some (.cells #[.int .u8 0, .string ⟨#[]⟩, .int .i64 0, .slice none 0 0, .slice none 0 0] 26 (0, 0)) := Vl.newAt _ _ _ (by simp)
  have hse := vlSearch_any pn cn ns s k _ (by omega) hk hs (hnAt.below hA)
  rw [hat] at hse
  have Hse := Lib.hid hse
  have HsA := Lib.hid hsA
  have HA := Lib.hid hA
  have HX0 := Lib.hid hx0
  have HX1 := Lib.hid hx1
  have HX2 := Lib.hid hx2
  have hset := Vl.has_ins hO.1 hki hc hx
  have Hset := Lib.hid hset
  have HO := Lib.hid hO
  have HN := Lib.hid hN
  have Hlen := Lib.hid hlen
  have Hone := Lib.hid hone
  have hvnl := Lib.hid (fun q (e : (Value.slice pn ns.length cn).ownBlock = some q) => (hN.lt q e).2)
  have hvil := Lib.hid (fun q (e : (Value.slice pi is.length ci).ownBlock = some q) => (hO.lt q e).2)
  have hvib := Lib.hid (fun q (e : (Value.slice pi is.length ci).ownBlock = some q) => (hO.lt q e).1)
  have hvnb := Lib.hid (fun q (e : (Value.slice pn ns.length cn).ownBlock = some q) => (hN.lt q e).1)
  have Hne := Lib.hid (Vl.own_ne hN hO (by decide))
  have Hne' := Lib.hid (Vl.own_ne hO hN (by decide))
  have hnl : ns.length ≤ 256 := by omega
  clear hse hsA hA hx0 hx1 hx2 hset hc hx hs hat hlen hnAt hO hN hone hoff hax hP
  go_enter Tryd.func45, Tryd.ntmps45
  go_wp2_with fail
  refine Hse.out.mono ?_
  rintro e w1 ⟨rfl, hb1⟩
  have hs1 : w.heap.size + 3 ≤ w1.heap.size := by have := hb1.size; rwa [HsA.out] at this
  have hbw : Below w.heap.size w w1 := HA.out.trans (hb1.mono (by rw [HsA.out]; omega))
  have hx0 := (hb1.block w.heap.size (by rw [HsA.out]; omega)).trans HX0.out
  have hx1 := (hb1.block (w.heap.size + 1) (by rw [HsA.out]; omega)).trans HX1.out
  have hx2 := (hb1.block (w.heap.size + 2) (by rw [HsA.out]; omega)).trans HX2.out
  -- the names
  have hb1' := (Below.refl w1.heap.size w1).alloc (Nat.le_refl _) (.cells #[.string s] 9)
  have hbw' := hbw.trans (hb1'.mono hbw.size)
  have hins := insS_any B ns.length k w1.heap.size 1 (.slice pn ns.length cn) (ns.map Wp.mkT) [.string s] _ (ownsRow_below HN.out hbw') (by have := hb1'.size; omega) hk (by omega) (Vl.new w1 (.cells #[.string s] 9)) (by intro e; have := hvnl.out _ e; omega) rfl (fun v hv => by obtain ⟨y, _, rfl⟩ := List.mem_map.1 hv; rfl) (fun v hv => by rw [List.mem_singleton.1 hv]; rfl)
  have Hins := Lib.hid hins
  have Hbw' := Lib.hid hbw'
  have Hs1' := Lib.hid (show (w1.alloc (.cells #[.string s] 9)).heap.size = w1.heap.size + 1 by simp)
  have HX0' := Lib.hid ((hb1'.block _ (by omega)).trans hx0)
  have HX1' := Lib.hid ((hb1'.block _ (by omega)).trans hx1)
  have HX2' := Lib.hid ((hb1'.block _ (by omega)).trans hx2)
  obtain ⟨m0, m1, m2, m3, m4⟩ := Vl.five_of hx0
  clear hb1 hbw hx0 hx1 hx2 hins hbw' hb1' HA HX0 HX1 HX2 Hse HsA
  go_wp2_with fail
  refine Hins.out.mono ?_
  rintro e w2 ⟨vn', rfl, hown2, hg2, hat2⟩
  obtain ⟨pn', cn', rfl⟩ := Vl.own_shape hown2
  clear m0 m1 m2 m3 m4
  have hs2 : w1.heap.size + 1 ≤ w2.heap.size := by have := hg2.size; rwa [Hs1'.out] at this
  have hnb : ∀ j, w.heap.size ≤ j → j < w1.heap.size + 1 → w2.heap[j]? = (w1.alloc (.cells #[.string s] 9)).heap[j]? := fun j h1 h2 => hg2.block j (by rw [Hs1'.out]; exact h2) (fun e => by have := hvnl.out j e.symm; omega)
  have hx0 := (hnb w.heap.size (by omega) (by omega)).trans HX0'.out
  have hx1 := (hnb (w.heap.size + 1) (by omega) (by omega)).trans HX1'.out
  have hx2 := (hnb (w.heap.size + 2) (by omega) (by omega)).trans HX2'.out
  have hgs := Vl.set1_grown w2 w.heap.size 4 (Value.slice pn' (ns.length + 1) cn')
  have X5 := Lib.hid ((Lib.heap_setCell_same (i := 4) hx0 (Value.slice pn' (ns.length + 1) cn')).trans rfl : (w2.setCell ⟨w.heap.size, 4, none⟩ (Value.slice pn' (ns.length + 1) cn')).heap[w.heap.size]? = some (.cells #[.int .u8 (k0 : Nat), .string t, .int .i64 n, .slice pi is.length ci, (Value.slice pn' (ns.length + 1) cn')] 26 (0, 0)))
  have Y5 := Lib.hid ((hgs.block (w.heap.size + 1) (by omega) (by intro e; have := Option.some.inj e; omega)).trans hx1)
  have R5 := Lib.hid ((hgs.block (w.heap.size + 2) (by omega) (by intro e; have := Option.some.inj e; omega)).trans hx2)
  have hvn'ne : ∀ q, (Value.slice pn' (ns.length + 1) cn').ownBlock = some q → q ≠ w.heap.size ∧ (q < w.heap.size ∨ q = w1.heap.size + 1) := fun q e => by
    rcases hat2 with h | h
    · have := hvnl.out q (h.symm.trans e); exact ⟨by omega, Or.inl this⟩
    · have := h.symm.trans e; rw [Hs1'.out] at this; have := Option.some.inj this; exact ⟨by omega, Or.inr this.symm⟩
  have Hvn' := Lib.hid hvn'ne
  have HvnOld := Lib.hid (fun q (e : (Value.slice pn' (ns.length + 1) cn').ownBlock = some q) (h : q < w.heap.size) => (by
    rcases hat2 with h2 | h2
    · exact e.symm.trans h2
    · have := h2.symm.trans e; rw [Hs1'.out] at this; have := Option.some.inj this; omega : some q = (Value.slice pn ns.length cn).ownBlock))
  have hN5 := hown2.kept hgs (Or.inr (fun e => (hvn'ne _ e).1 rfl))
  have hO2 := (ownsRow_below HO.out Hbw'.out).kept hg2 Hne'.out
  have hO5 := hO2.kept hgs (by
    cases hq : (Value.slice pi is.length ci).ownBlock with
    | none => exact Or.inl rfl
    | some q => exact Or.inr (by intro e; have := Option.some.inj e; have := hvil.out q hq; omega))
  have hmap : (ns.map Wp.mkT).take k ++ [.string s] ++ (ns.map Wp.mkT).drop k = (ns.take k ++ s :: ns.drop k).map Wp.mkT := by simp [Wp.mkT]
  rw [hmap] at hN5
  have hB5 : Below B w (w2.setCell ⟨w.heap.size, 4, none⟩ (Value.slice pn' (ns.length + 1) cn')) := below_grownBy ((Hbw'.out.mono hB).grown hg2 (by rw [Hs1'.out]; omega) (fun q e => hvnb.out q e)) hgs hB (by omega)
  have hK5 : ∀ j, j < w.heap.size → some j ≠ (Value.slice pn ns.length cn).ownBlock → (w2.setCell ⟨w.heap.size, 4, none⟩ (Value.slice pn' (ns.length + 1) cn')).heap[j]? = w.heap[j]? := fun j h1 h2 =>
    (hgs.block j (by omega) (by intro e; have := Option.some.inj e; omega)).trans ((hg2.block j (by rw [Hs1'.out]; omega) h2).trans (Hbw'.out.block j h1))
  have hs5 : w1.heap.size + 1 ≤ (w2.setCell ⟨w.heap.size, 4, none⟩ (Value.slice pn' (ns.length + 1) cn')).heap.size := by rw [World.size_setCell]; exact hs2
  have HN5 := Lib.hid hN5
  have HO5 := Lib.hid hO5
  have HB5 := Lib.hid hB5
  have HK5 := Lib.hid hK5
  have hvnlt : Hid (∀ q, (Value.slice pn' (ns.length + 1) cn').ownBlock = some q → q < (w2.setCell ⟨w.heap.size, 4, none⟩ (Value.slice pn' (ns.length + 1) cn')).heap.size) := Lib.hid (fun q e => (hN5.lt q e).2)
  obtain ⟨m0, m1, m2, m3, m4⟩ := Vl.five_of hx0
  obtain ⟨f0, f1, f2, f3, f4⟩ := Vl.fiveF_of hx0
  clear hown2 hg2 hat2 hnb hx0 hx1 hx2 hgs hvn'ne hN5 hO2 hO5 hmap hB5 hK5 HX0' HX1' HX2' Hins
  go_upto_region 6 with fail
  generalize (w2.setCell ⟨w.heap.size, 4, none⟩ (Value.slice pn' (ns.length + 1) cn')) = W5 at *
  clear m0 m1 m2 m3 m4 f0 f1 f2 f3 f4
  -- the items
  have hb5' := (Below.refl W5.heap.size W5).alloc (Nat.le_refl _) (.cells #[.int .u8 k5, .string t5, .int .i64 i5, .slice pi5 ni5 ci5, .slice pn5 nn5 cn5] 26)
  have hins := insV_any B is.length k W5.heap.size 1 (.slice pi is.length ci) cs [.int .u8 k5, .string t5, .int .i64 i5, .slice pi5 ni5 ci5, .slice pn5 nn5 cn5] _ (ownsRow_below HO5.out hb5') (by have := hb5'.size; omega) hki (by omega) (Vl.new W5 (.cells #[.int .u8 k5, .string t5, .int .i64 i5, .slice pi5 ni5 ci5, .slice pn5 nn5 cn5] 26)) (by intro e; have := hvil.out _ e; omega) rfl Hone.out (fun v hv => by simp at hv; rcases hv with rfl | rfl | rfl | rfl | rfl <;> rfl)
  have Hins := Lib.hid hins
  have Hb5' := Lib.hid hb5'
  have Hs5' := Lib.hid (show (W5.alloc (.cells #[.int .u8 k5, .string t5, .int .i64 i5, .slice pi5 ni5 ci5, .slice pn5 nn5 cn5] 26)).heap.size = W5.heap.size + 1 by simp)
  obtain ⟨m0, m1, m2, m3, m4⟩ := Vl.five_of X5.out
  obtain ⟨r0, r1, r2, r3, r4⟩ := Vl.five_of Y5.out
  clear hb5' hins
  go_wp2_with fail
  refine Hins.out.mono ?_
  rintro e w6 ⟨vi', rfl, hown6, hg6, hat6⟩
  obtain ⟨pi', ci', rfl⟩ := Vl.own_shape hown6
  clear m0 m1 m2 m3 m4 r0 r1 r2 r3 r4
  have hs6 : W5.heap.size + 1 ≤ w6.heap.size := by have := hg6.size; rwa [Hs5'.out] at this
  have hnb : ∀ j, w.heap.size ≤ j → j < W5.heap.size → w6.heap[j]? = W5.heap[j]? := fun j h1 h2 => (hg6.block j (by rw [Hs5'.out]; omega) (fun e => by have := hvil.out j e.symm; omega)).trans (Hb5'.out.block j h2)
  have hx0 := (hnb w.heap.size (by omega) (by omega)).trans X5.out
  have hx2 := (hnb (w.heap.size + 2) (by omega) (by omega)).trans R5.out
  have hgs := Vl.set1_grown w6 w.heap.size 3 (Value.slice pi' (is.length + 1) ci')
  have X7 := Lib.hid ((Lib.heap_setCell_same (i := 3) hx0 (Value.slice pi' (is.length + 1) ci')).trans rfl : (w6.setCell ⟨w.heap.size, 3, none⟩ (Value.slice pi' (is.length + 1) ci')).heap[w.heap.size]? = some (.cells #[.int .u8 (k0 : Nat), .string t, .int .i64 n, (Value.slice pi' (is.length + 1) ci'), (Value.slice pn' (ns.length + 1) cn')] 26 (0, 0)))
  have R7 := Lib.hid ((hgs.block (w.heap.size + 2) (by omega) (by intro e; have := Option.some.inj e; omega)).trans hx2)
  have hvi'ne : ∀ q, (Value.slice pi' (is.length + 1) ci').ownBlock = some q → q ≠ w.heap.size ∧ q ≠ w.heap.size + 2 ∧ ((Value.slice pi is.length ci).ownBlock = some q ∨ w.heap.size ≤ q) := fun q e => by
    rcases hat6 with h | h
    · have h2 := h.symm.trans e; have := hvil.out q h2; exact ⟨by omega, by omega, Or.inl h2⟩
    · have := h.symm.trans e; rw [Hs5'.out] at this; have := Option.some.inj this; exact ⟨by omega, by omega, Or.inr (by omega)⟩
  have hat1 : (Value.slice pi' (is.length + 1) ci').ownBlock = (Value.slice pi is.length ci).ownBlock ∨ ∀ q, (Value.slice pi' (is.length + 1) ci').ownBlock = some q → w.heap.size ≤ q := by
    rcases hat6 with h | h
    · exact Or.inl h
    · exact Or.inr (fun q e => by have := h.symm.trans e; rw [Hs5'.out] at this; have := Option.some.inj this; omega)
  have hat2 : (Value.slice pn' (ns.length + 1) cn').ownBlock = (Value.slice pn ns.length cn).ownBlock ∨ ∀ q, (Value.slice pn' (ns.length + 1) cn').ownBlock = some q → w.heap.size ≤ q := by
    cases hq : (Value.slice pn' (ns.length + 1) cn').ownBlock with
    | none =>
      refine Or.inr (fun q e => by cases e)
    | some q =>
      rcases (Hvn'.out q hq).2 with h | h
      · left
        exact HvnOld.out q hq h
      · exact Or.inr (fun q' e => by cases e; omega)
  have hO7 := hown6.kept hgs (Or.inr (fun e => (hvi'ne _ e).1 rfl))
  have hNe6 : (Value.slice pn' (ns.length + 1) cn').ownBlock = none ∨ (Value.slice pn' (ns.length + 1) cn').ownBlock ≠ (Value.slice pi is.length ci).ownBlock := Vl.own_ne HN5.out HO5.out (by decide)
  have hN7 := ((ownsRow_below HN5.out Hb5'.out).kept hg6 hNe6).kept hgs (Or.inr (fun e => (Hvn'.out _ e).1 rfl))
  have hB7 : Below B w (w6.setCell ⟨w.heap.size, 3, none⟩ (Value.slice pi' (is.length + 1) ci')) := below_grownBy ((HB5.out.trans (Hb5'.out.mono (by omega))).grown hg6 (by rw [Hs5'.out]; omega) (fun q e => hvib.out q e)) hgs hB (by omega)
  have hK7 : ∀ j, j < w.heap.size → some j ≠ (Value.slice pi is.length ci).ownBlock → some j ≠ (Value.slice pn ns.length cn).ownBlock → (w6.setCell ⟨w.heap.size, 3, none⟩ (Value.slice pi' (is.length + 1) ci')).heap[j]? = w.heap[j]? := fun j h1 h2 h3 =>
    (hgs.block j (by omega) (by intro e; have := Option.some.inj e; omega)).trans ((hg6.block j (by rw [Hs5'.out]; omega) h2).trans ((Hb5'.out.block j (by omega)).trans (HK5.out j h1 h3)))
  have hs7 : W5.heap.size + 1 ≤ (w6.setCell ⟨w.heap.size, 3, none⟩ (Value.slice pi' (is.length + 1) ci')).heap.size := by rw [World.size_setCell]; exact hs6
  have HN7 := Lib.hid hN7
  have HO7 := Lib.hid hO7
  have HB7 := Lib.hid hB7
  have HK7 := Lib.hid hK7
  have Hat1 := Lib.hid hat1
  have Hat2 := Lib.hid hat2
  have Hvi' := Lib.hid hvi'ne
  obtain ⟨m0, m1, m2, m3, m4⟩ := Vl.five_of hx0
  obtain ⟨f0, f1, f2, f3, f4⟩ := Vl.fiveF_of hx0
  clear hown6 hg6 hat6 hnb hx0 hx2 hgs hvi'ne hat1 hat2 hO7 hN7 hNe6 hB7 hK7 X5 Y5 R5 Hins HN5 HO5 HB5 HK5
  go_upto_region 7 with fail
  generalize (w6.setCell ⟨w.heap.size, 3, none⟩ (Value.slice pi' (is.length + 1) ci')) = W7 at *
  clear m0 m1 m2 m3 m4 f0 f1 f2 f3 f4
  obtain ⟨m0, m1, m2, m3, m4⟩ := Vl.five_of X7.out
  obtain ⟨r0, r1, r2, r3, r4⟩ := Vl.five_of R7.out
  obtain ⟨n0, n1, n2, n3, n4⟩ := Vl.fiveF_of R7.out
  go_wp2_with fail
  refine bodyPost_ret (Vl.ret1 rfl _ _ (w.heap.size + 2) 26 _ _ rfl (Vl.set5 R7.out _ _ _ _ _) Tryd.underlying26 rfl (by kernel_rfl)) rfl ?_
  have hr := Vl.set5_grown W7 (w.heap.size + 2) (.int .u8 (k0 : Nat)) (.string t) (.int .i64 n) (Value.slice pi' (is.length + 1) ci') (Value.slice pn' (ns.length + 1) cn')
  refine ⟨_, _, _, rfl, ?_, ?_, Hset.out, fun j h1 h2 h3 => ?_, ?_, Hat1.out, Hat2.out, ?_⟩
  · rw [List.length_append, List.length_cons, List.length_take, List.length_drop, show min k is.length + (is.length - k + 1) = is.length + 1 by omega]
    exact HO7.out.kept hr (Or.inr (fun e => (Hvi'.out _ e).2.1 rfl))
  · rw [List.length_append, List.length_cons, List.length_take, List.length_drop, show min k ns.length + (ns.length - k + 1) = ns.length + 1 by omega]
    exact HN7.out.kept hr (Or.inr (fun e => by have := (Hvn'.out _ e).2; omega))
  · exact (hr.block j (by omega) (by intro e; have := Option.some.inj e; omega)).trans (HK7.out j h1 h2 h3)
  · rw [Vl.set5_size]; omega
  · exact below_grownBy HB7.out hr (by omega) (by omega)
theorem with_any (P : Value → Vl.V → Prop) (B k0 : Nat) (t : ByteArray) (n : Int) (vi vn : Value) (is : List Vl.V) (ns : List ByteArray) (s a : ByteArray) (x : Vl.V) (u : Value) (cs : List Value) (w : World) (hO : w.ownsRow B 26 5 vi is.length cs) (hN : w.ownsRow B 9 1 vn ns.length (ns.map Wp.mkT)) (hc : ∀ i y, is[i]? = some y → ∃ c0 c1 c2 c3 c4, Vl.Has5 cs (i * 5) c0 c1 c2 c3 c4 ∧ P (.agg #[c0, c1, c2, c3, c4]) y)
    (hP : ∀ u y, P u y → ∃ d w, Vl.At d w u y) (hB : B ≤ w.heap.size) (hx : P u x) (hlen : ns.length = is.length) (hle : is.length ≤ 256) (hr : Vl.rise a ns = true) :
    Calls Tryd.prog 45 #[.agg #[.int .u8 (k0 : Nat), .string t, .int .i64 n, vi, vn], .string s, u] w (Vl.WPost P B k0 t n (Vl.insIs ns is s x) (Vl.insNs ns s) vi.ownBlock vn.ownBlock w) := by
  unfold Vl.insIs Vl.insNs
  cases hat : Vl.hasAt ns (Vl.posN s ns) s with
  | true => exact with_there P B k0 _ t n vi vn is ns s x u cs w hO hN hc hP hB hx hlen hle (Vl.posN_le s ns) (Vl.posN_spec s hr) hat
  | false => exact with_new P B k0 _ t n vi vn is ns s x u cs w hO hN hc hP hB hx hlen hle (Vl.posN_le s ns) (Vl.posN_spec s hr) hat
end Go.Proofs.YtcpebkhpocdeoaaDoor
