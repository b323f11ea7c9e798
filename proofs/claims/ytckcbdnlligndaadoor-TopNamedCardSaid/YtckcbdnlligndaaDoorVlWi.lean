/-
  What is put into a map by a name, as plain data; where a name's place is. No condition but those that the theorems state.
  The walk of value's with: a map of the call's own, with a value by a name. Conditions: the names rise, and there are as many as items, at most 256.
  The walks of value's checkWith and With. Condition: values' texts and lists are of a size that a machine holds.
-/
import Derived.Test.YtckcbdnlligndaaDoorVlFind
import Derived.Test.YtckcbdnlligndaaDoorVlSearch
import Derived.Test.YtckcbdnlligndaaDoorVlRows3
import Derived.Test.YtckcbdnlligndaaDoorVlDecode
namespace Go.Proofs.YtckcbdnlligndaaDoor.Vl

theorem bl_trans : ∀ {a b c : List UInt8}, Op.bytesLess a b = true → Op.bytesLess b c = true → Op.bytesLess a c = true
  | _, [], _, h, _ => by cases ‹List UInt8› <;> simp [Op.bytesLess] at h
  | [], _ :: _, [], _, h => by simp [Op.bytesLess] at h
  | [], _ :: _, _ :: _, _, _ => by simp [Op.bytesLess]
  | _ :: _, _ :: _, [], _, h => by simp [Op.bytesLess] at h
  | x :: a, y :: b, z :: c, h1, h2 => by
    simp only [Op.bytesLess, Bool.or_eq_true, Bool.and_eq_true, decide_eq_true_eq, beq_iff_eq] at h1 h2 ⊢
    rcases h1 with h1 | ⟨rfl, h1⟩
    · rcases h2 with h2 | ⟨rfl, h2⟩
      · exact Or.inl (UInt8.lt_trans h1 h2)
      · exact Or.inl h1
    · rcases h2 with h2 | ⟨rfl, h2⟩
      · exact Or.inl h2
      · exact Or.inr ⟨rfl, bl_trans h1 h2⟩
theorem bl_total : ∀ (a b : List UInt8), Op.bytesLess a b = true ∨ a = b ∨ Op.bytesLess b a = true
  | [], [] => Or.inr (Or.inl rfl)
  | [], _ :: _ => Or.inl (by simp [Op.bytesLess])
  | _ :: _, [] => Or.inr (Or.inr (by simp [Op.bytesLess]))
  | x :: a, y :: b => by
    have ih := bl_total a b
    simp only [Op.bytesLess]
    by_cases hxy : x < y
    · exact Or.inl (by simp [hxy])
    · by_cases hyx : y < x
      · exact Or.inr (Or.inr (by simp [hyx]))
      · have hx : x = y := UInt8.le_antisymm (UInt8.not_lt.1 hyx) (UInt8.not_lt.1 hxy)
        subst hx
        rcases ih with h | h | h
        · exact Or.inl (by simp [h])
        · exact Or.inr (Or.inl (by rw [h]))
        · exact Or.inr (Or.inr (by simp [h]))
theorem bl_irrefl : ∀ (a : List UInt8), Op.bytesLess a a = false
  | [] => by simp [Op.bytesLess]
  | x :: a => by simp [Op.bytesLess, bl_irrefl a]
theorem ba_ext {a b : ByteArray} (h : a.toList = b.toList) : a = b := by
  rw [Lib.toList_data, Lib.toList_data] at h
  cases a; cases b
  congr 1
  exact Array.toList_inj.1 h
theorem upB_lt {a x : ByteArray} (h : upB a x = true) : ltB a x = true := by
  unfold upB at h
  simp only [Bool.not_eq_true', Bool.or_eq_false_iff, beq_eq_false_iff_ne] at h
  rcases bl_total a.toList x.toList with h1 | h1 | h1
  · exact h1
  · exact absurd h1.symm h.2
  · rw [h.1] at h1; cases h1
theorem rise_all : ∀ {a : ByteArray} {l : List ByteArray}, rise a l = true → ∀ x ∈ l, ltB a x = true
  | _, [], _, _, h => by simp at h
  | a, y :: l, h, x, hx => by
    rw [rise, Bool.and_eq_true, Bool.and_eq_true] at h
    have h1 := upB_lt h.1.2
    rcases List.mem_cons.1 hx with rfl | hx
    · exact h1
    · exact bl_trans h1 (rise_all h.2 x hx)
/-- A name's place. -/
def posN (s : ByteArray) : List ByteArray → Nat
  | [] => 0
  | n :: l => if ltB n s then posN s l + 1 else 0
theorem posN_le (s : ByteArray) : ∀ l, posN s l ≤ l.length
  | [] => Nat.le_refl _
  | n :: l => by
    have := posN_le s l
    rw [posN]
    split
    · simp; exact this
    · simp
theorem posN_spec (s : ByteArray) : ∀ {a : ByteArray} {l : List ByteArray}, rise a l = true → ∀ t (h : t < l.length), ltB l[t] s = decide (t < posN s l)
  | _, [], _, _, h => by simp at h
  | a, n :: l, hr, t, h => by
    have hr2 := hr
    rw [rise, Bool.and_eq_true, Bool.and_eq_true] at hr2
    rw [posN]
    cases hn : ltB n s with
    | true =>
      rw [if_pos rfl]
      cases t with
      | zero => simp [hn]
      | succ t =>
        have := posN_spec s hr2.2 t (by simpa using h)
        simp only [List.getElem_cons_succ, this]
        exact decide_eq_decide.2 (by omega)
    | false =>
      rw [if_neg (by simp), decide_eq_false (Nat.not_lt_zero _)]
      cases t with
      | zero => exact hn
      | succ t =>
        cases hl : ltB (n :: l)[t + 1] s with
        | false => rfl
        | true =>
          have htl : t < l.length := by simpa using h
          have h1 := rise_all hr2.2 _ (List.getElem_mem htl)
          have hl2 : ltB (l[t]'htl) s = true := by simpa using hl
          have h2 := bl_trans h1 hl2
          have h3 : ltB n s = true := h2
          rw [hn] at h3
          cases h3
/-- A map with a value by a name. -/
def withV (v : V) (s : ByteArray) (x : V) : V := if hasAt v.names (posN s v.names) s then .mk v.kind v.text v.num (v.items.set (posN s v.names) x) v.names
  else .mk v.kind v.text v.num (v.items.take (posN s v.names) ++ x :: v.items.drop (posN s v.names)) (v.names.take (posN s v.names) ++ s :: v.names.drop (posN s v.names))
/-- What With tells. -/
def withR (v : V) (s : ByteArray) (x : V) : V × Int := if !good v then (zero, 2) else if !good x then (zero, 2) else if v.kind ≠ 5 then (zero, 2) else if !named s then (zero, 13) else if !good (withV v s x) then (zero, 11) else (withV v s x, 0)
theorem hasAt_eq {l : List ByteArray} {k : Nat} {s : ByteArray} (h : hasAt l k s = true) : ∃ hk : k < l.length, l[k] = s := by
  unfold hasAt at h
  cases hl : l[k]? with
  | none => rw [hl] at h; cases h
  | some x =>
    rw [hl] at h
    obtain ⟨hk, he⟩ := List.getElem?_eq_some_iff.1 hl
    exact ⟨hk, he.trans (of_decide_eq_true h)⟩
theorem okMap {l : Nat} {v : V} (h : okV l v = true) (hk : v.kind = 5) : namesOk v.names = true ∧ v.names.length = v.items.length ∧ v.text.size = 0 ∧ v.num = 0 := by
  cases l with
  | zero => cases h
  | succ l =>
    cases v with
    | mk k t n is ns =>
      rw [okV, Bool.and_eq_true] at h
      have hle := h.1
      change k = 5 at hk
      subst hk
      change leafC 5 t n is.length ns = true at hle
      unfold leafC at hle
      simp only [Bool.and_eq_true, decide_eq_true_eq] at hle
      exact ⟨hle.2, hle.1.2, hle.1.1.1, hle.1.1.2⟩
theorem goodMap {v : V} (h : good v = true) (hk : v.kind = 5) : namesOk v.names = true ∧ v.names.length = v.items.length ∧ v.text.size = 0 ∧ v.num = 0 := by
  unfold good at h
  rw [Bool.and_eq_true] at h
  exact okMap h.1 hk
end Go.Proofs.YtckcbdnlligndaaDoor.Vl
namespace Go.Proofs.YtckcbdnlligndaaDoor
open Go.RowKit

def Vl.insIs (ns : List ByteArray) (is : List Vl.V) (s : ByteArray) (x : Vl.V) : List Vl.V := if Vl.hasAt ns (Vl.posN s ns) s then is.set (Vl.posN s ns) x else is.take (Vl.posN s ns) ++ x :: is.drop (Vl.posN s ns)
def Vl.insNs (ns : List ByteArray) (s : ByteArray) : List ByteArray := if Vl.hasAt ns (Vl.posN s ns) s then ns else ns.take (Vl.posN s ns) ++ s :: ns.drop (Vl.posN s ns)
theorem Vl.withV_eq (v : Vl.V) (s : ByteArray) (x : Vl.V) : Vl.withV v s x = .mk v.kind v.text v.num (Vl.insIs v.names v.items s x) (Vl.insNs v.names s) := by
  unfold Vl.withV Vl.insIs Vl.insNs
  split <;> rfl
theorem Vl.own_shape {W : World} {B : Nat} {e : TypeId} {size : Nat} {v : Value} {n : Nat} {xs : List Value} (h : W.ownsRow B e size v n xs) : ∃ p c, v = .slice p n c := by
  rcases h.2 with ⟨rfl, rfl⟩ | ⟨g, cap, cur, rfl, _⟩
  · exact ⟨none, 0, rfl⟩
  · exact ⟨_, _, rfl⟩
/-- What with hands back: rows made out of older ones. -/
def Vl.WPost (P : Value → Vl.V → Prop) (B : Nat) (k0 : Nat) (t : ByteArray) (n : Int) (is : List Vl.V) (ns : List ByteArray) (p q : Option Nat) (w : World) (e : Ending) (w' : World) : Prop := ∃ vi vn cs, e = .returned (.agg #[.int .u8 (k0 : Nat), .string t, .int .i64 n, vi, vn]) ∧
  w'.ownsRow B 26 5 vi is.length cs ∧ w'.ownsRow B 9 1 vn ns.length (ns.map Wp.mkT) ∧ (∀ i y, is[i]? = some y → ∃ c0 c1 c2 c3 c4, Vl.Has5 cs (i * 5) c0 c1 c2 c3 c4 ∧ P (.agg #[c0, c1, c2, c3, c4]) y) ∧
  (∀ j, j < w.heap.size → some j ≠ p → some j ≠ q → w'.heap[j]? = w.heap[j]?) ∧ w.heap.size ≤ w'.heap.size ∧ (vi.ownBlock = p ∨ ∀ x, vi.ownBlock = some x → w.heap.size ≤ x) ∧ (vn.ownBlock = q ∨ ∀ x, vn.ownBlock = some x → w.heap.size ≤ x) ∧ Below B w w'
set_option maxRecDepth 100000 in
set_option maxHeartbeats 1000000 in
theorem with_there (P : Value → Vl.V → Prop) (B k0 k : Nat) (t : ByteArray) (n : Int) (vi vn : Value) (is : List Vl.V) (ns : List ByteArray) (s : ByteArray) (x : Vl.V) (u : Value) (cs : List Value) (w : World) (hO : w.ownsRow B 26 5 vi is.length cs) (hN : w.ownsRow B 9 1 vn ns.length (ns.map Wp.mkT)) (hc : ∀ i y, is[i]? = some y → ∃ c0 c1 c2 c3 c4, Vl.Has5 cs (i * 5) c0 c1 c2 c3 c4 ∧ P (.agg #[c0, c1, c2, c3, c4]) y)
    (hP : ∀ u y, P u y → ∃ d w, Vl.At d w u y) (hB : B ≤ w.heap.size) (hx : P u x) (hlen : ns.length = is.length) (hle : is.length ≤ 256) (hk : k ≤ ns.length) (hs : ∀ t (h : t < ns.length), Vl.ltB ns[t] s = decide (t < k)) (hat : Vl.hasAt ns k s = true) :
    Calls Tryd.prog 40 #[.agg #[.int .u8 (k0 : Nat), .string t, .int .i64 n, vi, vn], .string s, u] w (Vl.WPost P B k0 t n (is.set k x) ns vi.ownBlock vn.ownBlock w) := by
  obtain ⟨dx, wx, hax⟩ := hP _ _ hx
  obtain ⟨k5, t5, i5, pi5, ni5, ci5, pn5, nn5, cn5, rfl⟩ := hax.shape
  obtain ⟨hkl, _⟩ := Vl.hasAt_eq hat
  have hki : k < is.length := by omega
  obtain ⟨pn, cn, hvnE, hnAt⟩ := Vl.texts_off hN
  rcases hO.2 with ⟨_, h0⟩ | ⟨g, cap, cur, hviE, hgB, hg, hnc, hm, hsz, ht⟩
  · omega
  subst hviE
  subst hvnE
  have hgl := (Array.getElem?_eq_some_iff.1 hg).1
  have hA : Below w.heap.size w (((w.alloc (.cells #[.int .u8 (k0 : Nat), .string t, .int .i64 n, .slice (some ⟨g, 0, none⟩) is.length cap, .slice pn ns.length cn] 26)).alloc (.cells #[.int .u8 k5, .string t5, .int .i64 i5, .slice pi5 ni5 ci5, .slice pn5 nn5 cn5] 26)).alloc (.cells #[.int .u8 0, .string ⟨#[]⟩, .int .i64 0, .slice none 0 0, .slice none 0 0] 26)) :=
    (((Below.refl w.heap.size w).alloc (Nat.le_refl _) _).alloc (by simp) _).alloc (by simp; omega) _
  have hsA : (((w.alloc (.cells #[.int .u8 (k0 : Nat), .string t, .int .i64 n, .slice (some ⟨g, 0, none⟩) is.length cap, .slice pn ns.length cn] 26)).alloc (.cells #[.int .u8 k5, .string t5, .int .i64 i5, .slice pi5 ni5 ci5, .slice pn5 nn5 cn5] 26)).alloc (.cells #[.int .u8 0, .string ⟨#[]⟩, .int .i64 0, .slice none 0 0, .slice none 0 0] 26)).heap.size = w.heap.size + 3 := by simp
  have hx0 : (((w.alloc (.cells #[.int .u8 (k0 : Nat), .string t, .int .i64 n, .slice (some ⟨g, 0, none⟩) is.length cap, .slice pn ns.length cn] 26)).alloc (.cells #[.int .u8 k5, .string t5, .int .i64 i5, .slice pi5 ni5 ci5, .slice pn5 nn5 cn5] 26)).alloc (.cells #[.int .u8 0, .string ⟨#[]⟩, .int .i64 0, .slice none 0 0, .slice none 0 0] 26)).heap[w.heap.size]? = some (.cells #[.int .u8 (k0 : Nat), .string t, .int .i64 n, .slice (some ⟨g, 0, none⟩) is.length cap, .slice pn ns.length cn] 26 (0, 0)) := by
    rw [Vl.past _ _ _ (by simp; omega), Vl.past _ _ _ (by simp)]; exact Vl.new _ _
  have hx1 : (((w.alloc (.cells #[.int .u8 (k0 : Nat), .string t, .int .i64 n, .slice (some ⟨g, 0, none⟩) is.length cap, .slice pn ns.length cn] 26)).alloc (.cells #[.int .u8 k5, .string t5, .int .i64 i5, .slice pi5 ni5 ci5, .slice pn5 nn5 cn5] 26)).alloc (.cells #[.int .u8 0, .string ⟨#[]⟩, .int .i64 0, .slice none 0 0, .slice none 0 0] 26)).heap[w.heap.size + 1]? = some (.cells #[.int .u8 k5, .string t5, .int .i64 i5, .slice pi5 ni5 ci5, .slice pn5 nn5 cn5] 26 (0, 0)) := by
    rw [Vl.past _ _ _ (by simp)]; exact Vl.newAt _ _ _ (by simp)
  have hx2 : (((w.alloc (.cells #[.int .u8 (k0 : Nat), .string t, .int .i64 n, .slice (some ⟨g, 0, none⟩) is.length cap, .slice pn ns.length cn] 26)).alloc (.cells #[.int .u8 k5, .string t5, .int .i64 i5, .slice pi5 ni5 ci5, .slice pn5 nn5 cn5] 26)).alloc (.cells #[.int .u8 0, .string ⟨#[]⟩, .int .i64 0, .slice none 0 0, .slice none 0 0] 26)).heap[w.heap.size + 2]? = some (.cells #[.int .u8 0, .string ⟨#[]⟩, .int .i64 0, .slice none 0 0, .slice none 0 0] 26 (0, 0)) := Vl.newAt _ _ _ (by simp)
  have hse := vlSearch_any pn cn ns s k _ (by omega) hk hs (((hnAt w (fun _ _ _ => rfl))).below hA)
  rw [hat] at hse
  have Hse := Lib.hid hse
  have HsA := Lib.hid hsA
  have HA := Lib.hid hA
  have HX0 := Lib.hid hx0
  have HX1 := Lib.hid hx1
  have HX2 := Lib.hid hx2
  have hset := Vl.has_set hO.1 hki hc hx
  have Hset := Lib.hid hset
  have HO := Lib.hid hO
  have HN := Lib.hid hN
  have Hlen := Lib.hid hlen
  clear hse hsA hA hx0 hx1 hx2 hset hc hx hs hat ht hsz hg hlen hnAt hO hN hm hax hP
  go_enter Tryd.func40, Tryd.ntmps40
  go_wp2_with fail
  refine Hse.out.mono ?_
  rintro e w1 ⟨rfl, hb1⟩
  have hs1 : w.heap.size + 3 ≤ w1.heap.size := by have := hb1.size; rwa [HsA.out] at this
  have hbw : Below w.heap.size w w1 := HA.out.trans (hb1.mono (by rw [HsA.out]; omega))
  have hx0 := (hb1.block w.heap.size (by rw [HsA.out]; omega)).trans HX0.out
  have hx1 := (hb1.block (w.heap.size + 1) (by rw [HsA.out]; omega)).trans HX1.out
  have hx2 := (hb1.block (w.heap.size + 2) (by rw [HsA.out]; omega)).trans HX2.out
  have hO1 := ownsRow_below HO.out hbw
  have hN1 := ownsRow_below HN.out hbw
  obtain ⟨z0, z1, z2, z3, z4, ⟨y0, y1, y2, y3, y4⟩, f0, f1, f2, f3, f4⟩ := Vl.slotsAt hO1 hki
  obtain ⟨o1, g1⟩ := hO1.stored (k * 5) (.int .u8 k5)
  obtain ⟨o2, g2⟩ := o1.stored (k * 5 + 1) (.string t5)
  obtain ⟨o3, g3⟩ := o2.stored (k * 5 + 2) (.int .i64 i5)
  obtain ⟨o4, g4⟩ := o3.stored (k * 5 + 3) (.slice pi5 ni5 ci5)
  obtain ⟨o5, g5⟩ := o4.stored (k * 5 + 4) (.slice pn5 nn5 cn5)
  have hG : w1.grownBy _ (some g) := grownBy_trans (grownBy_trans (grownBy_trans (grownBy_trans g1 g2) g3) g4) g5
  have hN5 := hN1.kept hG (by have h := Vl.own_ne HN.out HO.out (by decide); exact h)
  have hsz5 : (((((w1.setCell ⟨g, k * 5, none⟩ (.int .u8 k5)).setCell ⟨g, k * 5 + 1, none⟩ (.string t5)).setCell ⟨g, k * 5 + 2, none⟩ (.int .i64 i5)).setCell ⟨g, k * 5 + 3, none⟩ (.slice pi5 ni5 ci5)).setCell ⟨g, k * 5 + 4, none⟩ (.slice pn5 nn5 cn5)).heap.size = w1.heap.size := by
    rw [World.size_setCell, World.size_setCell, World.size_setCell, World.size_setCell, World.size_setCell]
  have hk0 : (0 : Int) ≤ (k : Int) := by omega
  have hk1 : (k : Int) < (is.length : Int) := by omega
  have HO5 := Lib.hid o5
  have HN5 := Lib.hid hN5
  have HG5 := Lib.hid hG
  have Hsz := Lib.hid hsz5
  have Hbw := Lib.hid hbw
  have X5 := Lib.hid ((hG.block w.heap.size (by omega) (by intro e; have := Option.some.inj e; omega)).trans hx0)
  have R5 := Lib.hid ((hG.block (w.heap.size + 2) (by omega) (by intro e; have := Option.some.inj e; omega)).trans hx2)
  obtain ⟨m0, m1, m2, m3, m4⟩ := Vl.five_of hx0
  obtain ⟨r0, r1, r2, r3, r4⟩ := Vl.five_of hx1
  clear hb1 hbw hx0 hx1 hx2 hO1 hN1 o1 o2 o3 o4 o5 g1 g2 g3 g4 g5 hG hN5 hsz5 HA HX0 HX1 HX2 Hse HsA
  go_upto_region 4 with fail
  generalize (((((w1.setCell ⟨g, k * 5, none⟩ (.int .u8 k5)).setCell ⟨g, k * 5 + 1, none⟩ (.string t5)).setCell ⟨g, k * 5 + 2, none⟩ (.int .i64 i5)).setCell ⟨g, k * 5 + 3, none⟩ (.slice pi5 ni5 ci5)).setCell ⟨g, k * 5 + 4, none⟩ (.slice pn5 nn5 cn5)) = W5 at *
  clear m0 m1 m2 m3 m4 r0 r1 r2 r3 r4 y0 y1 y2 y3 y4 f0 f1 f2 f3 f4
  obtain ⟨m0, m1, m2, m3, m4⟩ := Vl.five_of X5.out
  obtain ⟨r0, r1, r2, r3, r4⟩ := Vl.five_of R5.out
  obtain ⟨n0, n1, n2, n3, n4⟩ := Vl.fiveF_of R5.out
  go_wp2_with fail
  refine bodyPost_ret (Vl.ret1 rfl _ _ (w.heap.size + 2) 26 _ _ rfl (Vl.set5 R5.out _ _ _ _ _) Tryd.underlying26 rfl (by kernel_rfl)) rfl ?_
  have hr := Vl.set5_grown W5 (w.heap.size + 2) (.int .u8 (k0 : Nat)) (.string t) (.int .i64 n) (.slice (some ⟨g, 0, none⟩) is.length cap) (.slice pn ns.length cn)
  have hvnl : ∀ q, (Value.slice pn ns.length cn).ownBlock = some q → q < w.heap.size := fun q e => (HN.out.lt q e).2
  refine ⟨_, _, _, rfl, ?_, ?_, Hset.out, fun j h1 h2 h3 => ?_, ?_, Or.inl rfl, Or.inl rfl, ?_⟩
  · rw [List.length_set]; exact HO5.out.kept hr (Or.inr (by show some g ≠ _; intro e; have := Option.some.inj e; omega))
  · refine HN5.out.kept hr ?_
    cases hq : (Value.slice pn ns.length cn).ownBlock with
    | none => exact Or.inl rfl
    | some q => exact Or.inr (by intro e; have := Option.some.inj e; have := hvnl q hq; omega)
  · exact (hr.block j (by rw [Hsz.out]; omega) (by intro e; have := Option.some.inj e; omega)).trans ((HG5.out.block j (by omega) h2).trans (Hbw.out.block j h1))
  · rw [Vl.set5_size, Hsz.out]; omega
  · exact below_grownBy (below_grownBy (Hbw.out.mono hB) HG5.out hgB (by omega)) hr (by omega) (by rw [Hsz.out]; omega)
set_option maxRecDepth 100000 in
set_option maxHeartbeats 1000000 in
theorem with_new (P : Value → Vl.V → Prop) (B k0 k : Nat) (t : ByteArray) (n : Int) (vi vn : Value) (is : List Vl.V) (ns : List ByteArray) (s : ByteArray) (x : Vl.V) (u : Value) (cs : List Value) (w : World) (hO : w.ownsRow B 26 5 vi is.length cs) (hN : w.ownsRow B 9 1 vn ns.length (ns.map Wp.mkT)) (hc : ∀ i y, is[i]? = some y → ∃ c0 c1 c2 c3 c4, Vl.Has5 cs (i * 5) c0 c1 c2 c3 c4 ∧ P (.agg #[c0, c1, c2, c3, c4]) y)
    (hP : ∀ u y, P u y → ∃ d w, Vl.At d w u y) (hB : B ≤ w.heap.size) (hx : P u x) (hlen : ns.length = is.length) (hle : is.length ≤ 256) (hk : k ≤ ns.length) (hs : ∀ t (h : t < ns.length), Vl.ltB ns[t] s = decide (t < k)) (hat : Vl.hasAt ns k s = false) :
    Calls Tryd.prog 40 #[.agg #[.int .u8 (k0 : Nat), .string t, .int .i64 n, vi, vn], .string s, u] w (Vl.WPost P B k0 t n (is.take k ++ x :: is.drop k) (ns.take k ++ s :: ns.drop k) vi.ownBlock vn.ownBlock w) := by
  obtain ⟨dx, wx, hax⟩ := hP _ _ hx
  obtain ⟨k5, t5, i5, pi5, ni5, ci5, pn5, nn5, cn5, rfl⟩ := hax.shape
  have hone := Vl.has_one hO.1 hP hc
  obtain ⟨pi, ci, rfl⟩ := Vl.own_shape hO
  obtain ⟨pn, cn, rfl, hoff⟩ := Vl.texts_off hN
  have hki : k ≤ is.length := by omega
  have hnAt := hoff w (fun _ _ _ => rfl)
  have hA : Below w.heap.size w (((w.alloc (.cells #[.int .u8 (k0 : Nat), .string t, .int .i64 n, .slice pi is.length ci, .slice pn ns.length cn] 26)).alloc (.cells #[.int .u8 k5, .string t5, .int .i64 i5, .slice pi5 ni5 ci5, .slice pn5 nn5 cn5] 26)).alloc (.cells #[.int .u8 0, .string ⟨#[]⟩, .int .i64 0, .slice none 0 0, .slice none 0 0] 26)) :=
    (((Below.refl w.heap.size w).alloc (Nat.le_refl _) _).alloc (by simp) _).alloc (by simp; omega) _
  have hsA : (((w.alloc (.cells #[.int .u8 (k0 : Nat), .string t, .int .i64 n, .slice pi is.length ci, .slice pn ns.length cn] 26)).alloc (.cells #[.int .u8 k5, .string t5, .int .i64 i5, .slice pi5 ni5 ci5, .slice pn5 nn5 cn5] 26)).alloc (.cells #[.int .u8 0, .string ⟨#[]⟩, .int .i64 0, .slice none 0 0, .slice none 0 0] 26)).heap.size = w.heap.size + 3 := by simp
  have hx0 : (((w.alloc (.cells #[.int .u8 (k0 : Nat), .string t, .int .i64 n, .slice pi is.length ci, .slice pn ns.length cn] 26)).alloc (.cells #[.int .u8 k5, .string t5, .int .i64 i5, .slice pi5 ni5 ci5, .slice pn5 nn5 cn5] 26)).alloc (.cells #[.int .u8 0, .string ⟨#[]⟩, .int .i64 0, .slice none 0 0, .slice none 0 0] 26)).heap[w.heap.size]? = some (.cells #[.int .u8 (k0 : Nat), .string t, .int .i64 n, .slice pi is.length ci, .slice pn ns.length cn] 26 (0, 0)) := by
    rw [Vl.past _ _ _ (by simp; omega), Vl.past _ _ _ (by simp)]; exact Vl.new _ _
  have hx1 : (((w.alloc (.cells #[.int .u8 (k0 : Nat), .string t, .int .i64 n, .slice pi is.length ci, .slice pn ns.length cn] 26)).alloc (.cells #[.int .u8 k5, .string t5, .int .i64 i5, .slice pi5 ni5 ci5, .slice pn5 nn5 cn5] 26)).alloc (.cells #[.int .u8 0, .string ⟨#[]⟩, .int .i64 0, .slice none 0 0, .slice none 0 0] 26)).heap[w.heap.size + 1]? = some (.cells #[.int .u8 k5, .string t5, .int .i64 i5, .slice pi5 ni5 ci5, .slice pn5 nn5 cn5] 26 (0, 0)) := by
    rw [Vl.past _ _ _ (by simp)]; exact Vl.newAt _ _ _ (by simp)
  have hx2 : (((w.alloc (.cells #[.int .u8 (k0 : Nat), .string t, .int .i64 n, .slice pi is.length ci, .slice pn ns.length cn] 26)).alloc (.cells #[.int .u8 k5, .string t5, .int .i64 i5, .slice pi5 ni5 ci5, .slice pn5 nn5 cn5] 26)).alloc (.cells #[.int .u8 0, .string ⟨#[]⟩, .int .i64 0, .slice none 0 0, .slice none 0 0] 26)).heap[w.heap.size + 2]? = some (.cells #[.int .u8 0, .string ⟨#[]⟩, .int .i64 0, .slice none 0 0, .slice none 0 0] 26 (0, 0)) := Vl.newAt _ _ _ (by simp)
  have hse := vlSearch_any pn cn ns s k _ (by omega) hk hs (hnAt.below hA)
  rw [hat] at hse
  have Hse := Lib.hid hse
  have HsA := Lib.hid hsA
  have HA := Lib.hid hA
  have HX0 := Lib.hid hx0
  have HX1 := Lib.hid hx1
  have HX2 := Lib.hid hx2
  have hset := Vl.has_ins hO.1 hki hc hx
  have Hset := Lib.hid hset
  have HO := Lib.hid hO
  have HN := Lib.hid hN
  have Hlen := Lib.hid hlen
  have Hone := Lib.hid hone
  have hvnl := Lib.hid (fun q (e : (Value.slice pn ns.length cn).ownBlock = some q) => (hN.lt q e).2)
  have hvil := Lib.hid (fun q (e : (Value.slice pi is.length ci).ownBlock = some q) => (hO.lt q e).2)
  have hvib := Lib.hid (fun q (e : (Value.slice pi is.length ci).ownBlock = some q) => (hO.lt q e).1)
  have hvnb := Lib.hid (fun q (e : (Value.slice pn ns.length cn).ownBlock = some q) => (hN.lt q e).1)
  have Hne := Lib.hid (Vl.own_ne hN hO (by decide))
  have Hne' := Lib.hid (Vl.own_ne hO hN (by decide))
  have hnl : ns.length ≤ 256 := by omega
  clear hse hsA hA hx0 hx1 hx2 hset hc hx hs hat hlen hnAt hO hN hone hoff hax hP
  go_enter Tryd.func40, Tryd.ntmps40
  go_wp2_with fail
  refine Hse.out.mono ?_
  rintro e w1 ⟨rfl, hb1⟩
  have hs1 : w.heap.size + 3 ≤ w1.heap.size := by have := hb1.size; rwa [HsA.out] at this
  have hbw : Below w.heap.size w w1 := HA.out.trans (hb1.mono (by rw [HsA.out]; omega))
  have hx0 := (hb1.block w.heap.size (by rw [HsA.out]; omega)).trans HX0.out
  have hx1 := (hb1.block (w.heap.size + 1) (by rw [HsA.out]; omega)).trans HX1.out
  have hx2 := (hb1.block (w.heap.size + 2) (by rw [HsA.out]; omega)).trans HX2.out
  -- the names
  have hb1' := (Below.refl w1.heap.size w1).alloc (Nat.le_refl _) (.cells #[.string s] 9)
  have hbw' := hbw.trans (hb1'.mono hbw.size)
  have hins := insS_any B ns.length k w1.heap.size 1 (.slice pn ns.length cn) (ns.map Wp.mkT) [.string s] _ (ownsRow_below HN.out hbw') (by have := hb1'.size; omega) hk (by omega) (Vl.new w1 (.cells #[.string s] 9)) (by intro e; have := hvnl.out _ e; omega) rfl (fun v hv => by obtain ⟨y, _, rfl⟩ := List.mem_map.1 hv; rfl) (fun v hv => by rw [List.mem_singleton.1 hv]; rfl)
  have Hins := Lib.hid hins
  have Hbw' := Lib.hid hbw'
  have Hs1' := Lib.hid (show (w1.alloc (.cells #[.string s] 9)).heap.size = w1.heap.size + 1 by simp)
  have HX0' := Lib.hid ((hb1'.block _ (by omega)).trans hx0)
  have HX1' := Lib.hid ((hb1'.block _ (by omega)).trans hx1)
  have HX2' := Lib.hid ((hb1'.block _ (by omega)).trans hx2)
  obtain ⟨m0, m1, m2, m3, m4⟩ := Vl.five_of hx0
  clear hb1 hbw hx0 hx1 hx2 hins hbw' hb1' HA HX0 HX1 HX2 Hse HsA
  go_wp2_with fail
  refine Hins.out.mono ?_
  rintro e w2 ⟨vn', rfl, hown2, hg2, hat2⟩
  obtain ⟨pn', cn', rfl⟩ := Vl.own_shape hown2
  clear m0 m1 m2 m3 m4
  have hs2 : w1.heap.size + 1 ≤ w2.heap.size := by have := hg2.size; rwa [Hs1'.out] at this
  have hnb : ∀ j, w.heap.size ≤ j → j < w1.heap.size + 1 → w2.heap[j]? = (w1.alloc (.cells #[.string s] 9)).heap[j]? := fun j h1 h2 => hg2.block j (by rw [Hs1'.out]; exact h2) (fun e => by have := hvnl.out j e.symm; omega)
  have hx0 := (hnb w.heap.size (by omega) (by omega)).trans HX0'.out
  have hx1 := (hnb (w.heap.size + 1) (by omega) (by omega)).trans HX1'.out
  have hx2 := (hnb (w.heap.size + 2) (by omega) (by omega)).trans HX2'.out
  have hgs := Vl.set1_grown w2 w.heap.size 4 (Value.slice pn' (ns.length + 1) cn')
  have X5 := Lib.hid ((Lib.heap_setCell_same (i := 4) hx0 (Value.slice pn' (ns.length + 1) cn')).trans rfl : (w2.setCell ⟨w.heap.size, 4, none⟩ (Value.slice pn' (ns.length + 1) cn')).heap[w.heap.size]? = some (.cells #[.int .u8 (k0 : Nat), .string t, .int .i64 n, .slice pi is.length ci, (Value.slice pn' (ns.length + 1) cn')] 26 (0, 0)))
  have Y5 := Lib.hid ((hgs.block (w.heap.size + 1) (by omega) (by intro e; have := Option.some.inj e; omega)).trans hx1)
  have R5 := Lib.hid ((hgs.block (w.heap.size + 2) (by omega) (by intro e; have := Option.some.inj e; omega)).trans hx2)
  have hvn'ne : ∀ q, (Value.slice pn' (ns.length + 1) cn').ownBlock = some q → q ≠ w.heap.size ∧ (q < w.heap.size ∨ q = w1.heap.size + 1) := fun q e => by
    rcases hat2 with h | h
    · have := hvnl.out q (h.symm.trans e); exact ⟨by omega, Or.inl this⟩
    · have := h.symm.trans e; rw [Hs1'.out] at this; have := Option.some.inj this; exact ⟨by omega, Or.inr this.symm⟩
  have Hvn' := Lib.hid hvn'ne
  have HvnOld := Lib.hid (fun q (e : (Value.slice pn' (ns.length + 1) cn').ownBlock = some q) (h : q < w.heap.size) => (by
    rcases hat2 with h2 | h2
    · exact e.symm.trans h2
    · have := h2.symm.trans e; rw [Hs1'.out] at this; have := Option.some.inj this; omega : some q = (Value.slice pn ns.length cn).ownBlock))
  have hN5 := hown2.kept hgs (Or.inr (fun e => (hvn'ne _ e).1 rfl))
  have hO2 := (ownsRow_below HO.out Hbw'.out).kept hg2 Hne'.out
  have hO5 := hO2.kept hgs (by
    cases hq : (Value.slice pi is.length ci).ownBlock with
    | none => exact Or.inl rfl
    | some q => exact Or.inr (by intro e; have := Option.some.inj e; have := hvil.out q hq; omega))
  have hmap : (ns.map Wp.mkT).take k ++ [.string s] ++ (ns.map Wp.mkT).drop k = (ns.take k ++ s :: ns.drop k).map Wp.mkT := by simp [Wp.mkT]
  rw [hmap] at hN5
  have hB5 : Below B w (w2.setCell ⟨w.heap.size, 4, none⟩ (Value.slice pn' (ns.length + 1) cn')) := below_grownBy ((Hbw'.out.mono hB).grown hg2 (by rw [Hs1'.out]; omega) (fun q e => hvnb.out q e)) hgs hB (by omega)
  have hK5 : ∀ j, j < w.heap.size → some j ≠ (Value.slice pn ns.length cn).ownBlock → (w2.setCell ⟨w.heap.size, 4, none⟩ (Value.slice pn' (ns.length + 1) cn')).heap[j]? = w.heap[j]? := fun j h1 h2 =>
    (hgs.block j (by omega) (by intro e; have := Option.some.inj e; omega)).trans ((hg2.block j (by rw [Hs1'.out]; omega) h2).trans (Hbw'.out.block j h1))
  have hs5 : w1.heap.size + 1 ≤ (w2.setCell ⟨w.heap.size, 4, none⟩ (Value.slice pn' (ns.length + 1) cn')).heap.size := by rw [World.size_setCell]; exact hs2
  have HN5 := Lib.hid hN5
  have HO5 := Lib.hid hO5
  have HB5 := Lib.hid hB5
  have HK5 := Lib.hid hK5
  have hvnlt : Hid (∀ q, (Value.slice pn' (ns.length + 1) cn').ownBlock = some q → q < (w2.setCell ⟨w.heap.size, 4, none⟩ (Value.slice pn' (ns.length + 1) cn')).heap.size) := Lib.hid (fun q e => (hN5.lt q e).2)
  obtain ⟨m0, m1, m2, m3, m4⟩ := Vl.five_of hx0
  obtain ⟨f0, f1, f2, f3, f4⟩ := Vl.fiveF_of hx0
  clear hown2 hg2 hat2 hnb hx0 hx1 hx2 hgs hvn'ne hN5 hO2 hO5 hmap hB5 hK5 HX0' HX1' HX2' Hins
  go_upto_region 6 with fail
  generalize (w2.setCell ⟨w.heap.size, 4, none⟩ (Value.slice pn' (ns.length + 1) cn')) = W5 at *
  clear m0 m1 m2 m3 m4 f0 f1 f2 f3 f4
  -- the items
  have hb5' := (Below.refl W5.heap.size W5).alloc (Nat.le_refl _) (.cells #[.int .u8 k5, .string t5, .int .i64 i5, .slice pi5 ni5 ci5, .slice pn5 nn5 cn5] 26)
  have hins := insV_any B is.length k W5.heap.size 1 (.slice pi is.length ci) cs [.int .u8 k5, .string t5, .int .i64 i5, .slice pi5 ni5 ci5, .slice pn5 nn5 cn5] _ (ownsRow_below HO5.out hb5') (by have := hb5'.size; omega) hki (by omega) (Vl.new W5 (.cells #[.int .u8 k5, .string t5, .int .i64 i5, .slice pi5 ni5 ci5, .slice pn5 nn5 cn5] 26)) (by intro e; have := hvil.out _ e; omega) rfl Hone.out (fun v hv => by simp at hv; rcases hv with rfl | rfl | rfl | rfl | rfl <;> rfl)
  have Hins := Lib.hid hins
  have Hb5' := Lib.hid hb5'
  have Hs5' := Lib.hid (show (W5.alloc (.cells #[.int .u8 k5, .string t5, .int .i64 i5, .slice pi5 ni5 ci5, .slice pn5 nn5 cn5] 26)).heap.size = W5.heap.size + 1 by simp)
  obtain ⟨m0, m1, m2, m3, m4⟩ := Vl.five_of X5.out
  obtain ⟨r0, r1, r2, r3, r4⟩ := Vl.five_of Y5.out
  clear hb5' hins
  go_wp2_with fail
  refine Hins.out.mono ?_
  rintro e w6 ⟨vi', rfl, hown6, hg6, hat6⟩
  obtain ⟨pi', ci', rfl⟩ := Vl.own_shape hown6
  clear m0 m1 m2 m3 m4 r0 r1 r2 r3 r4
  have hs6 : W5.heap.size + 1 ≤ w6.heap.size := by have := hg6.size; rwa [Hs5'.out] at this
  have hnb : ∀ j, w.heap.size ≤ j → j < W5.heap.size → w6.heap[j]? = W5.heap[j]? := fun j h1 h2 => (hg6.block j (by rw [Hs5'.out]; omega) (fun e => by have := hvil.out j e.symm; omega)).trans (Hb5'.out.block j h2)
  have hx0 := (hnb w.heap.size (by omega) (by omega)).trans X5.out
  have hx2 := (hnb (w.heap.size + 2) (by omega) (by omega)).trans R5.out
  have hgs := Vl.set1_grown w6 w.heap.size 3 (Value.slice pi' (is.length + 1) ci')
  have X7 := Lib.hid ((Lib.heap_setCell_same (i := 3) hx0 (Value.slice pi' (is.length + 1) ci')).trans rfl : (w6.setCell ⟨w.heap.size, 3, none⟩ (Value.slice pi' (is.length + 1) ci')).heap[w.heap.size]? = some (.cells #[.int .u8 (k0 : Nat), .string t, .int .i64 n, (Value.slice pi' (is.length + 1) ci'), (Value.slice pn' (ns.length + 1) cn')] 26 (0, 0)))
  have R7 := Lib.hid ((hgs.block (w.heap.size + 2) (by omega) (by intro e; have := Option.some.inj e; omega)).trans hx2)
  have hvi'ne : ∀ q, (Value.slice pi' (is.length + 1) ci').ownBlock = some q → q ≠ w.heap.size ∧ q ≠ w.heap.size + 2 ∧ ((Value.slice pi is.length ci).ownBlock = some q ∨ w.heap.size ≤ q) := fun q e => by
    rcases hat6 with h | h
    · have h2 := h.symm.trans e; have := hvil.out q h2; exact ⟨by omega, by omega, Or.inl h2⟩
    · have := h.symm.trans e; rw [Hs5'.out] at this; have := Option.some.inj this; exact ⟨by omega, by omega, Or.inr (by omega)⟩
  have hat1 : (Value.slice pi' (is.length + 1) ci').ownBlock = (Value.slice pi is.length ci).ownBlock ∨ ∀ q, (Value.slice pi' (is.length + 1) ci').ownBlock = some q → w.heap.size ≤ q := by
    rcases hat6 with h | h
    · exact Or.inl h
    · exact Or.inr (fun q e => by have := h.symm.trans e; rw [Hs5'.out] at this; have := Option.some.inj this; omega)
  have hat2 : (Value.slice pn' (ns.length + 1) cn').ownBlock = (Value.slice pn ns.length cn).ownBlock ∨ ∀ q, (Value.slice pn' (ns.length + 1) cn').ownBlock = some q → w.heap.size ≤ q := by
    cases hq : (Value.slice pn' (ns.length + 1) cn').ownBlock with
    | none =>
      refine Or.inr (fun q e => by cases e)
    | some q =>
      rcases (Hvn'.out q hq).2 with h | h
      · left
        exact HvnOld.out q hq h
      · exact Or.inr (fun q' e => by cases e; omega)
  have hO7 := hown6.kept hgs (Or.inr (fun e => (hvi'ne _ e).1 rfl))
  have hNe6 : (Value.slice pn' (ns.length + 1) cn').ownBlock = none ∨ (Value.slice pn' (ns.length + 1) cn').ownBlock ≠ (Value.slice pi is.length ci).ownBlock := Vl.own_ne HN5.out HO5.out (by decide)
  have hN7 := ((ownsRow_below HN5.out Hb5'.out).kept hg6 hNe6).kept hgs (Or.inr (fun e => (Hvn'.out _ e).1 rfl))
  have hB7 : Below B w (w6.setCell ⟨w.heap.size, 3, none⟩ (Value.slice pi' (is.length + 1) ci')) := below_grownBy ((HB5.out.trans (Hb5'.out.mono (by omega))).grown hg6 (by rw [Hs5'.out]; omega) (fun q e => hvib.out q e)) hgs hB (by omega)
  have hK7 : ∀ j, j < w.heap.size → some j ≠ (Value.slice pi is.length ci).ownBlock → some j ≠ (Value.slice pn ns.length cn).ownBlock → (w6.setCell ⟨w.heap.size, 3, none⟩ (Value.slice pi' (is.length + 1) ci')).heap[j]? = w.heap[j]? := fun j h1 h2 h3 =>
    (hgs.block j (by omega) (by intro e; have := Option.some.inj e; omega)).trans ((hg6.block j (by rw [Hs5'.out]; omega) h2).trans ((Hb5'.out.block j (by omega)).trans (HK5.out j h1 h3)))
  have hs7 : W5.heap.size + 1 ≤ (w6.setCell ⟨w.heap.size, 3, none⟩ (Value.slice pi' (is.length + 1) ci')).heap.size := by rw [World.size_setCell]; exact hs6
  have HN7 := Lib.hid hN7
  have HO7 := Lib.hid hO7
  have HB7 := Lib.hid hB7
  have HK7 := Lib.hid hK7
  have Hat1 := Lib.hid hat1
  have Hat2 := Lib.hid hat2
  have Hvi' := Lib.hid hvi'ne
  obtain ⟨m0, m1, m2, m3, m4⟩ := Vl.five_of hx0
  obtain ⟨f0, f1, f2, f3, f4⟩ := Vl.fiveF_of hx0
  clear hown6 hg6 hat6 hnb hx0 hx2 hgs hvi'ne hat1 hat2 hO7 hN7 hNe6 hB7 hK7 X5 Y5 R5 Hins HN5 HO5 HB5 HK5
  go_upto_region 7 with fail
  generalize (w6.setCell ⟨w.heap.size, 3, none⟩ (Value.slice pi' (is.length + 1) ci')) = W7 at *
  clear m0 m1 m2 m3 m4 f0 f1 f2 f3 f4
  obtain ⟨m0, m1, m2, m3, m4⟩ := Vl.five_of X7.out
  obtain ⟨r0, r1, r2, r3, r4⟩ := Vl.five_of R7.out
  obtain ⟨n0, n1, n2, n3, n4⟩ := Vl.fiveF_of R7.out
  go_wp2_with fail
  refine bodyPost_ret (Vl.ret1 rfl _ _ (w.heap.size + 2) 26 _ _ rfl (Vl.set5 R7.out _ _ _ _ _) Tryd.underlying26 rfl (by kernel_rfl)) rfl ?_
  have hr := Vl.set5_grown W7 (w.heap.size + 2) (.int .u8 (k0 : Nat)) (.string t) (.int .i64 n) (Value.slice pi' (is.length + 1) ci') (Value.slice pn' (ns.length + 1) cn')
  refine ⟨_, _, _, rfl, ?_, ?_, Hset.out, fun j h1 h2 h3 => ?_, ?_, Hat1.out, Hat2.out, ?_⟩
  · rw [List.length_append, List.length_cons, List.length_take, List.length_drop, show min k is.length + (is.length - k + 1) = is.length + 1 by omega]
    exact HO7.out.kept hr (Or.inr (fun e => (Hvi'.out _ e).2.1 rfl))
  · rw [List.length_append, List.length_cons, List.length_take, List.length_drop, show min k ns.length + (ns.length - k + 1) = ns.length + 1 by omega]
    exact HN7.out.kept hr (Or.inr (fun e => by have := (Hvn'.out _ e).2; omega))
  · exact (hr.block j (by omega) (by intro e; have := Option.some.inj e; omega)).trans (HK7.out j h1 h2 h3)
  · rw [Vl.set5_size]; omega
  · exact below_grownBy HB7.out hr (by omega) (by omega)
theorem with_any (P : Value → Vl.V → Prop) (B k0 : Nat) (t : ByteArray) (n : Int) (vi vn : Value) (is : List Vl.V) (ns : List ByteArray) (s a : ByteArray) (x : Vl.V) (u : Value) (cs : List Value) (w : World) (hO : w.ownsRow B 26 5 vi is.length cs) (hN : w.ownsRow B 9 1 vn ns.length (ns.map Wp.mkT)) (hc : ∀ i y, is[i]? = some y → ∃ c0 c1 c2 c3 c4, Vl.Has5 cs (i * 5) c0 c1 c2 c3 c4 ∧ P (.agg #[c0, c1, c2, c3, c4]) y)
    (hP : ∀ u y, P u y → ∃ d w, Vl.At d w u y) (hB : B ≤ w.heap.size) (hx : P u x) (hlen : ns.length = is.length) (hle : is.length ≤ 256) (hr : Vl.rise a ns = true) :
    Calls Tryd.prog 40 #[.agg #[.int .u8 (k0 : Nat), .string t, .int .i64 n, vi, vn], .string s, u] w (Vl.WPost P B k0 t n (Vl.insIs ns is s x) (Vl.insNs ns s) vi.ownBlock vn.ownBlock w) := by
  unfold Vl.insIs Vl.insNs
  cases hat : Vl.hasAt ns (Vl.posN s ns) s with
  | true => exact with_there P B k0 _ t n vi vn is ns s x u cs w hO hN hc hP hB hx hlen hle (Vl.posN_le s ns) (Vl.posN_spec s hr) hat
  | false => exact with_new P B k0 _ t n vi vn is ns s x u cs w hO hN hc hP hB hx hlen hle (Vl.posN_le s ns) (Vl.posN_spec s hr) hat
end Go.Proofs.YtckcbdnlligndaaDoor
namespace Go.Proofs.YtckcbdnlligndaaDoor
open Go.RowKit

/-- Why a value can't be put in. -/
def Vl.chkW (v : Vl.V) (s : ByteArray) (x : Vl.V) : Int := if Vl.good v then (if Vl.good x then (if v.kind = 5 then Vl.nameC s else 2) else 2) else 2
set_option maxRecDepth 100000 in
set_option maxHeartbeats 1000000 in
theorem checkWith_any (d : Nat) (v x : Vl.V) (a b : Value) (s : ByteArray) (w : World) (hs : s.size ≤ 140737488351232) (hA : Vl.At d w a v) (hX : Vl.At d w b x) :
    Calls Tryd.prog 39 #[a, .string s, b] w fun e w' => e = .returned (.int .i64 (Vl.chkW v s x)) ∧ Below w.heap.size w w' := by
  have hc1 := Lib.hid (fun W (h : Below w.heap.size w W) => vlCheck_any d v a W (hA.below h))
  have hc2 := Lib.hid (fun W (h : Below w.heap.size w W) => vlCheck_any d x b W (hX.below h))
  have hkk : ∃ (pi : Option Addr) (ni ci : Nat) (pn : Option Addr) (nn cn : Nat), a = .agg #[.int .u8 (v.kind : Nat), .string v.text, .int .i64 v.num, .slice pi ni ci, .slice pn nn cn] := by
    cases d with
    | zero => exact hA.elim
    | succ d =>
      obtain ⟨pi, ci, pn, cn, e, _⟩ := hA
      exact ⟨_, _, _, _, _, _, e⟩
  obtain ⟨pi, ni, ci, pn, nn, cn, rfl⟩ := hkk
  obtain ⟨k5, t5, i5, pi5, ni5, ci5, pn5, nn5, cn5, rfl⟩ := hX.shape
  have Hn := Lib.hid (fun W => vlName_any s W (by omega))
  have hdef : Vl.chkW v s x = if Vl.good v then (if Vl.good x then (if v.kind = 5 then Vl.nameC s else 2) else 2) else 2 := rfl
  rw [show Vl.chk v = if Vl.good v then 0 else 2 from rfl] at hc1
  rw [show Vl.chk x = if Vl.good x then 0 else 2 from rfl] at hc2
  have hbA : Below w.heap.size w ((w.alloc (.cells #[.int .u8 (v.kind : Nat), .string v.text, .int .i64 v.num, .slice pi ni ci, .slice pn nn cn] 26)).alloc (.cells #[.int .u8 k5, .string t5, .int .i64 i5, .slice pi5 ni5 ci5, .slice pn5 nn5 cn5] 26)) := ((Below.refl w.heap.size w).alloc (Nat.le_refl _) _).alloc (by simp) _
  have hx0 : ((w.alloc (.cells #[.int .u8 (v.kind : Nat), .string v.text, .int .i64 v.num, .slice pi ni ci, .slice pn nn cn] 26)).alloc (.cells #[.int .u8 k5, .string t5, .int .i64 i5, .slice pi5 ni5 ci5, .slice pn5 nn5 cn5] 26)).heap[w.heap.size]? = some (.cells #[.int .u8 (v.kind : Nat), .string v.text, .int .i64 v.num, .slice pi ni ci, .slice pn nn cn] 26 (0, 0)) := by rw [Vl.past _ _ _ (by simp)]; exact Vl.new _ _
  have hx1 : ((w.alloc (.cells #[.int .u8 (v.kind : Nat), .string v.text, .int .i64 v.num, .slice pi ni ci, .slice pn nn cn] 26)).alloc (.cells #[.int .u8 k5, .string t5, .int .i64 i5, .slice pi5 ni5 ci5, .slice pn5 nn5 cn5] 26)).heap[w.heap.size + 1]? = some (.cells #[.int .u8 k5, .string t5, .int .i64 i5, .slice pi5 ni5 ci5, .slice pn5 nn5 cn5] 26 (0, 0)) := Vl.newAt _ _ _ (by simp)
  have hsA : ((w.alloc (.cells #[.int .u8 (v.kind : Nat), .string v.text, .int .i64 v.num, .slice pi ni ci, .slice pn nn cn] 26)).alloc (.cells #[.int .u8 k5, .string t5, .int .i64 i5, .slice pi5 ni5 ci5, .slice pn5 nn5 cn5] 26)).heap.size = w.heap.size + 2 := by simp
  have HbA := Lib.hid hbA
  have HX0 := Lib.hid hx0
  have HX1 := Lib.hid hx1
  have HsA := Lib.hid hsA
  generalize Vl.chkW v s x = r at *
  have Hdef := Lib.hid hdef
  generalize Vl.good v = g1 at *
  generalize Vl.good x = g2 at *
  generalize v.kind = k at *
  generalize v.text = t at *
  generalize v.num = i at *
  generalize Vl.nameC s = nm at *
  clear hbA hx0 hx1 hsA hA hX hdef
  go_enter Tryd.func39, Tryd.ntmps39
  go_wp2_with fail
  refine (hc1.out _ HbA.out).mono ?_
  rintro e w1 ⟨rfl, hb1⟩
  have hB1 := HbA.out.trans (hb1.mono HbA.out.size)
  have HB1 := Lib.hid hB1
  have hx0 := (hb1.block w.heap.size (by rw [HsA.out]; omega)).trans HX0.out
  have hx1 := (hb1.block (w.heap.size + 1) (by rw [HsA.out]; omega)).trans HX1.out
  have hs1 : w.heap.size + 2 ≤ w1.heap.size := by have := hb1.size; rwa [HsA.out] at this
  have HX0' := Lib.hid hx0
  have HX1' := Lib.hid hx1
  clear hb1 HX0 HX1 hB1 hx0 hx1 hc1
  cases g1 with
  | false =>
    obtain rfl : r = 2 := Hdef.out
    go_wp2_with fail
    go_ret
    exact ⟨rfl, HB1.out⟩
  | true =>
    obtain ⟨r0, r1, r2, r3, r4⟩ := Vl.five_of HX1'.out
    go_wp2_with fail
    refine (hc2.out _ HB1.out).mono ?_
    rintro e w2 ⟨rfl, hb2⟩
    have HB2 := Lib.hid (HB1.out.trans (hb2.mono HB1.out.size))
    have hx0 := (hb2.block w.heap.size (by omega)).trans HX0'.out
    clear hb2 r0 r1 r2 r3 r4
    cases g2 with
    | false =>
      obtain rfl : r = 2 := Hdef.out
      clear hx0
      go_wp2_with fail
      go_ret
      exact ⟨rfl, HB2.out⟩
    | true =>
      obtain ⟨m0, m1, m2, m3, m4⟩ := Vl.five_of hx0
      clear hx0 HX0' HX1'
      by_cases hk : k = 5
      · subst hk
        obtain rfl : r = nm := Hdef.out
        go_wp2_with fail
        refine (Hn.out _).mono ?_
        rintro e w3 ⟨rfl, rfl⟩
        go_wp2_with fail
        go_ret
        exact ⟨rfl, HB2.out⟩
      · obtain rfl : r = 2 := by have := Hdef.out; simpa [hk] using this
        have hne : ((k : Int) != 5) = true := by rw [bne_iff_ne]; omega
        go_wp2_with fail
        go_ret
        exact ⟨rfl, HB2.out⟩
/-- What is put in, read off blocks of the call's own. -/
theorem Vl.WPost.off {d B : Nat} {k0 : Nat} {t : ByteArray} {n : Int} {is : List Vl.V} {ns : List ByteArray} {W : World} {vi vn : Value} (h : Vl.Rows2 d B W vi vn is ns) (hk : k0 ≤ 255) (ht : t.size ≤ 140737488351232) (hn : Wp.I64 n) (hi : is.length ≤ 140737488351232) (hnl : ns.length ≤ 140737488351232) (hs : ∀ s ∈ ns, s.size ≤ 140737488351232) :
    ∃ pi ci pn cn, vi = .slice pi is.length ci ∧ vn = .slice pn ns.length cn ∧ ∀ W' : World, (∀ j, B ≤ j → j < W.heap.size → W'.heap[j]? = W.heap[j]?) → Vl.At (d + 1) W' (.agg #[.int .u8 (k0 : Nat), .string t, .int .i64 n, .slice pi is.length ci, .slice pn ns.length cn]) (.mk k0 t n is ns) := by
  obtain ⟨pi, ci, pn, cn, e1, e2, hoff⟩ := h.off
  exact ⟨pi, ci, pn, cn, e1, e2, fun W' hW => ⟨pi, ci, pn, cn, rfl, ⟨hk, ht, hn, hi, hnl, hs⟩, (hoff W' hW).2, (hoff W' hW).1⟩⟩
/-- What is read off blocks of the call's own, but for three. -/
def Vl.PH (d B b9 : Nat) (W : World) (p q : Option Nat) (u : Value) (y : Vl.V) : Prop := ∀ W' : World, (∀ j, B ≤ j → j < W.heap.size → j ≠ b9 → some j ≠ p → some j ≠ q → W'.heap[j]? = W.heap[j]?) → Vl.At d W' u y
theorem with_call {d B Bx b9 k0 : Nat} {t : ByteArray} {n : Int} {wA wC Wc : World} {vi vn u : Value} {is : List Vl.V} {ns : List ByteArray} {s : ByteArray} {x : Vl.V} (hRA : Vl.Rows2 d B wA vi vn is ns) (hAC : Below wA.heap.size wA wC) (hCc : Below wC.heap.size wC Wc) (hoC : Vl.Off d Bx wC none u x)
    (hp : wA.heap.size ≤ Bx) (hB : B ≤ wA.heap.size) (h9 : b9 < B ∨ wA.heap.size ≤ b9) (h9x : b9 < Bx ∨ wC.heap.size ≤ b9) (hlen : ns.length = is.length) (hle : is.length ≤ 256) (hr : Vl.rise ⟨#[]⟩ ns = true) :
    Calls Tryd.prog 40 #[.agg #[.int .u8 (k0 : Nat), .string t, .int .i64 n, vi, vn], .string s, u] Wc (Vl.WPost (Vl.PH d B b9 wC vi.ownBlock vn.ownBlock) B k0 t n (Vl.insIs ns is s x) (Vl.insNs ns s) vi.ownBlock vn.ownBlock Wc) := by
  have hl := hRA.lt
  obtain ⟨⟨cs, hO, hc⟩, hN⟩ := hRA
  have hAc := hAC.trans (hCc.mono hAC.size)
  refine with_any _ B k0 t n vi vn is ns s ⟨#[]⟩ x u cs Wc (ownsRow_below hO hAc) (ownsRow_below hN hAc) (fun i y hy => ?_) (fun u y h => ⟨d, wC, h wC (fun _ _ _ _ _ _ => rfl)⟩) (Nat.le_trans hB hAc.size) ?_ hlen hle hr
  · obtain ⟨c0, c1, c2, c3, c4, h5, hoff⟩ := hc i y hy
    refine ⟨c0, c1, c2, c3, c4, h5, fun W' hW => hoff W' (fun j h1 h2 h3 h4 => (hW j h1 (Nat.lt_of_lt_of_le h2 hAC.size) (by omega) h3 h4).trans (hAC.block j h2))⟩
  · exact fun W' hW => hoC W' (fun j h1 h2 _ => hW j (by omega) h2 (by omega) (fun e => by have := (hl.1 j e.symm).2; omega) (fun e => by have := (hl.2 j e.symm).2; omega))
/-- What was put in reads as it is to. -/
theorem Vl.withFin {d B b9 k0 : Nat} {t : ByteArray} {n : Int} {wC wD W9 : World} {p q : Option Nat} {pi pn : Option Addr} {ci cn : Nat} {is : List Vl.V} {ns : List ByteArray} {cs : List Value} (hI : wD.ownsRow B 26 5 (.slice pi is.length ci) is.length cs) (hN : wD.ownsRow B 9 1 (.slice pn ns.length cn) ns.length (ns.map Wp.mkT))
    (hc : ∀ i y, is[i]? = some y → ∃ c0 c1 c2 c3 c4, Vl.Has5 cs (i * 5) c0 c1 c2 c3 c4 ∧ Vl.PH d B b9 wC p q (.agg #[c0, c1, c2, c3, c4]) y) (hk : ∀ j, j < wC.heap.size → some j ≠ p → some j ≠ q → wD.heap[j]? = wC.heap[j]?) (hs : wC.heap.size ≤ wD.heap.size)
    (h9 : ∀ j, j < wD.heap.size → j ≠ b9 → W9.heap[j]? = wD.heap[j]?) (hs9 : wD.heap.size ≤ W9.heap.size) (hp9 : ∀ j, pi.map (·.block) = some j → j ≠ b9) (hn9 : ∀ j, pn.map (·.block) = some j → j ≠ b9)
    (hkd : k0 ≤ 255) (ht : t.size ≤ 140737488351232) (hn : Wp.I64 n) (hi : is.length ≤ 140737488351232) (hnl : ns.length ≤ 140737488351232) (hsm : ∀ s ∈ ns, s.size ≤ 140737488351232) :
    ∀ W2 : World, (∀ j, B ≤ j → j < W9.heap.size → j ≠ b9 → W2.heap[j]? = W9.heap[j]?) → Vl.At (d + 1) W2 (.agg #[.int .u8 (k0 : Nat), .string t, .int .i64 n, .slice pi is.length ci, .slice pn ns.length cn]) (.mk k0 t n is ns) := fun W2 hW => by
  refine ⟨pi, ci, pn, cn, rfl, ⟨hkd, ht, hn, hi, hnl, hsm⟩, ?_, ?_⟩
  · rcases hN.2 with ⟨e, h0⟩ | ⟨g, cap, cur, e, hg, hcell, _, _, _, ht'⟩
    · exact Or.inl (List.length_eq_zero_iff.1 h0)
    · cases e
      refine Or.inr ⟨g, 0, rfl, fun i hi => ?_⟩
      change i < ns.length at hi
      show W2.cell? _ = some (Wp.mkT ns[i])
      have hgl := (Array.getElem?_eq_some_iff.1 hcell).1
      have hg9 : g ≠ b9 := hn9 g rfl
      have hb : W2.heap[g]? = wD.heap[g]? := (hW g hg (by omega) hg9).trans (h9 g hgl hg9)
      rw [Nat.zero_add, Lib.cell_of_heap (hb.trans hcell), ← Array.getElem?_toList]
      have h2 : (cur.toList.take (ns.length * 1))[i]? = (ns.map Wp.mkT)[i]? := by rw [ht']
      rw [List.getElem?_take_of_lt (by omega), List.getElem?_map, List.getElem?_eq_getElem hi] at h2
      exact h2
  · rcases hI.2 with ⟨e, h0⟩ | ⟨g, cap, cur, e, hg, hcell, _, _, _, ht'⟩
    · exact Or.inl (List.length_eq_zero_iff.1 h0)
    · cases e
      refine Or.inr ⟨g, 0, rfl, fun i hi => ?_⟩
      change i < is.length at hi
      have hgl := (Array.getElem?_eq_some_iff.1 hcell).1
      have hg9 : g ≠ b9 := hp9 g rfl
      have hb : W2.heap[g]? = wD.heap[g]? := (hW g hg (by omega) hg9).trans (h9 g hgl hg9)
      obtain ⟨c0, c1, c2, c3, c4, ⟨e0, e1, e2, e3, e4⟩, hoff⟩ := hc i is[i] (List.getElem?_eq_getElem hi)
      have key : ∀ j q, cs[j]? = some q → W2.cell? ⟨g, 0 + j, none⟩ = some q := fun j q hq => by
        rw [Nat.zero_add, Lib.cell_of_heap (hb.trans hcell), ← Array.getElem?_toList]
        rw [← ht'] at hq
        obtain ⟨hjl, _⟩ := List.getElem?_eq_some_iff.1 hq
        rw [List.length_take] at hjl
        rwa [List.getElem?_take_of_lt (by omega)] at hq
      exact ⟨c0, c1, c2, c3, c4, ⟨key _ _ e0, key _ _ e1, key _ _ e2, key _ _ e3, key _ _ e4⟩, hoff W2 (fun j h1 h2 h3 h4 h5 => (hW j h1 (by omega) h3).trans ((h9 j (by omega) h3).trans (hk j h2 h4 h5)))⟩
/-- What With hands back. -/
def Vl.TPost (d : Nat) (T : Vl.V × Int) (w : World) (e : Ending) (w' : World) : Prop := ∃ u, e = .returned (.tuple #[u, .int .i64 T.2]) ∧ Vl.At (d + 1) w' u T.1 ∧ Below w.heap.size w w'
theorem Vl.withR_bad {v x : Vl.V} {s : ByteArray} (h : Vl.chkW v s x ≠ 0) : Vl.withR v s x = (Vl.zero, Vl.chkW v s x) := by
  unfold Vl.chkW at h ⊢
  unfold Vl.withR
  cases hg : Vl.good v with
  | false => rfl
  | true =>
    cases hx : Vl.good x with
    | false => rfl
    | true =>
      by_cases hk : v.kind = 5
      · simp only [hg, hx, hk, if_true] at h ⊢
        unfold Vl.nameC at h ⊢
        cases hn : Vl.named s with
        | false => rfl
        | true => rw [hn] at h; exact absurd rfl h
      · simp [hk]
theorem Vl.chkW_ok {v x : Vl.V} {s : ByteArray} (h : Vl.chkW v s x = 0) : Vl.good v = true ∧ Vl.good x = true ∧ v.kind = 5 ∧ Vl.named s = true := by
  unfold Vl.chkW Vl.nameC at h
  split at h
  · split at h
    · split at h
      · split at h
        · exact ⟨by assumption, by assumption, by assumption, by assumption⟩
        · omega
      · omega
    · omega
  · omega
theorem Vl.withR_ok {v x : Vl.V} {s : ByteArray} (h : Vl.chkW v s x = 0) : Vl.withR v s x = if Vl.good (Vl.withV v s x) then (Vl.withV v s x, 0) else (Vl.zero, 11) := by
  obtain ⟨h1, h2, h3, h4⟩ := Vl.chkW_ok h
  unfold Vl.withR
  rw [h1, h2, h4, h3]
  cases Vl.good (Vl.withV v s x) <;> rfl
theorem Vl.insNs_len {ns : List ByteArray} {s : ByteArray} (h : ns.length ≤ 256) (hs : s.size ≤ 140737488351232) (hn : ∀ x ∈ ns, x.size ≤ 140737488351232) : (Vl.insNs ns s).length ≤ 140737488351232 ∧ ∀ x ∈ Vl.insNs ns s, x.size ≤ 140737488351232 := by
  unfold Vl.insNs
  split
  · exact ⟨by omega, hn⟩
  · refine ⟨by simp; omega, fun x hx => ?_⟩
    rcases List.mem_append.1 hx with h1 | h1
    · exact hn x (List.mem_of_mem_take h1)
    · rcases List.mem_cons.1 h1 with rfl | h1
      · exact hs
      · exact hn x (List.mem_of_mem_drop h1)
theorem Vl.insIs_len {ns : List ByteArray} {is : List Vl.V} {s : ByteArray} {x : Vl.V} (h : is.length ≤ 256) : (Vl.insIs ns is s x).length ≤ 140737488351232 := by
  unfold Vl.insIs
  split
  · rw [List.length_set]; omega
  · simp; omega
set_option maxRecDepth 100000 in
set_option maxHeartbeats 1000000 in
theorem vlWith_any (d : Nat) (v x : Vl.V) (a b : Value) (s : ByteArray) (w : World) (hs : s.size ≤ 140737488351232) (hA : Vl.At (d + 1) w a v) (hX : Vl.At d w b x) :
    Calls Tryd.prog 14 #[a, .string s, b] w (Vl.TPost d (Vl.withR v s x) w) := by
  have hck := Lib.hid (fun W (h : Below w.heap.size w W) => checkWith_any (d + 1) v x a b s W hs (hA.below h) (hX.succ.below h))
  have HcV := Lib.hid (fun (hg : Vl.good v = true) W (h : Below w.heap.size w W) => copiedR_any d v a W (hA.below h) (Vl.few_of _ _ (Vl.Okay.of hg).1 (Vl.Okay.of hg).2))
  have HcX := Lib.hid (fun (hg : Vl.good x = true) W (h : Below w.heap.size w W) => copied_any d x b W (hX.below h) (Vl.few_of _ _ (Vl.Okay.of hg).1 (Vl.Okay.of hg).2))
  have HcT := Lib.hid (fun W => vlClone_any s W (by omega))
  obtain ⟨pi, ci, pn, cn, rfl, ⟨q1, q2, q3, q4, q5, q6⟩, -, -⟩ := hA
  obtain ⟨k5, t5, i5, pi5, ni5, ci5, pn5, nn5, cn5, rfl⟩ := hX.shape
  have hb0 : Below w.heap.size w (((w.alloc (.cells #[.int .u8 (v.kind : Nat), .string v.text, .int .i64 v.num, .slice pi v.items.length ci, .slice pn v.names.length cn] 26)).alloc (.cells #[.int .u8 k5, .string t5, .int .i64 i5, .slice pi5 ni5 ci5, .slice pn5 nn5 cn5] 26)).alloc (.cells #[.int .u8 0, .string ⟨#[]⟩, .int .i64 0, .slice none 0 0, .slice none 0 0] 26)) := (((Below.refl w.heap.size w).alloc (Nat.le_refl _) _).alloc (by simp) _).alloc (by simp; omega) _
  have hs0 : (((w.alloc (.cells #[.int .u8 (v.kind : Nat), .string v.text, .int .i64 v.num, .slice pi v.items.length ci, .slice pn v.names.length cn] 26)).alloc (.cells #[.int .u8 k5, .string t5, .int .i64 i5, .slice pi5 ni5 ci5, .slice pn5 nn5 cn5] 26)).alloc (.cells #[.int .u8 0, .string ⟨#[]⟩, .int .i64 0, .slice none 0 0, .slice none 0 0] 26)).heap.size = w.heap.size + 3 := by simp
  have hx0 : (((w.alloc (.cells #[.int .u8 (v.kind : Nat), .string v.text, .int .i64 v.num, .slice pi v.items.length ci, .slice pn v.names.length cn] 26)).alloc (.cells #[.int .u8 k5, .string t5, .int .i64 i5, .slice pi5 ni5 ci5, .slice pn5 nn5 cn5] 26)).alloc (.cells #[.int .u8 0, .string ⟨#[]⟩, .int .i64 0, .slice none 0 0, .slice none 0 0] 26)).heap[w.heap.size]? = some (.cells #[.int .u8 (v.kind : Nat), .string v.text, .int .i64 v.num, .slice pi v.items.length ci, .slice pn v.names.length cn] 26 (0, 0)) := by rw [Vl.past _ _ _ (by simp; omega), Vl.past _ _ _ (by simp)]; exact Vl.new _ _
  have hx1 : (((w.alloc (.cells #[.int .u8 (v.kind : Nat), .string v.text, .int .i64 v.num, .slice pi v.items.length ci, .slice pn v.names.length cn] 26)).alloc (.cells #[.int .u8 k5, .string t5, .int .i64 i5, .slice pi5 ni5 ci5, .slice pn5 nn5 cn5] 26)).alloc (.cells #[.int .u8 0, .string ⟨#[]⟩, .int .i64 0, .slice none 0 0, .slice none 0 0] 26)).heap[w.heap.size + 1]? = some (.cells #[.int .u8 k5, .string t5, .int .i64 i5, .slice pi5 ni5 ci5, .slice pn5 nn5 cn5] 26 (0, 0)) := by rw [Vl.past _ _ _ (by simp)]; exact Vl.newAt _ _ _ (by simp)
  have hx2 : (((w.alloc (.cells #[.int .u8 (v.kind : Nat), .string v.text, .int .i64 v.num, .slice pi v.items.length ci, .slice pn v.names.length cn] 26)).alloc (.cells #[.int .u8 k5, .string t5, .int .i64 i5, .slice pi5 ni5 ci5, .slice pn5 nn5 cn5] 26)).alloc (.cells #[.int .u8 0, .string ⟨#[]⟩, .int .i64 0, .slice none 0 0, .slice none 0 0] 26)).heap[w.heap.size + 2]? = some (.cells #[.int .u8 0, .string ⟨#[]⟩, .int .i64 0, .slice none 0 0, .slice none 0 0] 26 (0, 0)) := Vl.newAt _ _ _ (by simp)
  have Hb0 := Lib.hid hb0
  have Hs0 := Lib.hid hs0
  have HX0 := Lib.hid hx0
  have HX1 := Lib.hid hx1
  have HX2 := Lib.hid hx2
  have Hbad := Lib.hid (fun (h : Vl.chkW v s x ≠ 0) => Vl.withR_bad h)
  have Hok := Lib.hid (fun (h : Vl.chkW v s x = 0) => Vl.withR_ok h)
  have Hgd := Lib.hid (fun (h : Vl.chkW v s x = 0) => (⟨(Vl.chkW_ok h).1, (Vl.chkW_ok h).2.1⟩ : Vl.good v = true ∧ Vl.good x = true))
  have Hfacts := Lib.hid (fun (h : Vl.chkW v s x = 0) => (⟨(Vl.goodMap (Vl.chkW_ok h).1 (Vl.chkW_ok h).2.2.1).1, (Vl.goodMap (Vl.chkW_ok h).1 (Vl.chkW_ok h).2.2.1).2.1, (by have hc := (Vl.Okay.of (Vl.chkW_ok h).1).2; have hcl := Vl.cntL_len v.items; rw [Vl.V.cnt_eq] at hc; omega)⟩ : Vl.rise ⟨#[]⟩ v.names = true ∧ v.names.length = v.items.length ∧ v.items.length ≤ 256))
  have HxV := Lib.hid (Vl.withV_eq v s x)
  have Q6 := Lib.hid q6
  clear hb0 hs0 hx0 hx1 hx2 hX q6
  generalize Vl.withR v s x = T at *
  generalize Vl.withV v s x = xV at *
  generalize Vl.chkW v s x = c at *
  generalize v.kind = k at *
  generalize v.text = t at *
  generalize v.num = i at *
  go_enter Tryd.func14, Tryd.ntmps14
  go_wp2_with fail
  refine (hck.out _ Hb0.out).mono ?_
  rintro e w1 ⟨rfl, hb1⟩
  have hs1 : w.heap.size + 3 ≤ w1.heap.size := by have := hb1.size; rwa [Hs0.out] at this
  have HB1 := Lib.hid (Hb0.out.trans (hb1.mono (by rw [Hs0.out]; omega)))
  have hx0 := (hb1.block w.heap.size (by rw [Hs0.out]; omega)).trans HX0.out
  have hx1 := (hb1.block (w.heap.size + 1) (by rw [Hs0.out]; omega)).trans HX1.out
  have hx2 := (hb1.block (w.heap.size + 2) (by rw [Hs0.out]; omega)).trans HX2.out
  have HR1 := Lib.hid hx2
  clear hb1 Hb0 HX0 HX1 HX2 Hs0 hck
  by_cases hc : c = 0
  · subst hc
    have HT := Lib.hid (Hok.out rfl)
    obtain ⟨g1, g2⟩ := Hgd.out rfl
    obtain ⟨m0, m1, m2, m3, m4⟩ := Vl.five_of hx0
    obtain ⟨r0, r1, r2, r3, r4⟩ := Vl.five_of hx1
    have HKp : Hid (∀ w' : World, Below w1.heap.size w1 w' → (fun w' => w'.cell? ⟨w.heap.size, 0, none⟩ = some (.int .u8 (k : Nat)) ∧ w'.cell? ⟨w.heap.size, 1, none⟩ = some (.string t) ∧ w'.cell? ⟨w.heap.size, 2, none⟩ = some (.int .i64 i) ∧ w'.cell? ⟨w.heap.size, 3, none⟩ = some (.slice pi v.items.length ci) ∧ w'.cell? ⟨w.heap.size, 4, none⟩ = some (.slice pn v.names.length cn) ∧ w'.cell? ⟨w.heap.size + 1, 0, none⟩ = some (.int .u8 k5) ∧ w'.cell? ⟨w.heap.size + 1, 1, none⟩ = some (.string t5) ∧ w'.cell? ⟨w.heap.size + 1, 2, none⟩ = some (.int .i64 i5) ∧ w'.cell? ⟨w.heap.size + 1, 3, none⟩ = some (.slice pi5 ni5 ci5) ∧ w'.cell? ⟨w.heap.size + 1, 4, none⟩ = some (.slice pn5 nn5 cn5)) w') := Lib.hid (fun w' h => ⟨(h.cell (p := ⟨w.heap.size, 0, none⟩) (by show w.heap.size < _; omega)).trans m0, (h.cell (p := ⟨w.heap.size, 1, none⟩) (by show w.heap.size < _; omega)).trans m1, (h.cell (p := ⟨w.heap.size, 2, none⟩) (by show w.heap.size < _; omega)).trans m2, (h.cell (p := ⟨w.heap.size, 3, none⟩) (by show w.heap.size < _; omega)).trans m3, (h.cell (p := ⟨w.heap.size, 4, none⟩) (by show w.heap.size < _; omega)).trans m4, (h.cell (p := ⟨w.heap.size + 1, 0, none⟩) (by show w.heap.size + 1 < _; omega)).trans r0, (h.cell (p := ⟨w.heap.size + 1, 1, none⟩) (by show w.heap.size + 1 < _; omega)).trans r1, (h.cell (p := ⟨w.heap.size + 1, 2, none⟩) (by show w.heap.size + 1 < _; omega)).trans r2, (h.cell (p := ⟨w.heap.size + 1, 3, none⟩) (by show w.heap.size + 1 < _; omega)).trans r3, (h.cell (p := ⟨w.heap.size + 1, 4, none⟩) (by show w.heap.size + 1 < _; omega)).trans r4⟩)
    have HKq : Hid (∀ (w' : World) (q : Nat) (a b c d e : Value), Below w1.heap.size w1 w' → w.heap.size + 2 ≤ q → (fun w' => w'.cell? ⟨w.heap.size, 0, none⟩ = some (.int .u8 (k : Nat)) ∧ w'.cell? ⟨w.heap.size, 1, none⟩ = some (.string t) ∧ w'.cell? ⟨w.heap.size, 2, none⟩ = some (.int .i64 i) ∧ w'.cell? ⟨w.heap.size, 3, none⟩ = some (.slice pi v.items.length ci) ∧ w'.cell? ⟨w.heap.size, 4, none⟩ = some (.slice pn v.names.length cn) ∧ w'.cell? ⟨w.heap.size + 1, 0, none⟩ = some (.int .u8 k5) ∧ w'.cell? ⟨w.heap.size + 1, 1, none⟩ = some (.string t5) ∧ w'.cell? ⟨w.heap.size + 1, 2, none⟩ = some (.int .i64 i5) ∧ w'.cell? ⟨w.heap.size + 1, 3, none⟩ = some (.slice pi5 ni5 ci5) ∧ w'.cell? ⟨w.heap.size + 1, 4, none⟩ = some (.slice pn5 nn5 cn5)) (((((w'.setCell ⟨q, 0, none⟩ a).setCell ⟨q, 1, none⟩ b).setCell ⟨q, 2, none⟩ c).setCell ⟨q, 3, none⟩ d).setCell ⟨q, 4, none⟩ e)) := Lib.hid (fun w' q a b c d e h hq => by
      obtain ⟨o0, o1, o2, o3, o4, o5, o6, o7, o8, o9⟩ := HKp.out w' h
      exact ⟨(World.cell?_of_block (a := ⟨w.heap.size, 0, none⟩) (Vl.set5_rest w' q a b c d e (w.heap.size) (by omega))).trans o0, (World.cell?_of_block (a := ⟨w.heap.size, 1, none⟩) (Vl.set5_rest w' q a b c d e (w.heap.size) (by omega))).trans o1, (World.cell?_of_block (a := ⟨w.heap.size, 2, none⟩) (Vl.set5_rest w' q a b c d e (w.heap.size) (by omega))).trans o2, (World.cell?_of_block (a := ⟨w.heap.size, 3, none⟩) (Vl.set5_rest w' q a b c d e (w.heap.size) (by omega))).trans o3, (World.cell?_of_block (a := ⟨w.heap.size, 4, none⟩) (Vl.set5_rest w' q a b c d e (w.heap.size) (by omega))).trans o4, (World.cell?_of_block (a := ⟨w.heap.size + 1, 0, none⟩) (Vl.set5_rest w' q a b c d e (w.heap.size + 1) (by omega))).trans o5, (World.cell?_of_block (a := ⟨w.heap.size + 1, 1, none⟩) (Vl.set5_rest w' q a b c d e (w.heap.size + 1) (by omega))).trans o6, (World.cell?_of_block (a := ⟨w.heap.size + 1, 2, none⟩) (Vl.set5_rest w' q a b c d e (w.heap.size + 1) (by omega))).trans o7, (World.cell?_of_block (a := ⟨w.heap.size + 1, 3, none⟩) (Vl.set5_rest w' q a b c d e (w.heap.size + 1) (by omega))).trans o8, (World.cell?_of_block (a := ⟨w.heap.size + 1, 4, none⟩) (Vl.set5_rest w' q a b c d e (w.heap.size + 1) (by omega))).trans o9⟩)
    have HV1 := Lib.hid (fun W (h : Below w1.heap.size w1 W) => HcV.out g1 W (HB1.out.trans (h.mono (by omega))))
    have HX1 := Lib.hid (fun W (h : Below w1.heap.size w1 W) => HcX.out g2 W (HB1.out.trans (h.mono (by omega))))
    have HF := Lib.hid (Hfacts.out rfl)
    clear hx0 hx1 hx2 Hbad Hok Hgd HcV HcX Hfacts g1 g2
    go_wp2_with fail
    have nc0 : ∀ W : World, (W.alloc (.cells #[.int .u8 0, .string ⟨#[]⟩, .int .i64 0, .slice none 0 0, .slice none 0 0] 26)).cell? ⟨W.heap.size, 0, none⟩ = some (.int .u8 0) := fun W => (Vl.five_of (Vl.new W (.cells #[.int .u8 0, .string ⟨#[]⟩, .int .i64 0, .slice none 0 0, .slice none 0 0] 26))).1
    have nf0 : ∀ W : World, (W.alloc (.cells #[.int .u8 0, .string ⟨#[]⟩, .int .i64 0, .slice none 0 0, .slice none 0 0] 26)).frozen? ⟨W.heap.size, 0, none⟩ = false := fun W => (Vl.fiveF_of (Vl.new W (.cells #[.int .u8 0, .string ⟨#[]⟩, .int .i64 0, .slice none 0 0, .slice none 0 0] 26))).1
    have nc1 : ∀ W : World, (W.alloc (.cells #[.int .u8 0, .string ⟨#[]⟩, .int .i64 0, .slice none 0 0, .slice none 0 0] 26)).cell? ⟨W.heap.size, 1, none⟩ = some (.string ⟨#[]⟩) := fun W => (Vl.five_of (Vl.new W (.cells #[.int .u8 0, .string ⟨#[]⟩, .int .i64 0, .slice none 0 0, .slice none 0 0] 26))).2.1
    have nf1 : ∀ W : World, (W.alloc (.cells #[.int .u8 0, .string ⟨#[]⟩, .int .i64 0, .slice none 0 0, .slice none 0 0] 26)).frozen? ⟨W.heap.size, 1, none⟩ = false := fun W => (Vl.fiveF_of (Vl.new W (.cells #[.int .u8 0, .string ⟨#[]⟩, .int .i64 0, .slice none 0 0, .slice none 0 0] 26))).2.1
    have nc2 : ∀ W : World, (W.alloc (.cells #[.int .u8 0, .string ⟨#[]⟩, .int .i64 0, .slice none 0 0, .slice none 0 0] 26)).cell? ⟨W.heap.size, 2, none⟩ = some (.int .i64 0) := fun W => (Vl.five_of (Vl.new W (.cells #[.int .u8 0, .string ⟨#[]⟩, .int .i64 0, .slice none 0 0, .slice none 0 0] 26))).2.2.1
    have nf2 : ∀ W : World, (W.alloc (.cells #[.int .u8 0, .string ⟨#[]⟩, .int .i64 0, .slice none 0 0, .slice none 0 0] 26)).frozen? ⟨W.heap.size, 2, none⟩ = false := fun W => (Vl.fiveF_of (Vl.new W (.cells #[.int .u8 0, .string ⟨#[]⟩, .int .i64 0, .slice none 0 0, .slice none 0 0] 26))).2.2.1
    have nc3 : ∀ W : World, (W.alloc (.cells #[.int .u8 0, .string ⟨#[]⟩, .int .i64 0, .slice none 0 0, .slice none 0 0] 26)).cell? ⟨W.heap.size, 3, none⟩ = some (.slice none 0 0) := fun W => (Vl.five_of (Vl.new W (.cells #[.int .u8 0, .string ⟨#[]⟩, .int .i64 0, .slice none 0 0, .slice none 0 0] 26))).2.2.2.1
    have nf3 : ∀ W : World, (W.alloc (.cells #[.int .u8 0, .string ⟨#[]⟩, .int .i64 0, .slice none 0 0, .slice none 0 0] 26)).frozen? ⟨W.heap.size, 3, none⟩ = false := fun W => (Vl.fiveF_of (Vl.new W (.cells #[.int .u8 0, .string ⟨#[]⟩, .int .i64 0, .slice none 0 0, .slice none 0 0] 26))).2.2.2.1
    have nc4 : ∀ W : World, (W.alloc (.cells #[.int .u8 0, .string ⟨#[]⟩, .int .i64 0, .slice none 0 0, .slice none 0 0] 26)).cell? ⟨W.heap.size, 4, none⟩ = some (.slice none 0 0) := fun W => (Vl.five_of (Vl.new W (.cells #[.int .u8 0, .string ⟨#[]⟩, .int .i64 0, .slice none 0 0, .slice none 0 0] 26))).2.2.2.2
    have nf4 : ∀ W : World, (W.alloc (.cells #[.int .u8 0, .string ⟨#[]⟩, .int .i64 0, .slice none 0 0, .slice none 0 0] 26)).frozen? ⟨W.heap.size, 4, none⟩ = false := fun W => (Vl.fiveF_of (Vl.new W (.cells #[.int .u8 0, .string ⟨#[]⟩, .int .i64 0, .slice none 0 0, .slice none 0 0] 26))).2.2.2.2
    go_region_held3 (fun w' => w'.cell? ⟨w.heap.size, 0, none⟩ = some (.int .u8 (k : Nat)) ∧ w'.cell? ⟨w.heap.size, 1, none⟩ = some (.string t) ∧ w'.cell? ⟨w.heap.size, 2, none⟩ = some (.int .i64 i) ∧ w'.cell? ⟨w.heap.size, 3, none⟩ = some (.slice pi v.items.length ci) ∧ w'.cell? ⟨w.heap.size, 4, none⟩ = some (.slice pn v.names.length cn) ∧ w'.cell? ⟨w.heap.size + 1, 0, none⟩ = some (.int .u8 k5) ∧ w'.cell? ⟨w.heap.size + 1, 1, none⟩ = some (.string t5) ∧ w'.cell? ⟨w.heap.size + 1, 2, none⟩ = some (.int .i64 i5) ∧ w'.cell? ⟨w.heap.size + 1, 3, none⟩ = some (.slice pi5 ni5 ci5) ∧ w'.cell? ⟨w.heap.size + 1, 4, none⟩ = some (.slice pn5 nn5 cn5))
      (first | (with_reducible exact HKp.out _ eD) | (with_reducible exact HKq.out _ _ _ _ _ _ _ eD hq9) | (with_reducible exact HKp.out _ (eD.alloc eD.size _)) | (with_reducible exact HKp.out _ eC) | (with_reducible exact HKp.out _ (eC.alloc eC.size _)) | (with_reducible exact HKp.out _ eB) | (with_reducible exact HKp.out _ (eB.alloc eB.size _)) | (with_reducible exact HKp.out _ eA) | (with_reducible exact HKp.out _ (eA.alloc eA.size _)) | (with_reducible exact HKp.out _ ((Below.refl _ w1).drew.alloc (Nat.le_refl _) _)) | (go_keep; done))
      (first
        | (go_at_call 41; (with_reducible refine (HV1.out _ (Below.refl _ w1).drew).mono ?_); rintro e wA ⟨vi', vn', rfl, hRA, hbA, hzA⟩; obtain ⟨pi', ci', pn', cn', rfl, rfl, -⟩ := hRA.off; have hl := hRA.lt; have eA : Below w1.heap.size w1 wA := ((Below.refl _ w1).drew.trans hbA))
        | (go_at_call 41; (with_reducible refine (HV1.out _ (((Below.refl _ w1).alloc (Nat.le_refl _) (.cells #[.int .u8 0, .string ⟨#[]⟩, .int .i64 0, .slice none 0 0, .slice none 0 0] 26)).drew)).mono ?_); rintro e wA ⟨vi', vn', rfl, hRA, hbA, hzA⟩; obtain ⟨pi', ci', pn', cn', rfl, rfl, -⟩ := hRA.off; have hl := hRA.lt; have eA : Below w1.heap.size w1 wA := (((Below.refl _ w1).alloc (Nat.le_refl _) (.cells #[.int .u8 0, .string ⟨#[]⟩, .int .i64 0, .slice none 0 0, .slice none 0 0] 26)).drew.trans (hbA.mono (by show w1.heap.size ≤ (w1.alloc (.cells #[.int .u8 0, .string ⟨#[]⟩, .int .i64 0, .slice none 0 0, .slice none 0 0] 26)).heap.size; rw [World.size_alloc]; omega))); have hsQ : (w1.alloc (.cells #[.int .u8 0, .string ⟨#[]⟩, .int .i64 0, .slice none 0 0, .slice none 0 0] 26)).drew.heap.size = w1.heap.size + 1 := World.size_alloc _ _; have hx9 : wA.heap[w1.heap.size]? = some (.cells #[.int .u8 0, .string ⟨#[]⟩, .int .i64 0, .slice none 0 0, .slice none 0 0] 26 (0, 0)) := (hbA.block _ (by rw [hsQ]; omega)).trans (Vl.new w1 (.cells #[.int .u8 0, .string ⟨#[]⟩, .int .i64 0, .slice none 0 0, .slice none 0 0] 26)); have hAlt1 : w1.heap.size < wA.heap.size := (Array.getElem?_eq_some_iff.1 hx9).1)
        | (go_at_call 37; (with_reducible refine (HcT.out wA).mono ?_); rintro e wB ⟨rfl, hbB⟩; have eB : Below w1.heap.size w1 wB := eA.trans (hbB.mono eA.size); have eAB : Below wA.heap.size wA wB := hbB; try (replace hx9 := (eAB.block _ (Array.getElem?_eq_some_iff.1 hx9).1).trans hx9))
        | (go_at_call 37; (with_reducible refine (HcT.out (wA.alloc (.cells #[.int .u8 0, .string ⟨#[]⟩, .int .i64 0, .slice none 0 0, .slice none 0 0] 26))).mono ?_); rintro e wB ⟨rfl, hbB⟩; have eAB : Below wA.heap.size wA wB := ((Below.refl _ wA).alloc (Nat.le_refl _) (.cells #[.int .u8 0, .string ⟨#[]⟩, .int .i64 0, .slice none 0 0, .slice none 0 0] 26)).trans (hbB.mono (by simp)); have eB : Below w1.heap.size w1 wB := eA.trans (eAB.mono eA.size); have hx9 : wB.heap[wA.heap.size]? = some (.cells #[.int .u8 0, .string ⟨#[]⟩, .int .i64 0, .slice none 0 0, .slice none 0 0] 26 (0, 0)) := (hbB.block _ (by simp)).trans (Vl.new wA (.cells #[.int .u8 0, .string ⟨#[]⟩, .int .i64 0, .slice none 0 0, .slice none 0 0] 26)); have hAlt : wA.heap.size < wB.heap.size := (Array.getElem?_eq_some_iff.1 hx9).1)
        | (go_at_call 41; (with_reducible refine (HX1.out wB eB).mono ?_); rintro e wC ⟨u', rfl, hoC, hbC⟩; obtain ⟨k6, t6, i6, pi6, ni6, ci6, pn6, nn6, cn6, rfl⟩ := hoC.at.shape; have eBC : Below wB.heap.size wB wC := hbC; have eC : Below w1.heap.size w1 wC := eB.trans (eBC.mono eB.size); have eAC : Below wA.heap.size wA wC := eAB.trans (eBC.mono eAB.size); have hBx := eAB.size; try (replace hx9 := (eBC.block _ (Array.getElem?_eq_some_iff.1 hx9).1).trans hx9))
        | (go_at_call 41; (with_reducible refine (HX1.out (wB.alloc (.cells #[.int .u8 0, .string ⟨#[]⟩, .int .i64 0, .slice none 0 0, .slice none 0 0] 26)) (eB.alloc eB.size (.cells #[.int .u8 0, .string ⟨#[]⟩, .int .i64 0, .slice none 0 0, .slice none 0 0] 26))).mono ?_); rintro e wC ⟨u', rfl, hoC, hbC⟩; obtain ⟨k6, t6, i6, pi6, ni6, ci6, pn6, nn6, cn6, rfl⟩ := hoC.at.shape; have eBC : Below wB.heap.size wB wC := ((Below.refl _ wB).alloc (Nat.le_refl _) (.cells #[.int .u8 0, .string ⟨#[]⟩, .int .i64 0, .slice none 0 0, .slice none 0 0] 26)).trans (hbC.mono (by simp)); have eC : Below w1.heap.size w1 wC := eB.trans (eBC.mono eB.size); have eAC : Below wA.heap.size wA wC := eAB.trans (eBC.mono eAB.size); have hsB : (wB.alloc (.cells #[.int .u8 0, .string ⟨#[]⟩, .int .i64 0, .slice none 0 0, .slice none 0 0] 26)).heap.size = wB.heap.size + 1 := World.size_alloc _ _; have hBx : wA.heap.size ≤ (wB.alloc (.cells #[.int .u8 0, .string ⟨#[]⟩, .int .i64 0, .slice none 0 0, .slice none 0 0] 26)).heap.size := (by have := eAB.size; omega); have hx9 : wC.heap[wB.heap.size]? = some (.cells #[.int .u8 0, .string ⟨#[]⟩, .int .i64 0, .slice none 0 0, .slice none 0 0] 26 (0, 0)) := (hbC.block _ (by simp)).trans (Vl.new wB (.cells #[.int .u8 0, .string ⟨#[]⟩, .int .i64 0, .slice none 0 0, .slice none 0 0] 26)))
        | (go_at_call 40; have hy9 : wC.heap[wB.heap.size]? = some (.cells #[.int .u8 0, .string ⟨#[]⟩, .int .i64 0, .slice none 0 0, .slice none 0 0] 26 (0, 0)) := (by with_reducible exact hx9); (with_reducible refine (with_call (b9 := wB.heap.size) hRA eAC (Below.refl _ wC) hoC hBx hzA (Or.inr eAB.size) (Or.inl (by omega)) HF.out.2.1 HF.out.2.2 HF.out.1).mono ?_); rintro e wD ⟨vi7, vn7, cs7, rfl, l1, l2, l3, l4, l5, l6, l7, l8⟩; obtain ⟨pi7, ci7, rfl⟩ := Vl.own_shape l1; obtain ⟨pn7, cn7, rfl⟩ := Vl.own_shape l2; have hzw : w1.drew.heap.size = w1.heap.size := rfl; have hsA := eA.size; have hsAB := eAB.size; have hsBC := eBC.size; have hsAC := eAC.size; have eD : Below w1.heap.size w1 wD := eC.trans (l8.mono (by omega)); have hx9D : wD.heap[wB.heap.size]? = some (.cells #[.int .u8 0, .string ⟨#[]⟩, .int .i64 0, .slice none 0 0, .slice none 0 0] 26 (0, 0)) := (l4 _ (Array.getElem?_eq_some_iff.1 hy9).1 (fun e => by have h1 := (hl.1 _ e.symm).1; have h2 := (hl.1 _ e.symm).2; omega) (fun e => by have h1 := (hl.2 _ e.symm).1; have h2 := (hl.2 _ e.symm).2; omega)).trans hy9; obtain ⟨y0, y1, y2, y3, y4⟩ := Vl.five_of hx9D; obtain ⟨z0, z1, z2, z3, z4⟩ := Vl.fiveF_of hx9D; have hq9 : w.heap.size + 2 ≤ wB.heap.size := (by omega))
        | (go_at_call 40; have hy9 : wC.heap[wA.heap.size]? = some (.cells #[.int .u8 0, .string ⟨#[]⟩, .int .i64 0, .slice none 0 0, .slice none 0 0] 26 (0, 0)) := (by with_reducible exact hx9); (with_reducible refine (with_call (b9 := wA.heap.size) hRA eAC (Below.refl _ wC) hoC hBx hzA (Or.inr (Nat.le_refl _)) (Or.inl hAlt) HF.out.2.1 HF.out.2.2 HF.out.1).mono ?_); rintro e wD ⟨vi7, vn7, cs7, rfl, l1, l2, l3, l4, l5, l6, l7, l8⟩; obtain ⟨pi7, ci7, rfl⟩ := Vl.own_shape l1; obtain ⟨pn7, cn7, rfl⟩ := Vl.own_shape l2; have hzw : w1.drew.heap.size = w1.heap.size := rfl; have hsA := eA.size; have hsAB := eAB.size; have hsBC := eBC.size; have hsAC := eAC.size; have eD : Below w1.heap.size w1 wD := eC.trans (l8.mono (by omega)); have hx9D : wD.heap[wA.heap.size]? = some (.cells #[.int .u8 0, .string ⟨#[]⟩, .int .i64 0, .slice none 0 0, .slice none 0 0] 26 (0, 0)) := (l4 _ (Array.getElem?_eq_some_iff.1 hy9).1 (fun e => by have h1 := (hl.1 _ e.symm).1; have h2 := (hl.1 _ e.symm).2; omega) (fun e => by have h1 := (hl.2 _ e.symm).1; have h2 := (hl.2 _ e.symm).2; omega)).trans hy9; obtain ⟨y0, y1, y2, y3, y4⟩ := Vl.five_of hx9D; obtain ⟨z0, z1, z2, z3, z4⟩ := Vl.fiveF_of hx9D; have hq9 : w.heap.size + 2 ≤ wA.heap.size := (by omega))
        | (go_at_call 40; have hy9 : wC.heap[w1.heap.size]? = some (.cells #[.int .u8 0, .string ⟨#[]⟩, .int .i64 0, .slice none 0 0, .slice none 0 0] 26 (0, 0)) := (by with_reducible exact hx9); (with_reducible refine (with_call (b9 := w1.heap.size) hRA eAC (Below.refl _ wC) hoC hBx hzA (Or.inl (by omega)) (Or.inl (by have := eA.size; have := hAlt1; have := eAB.size; omega)) HF.out.2.1 HF.out.2.2 HF.out.1).mono ?_); rintro e wD ⟨vi7, vn7, cs7, rfl, l1, l2, l3, l4, l5, l6, l7, l8⟩; obtain ⟨pi7, ci7, rfl⟩ := Vl.own_shape l1; obtain ⟨pn7, cn7, rfl⟩ := Vl.own_shape l2; have hzw : w1.drew.heap.size = w1.heap.size := rfl; have hsA := eA.size; have hsAB := eAB.size; have hsBC := eBC.size; have hsAC := eAC.size; have eD : Below w1.heap.size w1 wD := eC.trans (l8.mono (by omega)); have hx9D : wD.heap[w1.heap.size]? = some (.cells #[.int .u8 0, .string ⟨#[]⟩, .int .i64 0, .slice none 0 0, .slice none 0 0] 26 (0, 0)) := (l4 _ (Array.getElem?_eq_some_iff.1 hy9).1 (fun e => by have h1 := (hl.1 _ e.symm).1; have h2 := (hl.1 _ e.symm).2; omega) (fun e => by have h1 := (hl.2 _ e.symm).1; have h2 := (hl.2 _ e.symm).2; omega)).trans hy9; obtain ⟨y0, y1, y2, y3, y4⟩ := Vl.five_of hx9D; obtain ⟨z0, z1, z2, z3, z4⟩ := Vl.fiveF_of hx9D; have hq9 : w.heap.size + 2 ≤ w1.heap.size := (by omega))
        | (go_at_call 40; (with_reducible refine (with_call (b9 := wC.heap.size) (Wc := wC.alloc (.cells #[.int .u8 0, .string ⟨#[]⟩, .int .i64 0, .slice none 0 0, .slice none 0 0] 26)) hRA eAC ((Below.refl _ wC).alloc (Nat.le_refl _) (.cells #[.int .u8 0, .string ⟨#[]⟩, .int .i64 0, .slice none 0 0, .slice none 0 0] 26)) hoC hBx hzA (Or.inr eAC.size) (Or.inr (Nat.le_refl _)) HF.out.2.1 HF.out.2.2 HF.out.1).mono ?_); rintro e wD ⟨vi7, vn7, cs7, rfl, l1, l2, l3, l4, l5, l6, l7, l8⟩; obtain ⟨pi7, ci7, rfl⟩ := Vl.own_shape l1; obtain ⟨pn7, cn7, rfl⟩ := Vl.own_shape l2; have hzw : w1.drew.heap.size = w1.heap.size := rfl; have hsA := eA.size; have hsAB := eAB.size; have hsBC := eBC.size; have hsAC := eAC.size; have eD : Below w1.heap.size w1 wD := (eC.alloc eC.size (.cells #[.int .u8 0, .string ⟨#[]⟩, .int .i64 0, .slice none 0 0, .slice none 0 0] 26)).trans (l8.mono (by omega)); have hx9D : wD.heap[wC.heap.size]? = some (.cells #[.int .u8 0, .string ⟨#[]⟩, .int .i64 0, .slice none 0 0, .slice none 0 0] 26 (0, 0)) := (l4 wC.heap.size (by simp) (fun e => by have := (hl.1 _ e.symm).2; omega) (fun e => by have := (hl.2 _ e.symm).2; omega)).trans (Vl.new wC (.cells #[.int .u8 0, .string ⟨#[]⟩, .int .i64 0, .slice none 0 0, .slice none 0 0] 26)); obtain ⟨y0, y1, y2, y3, y4⟩ := Vl.five_of hx9D; obtain ⟨z0, z1, z2, z3, z4⟩ := Vl.fiveF_of hx9D; have hq9 : w.heap.size + 2 ≤ wC.heap.size := (by have := eC.size; omega))
        | (go_at_call 40; (with_reducible refine (with_call (b9 := w.heap.size) hRA eAC (Below.refl _ wC) hoC hBx hzA (Or.inl (by have hzw : w1.drew.heap.size = w1.heap.size := rfl; omega)) (Or.inl (by have hzw : w1.drew.heap.size = w1.heap.size := rfl; have := eA.size; have := eAB.size; omega)) HF.out.2.1 HF.out.2.2 HF.out.1).mono ?_); rintro e wD ⟨vi7, vn7, cs7, rfl, l1, l2, l3, l4, l5, l6, l7, l8⟩; obtain ⟨pi7, ci7, rfl⟩ := Vl.own_shape l1; obtain ⟨pn7, cn7, rfl⟩ := Vl.own_shape l2; have hzw : w1.drew.heap.size = w1.heap.size := rfl; have hsA := eA.size; have hsAB := eAB.size; have hsBC := eBC.size; have hsAC := eAC.size; have eD : Below w1.heap.size w1 wD := eC.trans (l8.mono (by omega)); have hsD := l5))
    · have hzw : w1.drew.heap.size = w1.heap.size := rfl
      have hq1 := eBC.size
      have hb9 := (Below.refl wD.heap.size wD).alloc (Nat.le_refl _) (.cells #[.int .u8 (k : Nat), .string t, .int .i64 i, .slice pi7 (Vl.insIs v.names v.items s x).length ci7, .slice pn7 (Vl.insNs v.names s).length cn7] 26)
      have hdl : wC.heap.size ≤ wD.heap.size := by omega
      have hk4 : ∀ j, j < wC.heap.size → some j ≠ (Value.slice pi' v.items.length ci').ownBlock → some j ≠ (Value.slice pn' v.names.length cn').ownBlock → wD.heap[j]? = wC.heap[j]? := fun j h1 h2 h3 => l4 j h1 h2 h3
      have h9 : ∀ j, j < wD.heap.size → j ≠ w.heap.size → (wD.alloc (.cells #[.int .u8 (k : Nat), .string t, .int .i64 i, .slice pi7 (Vl.insIs v.names v.items s x).length ci7, .slice pn7 (Vl.insNs v.names s).length cn7] 26)).heap[j]? = wD.heap[j]? := fun j h1 _ => Vl.past _ _ _ h1
      have hs9 : wD.heap.size ≤ (wD.alloc (.cells #[.int .u8 (k : Nat), .string t, .int .i64 i, .slice pi7 (Vl.insIs v.names v.items s x).length ci7, .slice pn7 (Vl.insNs v.names s).length cn7] 26)).heap.size := by rw [World.size_alloc]; omega
      have hp9 : ∀ j, pi7.map (·.block) = some j → j ≠ w.heap.size := fun j hj => by
        have e : (Value.slice pi7 (Vl.insIs v.names v.items s x).length ci7).ownBlock = some j := by
          cases pi7 with
          | none => cases hj
          | some a => exact hj
        have hb := (l1.lt j e).1
        rcases l6 with h | h
        · have h1 := hl.1 j (h.symm.trans e)
          omega
        · have h1 := h j e
          omega
      have hn9 : ∀ j, pn7.map (·.block) = some j → j ≠ w.heap.size := fun j hj => by
        have e : (Value.slice pn7 (Vl.insNs v.names s).length cn7).ownBlock = some j := by
          cases pn7 with
          | none => cases hj
          | some a => exact hj
        have hb := (l2.lt j e).1
        rcases l7 with h | h
        · have h1 := hl.2 j (h.symm.trans e)
          omega
        · have h1 := h j e
          omega
      obtain ⟨l9a, l9b⟩ := Vl.insNs_len (ns := v.names) (s := s) (by have := HF.out.2.1; have := HF.out.2.2; omega) hs Q6.out
      have hfin := Vl.withFin (d := d) (b9 := w.heap.size) (W9 := (wD.alloc (.cells #[.int .u8 (k : Nat), .string t, .int .i64 i, .slice pi7 (Vl.insIs v.names v.items s x).length ci7, .slice pn7 (Vl.insNs v.names s).length cn7] 26))) l1 l2 l3 hk4 hdl h9 hs9 hp9 hn9 q1 q2 q3 (Vl.insIs_len HF.out.2.2) l9a l9b
      rw [← HxV.out] at hfin
      have F9 := Lib.hid hfin
      have X9 := Lib.hid (Vl.new _ _ : (wD.alloc (.cells #[.int .u8 (k : Nat), .string t, .int .i64 i, .slice pi7 (Vl.insIs v.names v.items s x).length ci7, .slice pn7 (Vl.insNs v.names s).length cn7] 26)).heap[wD.heap.size]? = some (.cells #[.int .u8 (k : Nat), .string t, .int .i64 i, .slice pi7 (Vl.insIs v.names v.items s x).length ci7, .slice pn7 (Vl.insNs v.names s).length cn7] 26 (0, 0)))
      have hr9 := (eD.block (w.heap.size + 2) (by omega)).trans HR1.out
      have R9 := Lib.hid ((h9 (w.heap.size + 2) (by have := eD.size; omega) (by omega)).trans hr9)
      have B9 := Lib.hid (HB1.out.trans ((eD.trans (hb9.mono eD.size)).mono (by omega)))
      have hl9 : w.heap.size + 3 ≤ wD.heap.size := by omega
      have hsz9 : w.heap.size + 3 ≤ (wD.alloc (.cells #[.int .u8 (k : Nat), .string t, .int .i64 i, .slice pi7 (Vl.insIs v.names v.items s x).length ci7, .slice pn7 (Vl.insNs v.names s).length cn7] 26)).heap.size := by have := eD.size; omega
      clear l1 l2 l3 l4 l5 l6 l7 l8 hfin hk4 h9 hp9 hn9 l9a l9b hr9 hl eD eC eB eA eAB eAC eBC hoC hRA hbC hbB hbA hb9
      generalize (wD.alloc (.cells #[.int .u8 (k : Nat), .string t, .int .i64 i, .slice pi7 (Vl.insIs v.names v.items s x).length ci7, .slice pn7 (Vl.insNs v.names s).length cn7] 26)) = W9 at *
      have hck9 := Lib.hid (vlCheck_any (d + 1) xV _ W9 (F9.out W9 (fun _ _ _ _ => rfl)))
      rw [show Vl.chk xV = if Vl.good xV then 0 else 2 from rfl] at hck9
      obtain ⟨m0, m1, m2, m3, m4⟩ := Vl.five_of X9.out
      go_wp2_with fail
      refine hck9.out.mono ?_
      rintro e wE ⟨rfl, hbE⟩
      have hrE := (hbE.block (w.heap.size + 2) (by omega)).trans R9.out
      have hxE := (hbE.block wD.heap.size (Array.getElem?_eq_some_iff.1 X9.out).1).trans X9.out
      have BE := Lib.hid (B9.out.trans (hbE.mono (by omega)))
      have hsE := hbE.size
      have KE := Lib.hid (fun j (h : j < W9.heap.size) => hbE.block j h)
      have RE := Lib.hid hrE
      obtain ⟨r0, r1, r2, r3, r4⟩ := Vl.five_of hrE
      obtain ⟨n0, n1, n2, n3, n4⟩ := Vl.fiveF_of hrE
      clear m0 m1 m2 m3 m4 hbE hrE hck9
      cases hgd : Vl.good xV with
      | false =>
        have hTe : T = (Vl.zero, 11) := by rw [HT.out, hgd]; rfl
        subst hTe
        clear hxE hgd
        go_wp2_with fail
        refine bodyPost_ret (Vl.ret2 rfl _ _ (w.heap.size + 2) 26 _ _ rfl (Vl.set5 RE.out _ _ _ _ _) Tryd.underlying26 rfl (by kernel_rfl)) rfl ?_
        exact ⟨_, rfl, Vl.At.zero d _, below_grownBy BE.out (Vl.set5_grown _ _ _ _ _ _ _) (by omega) (by omega)⟩
      | true =>
        have hTe : T = (xV, 0) := by rw [HT.out, hgd]; rfl
        subst hTe
        obtain ⟨m0, m1, m2, m3, m4⟩ := Vl.five_of hxE
        clear hxE hgd
        go_wp2_with fail
        refine bodyPost_ret (Vl.ret2 rfl _ _ (w.heap.size + 2) 26 _ _ rfl (Vl.set5 RE.out _ _ _ _ _) Tryd.underlying26 rfl (by kernel_rfl)) rfl ?_
        exact ⟨_, rfl, F9.out _ (fun j h1 h2 _ => (Vl.set5_rest _ _ _ _ _ _ _ j (by omega)).trans (KE.out j h2)), below_grownBy BE.out (Vl.set5_grown _ _ _ _ _ _ _) (by omega) (by omega)⟩
    · have hzc : (wC.alloc (.cells #[.int .u8 0, .string ⟨#[]⟩, .int .i64 0, .slice none 0 0, .slice none 0 0] 26)).heap.size = wC.heap.size + 1 := World.size_alloc _ _
      have hzw : w1.drew.heap.size = w1.heap.size := rfl
      have hq1 := eBC.size
      have hgr := Vl.set5_grown wD wC.heap.size (.int .u8 (k : Nat)) (.string t) (.int .i64 i) (.slice pi7 (Vl.insIs v.names v.items s x).length ci7) (.slice pn7 (Vl.insNs v.names s).length cn7)
      have hdl : wC.heap.size ≤ wD.heap.size := by omega
      have hk4 : ∀ j, j < wC.heap.size → some j ≠ (Value.slice pi' v.items.length ci').ownBlock → some j ≠ (Value.slice pn' v.names.length cn').ownBlock → wD.heap[j]? = wC.heap[j]? := fun j h1 h2 h3 => (l4 j (by omega) h2 h3).trans (Vl.past _ _ _ h1)
      have h9 : ∀ j, j < wD.heap.size → j ≠ wC.heap.size → (((((wD.setCell ⟨wC.heap.size, 0, none⟩ (.int .u8 (k : Nat))).setCell ⟨wC.heap.size, 1, none⟩ (.string t)).setCell ⟨wC.heap.size, 2, none⟩ (.int .i64 i)).setCell ⟨wC.heap.size, 3, none⟩ (.slice pi7 (Vl.insIs v.names v.items s x).length ci7)).setCell ⟨wC.heap.size, 4, none⟩ (.slice pn7 (Vl.insNs v.names s).length cn7)).heap[j]? = wD.heap[j]? := fun j _ h2 => Vl.set5_rest _ _ _ _ _ _ _ j h2
      have hs9 : wD.heap.size ≤ (((((wD.setCell ⟨wC.heap.size, 0, none⟩ (.int .u8 (k : Nat))).setCell ⟨wC.heap.size, 1, none⟩ (.string t)).setCell ⟨wC.heap.size, 2, none⟩ (.int .i64 i)).setCell ⟨wC.heap.size, 3, none⟩ (.slice pi7 (Vl.insIs v.names v.items s x).length ci7)).setCell ⟨wC.heap.size, 4, none⟩ (.slice pn7 (Vl.insNs v.names s).length cn7)).heap.size := by rw [Vl.set5_size]; omega
      have hp9 : ∀ j, pi7.map (·.block) = some j → j ≠ wC.heap.size := fun j hj => by
        have e : (Value.slice pi7 (Vl.insIs v.names v.items s x).length ci7).ownBlock = some j := by
          cases pi7 with
          | none => cases hj
          | some a => exact hj
        have hb := (l1.lt j e).1
        rcases l6 with h | h
        · have h1 := hl.1 j (h.symm.trans e)
          omega
        · have h1 := h j e
          omega
      have hn9 : ∀ j, pn7.map (·.block) = some j → j ≠ wC.heap.size := fun j hj => by
        have e : (Value.slice pn7 (Vl.insNs v.names s).length cn7).ownBlock = some j := by
          cases pn7 with
          | none => cases hj
          | some a => exact hj
        have hb := (l2.lt j e).1
        rcases l7 with h | h
        · have h1 := hl.2 j (h.symm.trans e)
          omega
        · have h1 := h j e
          omega
      obtain ⟨l9a, l9b⟩ := Vl.insNs_len (ns := v.names) (s := s) (by have := HF.out.2.1; have := HF.out.2.2; omega) hs Q6.out
      have hfin := Vl.withFin (d := d) (b9 := wC.heap.size) (W9 := (((((wD.setCell ⟨wC.heap.size, 0, none⟩ (.int .u8 (k : Nat))).setCell ⟨wC.heap.size, 1, none⟩ (.string t)).setCell ⟨wC.heap.size, 2, none⟩ (.int .i64 i)).setCell ⟨wC.heap.size, 3, none⟩ (.slice pi7 (Vl.insIs v.names v.items s x).length ci7)).setCell ⟨wC.heap.size, 4, none⟩ (.slice pn7 (Vl.insNs v.names s).length cn7))) l1 l2 l3 hk4 hdl h9 hs9 hp9 hn9 q1 q2 q3 (Vl.insIs_len HF.out.2.2) l9a l9b
      rw [← HxV.out] at hfin
      have F9 := Lib.hid hfin
      have X9 := Lib.hid (Vl.set5 hx9D _ _ _ _ _ : (((((wD.setCell ⟨wC.heap.size, 0, none⟩ (.int .u8 (k : Nat))).setCell ⟨wC.heap.size, 1, none⟩ (.string t)).setCell ⟨wC.heap.size, 2, none⟩ (.int .i64 i)).setCell ⟨wC.heap.size, 3, none⟩ (.slice pi7 (Vl.insIs v.names v.items s x).length ci7)).setCell ⟨wC.heap.size, 4, none⟩ (.slice pn7 (Vl.insNs v.names s).length cn7)).heap[wC.heap.size]? = some (.cells #[.int .u8 (k : Nat), .string t, .int .i64 i, .slice pi7 (Vl.insIs v.names v.items s x).length ci7, .slice pn7 (Vl.insNs v.names s).length cn7] 26 (0, 0)))
      have hr9 := (eD.block (w.heap.size + 2) (by omega)).trans HR1.out
      have R9 := Lib.hid ((h9 (w.heap.size + 2) (by have := eD.size; omega) (by omega)).trans hr9)
      have B9 := Lib.hid (below_grownBy (HB1.out.trans (eD.mono (by omega))) hgr (by omega) (by have := eD.size; omega))
      have hl9 : w.heap.size + 3 ≤ wC.heap.size := by omega
      have hsz9 : w.heap.size + 3 ≤ (((((wD.setCell ⟨wC.heap.size, 0, none⟩ (.int .u8 (k : Nat))).setCell ⟨wC.heap.size, 1, none⟩ (.string t)).setCell ⟨wC.heap.size, 2, none⟩ (.int .i64 i)).setCell ⟨wC.heap.size, 3, none⟩ (.slice pi7 (Vl.insIs v.names v.items s x).length ci7)).setCell ⟨wC.heap.size, 4, none⟩ (.slice pn7 (Vl.insNs v.names s).length cn7)).heap.size := by have := eD.size; omega
      clear l1 l2 l3 l4 l5 l6 l7 l8 hfin hk4 h9 hp9 hn9 l9a l9b hr9 hl eD eC eB eA eAB eAC eBC hoC hRA hbC hbB hbA hgr hx9D y0 y1 y2 y3 y4 z0 z1 z2 z3 z4
      generalize (((((wD.setCell ⟨wC.heap.size, 0, none⟩ (.int .u8 (k : Nat))).setCell ⟨wC.heap.size, 1, none⟩ (.string t)).setCell ⟨wC.heap.size, 2, none⟩ (.int .i64 i)).setCell ⟨wC.heap.size, 3, none⟩ (.slice pi7 (Vl.insIs v.names v.items s x).length ci7)).setCell ⟨wC.heap.size, 4, none⟩ (.slice pn7 (Vl.insNs v.names s).length cn7)) = W9 at *
      have hck9 := Lib.hid (vlCheck_any (d + 1) xV _ W9 (F9.out W9 (fun _ _ _ _ => rfl)))
      rw [show Vl.chk xV = if Vl.good xV then 0 else 2 from rfl] at hck9
      obtain ⟨m0, m1, m2, m3, m4⟩ := Vl.five_of X9.out
      go_wp2_with fail
      refine hck9.out.mono ?_
      rintro e wE ⟨rfl, hbE⟩
      have hrE := (hbE.block (w.heap.size + 2) (by omega)).trans R9.out
      have hxE := (hbE.block wC.heap.size (Array.getElem?_eq_some_iff.1 X9.out).1).trans X9.out
      have BE := Lib.hid (B9.out.trans (hbE.mono (by omega)))
      have hsE := hbE.size
      have KE := Lib.hid (fun j (h : j < W9.heap.size) => hbE.block j h)
      have RE := Lib.hid hrE
      obtain ⟨r0, r1, r2, r3, r4⟩ := Vl.five_of hrE
      obtain ⟨n0, n1, n2, n3, n4⟩ := Vl.fiveF_of hrE
      clear m0 m1 m2 m3 m4 hbE hrE hck9
      cases hgd : Vl.good xV with
      | false =>
        have hTe : T = (Vl.zero, 11) := by rw [HT.out, hgd]; rfl
        subst hTe
        clear hxE hgd
        go_wp2_with fail
        refine bodyPost_ret (Vl.ret2 rfl _ _ (w.heap.size + 2) 26 _ _ rfl (Vl.set5 RE.out _ _ _ _ _) Tryd.underlying26 rfl (by kernel_rfl)) rfl ?_
        exact ⟨_, rfl, Vl.At.zero d _, below_grownBy BE.out (Vl.set5_grown _ _ _ _ _ _ _) (by omega) (by omega)⟩
      | true =>
        have hTe : T = (xV, 0) := by rw [HT.out, hgd]; rfl
        subst hTe
        obtain ⟨m0, m1, m2, m3, m4⟩ := Vl.five_of hxE
        clear hxE hgd
        go_wp2_with fail
        refine bodyPost_ret (Vl.ret2 rfl _ _ (w.heap.size + 2) 26 _ _ rfl (Vl.set5 RE.out _ _ _ _ _) Tryd.underlying26 rfl (by kernel_rfl)) rfl ?_
        exact ⟨_, rfl, F9.out _ (fun j h1 h2 _ => (Vl.set5_rest _ _ _ _ _ _ _ j (by omega)).trans (KE.out j h2)), below_grownBy BE.out (Vl.set5_grown _ _ _ _ _ _ _) (by omega) (by omega)⟩
    · have hzw : w1.drew.heap.size = w1.heap.size := rfl
      have hq1 := eBC.size
      have hy9l := (Array.getElem?_eq_some_iff.1 hy9).1
      have hgr := Vl.set5_grown wD wB.heap.size (.int .u8 (k : Nat)) (.string t) (.int .i64 i) (.slice pi7 (Vl.insIs v.names v.items s x).length ci7) (.slice pn7 (Vl.insNs v.names s).length cn7)
      have hdl : wC.heap.size ≤ wD.heap.size := by omega
      have hk4 : ∀ j, j < wC.heap.size → some j ≠ (Value.slice pi' v.items.length ci').ownBlock → some j ≠ (Value.slice pn' v.names.length cn').ownBlock → wD.heap[j]? = wC.heap[j]? := fun j h1 h2 h3 => l4 j h1 h2 h3
      have h9 : ∀ j, j < wD.heap.size → j ≠ wB.heap.size → (((((wD.setCell ⟨wB.heap.size, 0, none⟩ (.int .u8 (k : Nat))).setCell ⟨wB.heap.size, 1, none⟩ (.string t)).setCell ⟨wB.heap.size, 2, none⟩ (.int .i64 i)).setCell ⟨wB.heap.size, 3, none⟩ (.slice pi7 (Vl.insIs v.names v.items s x).length ci7)).setCell ⟨wB.heap.size, 4, none⟩ (.slice pn7 (Vl.insNs v.names s).length cn7)).heap[j]? = wD.heap[j]? := fun j _ h2 => Vl.set5_rest _ _ _ _ _ _ _ j h2
      have hs9 : wD.heap.size ≤ (((((wD.setCell ⟨wB.heap.size, 0, none⟩ (.int .u8 (k : Nat))).setCell ⟨wB.heap.size, 1, none⟩ (.string t)).setCell ⟨wB.heap.size, 2, none⟩ (.int .i64 i)).setCell ⟨wB.heap.size, 3, none⟩ (.slice pi7 (Vl.insIs v.names v.items s x).length ci7)).setCell ⟨wB.heap.size, 4, none⟩ (.slice pn7 (Vl.insNs v.names s).length cn7)).heap.size := by rw [Vl.set5_size]; omega
      have hp9 : ∀ j, pi7.map (·.block) = some j → j ≠ wB.heap.size := fun j hj => by
        have e : (Value.slice pi7 (Vl.insIs v.names v.items s x).length ci7).ownBlock = some j := by
          cases pi7 with
          | none => cases hj
          | some a => exact hj
        have hb := (l1.lt j e).1
        rcases l6 with h | h
        · have h1 := hl.1 j (h.symm.trans e)
          omega
        · have h1 := h j e
          omega
      have hn9 : ∀ j, pn7.map (·.block) = some j → j ≠ wB.heap.size := fun j hj => by
        have e : (Value.slice pn7 (Vl.insNs v.names s).length cn7).ownBlock = some j := by
          cases pn7 with
          | none => cases hj
          | some a => exact hj
        have hb := (l2.lt j e).1
        rcases l7 with h | h
        · have h1 := hl.2 j (h.symm.trans e)
          omega
        · have h1 := h j e
          omega
      obtain ⟨l9a, l9b⟩ := Vl.insNs_len (ns := v.names) (s := s) (by have := HF.out.2.1; have := HF.out.2.2; omega) hs Q6.out
      have hfin := Vl.withFin (d := d) (b9 := wB.heap.size) (W9 := (((((wD.setCell ⟨wB.heap.size, 0, none⟩ (.int .u8 (k : Nat))).setCell ⟨wB.heap.size, 1, none⟩ (.string t)).setCell ⟨wB.heap.size, 2, none⟩ (.int .i64 i)).setCell ⟨wB.heap.size, 3, none⟩ (.slice pi7 (Vl.insIs v.names v.items s x).length ci7)).setCell ⟨wB.heap.size, 4, none⟩ (.slice pn7 (Vl.insNs v.names s).length cn7))) l1 l2 l3 hk4 hdl h9 hs9 hp9 hn9 q1 q2 q3 (Vl.insIs_len HF.out.2.2) l9a l9b
      rw [← HxV.out] at hfin
      have F9 := Lib.hid hfin
      have X9 := Lib.hid (Vl.set5 hx9D _ _ _ _ _ : (((((wD.setCell ⟨wB.heap.size, 0, none⟩ (.int .u8 (k : Nat))).setCell ⟨wB.heap.size, 1, none⟩ (.string t)).setCell ⟨wB.heap.size, 2, none⟩ (.int .i64 i)).setCell ⟨wB.heap.size, 3, none⟩ (.slice pi7 (Vl.insIs v.names v.items s x).length ci7)).setCell ⟨wB.heap.size, 4, none⟩ (.slice pn7 (Vl.insNs v.names s).length cn7)).heap[wB.heap.size]? = some (.cells #[.int .u8 (k : Nat), .string t, .int .i64 i, .slice pi7 (Vl.insIs v.names v.items s x).length ci7, .slice pn7 (Vl.insNs v.names s).length cn7] 26 (0, 0)))
      have hr9 := (eD.block (w.heap.size + 2) (by omega)).trans HR1.out
      have R9 := Lib.hid ((h9 (w.heap.size + 2) (by have := eD.size; omega) (by omega)).trans hr9)
      have B9 := Lib.hid (below_grownBy (HB1.out.trans (eD.mono (by omega))) hgr (by omega) (by have := eD.size; omega))
      have hl9 : w.heap.size + 3 ≤ wB.heap.size := by omega
      have hsz9 : w.heap.size + 3 ≤ (((((wD.setCell ⟨wB.heap.size, 0, none⟩ (.int .u8 (k : Nat))).setCell ⟨wB.heap.size, 1, none⟩ (.string t)).setCell ⟨wB.heap.size, 2, none⟩ (.int .i64 i)).setCell ⟨wB.heap.size, 3, none⟩ (.slice pi7 (Vl.insIs v.names v.items s x).length ci7)).setCell ⟨wB.heap.size, 4, none⟩ (.slice pn7 (Vl.insNs v.names s).length cn7)).heap.size := by have := eD.size; omega
      clear l1 l2 l3 l4 l5 l6 l7 l8 hfin hk4 h9 hp9 hn9 l9a l9b hr9 hl eD eC eB eA eAB eAC eBC hoC hRA hbC hbB hbA hgr hx9D y0 y1 y2 y3 y4 z0 z1 z2 z3 z4 hx9 hy9
      generalize (((((wD.setCell ⟨wB.heap.size, 0, none⟩ (.int .u8 (k : Nat))).setCell ⟨wB.heap.size, 1, none⟩ (.string t)).setCell ⟨wB.heap.size, 2, none⟩ (.int .i64 i)).setCell ⟨wB.heap.size, 3, none⟩ (.slice pi7 (Vl.insIs v.names v.items s x).length ci7)).setCell ⟨wB.heap.size, 4, none⟩ (.slice pn7 (Vl.insNs v.names s).length cn7)) = W9 at *
      have hck9 := Lib.hid (vlCheck_any (d + 1) xV _ W9 (F9.out W9 (fun _ _ _ _ => rfl)))
      rw [show Vl.chk xV = if Vl.good xV then 0 else 2 from rfl] at hck9
      obtain ⟨m0, m1, m2, m3, m4⟩ := Vl.five_of X9.out
      go_wp2_with fail
      refine hck9.out.mono ?_
      rintro e wE ⟨rfl, hbE⟩
      have hrE := (hbE.block (w.heap.size + 2) (by omega)).trans R9.out
      have hxE := (hbE.block wB.heap.size (Array.getElem?_eq_some_iff.1 X9.out).1).trans X9.out
      have BE := Lib.hid (B9.out.trans (hbE.mono (by omega)))
      have hsE := hbE.size
      have KE := Lib.hid (fun j (h : j < W9.heap.size) => hbE.block j h)
      have RE := Lib.hid hrE
      obtain ⟨r0, r1, r2, r3, r4⟩ := Vl.five_of hrE
      obtain ⟨n0, n1, n2, n3, n4⟩ := Vl.fiveF_of hrE
      clear m0 m1 m2 m3 m4 hbE hrE hck9
      cases hgd : Vl.good xV with
      | false =>
        have hTe : T = (Vl.zero, 11) := by rw [HT.out, hgd]; rfl
        subst hTe
        clear hxE hgd
        go_wp2_with fail
        refine bodyPost_ret (Vl.ret2 rfl _ _ (w.heap.size + 2) 26 _ _ rfl (Vl.set5 RE.out _ _ _ _ _) Tryd.underlying26 rfl (by kernel_rfl)) rfl ?_
        exact ⟨_, rfl, Vl.At.zero d _, below_grownBy BE.out (Vl.set5_grown _ _ _ _ _ _ _) (by omega) (by omega)⟩
      | true =>
        have hTe : T = (xV, 0) := by rw [HT.out, hgd]; rfl
        subst hTe
        obtain ⟨m0, m1, m2, m3, m4⟩ := Vl.five_of hxE
        clear hxE hgd
        go_wp2_with fail
        refine bodyPost_ret (Vl.ret2 rfl _ _ (w.heap.size + 2) 26 _ _ rfl (Vl.set5 RE.out _ _ _ _ _) Tryd.underlying26 rfl (by kernel_rfl)) rfl ?_
        exact ⟨_, rfl, F9.out _ (fun j h1 h2 _ => (Vl.set5_rest _ _ _ _ _ _ _ j (by omega)).trans (KE.out j h2)), below_grownBy BE.out (Vl.set5_grown _ _ _ _ _ _ _) (by omega) (by omega)⟩
    · have hzw : w1.drew.heap.size = w1.heap.size := rfl
      have hq1 := eBC.size
      have hy9l := (Array.getElem?_eq_some_iff.1 hy9).1
      have hgr := Vl.set5_grown wD wA.heap.size (.int .u8 (k : Nat)) (.string t) (.int .i64 i) (.slice pi7 (Vl.insIs v.names v.items s x).length ci7) (.slice pn7 (Vl.insNs v.names s).length cn7)
      have hdl : wC.heap.size ≤ wD.heap.size := by omega
      have hk4 : ∀ j, j < wC.heap.size → some j ≠ (Value.slice pi' v.items.length ci').ownBlock → some j ≠ (Value.slice pn' v.names.length cn').ownBlock → wD.heap[j]? = wC.heap[j]? := fun j h1 h2 h3 => l4 j h1 h2 h3
      have h9 : ∀ j, j < wD.heap.size → j ≠ wA.heap.size → (((((wD.setCell ⟨wA.heap.size, 0, none⟩ (.int .u8 (k : Nat))).setCell ⟨wA.heap.size, 1, none⟩ (.string t)).setCell ⟨wA.heap.size, 2, none⟩ (.int .i64 i)).setCell ⟨wA.heap.size, 3, none⟩ (.slice pi7 (Vl.insIs v.names v.items s x).length ci7)).setCell ⟨wA.heap.size, 4, none⟩ (.slice pn7 (Vl.insNs v.names s).length cn7)).heap[j]? = wD.heap[j]? := fun j _ h2 => Vl.set5_rest _ _ _ _ _ _ _ j h2
      have hs9 : wD.heap.size ≤ (((((wD.setCell ⟨wA.heap.size, 0, none⟩ (.int .u8 (k : Nat))).setCell ⟨wA.heap.size, 1, none⟩ (.string t)).setCell ⟨wA.heap.size, 2, none⟩ (.int .i64 i)).setCell ⟨wA.heap.size, 3, none⟩ (.slice pi7 (Vl.insIs v.names v.items s x).length ci7)).setCell ⟨wA.heap.size, 4, none⟩ (.slice pn7 (Vl.insNs v.names s).length cn7)).heap.size := by rw [Vl.set5_size]; omega
      have hp9 : ∀ j, pi7.map (·.block) = some j → j ≠ wA.heap.size := fun j hj => by
        have e : (Value.slice pi7 (Vl.insIs v.names v.items s x).length ci7).ownBlock = some j := by
          cases pi7 with
          | none => cases hj
          | some a => exact hj
        have hb := (l1.lt j e).1
        rcases l6 with h | h
        · have h1 := hl.1 j (h.symm.trans e)
          omega
        · have h1 := h j e
          omega
      have hn9 : ∀ j, pn7.map (·.block) = some j → j ≠ wA.heap.size := fun j hj => by
        have e : (Value.slice pn7 (Vl.insNs v.names s).length cn7).ownBlock = some j := by
          cases pn7 with
          | none => cases hj
          | some a => exact hj
        have hb := (l2.lt j e).1
        rcases l7 with h | h
        · have h1 := hl.2 j (h.symm.trans e)
          omega
        · have h1 := h j e
          omega
      obtain ⟨l9a, l9b⟩ := Vl.insNs_len (ns := v.names) (s := s) (by have := HF.out.2.1; have := HF.out.2.2; omega) hs Q6.out
      have hfin := Vl.withFin (d := d) (b9 := wA.heap.size) (W9 := (((((wD.setCell ⟨wA.heap.size, 0, none⟩ (.int .u8 (k : Nat))).setCell ⟨wA.heap.size, 1, none⟩ (.string t)).setCell ⟨wA.heap.size, 2, none⟩ (.int .i64 i)).setCell ⟨wA.heap.size, 3, none⟩ (.slice pi7 (Vl.insIs v.names v.items s x).length ci7)).setCell ⟨wA.heap.size, 4, none⟩ (.slice pn7 (Vl.insNs v.names s).length cn7))) l1 l2 l3 hk4 hdl h9 hs9 hp9 hn9 q1 q2 q3 (Vl.insIs_len HF.out.2.2) l9a l9b
      rw [← HxV.out] at hfin
      have F9 := Lib.hid hfin
      have X9 := Lib.hid (Vl.set5 hx9D _ _ _ _ _ : (((((wD.setCell ⟨wA.heap.size, 0, none⟩ (.int .u8 (k : Nat))).setCell ⟨wA.heap.size, 1, none⟩ (.string t)).setCell ⟨wA.heap.size, 2, none⟩ (.int .i64 i)).setCell ⟨wA.heap.size, 3, none⟩ (.slice pi7 (Vl.insIs v.names v.items s x).length ci7)).setCell ⟨wA.heap.size, 4, none⟩ (.slice pn7 (Vl.insNs v.names s).length cn7)).heap[wA.heap.size]? = some (.cells #[.int .u8 (k : Nat), .string t, .int .i64 i, .slice pi7 (Vl.insIs v.names v.items s x).length ci7, .slice pn7 (Vl.insNs v.names s).length cn7] 26 (0, 0)))
      have hr9 := (eD.block (w.heap.size + 2) (by omega)).trans HR1.out
      have R9 := Lib.hid ((h9 (w.heap.size + 2) (by have := eD.size; omega) (by omega)).trans hr9)
      have B9 := Lib.hid (below_grownBy (HB1.out.trans (eD.mono (by omega))) hgr (by omega) (by have := eD.size; omega))
      have hl9 : w.heap.size + 3 ≤ wA.heap.size := by omega
      have hsz9 : w.heap.size + 3 ≤ (((((wD.setCell ⟨wA.heap.size, 0, none⟩ (.int .u8 (k : Nat))).setCell ⟨wA.heap.size, 1, none⟩ (.string t)).setCell ⟨wA.heap.size, 2, none⟩ (.int .i64 i)).setCell ⟨wA.heap.size, 3, none⟩ (.slice pi7 (Vl.insIs v.names v.items s x).length ci7)).setCell ⟨wA.heap.size, 4, none⟩ (.slice pn7 (Vl.insNs v.names s).length cn7)).heap.size := by have := eD.size; omega
      clear l1 l2 l3 l4 l5 l6 l7 l8 hfin hk4 h9 hp9 hn9 l9a l9b hr9 hl eD eC eB eA eAB eAC eBC hoC hRA hbC hbB hbA hgr hx9D y0 y1 y2 y3 y4 z0 z1 z2 z3 z4 hx9 hy9
      generalize (((((wD.setCell ⟨wA.heap.size, 0, none⟩ (.int .u8 (k : Nat))).setCell ⟨wA.heap.size, 1, none⟩ (.string t)).setCell ⟨wA.heap.size, 2, none⟩ (.int .i64 i)).setCell ⟨wA.heap.size, 3, none⟩ (.slice pi7 (Vl.insIs v.names v.items s x).length ci7)).setCell ⟨wA.heap.size, 4, none⟩ (.slice pn7 (Vl.insNs v.names s).length cn7)) = W9 at *
      have hck9 := Lib.hid (vlCheck_any (d + 1) xV _ W9 (F9.out W9 (fun _ _ _ _ => rfl)))
      rw [show Vl.chk xV = if Vl.good xV then 0 else 2 from rfl] at hck9
      obtain ⟨m0, m1, m2, m3, m4⟩ := Vl.five_of X9.out
      go_wp2_with fail
      refine hck9.out.mono ?_
      rintro e wE ⟨rfl, hbE⟩
      have hrE := (hbE.block (w.heap.size + 2) (by omega)).trans R9.out
      have hxE := (hbE.block wA.heap.size (Array.getElem?_eq_some_iff.1 X9.out).1).trans X9.out
      have BE := Lib.hid (B9.out.trans (hbE.mono (by omega)))
      have hsE := hbE.size
      have KE := Lib.hid (fun j (h : j < W9.heap.size) => hbE.block j h)
      have RE := Lib.hid hrE
      obtain ⟨r0, r1, r2, r3, r4⟩ := Vl.five_of hrE
      obtain ⟨n0, n1, n2, n3, n4⟩ := Vl.fiveF_of hrE
      clear m0 m1 m2 m3 m4 hbE hrE hck9
      cases hgd : Vl.good xV with
      | false =>
        have hTe : T = (Vl.zero, 11) := by rw [HT.out, hgd]; rfl
        subst hTe
        clear hxE hgd
        go_wp2_with fail
        refine bodyPost_ret (Vl.ret2 rfl _ _ (w.heap.size + 2) 26 _ _ rfl (Vl.set5 RE.out _ _ _ _ _) Tryd.underlying26 rfl (by kernel_rfl)) rfl ?_
        exact ⟨_, rfl, Vl.At.zero d _, below_grownBy BE.out (Vl.set5_grown _ _ _ _ _ _ _) (by omega) (by omega)⟩
      | true =>
        have hTe : T = (xV, 0) := by rw [HT.out, hgd]; rfl
        subst hTe
        obtain ⟨m0, m1, m2, m3, m4⟩ := Vl.five_of hxE
        clear hxE hgd
        go_wp2_with fail
        refine bodyPost_ret (Vl.ret2 rfl _ _ (w.heap.size + 2) 26 _ _ rfl (Vl.set5 RE.out _ _ _ _ _) Tryd.underlying26 rfl (by kernel_rfl)) rfl ?_
        exact ⟨_, rfl, F9.out _ (fun j h1 h2 _ => (Vl.set5_rest _ _ _ _ _ _ _ j (by omega)).trans (KE.out j h2)), below_grownBy BE.out (Vl.set5_grown _ _ _ _ _ _ _) (by omega) (by omega)⟩
    · have hzq : (w1.alloc (.cells #[.int .u8 0, .string ⟨#[]⟩, .int .i64 0, .slice none 0 0, .slice none 0 0] 26)).drew.heap.size = w1.heap.size + 1 := World.size_alloc _ _
      have hzw : w1.drew.heap.size = w1.heap.size := rfl
      have hq1 := eBC.size
      have hy9l := (Array.getElem?_eq_some_iff.1 hy9).1
      have hgr := Vl.set5_grown wD w1.heap.size (.int .u8 (k : Nat)) (.string t) (.int .i64 i) (.slice pi7 (Vl.insIs v.names v.items s x).length ci7) (.slice pn7 (Vl.insNs v.names s).length cn7)
      have hdl : wC.heap.size ≤ wD.heap.size := by omega
      have hk4 : ∀ j, j < wC.heap.size → some j ≠ (Value.slice pi' v.items.length ci').ownBlock → some j ≠ (Value.slice pn' v.names.length cn').ownBlock → wD.heap[j]? = wC.heap[j]? := fun j h1 h2 h3 => l4 j h1 h2 h3
      have h9 : ∀ j, j < wD.heap.size → j ≠ w1.heap.size → (((((wD.setCell ⟨w1.heap.size, 0, none⟩ (.int .u8 (k : Nat))).setCell ⟨w1.heap.size, 1, none⟩ (.string t)).setCell ⟨w1.heap.size, 2, none⟩ (.int .i64 i)).setCell ⟨w1.heap.size, 3, none⟩ (.slice pi7 (Vl.insIs v.names v.items s x).length ci7)).setCell ⟨w1.heap.size, 4, none⟩ (.slice pn7 (Vl.insNs v.names s).length cn7)).heap[j]? = wD.heap[j]? := fun j _ h2 => Vl.set5_rest _ _ _ _ _ _ _ j h2
      have hs9 : wD.heap.size ≤ (((((wD.setCell ⟨w1.heap.size, 0, none⟩ (.int .u8 (k : Nat))).setCell ⟨w1.heap.size, 1, none⟩ (.string t)).setCell ⟨w1.heap.size, 2, none⟩ (.int .i64 i)).setCell ⟨w1.heap.size, 3, none⟩ (.slice pi7 (Vl.insIs v.names v.items s x).length ci7)).setCell ⟨w1.heap.size, 4, none⟩ (.slice pn7 (Vl.insNs v.names s).length cn7)).heap.size := by rw [Vl.set5_size]; omega
      have hp9 : ∀ j, pi7.map (·.block) = some j → j ≠ w1.heap.size := fun j hj => by
        have e : (Value.slice pi7 (Vl.insIs v.names v.items s x).length ci7).ownBlock = some j := by
          cases pi7 with
          | none => cases hj
          | some a => exact hj
        have hb := (l1.lt j e).1
        rcases l6 with h | h
        · have h1 := hl.1 j (h.symm.trans e)
          omega
        · have h1 := h j e
          omega
      have hn9 : ∀ j, pn7.map (·.block) = some j → j ≠ w1.heap.size := fun j hj => by
        have e : (Value.slice pn7 (Vl.insNs v.names s).length cn7).ownBlock = some j := by
          cases pn7 with
          | none => cases hj
          | some a => exact hj
        have hb := (l2.lt j e).1
        rcases l7 with h | h
        · have h1 := hl.2 j (h.symm.trans e)
          omega
        · have h1 := h j e
          omega
      obtain ⟨l9a, l9b⟩ := Vl.insNs_len (ns := v.names) (s := s) (by have := HF.out.2.1; have := HF.out.2.2; omega) hs Q6.out
      have hfin := Vl.withFin (d := d) (b9 := w1.heap.size) (W9 := (((((wD.setCell ⟨w1.heap.size, 0, none⟩ (.int .u8 (k : Nat))).setCell ⟨w1.heap.size, 1, none⟩ (.string t)).setCell ⟨w1.heap.size, 2, none⟩ (.int .i64 i)).setCell ⟨w1.heap.size, 3, none⟩ (.slice pi7 (Vl.insIs v.names v.items s x).length ci7)).setCell ⟨w1.heap.size, 4, none⟩ (.slice pn7 (Vl.insNs v.names s).length cn7))) l1 l2 l3 hk4 hdl h9 hs9 hp9 hn9 q1 q2 q3 (Vl.insIs_len HF.out.2.2) l9a l9b
      rw [← HxV.out] at hfin
      have F9 := Lib.hid hfin
      have X9 := Lib.hid (Vl.set5 hx9D _ _ _ _ _ : (((((wD.setCell ⟨w1.heap.size, 0, none⟩ (.int .u8 (k : Nat))).setCell ⟨w1.heap.size, 1, none⟩ (.string t)).setCell ⟨w1.heap.size, 2, none⟩ (.int .i64 i)).setCell ⟨w1.heap.size, 3, none⟩ (.slice pi7 (Vl.insIs v.names v.items s x).length ci7)).setCell ⟨w1.heap.size, 4, none⟩ (.slice pn7 (Vl.insNs v.names s).length cn7)).heap[w1.heap.size]? = some (.cells #[.int .u8 (k : Nat), .string t, .int .i64 i, .slice pi7 (Vl.insIs v.names v.items s x).length ci7, .slice pn7 (Vl.insNs v.names s).length cn7] 26 (0, 0)))
      have hr9 := (eD.block (w.heap.size + 2) (by omega)).trans HR1.out
      have R9 := Lib.hid ((h9 (w.heap.size + 2) (by have := eD.size; omega) (by omega)).trans hr9)
      have B9 := Lib.hid (below_grownBy (HB1.out.trans (eD.mono (by omega))) hgr (by omega) (by have := eD.size; omega))
      have hl9 : w.heap.size + 3 ≤ w1.heap.size := by omega
      have hsz9 : w.heap.size + 3 ≤ (((((wD.setCell ⟨w1.heap.size, 0, none⟩ (.int .u8 (k : Nat))).setCell ⟨w1.heap.size, 1, none⟩ (.string t)).setCell ⟨w1.heap.size, 2, none⟩ (.int .i64 i)).setCell ⟨w1.heap.size, 3, none⟩ (.slice pi7 (Vl.insIs v.names v.items s x).length ci7)).setCell ⟨w1.heap.size, 4, none⟩ (.slice pn7 (Vl.insNs v.names s).length cn7)).heap.size := by have := eD.size; omega
      clear l1 l2 l3 l4 l5 l6 l7 l8 hfin hk4 h9 hp9 hn9 l9a l9b hr9 hl eD eC eB eA eAB eAC eBC hoC hRA hbC hbB hbA hgr hx9D y0 y1 y2 y3 y4 z0 z1 z2 z3 z4 hx9 hy9
      generalize (((((wD.setCell ⟨w1.heap.size, 0, none⟩ (.int .u8 (k : Nat))).setCell ⟨w1.heap.size, 1, none⟩ (.string t)).setCell ⟨w1.heap.size, 2, none⟩ (.int .i64 i)).setCell ⟨w1.heap.size, 3, none⟩ (.slice pi7 (Vl.insIs v.names v.items s x).length ci7)).setCell ⟨w1.heap.size, 4, none⟩ (.slice pn7 (Vl.insNs v.names s).length cn7)) = W9 at *
      have hck9 := Lib.hid (vlCheck_any (d + 1) xV _ W9 (F9.out W9 (fun _ _ _ _ => rfl)))
      rw [show Vl.chk xV = if Vl.good xV then 0 else 2 from rfl] at hck9
      obtain ⟨m0, m1, m2, m3, m4⟩ := Vl.five_of X9.out
      go_wp2_with fail
      refine hck9.out.mono ?_
      rintro e wE ⟨rfl, hbE⟩
      have hrE := (hbE.block (w.heap.size + 2) (by omega)).trans R9.out
      have hxE := (hbE.block w1.heap.size (Array.getElem?_eq_some_iff.1 X9.out).1).trans X9.out
      have BE := Lib.hid (B9.out.trans (hbE.mono (by omega)))
      have hsE := hbE.size
      have KE := Lib.hid (fun j (h : j < W9.heap.size) => hbE.block j h)
      have RE := Lib.hid hrE
      obtain ⟨r0, r1, r2, r3, r4⟩ := Vl.five_of hrE
      obtain ⟨n0, n1, n2, n3, n4⟩ := Vl.fiveF_of hrE
      clear m0 m1 m2 m3 m4 hbE hrE hck9
      cases hgd : Vl.good xV with
      | false =>
        have hTe : T = (Vl.zero, 11) := by rw [HT.out, hgd]; rfl
        subst hTe
        clear hxE hgd
        go_wp2_with fail
        refine bodyPost_ret (Vl.ret2 rfl _ _ (w.heap.size + 2) 26 _ _ rfl (Vl.set5 RE.out _ _ _ _ _) Tryd.underlying26 rfl (by kernel_rfl)) rfl ?_
        exact ⟨_, rfl, Vl.At.zero d _, below_grownBy BE.out (Vl.set5_grown _ _ _ _ _ _ _) (by omega) (by omega)⟩
      | true =>
        have hTe : T = (xV, 0) := by rw [HT.out, hgd]; rfl
        subst hTe
        obtain ⟨m0, m1, m2, m3, m4⟩ := Vl.five_of hxE
        clear hxE hgd
        go_wp2_with fail
        refine bodyPost_ret (Vl.ret2 rfl _ _ (w.heap.size + 2) 26 _ _ rfl (Vl.set5 RE.out _ _ _ _ _) Tryd.underlying26 rfl (by kernel_rfl)) rfl ?_
        exact ⟨_, rfl, F9.out _ (fun j h1 h2 _ => (Vl.set5_rest _ _ _ _ _ _ _ j (by omega)).trans (KE.out j h2)), below_grownBy BE.out (Vl.set5_grown _ _ _ _ _ _ _) (by omega) (by omega)⟩
  · have hT := Hbad.out hc
    have hne : (c != 0) = true := by rw [bne_iff_ne]; exact hc
    subst hT
    obtain ⟨r0, r1, r2, r3, r4⟩ := Vl.five_of hx2
    obtain ⟨n0, n1, n2, n3, n4⟩ := Vl.fiveF_of hx2
    clear hx0 hx1 hx2 Hok Hgd Hbad HcV HcX hc
    go_wp2_with fail
    refine bodyPost_ret (Vl.ret2 rfl _ _ (w.heap.size + 2) 26 _ _ rfl (Vl.set5 HR1.out _ _ _ _ _) Tryd.underlying26 rfl (by kernel_rfl)) rfl ?_
    exact ⟨_, rfl, Vl.At.zero d _, below_grownBy HB1.out (Vl.set5_grown _ _ _ _ _ _ _) (by omega) (by omega)⟩
end Go.Proofs.YtckcbdnlligndaaDoor
