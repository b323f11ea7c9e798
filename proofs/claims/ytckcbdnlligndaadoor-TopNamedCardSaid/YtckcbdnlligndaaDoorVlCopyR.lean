
/-
  The walk of value's copied once more: the rows that it makes are the call's own. Conditions: a value's texts and lists are of a size that a machine holds; at most 100000 items and names.
-/
import Derived.Test.YtckcbdnlligndaaDoorVlRows
namespace Go.Proofs.YtckcbdnlligndaaDoor
open Go.RowKit

theorem Vl.owns_moved {W W' : World} {B B' : Nat} {e : TypeId} {size : Nat} {v : Value} {n : Nat} {xs : List Value} (h : W.ownsRow B e size v n xs) (hB : B' ≤ B) (hk : ∀ j, B ≤ j → j < W.heap.size → W'.heap[j]? = W.heap[j]?) : W'.ownsRow B' e size v n xs := by
  refine ⟨h.1, ?_⟩
  rcases h.2 with h0 | ⟨g, cap, cur, hv, hg, hc, rest⟩
  · exact Or.inl h0
  · exact Or.inr ⟨g, cap, cur, hv, Nat.le_trans hB hg, (hk g hg (Array.getElem?_eq_some_iff.1 hc).1).trans hc, rest⟩
theorem Vl.rows_of {d B B3 B5 : Nat} {w3 w5 W : World} {vi vn : Value} {is : List Vl.V} {ns : List ByteArray} (h3 : w3.ownsRow B3 9 1 vn ns.length (ns.map Wp.mkT)) (h5 : Vl.OwnRow d B5 w5 vi is.length is) (hB3 : B ≤ B3) (hB5 : w3.heap.size ≤ B5) (hs2 : w5.heap.size ≤ W.heap.size)
    (hk3 : ∀ j, B ≤ j → j < w3.heap.size → W.heap[j]? = w3.heap[j]?) (hk5 : ∀ j, B ≤ j → j < w5.heap.size → W.heap[j]? = w5.heap[j]?) (hB : B ≤ B5) : Vl.Rows2 d B W vi vn is ns := by
  obtain ⟨cs, hO, _, hc⟩ := h5
  refine ⟨⟨cs, Vl.owns_moved hO hB (fun j h1 h2 => hk5 j (by omega) h2), fun i y hy => ?_⟩, Vl.owns_moved h3 hB3 (fun j h1 h2 => hk3 j (by omega) h2)⟩
  obtain ⟨c0, c1, c2, c3, c4, e0, e1, e2, e3, e4, hoff⟩ := hc i y hy
  refine ⟨c0, c1, c2, c3, c4, ⟨e0, e1, e2, e3, e4⟩, fun W' hW => hoff W' (fun j h1 h2 h3' => (hW j (by omega) (by omega) h3' (fun e => ?_)).trans (hk5 j (by omega) h2))⟩
  have := (h3.lt j e.symm).2
  omega
/-- What copying a value hands back: rows of its own. -/
def Vl.CopiedR (d : Nat) (k : Nat) (t : ByteArray) (i : Int) (is : List Vl.V) (ns : List ByteArray) (w : World) (e : Ending) (w' : World) : Prop := ∃ vi vn, e = .returned (.agg #[.int .u8 (k : Nat), .string t, .int .i64 i, vi, vn]) ∧ Vl.Rows2 d (w.heap.size + 2) w' vi vn is ns ∧ Below w.heap.size w w' ∧ w.heap.size + 2 ≤ w'.heap.size
set_option maxRecDepth 100000 in
set_option maxHeartbeats 2000000 in
theorem copiedR_any (d : Nat) (x : Vl.V) (v : Value) (w : World) (hA : Vl.At (d + 1) w v x) (hF : Vl.few (d + 1) x) : Calls Tryd.prog 41 #[v] w (Vl.CopiedR d x.kind x.text x.num x.items x.names w) := by
    have ih := copied_any d
    obtain ⟨pi, ci, pn, cn, rfl, ⟨q1, q2, q3, q4, q5, q6⟩, hn, hi⟩ := hA
    obtain ⟨f1, f2, f3⟩ := hF
    have hrow := Vl.rowIs hi
    have HcI := Lib.hid (fun W (h : Below w.heap.size w W) => copyEachV_any d pi ci x.items W f1 (fun W2 h2 => Vl.RowIs.mono (hrow W2 (h.trans (h2.mono h.size))) (fun i v ⟨y, e, ha⟩ => ⟨y, e, ha.below h⟩))
      (fun y hy u W2 ha h2 => ih y u W2 (ha.below h2) (f3 y hy)))
    have HcN := Lib.hid (fun W (h : Below w.heap.size w W) => copyEachS_any pn cn x.names W f2 q6 (hn.below h))
    have HcT := Lib.hid (fun W => vlClone_any x.text W (by omega))
    have Hend := Lib.hid (fun (w3 w5 W : World) (B3 B5 : Nat) (vi vn : Value) (h3 : w3.ownsRow B3 9 1 vn x.names.length (x.names.map Wp.mkT)) (h5 : Vl.OwnRow d B5 w5 vi x.items.length x.items) (q0 : w.heap.size + 2 ≤ B3) (q1 : w3.heap.size ≤ B5) (q3 : w5.heap.size ≤ W.heap.size) (q4 : ∀ j, w.heap.size + 2 ≤ j → j < w3.heap.size → W.heap[j]? = w3.heap[j]?) (q5 : ∀ j, w.heap.size + 2 ≤ j → j < w5.heap.size → W.heap[j]? = w5.heap[j]?) (q6 : w.heap.size + 2 ≤ B5) => Vl.rows_of h3 h5 q0 q1 q3 q4 q5 q6)
    clear hrow hi hn ih f1 f2 f3 q6
    generalize x.items.length = ni at *
    generalize x.names.length = nn at *
    generalize x.kind = k at *
    generalize x.text = t at *
    generalize x.num = i at *
    have hx0 := Lib.hid (show ((w.alloc (.cells #[.int .u8 (k : Nat), .string t, .int .i64 i, .slice pi ni ci, .slice pn nn cn] 26)).alloc (.cells #[.int .u8 0, .string ⟨#[]⟩, .int .i64 0, .slice none 0 0, .slice none 0 0] 26)).heap[w.heap.size]? = some (.cells #[.int .u8 (k : Nat), .string t, .int .i64 i, .slice pi ni ci, .slice pn nn cn] 26 (0, 0)) by rw [Vl.past _ _ _ (by simp)]; exact Vl.new _ _)
    have hr0 := Lib.hid (Vl.newAt (w.alloc (.cells #[.int .u8 (k : Nat), .string t, .int .i64 i, .slice pi ni ci, .slice pn nn cn] 26)) (.cells #[.int .u8 0, .string ⟨#[]⟩, .int .i64 0, .slice none 0 0, .slice none 0 0] 26) (w.heap.size + 1) (by simp))
    have hb0 := Lib.hid (((Below.refl w.heap.size w).alloc (Nat.le_refl _) (.cells #[.int .u8 (k : Nat), .string t, .int .i64 i, .slice pi ni ci, .slice pn nn cn] 26)).alloc (by simp) (.cells #[.int .u8 0, .string ⟨#[]⟩, .int .i64 0, .slice none 0 0, .slice none 0 0] 26))
    have hs0 : ((w.alloc (.cells #[.int .u8 (k : Nat), .string t, .int .i64 i, .slice pi ni ci, .slice pn nn cn] 26)).alloc (.cells #[.int .u8 0, .string ⟨#[]⟩, .int .i64 0, .slice none 0 0, .slice none 0 0] 26)).heap.size = w.heap.size + 2 := by simp
    have Hs0 := Lib.hid hs0
    clear hs0
    go_enter Tryd.func41, Tryd.ntmps41
    go_wp2_with fail
    refine (HcT.out _).mono ?_
    rintro e w1 ⟨rfl, hb1⟩
    have hz1 : w.heap.size + 2 ≤ w1.heap.size := by have := hb1.size; rwa [Hs0.out] at this
    have hx1 := (hb1.block w.heap.size (by rw [Hs0.out]; omega)).trans hx0.out
    have hr1 := (hb1.block (w.heap.size + 1) (by rw [Hs0.out]; omega)).trans hr0.out
    have hB1 := hb0.out.trans (hb1.mono (by rw [Hs0.out]; omega))
    obtain ⟨m0, m1, m2, m3, m4⟩ := Vl.five_of hx1
    obtain ⟨n0, n1, n2, n3, n4⟩ := Vl.fiveF_of hx1
    have X2 := Lib.hid ((Lib.heap_setCell_same (i := 1) hx1 (.string t)).trans rfl : (w1.setCell ⟨w.heap.size, 1, none⟩ (.string t)).heap[w.heap.size]? = some (.cells #[.int .u8 (k : Nat), .string t, .int .i64 i, .slice pi ni ci, .slice pn nn cn] 26 (0, 0)))
    have R2 := Lib.hid ((Below.heap_setCell w1 ⟨w.heap.size, 1, none⟩ (.string t) (w.heap.size + 1) (by simp)).trans hr1)
    have B2 := Lib.hid (hB1.setCell (p := ⟨w.heap.size, 1, none⟩) (Nat.le_refl _) (.string t))
    have hz2 : w.heap.size + 2 ≤ (w1.setCell ⟨w.heap.size, 1, none⟩ (.string t)).heap.size := by rw [World.size_setCell]; exact hz1
    have Hx1 := Lib.hid hx1
    clear hb1 hr1 hB1 hx1 hx0 hr0 hb0 Hs0 hz1
    go_upto_region 2 with fail
    generalize (w1.setCell ⟨w.heap.size, 1, none⟩ (.string t)) = W2 at *
    clear m0 m1 m2 m3 m4 n0 n1 n2 n3 n4 Hx1
    obtain ⟨m0, m1, m2, m3, m4⟩ := Vl.five_of X2.out
    go_wp2_with fail
    refine (HcN.out _ B2.out).mono ?_
    rintro e w3 ⟨v3, rfl, ho3, hb3⟩
    obtain ⟨p3, c3, rfl, hoff3⟩ := Vl.texts_off ho3
    have HO3 := Lib.hid ho3
    have hs3 : W2.heap.size ≤ w3.heap.size := hb3.size
    have hx3 := (hb3.block w.heap.size (by omega)).trans X2.out
    have hr3 := (hb3.block (w.heap.size + 1) (by omega)).trans R2.out
    have hB3 := B2.out.trans (hb3.mono (by omega))
    clear m0 m1 m2 m3 m4
    obtain ⟨m0, m1, m2, m3, m4⟩ := Vl.five_of hx3
    obtain ⟨n0, n1, n2, n3, n4⟩ := Vl.fiveF_of hx3
    have X4 := Lib.hid ((Lib.heap_setCell_same (i := 4) hx3 (.slice p3 nn c3)).trans rfl : (w3.setCell ⟨w.heap.size, 4, none⟩ (.slice p3 nn c3)).heap[w.heap.size]? = some (.cells #[.int .u8 (k : Nat), .string t, .int .i64 i, .slice pi ni ci, .slice p3 nn c3] 26 (0, 0)))
    have R4 := Lib.hid ((Below.heap_setCell w3 ⟨w.heap.size, 4, none⟩ (.slice p3 nn c3) (w.heap.size + 1) (by simp)).trans hr3)
    have B4 := Lib.hid (hB3.setCell (p := ⟨w.heap.size, 4, none⟩) (Nat.le_refl _) (.slice p3 nn c3))
    have hs4 : (w3.setCell ⟨w.heap.size, 4, none⟩ (.slice p3 nn c3)).heap.size = w3.heap.size := World.size_setCell _ _ _
    have K4 := Lib.hid (fun j (hj : j ≠ w.heap.size) => Below.heap_setCell w3 ⟨w.heap.size, 4, none⟩ (.slice p3 nn c3) j hj)
    clear hb3 hr3 hB3 hx3 ho3 hoff3 X2 R2 B2
    go_upto_region 3 with fail
    generalize (w3.setCell ⟨w.heap.size, 4, none⟩ (.slice p3 nn c3)) = W4 at *
    clear m0 m1 m2 m3 m4 n0 n1 n2 n3 n4
    obtain ⟨m0, m1, m2, m3, m4⟩ := Vl.five_of X4.out
    go_wp2_with fail
    refine (HcI.out _ B4.out).mono ?_
    rintro e w5 ⟨v5, rfl, ho5, hb5⟩
    have hni : ni = ni := rfl
    obtain ⟨p5, c5, rfl, hoff5⟩ := ho5.off
    have HO5 := Lib.hid ho5
    have hs5 : W4.heap.size ≤ w5.heap.size := hb5.size
    have hx5 := (hb5.block w.heap.size (by omega)).trans X4.out
    have hr5 := (hb5.block (w.heap.size + 1) (by omega)).trans R4.out
    have hB5 := B4.out.trans (hb5.mono (by omega))
    have K5 := Lib.hid hb5
    clear m0 m1 m2 m3 m4
    obtain ⟨m0, m1, m2, m3, m4⟩ := Vl.five_of hx5
    obtain ⟨n0, n1, n2, n3, n4⟩ := Vl.fiveF_of hx5
    have X6 := Lib.hid ((Lib.heap_setCell_same (i := 3) hx5 (.slice p5 ni c5)).trans rfl : (w5.setCell ⟨w.heap.size, 3, none⟩ (.slice p5 ni c5)).heap[w.heap.size]? = some (.cells #[.int .u8 (k : Nat), .string t, .int .i64 i, .slice p5 ni c5, .slice p3 nn c3] 26 (0, 0)))
    have R6 := Lib.hid ((Below.heap_setCell w5 ⟨w.heap.size, 3, none⟩ (.slice p5 ni c5) (w.heap.size + 1) (by simp)).trans hr5)
    have B6 := Lib.hid (hB5.setCell (p := ⟨w.heap.size, 3, none⟩) (Nat.le_refl _) (.slice p5 ni c5))
    have hs6 : (w5.setCell ⟨w.heap.size, 3, none⟩ (.slice p5 ni c5)).heap.size = w5.heap.size := World.size_setCell _ _ _
    have K6 := Lib.hid (fun j (hj : j ≠ w.heap.size) => Below.heap_setCell w5 ⟨w.heap.size, 3, none⟩ (.slice p5 ni c5) j hj)
    clear hb5 hr5 hB5 hx5 ho5 hoff5 X4 R4 B4
    go_upto_region 4 with fail
    generalize (w5.setCell ⟨w.heap.size, 3, none⟩ (.slice p5 ni c5)) = W6 at *
    clear m0 m1 m2 m3 m4 n0 n1 n2 n3 n4
    obtain ⟨m0, m1, m2, m3, m4⟩ := Vl.five_of X6.out
    obtain ⟨r0, r1, r2, r3, r4⟩ := Vl.five_of R6.out
    obtain ⟨n0, n1, n2, n3, n4⟩ := Vl.fiveF_of R6.out
    go_wp2_with fail
    refine bodyPost_ret (Vl.ret1 rfl _ _ (w.heap.size + 1) 26 _ _ rfl (Vl.set5 R6.out _ _ _ _ _) Tryd.underlying26 rfl (by kernel_rfl)) rfl ?_
    refine ⟨_, _, rfl, ?_, ?_, ?_⟩
    · have hW6 : ∀ j, w.heap.size + 2 ≤ j → (((((W6.setCell ⟨w.heap.size + 1, 0, none⟩ (.int .u8 (k : Nat))).setCell ⟨w.heap.size + 1, 1, none⟩ (.string t)).setCell ⟨w.heap.size + 1, 2, none⟩ (.int .i64 i)).setCell ⟨w.heap.size + 1, 3, none⟩ (.slice p5 ni c5)).setCell ⟨w.heap.size + 1, 4, none⟩ (.slice p3 nn c3)).heap[j]? = w5.heap[j]? := fun j h1 => (Vl.set5_rest _ _ _ _ _ _ _ j (by omega)).trans (K6.out j (by omega))
      exact Hend.out w3 w5 _ _ _ _ _ HO3.out HO5.out (by omega) (by omega) (by rw [Vl.set5_size]; omega) (fun j h1 h2 => (hW6 j h1).trans ((K5.out.block j (by omega)).trans (K4.out j (by omega)))) (fun j h1 h2 => hW6 j h1) (by omega)
    · exact below_grownBy B6.out (Vl.set5_grown _ _ _ _ _ _ _) (by omega) (by omega)
    · rw [Vl.set5_size]; omega
end Go.Proofs.YtckcbdnlligndaaDoor
