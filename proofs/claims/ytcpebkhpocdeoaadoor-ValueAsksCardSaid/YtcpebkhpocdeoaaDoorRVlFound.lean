/-
  The walk of the document's own Find (bellmanref09.Find). Conditions: a value's texts and lists are of a size that a machine holds; a path's capacity is no less than its length.
-/
import Derived.Test.YtcpebkhpocdeoaaDoorRVlB
import Derived.Test.YtcpebkhpocdeoaaDoorRVlA
namespace Go.Proofs.YtcpebkhpocdeoaaDoor
open Go.RowKit

theorem refFind_any : ∀ (p : List ByteArray) (d : Nat) (x : Vl.V) (v : Value) (w : World) (q : Option Addr) (c : Nat), Vl.At d w v x → Vl.Okay x → p.length ≤ c → p.length ≤ 140737488351232 → Wp.At Wp.mkT w q p →
    Calls Tryd.prog 28 #[v, .slice q p.length c] w (Vl.RF (Vl.fR x p) w)
  | [], d, x, v, w, q, c, hA, hO, _, _, _ => by
    have := refFind_nil d x v w q c hA (Vl.few_of d x hO.1 hO.2)
    have e : Vl.fR x [] = (x, 0) := by unfold Vl.fR; rw [Vl.find]
    rw [e]
    exact this
  | s :: p, 0, _, _, _, _, _, hA, _, _, _, _ => hA.elim
  | s :: p, d + 1, x, v, w, q, c, hA, hO, hc, hl, hp => by
    obtain ⟨pi, ci, pn, cn, rfl, ⟨q1, q2, q3, q4, q5, q6⟩, hn, hi⟩ := hA
    rw [List.length_cons] at hc hl
    rcases hp with h0 | ⟨pb, po, rfl, hcell⟩
    · cases h0
    · have h0 := hcell 0 (by simp)
      refine refFind_cons d x.kind x.text x.num x.items x.names pi x.items.length ci pn x.names.length cn s pb po p.length c (Vl.fR x (s :: p)) w rfl rfl hO.names q4 hc hl hn (Vl.rowIs hi) h0 (fun h => ?_) (fun j z hj hz u W hb hu => ?_)
      · unfold Vl.fR
        rw [Vl.find_none h]
      · have e : Vl.fR x (s :: p) = Vl.fR z p := by unfold Vl.fR; rw [Vl.find_some hj hz]
        rw [e]
        refine refFind_any p d z u W _ (c - 1) hu (hO.item (List.mem_of_getElem? hz)) (by omega) (by omega) ?_
        by_cases h1 : c = 1
        · rw [if_pos h1]
          exact Or.inl (List.length_eq_zero_iff.1 (by omega))
        · rw [if_neg h1]
          refine Or.inr ⟨pb, po + 1, rfl, fun i hi => ?_⟩
          have h2 := hcell (i + 1) (by simpa using hi)
          have h3 := (hb.cell (World.block_lt_of_cell? w _ h2)).trans h2
          rw [show po + 1 + i = po + (i + 1) by omega]
          rw [h3]
          rfl
set_option maxRecDepth 100000 in
set_option maxHeartbeats 1000000 in
theorem refFindTop_any (d : Nat) (x : Vl.V) (v : Value) (w : World) (p : List ByteArray) (q : Option Addr) (c : Nat) (hA : Vl.At d w v x) (hc : p.length ≤ c) (hl : p.length ≤ 140737488351232) (hp : Wp.At Wp.mkT w q p) :
    Calls Tryd.prog 9 #[v, .slice q p.length c] w (Vl.RF (Vl.findR x p) w) := by
  have HCk := Lib.hid (fun W (h : Below w.heap.size w W) => refCheck_any d x v W (hA.below h))
  have hck : Vl.chk x = if Vl.good x then 0 else 2 := rfl
  rw [hck] at HCk
  obtain ⟨T, hT⟩ : ∃ T, T = Vl.findR x p := ⟨_, rfl⟩
  rw [← hT]
  have Hbad := Lib.hid (fun (h : Vl.good x = false) => hT.trans (Vl.findR_bad h))
  have Hok := Lib.hid (fun (h : Vl.good x = true) => (show T = Vl.fR x p by rw [hT]; unfold Vl.findR Vl.fR; rw [if_pos h]; cases Vl.find x p <;> rfl))
  have HF := Lib.hid (fun (hg : Vl.good x = true) W (h : Below w.heap.size w W) => (by have := refFind_any p d x v W q c (hA.below h) (Vl.Okay.of hg) hc hl (hp.below h); rwa [← Hok.out hg] at this : Calls Tryd.prog 28 #[v, .slice q p.length c] W (Vl.RF T W)))
  generalize hn : p.length = n at *
  obtain ⟨k, t, i, pi, ni, ci, pn, nn, cn, rfl⟩ := hA.shape
  have X1 := Lib.hid (show ((w.alloc (.cells #[.int .u8 (k : Nat), .string t, .int .i64 i, .slice pi ni ci, .slice pn nn cn] 26)).alloc (.cells #[.int .u8 0, .string ⟨#[]⟩, .int .i64 0, .slice none 0 0, .slice none 0 0] 26)).heap[w.heap.size]? = some (.cells #[.int .u8 (k : Nat), .string t, .int .i64 i, .slice pi ni ci, .slice pn nn cn] 26 (0, 0)) by rw [Vl.past _ _ _ (by simp)]; exact Vl.new _ _)
  have R1 := Lib.hid (Vl.newAt (w.alloc (.cells #[.int .u8 (k : Nat), .string t, .int .i64 i, .slice pi ni ci, .slice pn nn cn] 26)) (.cells #[.int .u8 0, .string ⟨#[]⟩, .int .i64 0, .slice none 0 0, .slice none 0 0] 26) (w.heap.size + 1) (by simp))
  have B1 := Lib.hid (((Below.refl w.heap.size w).alloc (Nat.le_refl _) (.cells #[.int .u8 (k : Nat), .string t, .int .i64 i, .slice pi ni ci, .slice pn nn cn] 26)).alloc (by simp) (.cells #[.int .u8 0, .string ⟨#[]⟩, .int .i64 0, .slice none 0 0, .slice none 0 0] 26))
  have hs1 : w.heap.size + 1 < ((w.alloc (.cells #[.int .u8 (k : Nat), .string t, .int .i64 i, .slice pi ni ci, .slice pn nn cn] 26)).alloc (.cells #[.int .u8 0, .string ⟨#[]⟩, .int .i64 0, .slice none 0 0, .slice none 0 0] 26)).heap.size := by simp
  have Hs1 := Lib.hid hs1
  generalize Vl.good x = g at *
  clear hs1 hA hp hck hT hn hc hl
  go_enter Tryd.func9, Tryd.ntmps9
  go_upto_region 1 with fail
  generalize ((w.alloc (.cells #[.int .u8 (k : Nat), .string t, .int .i64 i, .slice pi ni ci, .slice pn nn cn] 26)).alloc (.cells #[.int .u8 0, .string ⟨#[]⟩, .int .i64 0, .slice none 0 0, .slice none 0 0] 26)) = W1 at *
  obtain ⟨m0, m1, m2, m3, m4⟩ := Vl.five_of X1.out
  go_wp2_with fail
  refine (HCk.out _ B1.out).mono ?_
  rintro e w2 ⟨rfl, hb2⟩
  have HB2 := Lib.hid (B1.out.trans (hb2.mono B1.out.size))
  have hx2 := (hb2.block w.heap.size (by have := Hs1.out; omega)).trans X1.out
  have HR2 := Lib.hid ((hb2.block (w.heap.size + 1) Hs1.out).trans R1.out)
  have hs2 : w.heap.size + 1 < w2.heap.size := Nat.lt_of_lt_of_le Hs1.out hb2.size
  clear m0 m1 m2 m3 m4 hb2 X1 R1 B1 HCk Hs1
  obtain ⟨m0, m1, m2, m3, m4⟩ := Vl.five_of hx2
  clear hx2
  cases g with
  | false =>
    obtain rfl := Hbad.out rfl
    obtain ⟨n0, n1, n2, n3, n4⟩ := Vl.fiveF_of HR2.out
    obtain ⟨r0, r1, r2, r3, r4⟩ := Vl.five_of HR2.out
    clear Hbad Hok HF
    go_wp2_with fail
    refine bodyPost_ret (Vl.ret2 rfl _ _ (w.heap.size + 1) 26 _ _ rfl (Vl.set5 HR2.out _ _ _ _ _) Tryd.underlying26 rfl (by kernel_rfl)) rfl ?_
    exact ⟨_, rfl, ⟨1, fun _ _ => Vl.At.zero 0 _⟩, below_grownBy HB2.out (Vl.set5_grown _ _ _ _ _ _ _) (by omega) (by omega)⟩
  | true =>
    have HC := Lib.hid (HF.out rfl _ HB2.out)
    have HS2 := Lib.hid hs2
    clear Hbad Hok HF hs2
    go_wp2_with fail
    refine HC.out.mono ?_
    rintro e w5 ⟨u, rfl, ⟨d5, hO5⟩, hb5⟩
    obtain ⟨k5, t5, i5, pi5, ni5, ci5, pn5, nn5, cn5, rfl⟩ := hO5.at.shape
    have HR5 := Lib.hid ((hb5.block (w.heap.size + 1) HS2.out).trans HR2.out)
    have HB5 := Lib.hid (HB2.out.trans (hb5.mono HB2.out.size))
    have HO5 := Lib.hid hO5
    obtain ⟨n0, n1, n2, n3, n4⟩ := Vl.fiveF_of HR5.out
    obtain ⟨r0, r1, r2, r3, r4⟩ := Vl.five_of HR5.out
    clear m0 m1 m2 m3 m4 hO5 hb5 HC HR2
    go_wp2_with fail
    refine bodyPost_ret (Vl.ret2 rfl _ _ (w.heap.size + 1) 26 _ _ rfl (Vl.set5 HR5.out _ _ _ _ _) Tryd.underlying26 rfl (by kernel_rfl)) rfl ?_
    have hs2 := HS2.out
    exact ⟨_, rfl, ⟨d5, fun W' hW => HO5.out W' (fun j h1 h2 h3 => (hW j (show w.heap.size ≤ j by have : w2.heap.size ≤ j := h1; omega) (by rw [Vl.set5_size]; exact h2) h3).trans (Vl.set5_rest _ _ _ _ _ _ _ j (by have : w2.heap.size ≤ j := h1; omega)))⟩, below_grownBy HB5.out (Vl.set5_grown _ _ _ _ _ _ _) (Nat.le_succ _) HB5.out.size⟩
end Go.Proofs.YtcpebkhpocdeoaaDoor
