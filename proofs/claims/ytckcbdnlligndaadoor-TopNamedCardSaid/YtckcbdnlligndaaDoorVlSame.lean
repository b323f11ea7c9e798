
/-
  The walk of the document's comparison of two values (bellmanref09.Same), where they are one. Condition: a value's texts and lists are of a size that a machine holds.
-/
import Derived.Test.YtckcbdnlligndaaDoorVlFind
import Derived.Deep.QuietTactic
import Derived.BigQuiet
namespace Go.Proofs.YtckcbdnlligndaaDoor
open Go.RowKit

theorem Vl.below_drewN {B : Nat} {a b : World} (h : Below B a b) (n : Nat) : Below B a (b.drewN n) := ⟨h.os, h.tape, h.output, h.size, h.block⟩
set_option maxRecDepth 100000 in
set_option maxHeartbeats 1000000 in
/-- Two slices that read as one list are the same. -/
theorem vl_same_texts (p1 p2 : Option Addr) (c1 c2 : Nat) (l : List ByteArray) (w : World) (hm : l.length ≤ 9223372036854775807) (h1 : Wp.At Wp.mkT w p1 l) (h2 : Wp.At Wp.mkT w p2 l) :
    Calls Tryd.prog 24 #[.slice p1 l.length c1, .slice p2 l.length c2] w fun e w' => e = .returned (.bool true) ∧ Below w.heap.size w w' := by
  have H1 := Lib.hid h1
  have H2 := Lib.hid h2
  obtain ⟨n, hn⟩ : ∃ n, n = l.length := ⟨_, rfl⟩
  have Hn := Lib.hid hn
  rw [← hn] at hm ⊢
  clear h1 h2 hn
  go_enter Tryd.func24, Tryd.ntmps24
  go_wp2_with fail
  go_loopw [5, 13] (fun _ t wr => ∃ k : Nat, k ≤ n ∧ t = .int .i64 k ∧ Below w.heap.size w wr) (fun _ t _ => n - (intOf t).toNat)
  case atStart => exact ⟨0, Nat.zero_le _, rfl, Below.refl _ _⟩
  case round =>
    obtain ⟨k, hk, rfl, hB⟩ := hrel
    by_cases hlt : k < n
    · have hkl : k < l.length := by rw [← Hn.out]; exact hlt
      obtain ⟨b1, o1, rfl, hc1⟩ := (H1.out.below hB).get k hkl
      obtain ⟨b2, o2, rfl, hc2⟩ := (H2.out.below hB).get k hkl
      obtain ⟨x, hx⟩ : ∃ x, x = l[k] := ⟨_, rfl⟩
      rw [← hx] at hc1 hc2
      simp only [Wp.mkT] at hc1 hc2
      have hlt2 : (k : Int) < (n : Int) := by omega
      have hk0 : (0 : Int) ≤ (k : Int) := by omega
      clear hx hkl
      go_wp2_with fail
      go_quiet (fail)
      go_wp2_with fail
      refine ⟨⟨k + 1, by omega, by go_num, Vl.below_drewN hB _⟩, by simp [intOf]; omega⟩
    · obtain rfl : k = n := by omega
      go_wp2_with fail
      go_ret
      exact ⟨rfl, hB⟩
set_option maxRecDepth 100000 in
set_option maxHeartbeats 4000000 in
/-- Two that read as one value are the same. -/
theorem vlSame_any : ∀ (d : Nat) (x : Vl.V) (u v : Value) (w : World), Vl.At d w u x → Vl.At d w v x →
    Calls Tryd.prog 17 #[u, v] w fun e w' => e = .returned (.bool true) ∧ Below w.heap.size w w'
  | 0, _, _, _, _, h, _ => h.elim
  | d + 1, x, u, v, w, ⟨pi, ci, pn, cn, hu, ⟨q1, q2, q3, q4, q5, q6⟩, hn, hi⟩, ⟨pi2, ci2, pn2, cn2, hv, _, hn2, hi2⟩ => by
    subst hu hv
    have ih := fun y u v W (h1 : Vl.At d W u y) (h2 : Vl.At d W v y) => vlSame_any d y u v W h1 h2
    have Hst := Lib.hid (fun W (h : Below w.heap.size w W) => vl_same_texts pn pn2 cn cn2 x.names W (by omega) (hn.below h) (hn2.below h))
    have Hrow1 := Lib.hid (fun W (h : Below w.heap.size w W) => Vl.rowIs hi W h)
    have Hrow2 := Lib.hid (fun W (h : Below w.heap.size w W) => Vl.rowIs hi2 W h)
    have HI := Lib.hid ih
    have hbA : Below w.heap.size w ((w.alloc (.cells #[.int .u8 (x.kind : Nat), .string x.text, .int .i64 x.num, .slice pi x.items.length ci, .slice pn x.names.length cn] 26)).alloc (.cells #[.int .u8 (x.kind : Nat), .string x.text, .int .i64 x.num, .slice pi2 x.items.length ci2, .slice pn2 x.names.length cn2] 26)) := ((Below.refl w.heap.size w).alloc (Nat.le_refl _) _).alloc (by simp) _
    have hsA : ((w.alloc (.cells #[.int .u8 (x.kind : Nat), .string x.text, .int .i64 x.num, .slice pi x.items.length ci, .slice pn x.names.length cn] 26)).alloc (.cells #[.int .u8 (x.kind : Nat), .string x.text, .int .i64 x.num, .slice pi2 x.items.length ci2, .slice pn2 x.names.length cn2] 26)).heap.size = w.heap.size + 2 := by simp
    have hx0 : ((w.alloc (.cells #[.int .u8 (x.kind : Nat), .string x.text, .int .i64 x.num, .slice pi x.items.length ci, .slice pn x.names.length cn] 26)).alloc (.cells #[.int .u8 (x.kind : Nat), .string x.text, .int .i64 x.num, .slice pi2 x.items.length ci2, .slice pn2 x.names.length cn2] 26)).heap[w.heap.size]? = some (.cells #[.int .u8 (x.kind : Nat), .string x.text, .int .i64 x.num, .slice pi x.items.length ci, .slice pn x.names.length cn] 26 (0, 0)) := by rw [Vl.past _ _ _ (by simp)]; exact Vl.new _ _
    have hx1 : ((w.alloc (.cells #[.int .u8 (x.kind : Nat), .string x.text, .int .i64 x.num, .slice pi x.items.length ci, .slice pn x.names.length cn] 26)).alloc (.cells #[.int .u8 (x.kind : Nat), .string x.text, .int .i64 x.num, .slice pi2 x.items.length ci2, .slice pn2 x.names.length cn2] 26)).heap[w.heap.size + 1]? = some (.cells #[.int .u8 (x.kind : Nat), .string x.text, .int .i64 x.num, .slice pi2 x.items.length ci2, .slice pn2 x.names.length cn2] 26 (0, 0)) := Vl.newAt _ _ _ (by simp)
    have HbA := Lib.hid hbA
    have HsA := Lib.hid hsA
    have Hx0 := Lib.hid hx0
    have Hx1 := Lib.hid hx1
    have hne : (x.text.toList != x.text.toList) = false := by simp
    clear hi hi2 hn hn2 ih q6 hbA hsA hx0 hx1
    generalize x.kind = k at *
    generalize x.text = t at *
    generalize x.num = i at *
    generalize hni : x.items.length = ni at *
    generalize hnn : x.names.length = nn at *
    have Hni := Lib.hid hni
    clear hni hnn
    go_enter Tryd.func17, Tryd.ntmps17
    go_wp2_with fail
    refine (Hst.out _ HbA.out).mono ?_
    rintro e w1 ⟨rfl, hb1⟩
    have hs1 : w.heap.size + 2 ≤ w1.heap.size := by have := hb1.size; rwa [HsA.out] at this
    have hx0 := (hb1.block w.heap.size (by rw [HsA.out]; omega)).trans Hx0.out
    have hx1 := (hb1.block (w.heap.size + 1) (by rw [HsA.out]; omega)).trans Hx1.out
    have HB1 := Lib.hid (HbA.out.trans (hb1.mono (by rw [HsA.out]; omega)))
    have HX0 := Lib.hid hx0
    have HX1 := Lib.hid hx1
    obtain ⟨m0, m1, m2, m3, m4⟩ := Vl.five_of hx0
    clear hb1 hx0 hx1 HbA HsA Hx0 Hx1 Hst hne
    go_wp2_with fail
    clear m0 m1 m2 m3 m4
    go_loopw [5, 45] (fun _ t wr => ∃ k : Nat, k ≤ ni ∧ t = .int .i64 k ∧ Hid (Below w1.heap.size w1 wr)) (fun _ t _ => ni - (intOf t).toNat)
    case atStart => exact ⟨0, Nat.zero_le _, rfl, Lib.hid (Below.refl _ _)⟩
    case round =>
      obtain ⟨kk, hk, rfl, HB⟩ := hrel
      by_cases hlt : kk < ni
      · have hBw := HB1.out.trans (HB.out.mono (by omega))
        obtain ⟨b1, o1, c0, c1, c2, c3, c4, rfl, ⟨e0, e1, e2, e3, e4⟩, y, hy, hAy⟩ := Hrow1.out _ hBw kk hlt
        obtain ⟨b2, o2, g0, g1, g2, g3, g4, rfl, ⟨f0, f1, f2, f3, f4⟩, y', hy', hAy'⟩ := Hrow2.out _ hBw kk hlt
        obtain rfl : y' = y := Option.some.inj (hy'.symm.trans hy)
        obtain ⟨k1, t1, i1, pi3, ni3, ci3, pn3, nn3, cn3, hsh⟩ := hAy.shape
        simp only [Value.agg.injEq, Array.mk.injEq, List.cons.injEq, and_true] at hsh
        obtain ⟨rfl, rfl, rfl, rfl, rfl⟩ := hsh
        obtain ⟨k2, t2, i2, pi4, ni4, ci4, pn4, nn4, cn4, hsh⟩ := hAy'.shape
        simp only [Value.agg.injEq, Array.mk.injEq, List.cons.injEq, and_true] at hsh
        obtain ⟨rfl, rfl, rfl, rfl, rfl⟩ := hsh
        have hx0 := (HB.out.block w.heap.size (by omega)).trans HX0.out
        have hx1 := (HB.out.block (w.heap.size + 1) (by omega)).trans HX1.out
        obtain ⟨-, -, -, m3, -⟩ := Vl.five_of hx0
        obtain ⟨-, -, -, r3, -⟩ := Vl.five_of hx1
        have HS := Lib.hid (HI.out y' _ _ wr.drew (hAy.below (hBw.drew)) (hAy'.below (hBw.drew)))
        have hk0 : (0 : Int) ≤ (kk : Int) := by omega
        have hk1 : (kk : Int) < (ni : Int) := by omega
        have hlb : ∀ j v, wr.cell? ⟨b1, j, none⟩ = some v → b1 < wr.heap.size := fun j v h => World.block_lt_of_cell? wr _ h
        have hlb1 : b1 < wr.heap.size := World.block_lt_of_cell? wr _ e0
        have hlb2 : b2 < wr.heap.size := World.block_lt_of_cell? wr _ f0
        have hw0 : w.heap.size < wr.heap.size := by have := HB.out.size; omega
        have hw1 : w.heap.size + 1 < wr.heap.size := by have := HB.out.size; omega
        have HKp : Hid (∀ w' : World, Below wr.heap.size wr w' → (fun w' => w'.cell? ⟨w.heap.size, 3, none⟩ = some (.slice (some ⟨b1, o1, none⟩) ni ci) ∧ w'.cell? ⟨w.heap.size + 1, 3, none⟩ = some (.slice (some ⟨b2, o2, none⟩) ni ci2) ∧ w'.cell? ⟨b1, o1 + kk * 5, none⟩ = some (.int .u8 k1) ∧ w'.cell? ⟨b1, o1 + kk * 5 + 1, none⟩ = some (.string t1) ∧ w'.cell? ⟨b1, o1 + kk * 5 + 2, none⟩ = some (.int .i64 i1) ∧ w'.cell? ⟨b1, o1 + kk * 5 + 3, none⟩ = some (.slice pi3 ni3 ci3) ∧ w'.cell? ⟨b1, o1 + kk * 5 + 4, none⟩ = some (.slice pn3 nn3 cn3) ∧ w'.cell? ⟨b2, o2 + kk * 5, none⟩ = some (.int .u8 k2) ∧ w'.cell? ⟨b2, o2 + kk * 5 + 1, none⟩ = some (.string t2) ∧ w'.cell? ⟨b2, o2 + kk * 5 + 2, none⟩ = some (.int .i64 i2) ∧ w'.cell? ⟨b2, o2 + kk * 5 + 3, none⟩ = some (.slice pi4 ni4 ci4) ∧ w'.cell? ⟨b2, o2 + kk * 5 + 4, none⟩ = some (.slice pn4 nn4 cn4)) w') := Lib.hid (fun w' h => ⟨(h.cell (p := ⟨w.heap.size, 3, none⟩) hw0).trans m3, (h.cell (p := ⟨w.heap.size + 1, 3, none⟩) hw1).trans r3, (h.cell (p := ⟨b1, _, none⟩) hlb1).trans e0, (h.cell (p := ⟨b1, _, none⟩) hlb1).trans e1, (h.cell (p := ⟨b1, _, none⟩) hlb1).trans e2, (h.cell (p := ⟨b1, _, none⟩) hlb1).trans e3, (h.cell (p := ⟨b1, _, none⟩) hlb1).trans e4, (h.cell (p := ⟨b2, _, none⟩) hlb2).trans f0, (h.cell (p := ⟨b2, _, none⟩) hlb2).trans f1, (h.cell (p := ⟨b2, _, none⟩) hlb2).trans f2, (h.cell (p := ⟨b2, _, none⟩) hlb2).trans f3, (h.cell (p := ⟨b2, _, none⟩) hlb2).trans f4⟩)
        clear hAy hAy' hy hy' hx0 hx1 hBw hlb hlb1 hlb2
        go_wp2_with fail
        go_region_held3 (fun w' => w'.cell? ⟨w.heap.size, 3, none⟩ = some (.slice (some ⟨b1, o1, none⟩) ni ci) ∧ w'.cell? ⟨w.heap.size + 1, 3, none⟩ = some (.slice (some ⟨b2, o2, none⟩) ni ci2) ∧ w'.cell? ⟨b1, o1 + kk * 5, none⟩ = some (.int .u8 k1) ∧ w'.cell? ⟨b1, o1 + kk * 5 + 1, none⟩ = some (.string t1) ∧ w'.cell? ⟨b1, o1 + kk * 5 + 2, none⟩ = some (.int .i64 i1) ∧ w'.cell? ⟨b1, o1 + kk * 5 + 3, none⟩ = some (.slice pi3 ni3 ci3) ∧ w'.cell? ⟨b1, o1 + kk * 5 + 4, none⟩ = some (.slice pn3 nn3 cn3) ∧ w'.cell? ⟨b2, o2 + kk * 5, none⟩ = some (.int .u8 k2) ∧ w'.cell? ⟨b2, o2 + kk * 5 + 1, none⟩ = some (.string t2) ∧ w'.cell? ⟨b2, o2 + kk * 5 + 2, none⟩ = some (.int .i64 i2) ∧ w'.cell? ⟨b2, o2 + kk * 5 + 3, none⟩ = some (.slice pi4 ni4 ci4) ∧ w'.cell? ⟨b2, o2 + kk * 5 + 4, none⟩ = some (.slice pn4 nn4 cn4))
          (first | (go_keep; done) | (exact HKp.out _ e7))
          (first
            | (go_at_call 17; (with_reducible refine (HS.out).mono ?_); rintro e w5 ⟨rfl, hb5⟩; have e7 : Below wr.heap.size wr w5 := ((Below.refl _ wr).drew.trans hb5)))
        have HB5 := Lib.hid (HB.out.trans (e7.mono HB.out.size))
        clear e7 hb5
        go_wp2_with fail
        exact ⟨⟨kk + 1, by omega, by go_num, HB5⟩, by simp [intOf]; omega⟩
      · obtain rfl : kk = ni := by omega
        go_wp2_with fail
        go_ret
        exact ⟨rfl, HB1.out.trans (HB.out.mono (by omega))⟩
end Go.Proofs.YtckcbdnlligndaaDoor
