
/-
  The walk of value's Decode. Condition: what is decoded is of a size that a machine holds.
-/
import Derived.Test.YtckcbdnlligndaaDoorVlValue
import Derived.Test.YtckcbdnlligndaaDoorVlDecMath
namespace Go.Proofs.YtckcbdnlligndaaDoor
open Go.RowKit

/-- What Decode hands back. -/
def Vl.DPost (T : Vl.V × List UInt8 × Int) (w : World) (e : Ending) (w' : World) : Prop := ∃ u, e = .returned (.tuple #[u, .string (Wp.B T.2.1), .int .i64 T.2.2]) ∧ Vl.At 257 w' u T.1 ∧ Below w.heap.size w w'
set_option maxRecDepth 100000 in
set_option maxHeartbeats 4000000 in
theorem vlDecode_any (l : List UInt8) (w : World) (hl : l.length ≤ 200000000000000) :
    Calls Tryd.prog 12 #[.string (Wp.B l)] w (Vl.DPost (Vl.decR l) w) := by
  have hx := Vl.pv_keeps 257 ⟨l, false, 256⟩ (by show (0 : Int) ≤ 256; omega) (by show (256 : Int) + 1 ≤ _; omega)
  have hT : Vl.decR l = if (Vl.pv 257 ⟨l, false, 256⟩).2.b || !Vl.good (Vl.pv 257 ⟨l, false, 256⟩).1 then (Vl.zero, [], 7) else ((Vl.pv 257 ⟨l, false, 256⟩).1, (Vl.pv 257 ⟨l, false, 256⟩).2.l, 0) := rfl
  have hb2 : Below w.heap.size w ((w.alloc (.cells #[.int .u8 0, .string ⟨#[]⟩, .int .i64 0, .slice none 0 0, .slice none 0 0] 26)).alloc (.cells #[.string (Wp.B l), .bool false, .int .i64 256] 68)) := ((Below.refl w.heap.size w).alloc (Nat.le_refl _) _).alloc (by simp) _
  have hs2 : ((w.alloc (.cells #[.int .u8 0, .string ⟨#[]⟩, .int .i64 0, .slice none 0 0, .slice none 0 0] 26)).alloc (.cells #[.string (Wp.B l), .bool false, .int .i64 256] 68)).heap.size = w.heap.size + 2 := by simp
  have hr2 : ((w.alloc (.cells #[.int .u8 0, .string ⟨#[]⟩, .int .i64 0, .slice none 0 0, .slice none 0 0] 26)).alloc (.cells #[.string (Wp.B l), .bool false, .int .i64 256] 68)).heap[w.heap.size]? = some (.cells #[.int .u8 0, .string ⟨#[]⟩, .int .i64 0, .slice none 0 0, .slice none 0 0] 26 (0, 0)) := by rw [Vl.past _ _ _ (by simp)]; exact Vl.new _ _
  have hB2 : Vl.RBox ((w.alloc (.cells #[.int .u8 0, .string ⟨#[]⟩, .int .i64 0, .slice none 0 0, .slice none 0 0] 26)).alloc (.cells #[.string (Wp.B l), .bool false, .int .i64 256] 68)) (w.heap.size + 1) l false 256 := Vl.newAt _ _ _ (by simp)
  have HC := Lib.hid (value_any 257 (w.heap.size + 1) l false 256 _ hB2 (by omega) (by omega) (by omega) hl)
  have Hb2 := Lib.hid hb2
  have Hs2 := Lib.hid hs2
  have Hr2 := Lib.hid hr2
  clear hb2 hs2 hr2 hB2
  generalize Vl.decR l = T at *
  have HT := Lib.hid hT
  have hle : (Vl.pv 257 ⟨l, false, 256⟩).2.l.length ≤ 200000000000000 := Nat.le_trans hx.len hl
  clear hT hx
  generalize Vl.pv 257 ⟨l, false, 256⟩ = Q at *
  obtain ⟨x, ⟨ql, qb, qr⟩⟩ := Q
  simp only [] at *
  go_enter Tryd.func12, Tryd.ntmps12
  go_wp2_with fail
  refine HC.out.mono ?_
  rintro e w3 ⟨u, rfl, hoff, hrb3, hg3⟩
  obtain ⟨k5, t5, i5, pi5, ni5, ci5, pn5, nn5, cn5, rfl⟩ := hoff.at.shape
  have hs3 : w.heap.size + 2 ≤ w3.heap.size := by have := hg3.size; rwa [Hs2.out] at this
  have hB3 := below_grownBy Hb2.out hg3 (by omega) Hb2.out.size
  have hr3 := (hg3.block w.heap.size (by rw [Hs2.out]; omega) (by intro e; have := Option.some.inj e; omega)).trans Hr2.out
  have hoff' : Vl.Off 257 (w.heap.size + 2) w3 none (.agg #[.int .u8 k5, .string t5, .int .i64 i5, .slice pi5 ni5 ci5, .slice pn5 nn5 cn5]) x := by rw [← Hs2.out]; exact hoff
  have Hoff := Lib.hid hoff'
  have hbW := (Below.refl w3.heap.size w3).alloc (Nat.le_refl _) (.cells #[.int .u8 k5, .string t5, .int .i64 i5, .slice pi5 ni5 ci5, .slice pn5 nn5 cn5] 26)
  have HV := Lib.hid (Vl.new w3 (.cells #[.int .u8 k5, .string t5, .int .i64 i5, .slice pi5 ni5 ci5, .slice pn5 nn5 cn5] 26))
  have HBW := Lib.hid (hB3.trans (hbW.mono (by omega)))
  have HRW := Lib.hid ((hbW.block w.heap.size (by omega)).trans hr3)
  have HRB := Lib.hid (Vl.rbox_below hrb3 hbW)
  have HbW := Lib.hid hbW
  obtain ⟨d0, d1, d2, -, -, -⟩ := Vl.three_of HRB.out
  have hck := vlCheck_any 257 x _ _ (hoff.at.below hbW)
  rw [show Vl.chk x = if Vl.good x then 0 else 2 from rfl] at hck
  have HK := Lib.hid hck
  clear hoff hoff' hg3 hB3 hbW hck HC Hb2 Hr2
  have hsW : (w3.alloc (.cells #[.int .u8 k5, .string t5, .int .i64 i5, .slice pi5 ni5 ci5, .slice pn5 nn5 cn5] 26)).heap.size = w3.heap.size + 1 := by simp
  have HsW := Lib.hid hsW
  clear hsW
  cases qb with
  | true =>
    have hTe : T = (Vl.zero, [], 7) := by rw [HT.out]; rfl
    subst hTe
    obtain ⟨r0, r1, r2, r3, r4⟩ := Vl.five_of HRW.out
    obtain ⟨n0, n1, n2, n3, n4⟩ := Vl.fiveF_of HRW.out
    clear hr3 hrb3
    go_wp2_with fail
    refine bodyPost_ret (Vl.ret3 rfl _ _ w.heap.size 26 _ _ rfl (Vl.set5 HRW.out _ _ _ _ _) Tryd.underlying26 rfl (by kernel_rfl)) rfl ?_
    exact ⟨_, rfl, Vl.At.zero 256 _, below_grownBy HBW.out (Vl.set5_grown _ _ _ _ _ _ _) (Nat.le_refl _) HBW.out.size⟩
  | false =>
    obtain ⟨m0, m1, m2, m3, m4⟩ := Vl.five_of HV.out
    clear hr3 hrb3
    go_wp2_with fail
    refine HK.out.mono ?_
    rintro e w4 ⟨rfl, hb4⟩
    have hr4 := (hb4.block w.heap.size (by rw [HsW.out]; omega)).trans HRW.out
    have hv4 := (hb4.block w3.heap.size (by rw [HsW.out]; omega)).trans HV.out
    have hrb4 := Vl.rbox_below HRB.out hb4
    have hs4 : w3.heap.size + 1 ≤ w4.heap.size := by have := hb4.size; rwa [HsW.out] at this
    have HB4 := Lib.hid (HBW.out.trans (hb4.mono (by rw [HsW.out]; omega)))
    have HR4 := Lib.hid hr4
    have Hk4 := Lib.hid (fun j (hj : j < w3.heap.size) => (hb4.block j (by rw [HsW.out]; omega)).trans (HbW.out.block j hj))
    clear hb4 HBW HRW HK d0 d1 d2 m0 m1 m2 m3 m4
    cases hgd : Vl.good x with
    | false =>
      have hTe : T = (Vl.zero, [], 7) := by rw [HT.out, hgd]; rfl
      subst hTe
      obtain ⟨r0, r1, r2, r3, r4⟩ := Vl.five_of hr4
      obtain ⟨n0, n1, n2, n3, n4⟩ := Vl.fiveF_of hr4
      clear hr4 hv4 hrb4
      go_wp2_with fail
      refine bodyPost_ret (Vl.ret3 rfl _ _ w.heap.size 26 _ _ rfl (Vl.set5 HR4.out _ _ _ _ _) Tryd.underlying26 rfl (by kernel_rfl)) rfl ?_
      exact ⟨_, rfl, Vl.At.zero 256 _, below_grownBy HB4.out (Vl.set5_grown _ _ _ _ _ _ _) (Nat.le_refl _) HB4.out.size⟩
    | true =>
      have hTe : T = (x, ql, 0) := by rw [HT.out, hgd]; rfl
      subst hTe
      have HCl := Lib.hid (fun W => vlClone_any (Wp.B ql) W (by rw [Wp.B_size]; omega))
      obtain ⟨m0, m1, m2, m3, m4⟩ := Vl.five_of hv4
      obtain ⟨d0, d1, d2, -, -, -⟩ := Vl.three_of hrb4
      have HKp : Hid (∀ w' : World, Below w4.heap.size w4 w' → w'.cell? ⟨w3.heap.size, 0, none⟩ = some (.int .u8 k5) ∧ w'.cell? ⟨w3.heap.size, 1, none⟩ = some (.string t5) ∧ w'.cell? ⟨w3.heap.size, 2, none⟩ = some (.int .i64 i5) ∧ w'.cell? ⟨w3.heap.size, 3, none⟩ = some (.slice pi5 ni5 ci5) ∧ w'.cell? ⟨w3.heap.size, 4, none⟩ = some (.slice pn5 nn5 cn5) ∧ w'.cell? ⟨w.heap.size + 1, 0, none⟩ = some (.string (Wp.B ql))) :=
        Lib.hid (fun w' h => ⟨(h.cell (p := ⟨w3.heap.size, 0, none⟩) (by show w3.heap.size < _; omega)).trans m0, (h.cell (p := ⟨w3.heap.size, 1, none⟩) (by show w3.heap.size < _; omega)).trans m1, (h.cell (p := ⟨w3.heap.size, 2, none⟩) (by show w3.heap.size < _; omega)).trans m2, (h.cell (p := ⟨w3.heap.size, 3, none⟩) (by show w3.heap.size < _; omega)).trans m3, (h.cell (p := ⟨w3.heap.size, 4, none⟩) (by show w3.heap.size < _; omega)).trans m4, (h.cell (p := ⟨w.heap.size + 1, 0, none⟩) (by show w.heap.size + 1 < _; omega)).trans d0⟩)
      have HKq : Hid (∀ (w' : World) (a b c d e : Value), Below w4.heap.size w4 w' → (fun w' => w'.cell? ⟨w3.heap.size, 0, none⟩ = some (.int .u8 k5) ∧ w'.cell? ⟨w3.heap.size, 1, none⟩ = some (.string t5) ∧ w'.cell? ⟨w3.heap.size, 2, none⟩ = some (.int .i64 i5) ∧ w'.cell? ⟨w3.heap.size, 3, none⟩ = some (.slice pi5 ni5 ci5) ∧ w'.cell? ⟨w3.heap.size, 4, none⟩ = some (.slice pn5 nn5 cn5) ∧ w'.cell? ⟨w.heap.size + 1, 0, none⟩ = some (.string (Wp.B ql))) (((((w'.setCell ⟨w.heap.size, 0, none⟩ a).setCell ⟨w.heap.size, 1, none⟩ b).setCell ⟨w.heap.size, 2, none⟩ c).setCell ⟨w.heap.size, 3, none⟩ d).setCell ⟨w.heap.size, 4, none⟩ e)) := Lib.hid (fun w' a b c d e h => by
        obtain ⟨o0, o1, o2, o3, o4, o5⟩ := HKp.out w' h
        exact ⟨(World.cell?_of_block (a := ⟨w3.heap.size, 0, none⟩) (Vl.set5_rest w' w.heap.size a b c d e (w3.heap.size) (by omega))).trans o0, (World.cell?_of_block (a := ⟨w3.heap.size, 1, none⟩) (Vl.set5_rest w' w.heap.size a b c d e (w3.heap.size) (by omega))).trans o1, (World.cell?_of_block (a := ⟨w3.heap.size, 2, none⟩) (Vl.set5_rest w' w.heap.size a b c d e (w3.heap.size) (by omega))).trans o2, (World.cell?_of_block (a := ⟨w3.heap.size, 3, none⟩) (Vl.set5_rest w' w.heap.size a b c d e (w3.heap.size) (by omega))).trans o3, (World.cell?_of_block (a := ⟨w3.heap.size, 4, none⟩) (Vl.set5_rest w' w.heap.size a b c d e (w3.heap.size) (by omega))).trans o4, (World.cell?_of_block (a := ⟨w.heap.size + 1, 0, none⟩) (Vl.set5_rest w' w.heap.size a b c d e (w.heap.size + 1) (by omega))).trans o5⟩)
      clear hr4 hv4 hrb4 d1 d2
      go_wp2_with fail
      go_region_held3 (fun w' => w'.cell? ⟨w3.heap.size, 0, none⟩ = some (.int .u8 k5) ∧ w'.cell? ⟨w3.heap.size, 1, none⟩ = some (.string t5) ∧ w'.cell? ⟨w3.heap.size, 2, none⟩ = some (.int .i64 i5) ∧ w'.cell? ⟨w3.heap.size, 3, none⟩ = some (.slice pi5 ni5 ci5) ∧ w'.cell? ⟨w3.heap.size, 4, none⟩ = some (.slice pn5 nn5 cn5) ∧ w'.cell? ⟨w.heap.size + 1, 0, none⟩ = some (.string (Wp.B ql)))
        (first | (go_keep; done) | (exact HKp.out _ e7) | (exact HKq.out _ _ _ _ _ _ e7))
        (first
          | (go_at_call 37; (with_reducible refine (HCl.out _).mono ?_); rintro e w5 ⟨rfl, hb5⟩; have e7 : Below w4.heap.size w4 w5 := ((Below.refl _ w4).drew.trans hb5); have hr5 := (e7.block w.heap.size (by omega)).trans HR4.out; obtain ⟨r0, r1, r2, r3, r4⟩ := Vl.five_of hr5; obtain ⟨n0, n1, n2, n3, n4⟩ := Vl.fiveF_of hr5))
      have HR5 := Lib.hid hr5
      have HB5 := Lib.hid (HB4.out.trans (e7.mono (by omega)))
      have Hk5 := Lib.hid (fun j (hj : j < w3.heap.size) => (e7.block j (by omega)).trans (Hk4.out j hj))
      have hs5 := e7.size
      clear hr5 e7 hb5
      go_wp2_with fail
      refine bodyPost_ret (Vl.ret3 rfl _ _ w.heap.size 26 _ _ rfl (Vl.set5 HR5.out _ _ _ _ _) Tryd.underlying26 rfl (by kernel_rfl)) rfl ?_
      exact ⟨_, rfl, Hoff.out _ (fun j h1 h2 _ => (Vl.set5_rest _ _ _ _ _ _ _ j (by omega)).trans (Hk5.out j h2)), below_grownBy HB5.out (Vl.set5_grown _ _ _ _ _ _ _) (Nat.le_refl _) HB5.out.size⟩
end Go.Proofs.YtckcbdnlligndaaDoor
