
/-
  The walk of value's reader: a value. Condition: what is there is of a size that a machine holds.
-/
import Derived.Test.YtckcbdnlligndaaDoorVlItems
namespace Go.Proofs.YtckcbdnlligndaaDoor
open Go.RowKit

/-- What reading a value hands back. -/
def Vl.VPost (F g : Nat) (T : Vl.V × Vl.St) (w : World) (e : Ending) (w' : World) : Prop := ∃ u, e = .returned u ∧ Vl.Off F w.heap.size w' none u T.1 ∧ Vl.RBox w' g T.2.l T.2.b T.2.r ∧ w.grownBy w' (some g)
theorem Vl.vend {F g : Nat} {w W : World} {T : Vl.V × Vl.St} {c0 c1 c2 c3 c4 : Value} (hgl : g < w.heap.size) (hg : w.grownBy W (some g)) (hs : w.heap.size < W.heap.size) (hrb : Vl.RBox W g T.2.l T.2.b T.2.r)
    (hat : ∀ W', (∀ j, w.heap.size + 1 ≤ j → j < W.heap.size → W'.heap[j]? = W.heap[j]?) → Vl.At F W' (.agg #[c0, c1, c2, c3, c4]) T.1) :
    Vl.VPost F g T w (.returned (.agg #[c0, c1, c2, c3, c4])) (((((W.setCell ⟨w.heap.size, 0, none⟩ c0).setCell ⟨w.heap.size, 1, none⟩ c1).setCell ⟨w.heap.size, 2, none⟩ c2).setCell ⟨w.heap.size, 3, none⟩ c3).setCell ⟨w.heap.size, 4, none⟩ c4) := by
  have k := Vl.set5_grown W w.heap.size c0 c1 c2 c3 c4
  refine ⟨_, rfl, fun W' hW => hat W' (fun j h1 h2 => ?_), ?_, ⟨k.os.trans hg.os, k.tape.trans hg.tape, k.output.trans hg.output, Nat.le_trans hg.size k.size, fun i hi hne => (k.block i (by omega) (by intro e; cases e; omega)).trans (hg.block i hi hne)⟩⟩
  · rw [Vl.set5_size] at hW
    exact (hW j (by omega) h2 (by simp)).trans (Vl.set5_rest _ _ _ _ _ _ _ j (by omega))
  · exact (Vl.set5_rest _ _ _ _ _ _ _ g (by omega)).trans hrb
theorem Vl.At.leaf {F : Nat} (W : World) (k : Nat) (t : ByteArray) (n : Int) (hk : k ≤ 255) (ht : t.size ≤ 140737488351232) (hn : Wp.I64 n) : Vl.At (F + 1) W (.agg #[.int .u8 k, .string t, .int .i64 n, .slice none 0 0, .slice none 0 0]) (.mk k t n [] []) :=
  ⟨none, 0, none, 0, rfl, ⟨hk, ht, hn, Nat.zero_le _, Nat.zero_le _, by simp [Vl.V.names]⟩, Or.inl rfl, Or.inl rfl⟩
set_option maxRecDepth 100000 in
set_option maxHeartbeats 1000000 in
/-- No room is left. -/
theorem value_none (F g : Nat) (l : List UInt8) (b : Bool) (w : World) (hb : Vl.RBox w g l b 0) (hl : l.length ≤ 200000000000000) :
    Calls Tryd.prog 36 #[.pointer (some ⟨g, 0, none⟩)] w (Vl.VPost (F + 1) g (Vl.zero, ⟨l, true, -1⟩) w) := by
  have hgl := (Array.getElem?_eq_some_iff.1 hb).1
  have HB1 : Vl.RBox (w.setCell ⟨g, 2, none⟩ (.int .i64 (-1))) g l b (-1) := (Lib.heap_setCell_same (i := 2) hb (.int .i64 (-1))).trans rfl
  have HB2 : Vl.RBox ((w.setCell ⟨g, 2, none⟩ (.int .i64 (-1))).setCell ⟨g, 1, none⟩ (.bool true)) g l true (-1) := (Lib.heap_setCell_same (i := 1) HB1 (.bool true)).trans rfl
  have hg2 : w.grownBy ((w.setCell ⟨g, 2, none⟩ (.int .i64 (-1))).setCell ⟨g, 1, none⟩ (.bool true)) (some g) := grownBy_trans (Vl.set1_grown _ _ _ _) (Vl.set1_grown _ _ _ _)
  have hsz : ((w.setCell ⟨g, 2, none⟩ (.int .i64 (-1))).setCell ⟨g, 1, none⟩ (.bool true)).heap.size = w.heap.size := by rw [World.size_setCell, World.size_setCell]
  have hb0 := (Below.refl _ ((w.setCell ⟨g, 2, none⟩ (.int .i64 (-1))).setCell ⟨g, 1, none⟩ (.bool true))).alloc (Nat.le_refl _) (.cells #[.int .u8 0, .string ⟨#[]⟩, .int .i64 0, .slice none 0 0, .slice none 0 0] 26)
  have HB3 := Vl.rbox_below HB2 hb0
  have HG2 := Lib.hid (grownBy_trans hg2 (grownBy_of hb0 (some g)))
  have HR2 := Lib.hid (Vl.newAt ((w.setCell ⟨g, 2, none⟩ (.int .i64 (-1))).setCell ⟨g, 1, none⟩ (.bool true)) (.cells #[.int .u8 0, .string ⟨#[]⟩, .int .i64 0, .slice none 0 0, .slice none 0 0] 26) w.heap.size hsz.symm)
  have hs2 : (((w.setCell ⟨g, 2, none⟩ (.int .i64 (-1))).setCell ⟨g, 1, none⟩ (.bool true)).alloc (.cells #[.int .u8 0, .string ⟨#[]⟩, .int .i64 0, .slice none 0 0, .slice none 0 0] 26)).heap.size = w.heap.size + 1 := by rw [World.size_alloc, hsz]
  have Hs2 := Lib.hid hs2
  have Hkind := Lib.hid (kind_any g l true (-1) _ HB3 hl)
  obtain ⟨c0, c1, c2, f0, f1, f2⟩ := Vl.three_of hb
  clear hb hb0 HB1 HB2 HB3 hg2 hs2 hsz
  rw [show Vl.kindP l true = (0, l, true) from rfl] at Hkind
  simp only [] at Hkind
  go_enter Tryd.func36, Tryd.ntmps36
  go_wp2_with fail
  refine Hkind.out.mono ?_
  rintro e w3 ⟨rfl, hb3, hg3⟩
  have HB3 := Lib.hid hb3
  have HG3 := Lib.hid (grownBy_trans HG2.out hg3)
  have hr3 := (hg3.block w.heap.size (by rw [Hs2.out]; omega) (by intro e; cases e; omega)).trans HR2.out
  have hs3 := hg3.size
  have hs3' : w.heap.size < w3.heap.size := by rw [Hs2.out] at hs3; omega
  have hbA := (Below.refl w3.heap.size w3).alloc (Nat.le_refl _) (.cells #[.int .u8 0, .string ⟨#[]⟩, .int .i64 0, .slice none 0 0, .slice none 0 0] 26)
  have X6 := Lib.hid (Vl.new w3 (.cells #[.int .u8 0, .string ⟨#[]⟩, .int .i64 0, .slice none 0 0, .slice none 0 0] 26))
  have R6 := Lib.hid ((hbA.block _ hs3').trans hr3)
  have G6 := Lib.hid (grownBy_trans HG3.out (grownBy_of hbA (some g)))
  have RB6 := Lib.hid (Vl.rbox_below HB3.out hbA)
  have hs6 : w.heap.size < (w3.alloc (.cells #[.int .u8 0, .string ⟨#[]⟩, .int .i64 0, .slice none 0 0, .slice none 0 0] 26)).heap.size := by rw [World.size_alloc]; omega
  clear hb3 hg3 hr3 hs3 Hkind HR2 HG2 hbA
  go_upto_region 14 with fail
  generalize (w3.alloc (.cells #[.int .u8 0, .string ⟨#[]⟩, .int .i64 0, .slice none 0 0, .slice none 0 0] 26)) = W6 at *
  obtain ⟨m0, m1, m2, m3, m4⟩ := Vl.five_of X6.out
  obtain ⟨r0, r1, r2, r3, r4⟩ := Vl.five_of R6.out
  obtain ⟨n0, n1, n2, n3, n4⟩ := Vl.fiveF_of R6.out
  go_wp2_with fail
  refine bodyPost_ret (Vl.ret1 rfl _ _ w.heap.size 26 _ _ rfl (Vl.set5 R6.out _ _ _ _ _) Tryd.underlying26 rfl (by kernel_rfl)) rfl ?_
  exact Vl.vend hgl G6.out hs6 RB6.out (fun W' _ => Vl.At.zero F W')
set_option maxRecDepth 100000 in
set_option maxHeartbeats 1000000 in
/-- There is room. -/
theorem value_some (F g : Nat) (ih : Vl.VCall (F + 1) g) (l : List UInt8) (b : Bool) (r : Int) (w : World) (hb : Vl.RBox w g l b r) (h0 : 0 < r) (hF : r ≤ (F + 1 : Nat)) (hr : r ≤ 256) (hl : l.length ≤ 200000000000000) :
    Calls Tryd.prog 36 #[.pointer (some ⟨g, 0, none⟩)] w (Vl.VPost (F + 2) g (Vl.bodyP (Vl.pv (F + 1)) (Vl.kindP l b).1 ⟨(Vl.kindP l b).2.1, (Vl.kindP l b).2.2, r - 1⟩) w) := by
  have hgl := (Array.getElem?_eq_some_iff.1 hb).1
  have HB1 : Vl.RBox (w.setCell ⟨g, 2, none⟩ (.int .i64 (r - 1))) g l b (r - 1) := (Lib.heap_setCell_same (i := 2) hb (.int .i64 (r - 1))).trans rfl
  have hg2 : w.grownBy (w.setCell ⟨g, 2, none⟩ (.int .i64 (r - 1))) (some g) := Vl.set1_grown _ _ _ _
  have hsz : (w.setCell ⟨g, 2, none⟩ (.int .i64 (r - 1))).heap.size = w.heap.size := by rw [World.size_setCell]
  have hb0 := (Below.refl _ (w.setCell ⟨g, 2, none⟩ (.int .i64 (r - 1)))).alloc (Nat.le_refl _) (.cells #[.int .u8 0, .string ⟨#[]⟩, .int .i64 0, .slice none 0 0, .slice none 0 0] 26)
  have HB3 := Vl.rbox_below HB1 hb0
  have HG1 := Lib.hid (grownBy_trans hg2 (grownBy_of hb0 (some g)))
  have HR1 := Lib.hid (Vl.newAt (w.setCell ⟨g, 2, none⟩ (.int .i64 (r - 1))) (.cells #[.int .u8 0, .string ⟨#[]⟩, .int .i64 0, .slice none 0 0, .slice none 0 0] 26) w.heap.size hsz.symm)
  have hs1 : ((w.setCell ⟨g, 2, none⟩ (.int .i64 (r - 1))).alloc (.cells #[.int .u8 0, .string ⟨#[]⟩, .int .i64 0, .slice none 0 0, .slice none 0 0] 26)).heap.size = w.heap.size + 1 := by rw [World.size_alloc, hsz]
  have Hs1 := Lib.hid hs1
  have Hkind := Lib.hid (kind_any g l b (r - 1) _ HB3 hl)
  obtain ⟨c0, c1, c2, f0, f1, f2⟩ := Vl.three_of hb
  clear hb0 HB1 HB3 hg2 hs1 hsz
  have HI := Lib.hid ih
  have hk := Vl.kindP_len l b
  clear hb ih
  generalize Vl.kindP l b = K at *
  obtain ⟨k, t, kb⟩ := K
  simp only [] at *
  obtain ⟨hk1, hk2, -, hk4⟩ := hk
  have hsub : IntKind.i64.wrap (r - 1) = r - 1 := IntWalk.i64_in _ (by omega)
  have hd : decide (r - 1 < 0) = false := decide_eq_false (by omega)
  go_enter Tryd.func36, Tryd.ntmps36
  go_wp2_with fail
  refine Hkind.out.mono ?_
  rintro e w3 ⟨rfl, hb3, hg3⟩
  have hbA := (Below.refl w3.heap.size w3).alloc (Nat.le_refl _) (.cells #[.int .u8 (k : Nat), .string ⟨#[]⟩, .int .i64 0, .slice none 0 0, .slice none 0 0] 26)
  have HbA := Lib.hid hbA
  have HB4 := Lib.hid (Vl.rbox_below hb3 hbA)
  have HG3 := Lib.hid (grownBy_trans HG1.out hg3)
  have hr3 := (hg3.block w.heap.size (by rw [Hs1.out]; omega) (by intro e; cases e; omega)).trans HR1.out
  have hs3 := hg3.size
  have hs3' : w.heap.size < w3.heap.size := by rw [Hs1.out] at hs3; omega
  have HR3 := Lib.hid hr3
  have HV4 := Lib.hid (Vl.new w3 (.cells #[.int .u8 (k : Nat), .string ⟨#[]⟩, .int .i64 0, .slice none 0 0, .slice none 0 0] 26))
  clear hb3 hg3 hr3 hs3 hbA Hkind HR1 HG1
  by_cases k1 : k = 1
  · subst k1
    have hT := Lib.hid (show Vl.bodyP (Vl.pv (F + 1)) 1 ⟨t, kb, r - 1⟩ = (.mk 1 (Wp.B (Vl.textP t kb).1) 0 [] [], ⟨(Vl.textP t kb).2.1, (Vl.textP t kb).2.2, r - 1⟩) from rfl)
    have hpt := vlText_any g t kb (r - 1) _ HB4.out (by omega)
    have hlen := Vl.textP_len t kb
    generalize Vl.textP t kb = Q at *
    obtain ⟨qv, ql, qb⟩ := Q
    simp only [] at *
    have HC := Lib.hid hpt
    clear hpt
    go_wp2_with fail
    refine HC.out.mono ?_
    rintro e w5 ⟨rfl, hrb5, hg5⟩
    have hv5 := (hg5.block w3.heap.size (by simp) (by intro e; have := Option.some.inj e; omega)).trans HV4.out
    have hr5 := (hg5.block w.heap.size (by simp; omega) (by intro e; have := Option.some.inj e; omega)).trans ((HbA.out.block _ hs3').trans HR3.out)
    have hs5 : w3.heap.size + 1 ≤ w5.heap.size := by have := hg5.size; rwa [World.size_alloc] at this
    obtain ⟨m0, m1, m2, m3, m4⟩ := Vl.five_of hv5
    obtain ⟨f0, f1, f2, f3, f4⟩ := Vl.fiveF_of hv5
    have hgs := Vl.set1_grown w5 w3.heap.size 1 (.string (Wp.B qv))
    have X6 := Lib.hid ((Lib.heap_setCell_same (i := 1) hv5 (.string (Wp.B qv))).trans rfl : (w5.setCell ⟨w3.heap.size, 1, none⟩ (.string (Wp.B qv))).heap[w3.heap.size]? = some (.cells #[.int .u8 1, .string (Wp.B qv), .int .i64 0, .slice none 0 0, .slice none 0 0] 26 (0, 0)))
    have R6 := Lib.hid ((hgs.block w.heap.size (by omega) (by intro e; have := Option.some.inj e; omega)).trans hr5)
    have RB6 := Lib.hid ((hgs.block g (by omega) (by intro e; have := Option.some.inj e; omega)).trans hrb5 : Vl.RBox (w5.setCell ⟨w3.heap.size, 1, none⟩ (.string (Wp.B qv))) g ql qb (r - 1))
    have hG5 := grownBy_trans (grownBy_trans HG3.out (grownBy_of HbA.out _)) hg5
    have G6 := Lib.hid (⟨hgs.os.trans hG5.os, hgs.tape.trans hG5.tape, hgs.output.trans hG5.output, Nat.le_trans hG5.size hgs.size, fun i hi hne => (hgs.block i (by omega) (by intro e; have := Option.some.inj e; omega)).trans (hG5.block i hi hne)⟩ : w.grownBy (w5.setCell ⟨w3.heap.size, 1, none⟩ (.string (Wp.B qv))) (some g))
    have hs6 : w.heap.size < (w5.setCell ⟨w3.heap.size, 1, none⟩ (.string (Wp.B qv))).heap.size := by rw [World.size_setCell]; omega
    clear hv5 hr5 hrb5 hg5 hgs hG5 HC
    go_upto_region 14 with fail
    generalize (w5.setCell ⟨w3.heap.size, 1, none⟩ (.string (Wp.B qv))) = W6 at *
    clear m0 m1 m2 m3 m4 f0 f1 f2 f3 f4
    obtain ⟨m0, m1, m2, m3, m4⟩ := Vl.five_of X6.out
    obtain ⟨r0, r1, r2, r3, r4⟩ := Vl.five_of R6.out
    obtain ⟨n0, n1, n2, n3, n4⟩ := Vl.fiveF_of R6.out
    go_wp2_with fail
    refine bodyPost_ret (Vl.ret1 rfl _ _ w.heap.size 26 _ _ rfl (Vl.set5 R6.out _ _ _ _ _) Tryd.underlying26 rfl (by kernel_rfl)) rfl ?_
    rw [hT.out]
    exact Vl.vend hgl G6.out hs6 RB6.out (fun W' _ => Vl.At.leaf W' 1 _ _ (by omega) (by rw [Wp.B_size]; omega) (by constructor <;> omega))
  · have e1 : ((k : Int) == 1) = false := beq_eq_false_iff_ne.2 (by omega)
    by_cases k2 : k = 2
    · subst k2
      have hT := Lib.hid (show Vl.bodyP (Vl.pv (F + 1)) 2 ⟨t, kb, r - 1⟩ = (.mk 2 ⟨#[]⟩ (Vl.numP t kb).1 [] [], ⟨(Vl.numP t kb).2.1, (Vl.numP t kb).2.2, r - 1⟩) from rfl)
      have hpt := vlNum_any g t kb (r - 1) _ HB4.out (by omega)
      have hlen := Vl.numP_len t kb
      generalize Vl.numP t kb = Q at *
      obtain ⟨qv, ql, qb⟩ := Q
      simp only [] at *
      have HC := Lib.hid hpt
      clear hpt
      go_wp2_with fail
      refine HC.out.mono ?_
      rintro e w5 ⟨rfl, hrb5, hg5⟩
      have hv5 := (hg5.block w3.heap.size (by simp) (by intro e; have := Option.some.inj e; omega)).trans HV4.out
      have hr5 := (hg5.block w.heap.size (by simp; omega) (by intro e; have := Option.some.inj e; omega)).trans ((HbA.out.block _ hs3').trans HR3.out)
      have hs5 : w3.heap.size + 1 ≤ w5.heap.size := by have := hg5.size; rwa [World.size_alloc] at this
      obtain ⟨m0, m1, m2, m3, m4⟩ := Vl.five_of hv5
      obtain ⟨f0, f1, f2, f3, f4⟩ := Vl.fiveF_of hv5
      have hgs := Vl.set1_grown w5 w3.heap.size 2 (.int .i64 qv)
      have X6 := Lib.hid ((Lib.heap_setCell_same (i := 2) hv5 (.int .i64 qv)).trans rfl : (w5.setCell ⟨w3.heap.size, 2, none⟩ (.int .i64 qv)).heap[w3.heap.size]? = some (.cells #[.int .u8 2, .string ⟨#[]⟩, .int .i64 qv, .slice none 0 0, .slice none 0 0] 26 (0, 0)))
      have R6 := Lib.hid ((hgs.block w.heap.size (by omega) (by intro e; have := Option.some.inj e; omega)).trans hr5)
      have RB6 := Lib.hid ((hgs.block g (by omega) (by intro e; have := Option.some.inj e; omega)).trans hrb5 : Vl.RBox (w5.setCell ⟨w3.heap.size, 2, none⟩ (.int .i64 qv)) g ql qb (r - 1))
      have hG5 := grownBy_trans (grownBy_trans HG3.out (grownBy_of HbA.out _)) hg5
      have G6 := Lib.hid (⟨hgs.os.trans hG5.os, hgs.tape.trans hG5.tape, hgs.output.trans hG5.output, Nat.le_trans hG5.size hgs.size, fun i hi hne => (hgs.block i (by omega) (by intro e; have := Option.some.inj e; omega)).trans (hG5.block i hi hne)⟩ : w.grownBy (w5.setCell ⟨w3.heap.size, 2, none⟩ (.int .i64 qv)) (some g))
      have hs6 : w.heap.size < (w5.setCell ⟨w3.heap.size, 2, none⟩ (.int .i64 qv)).heap.size := by rw [World.size_setCell]; omega
      clear hv5 hr5 hrb5 hg5 hgs hG5 HC
      go_upto_region 14 with fail
      generalize (w5.setCell ⟨w3.heap.size, 2, none⟩ (.int .i64 qv)) = W6 at *
      clear m0 m1 m2 m3 m4 f0 f1 f2 f3 f4
      obtain ⟨m0, m1, m2, m3, m4⟩ := Vl.five_of X6.out
      obtain ⟨r0, r1, r2, r3, r4⟩ := Vl.five_of R6.out
      obtain ⟨n0, n1, n2, n3, n4⟩ := Vl.fiveF_of R6.out
      go_wp2_with fail
      refine bodyPost_ret (Vl.ret1 rfl _ _ w.heap.size 26 _ _ rfl (Vl.set5 R6.out _ _ _ _ _) Tryd.underlying26 rfl (by kernel_rfl)) rfl ?_
      rw [hT.out]
      exact Vl.vend hgl G6.out hs6 RB6.out (fun W' _ => Vl.At.leaf W' 2 _ _ (by omega) (by decide) hlen.2.1)
    · have e2 : ((k : Int) == 2) = false := beq_eq_false_iff_ne.2 (by omega)
      by_cases k3 : k = 3
      · subst k3
        have hT := Lib.hid (show Vl.bodyP (Vl.pv (F + 1)) 3 ⟨t, kb, r - 1⟩ = (.mk 3 ⟨#[]⟩ (Vl.numP t kb).1 [] [], ⟨(Vl.numP t kb).2.1, (Vl.numP t kb).2.2, r - 1⟩) from rfl)
        have hpt := vlNum_any g t kb (r - 1) _ HB4.out (by omega)
        have hlen := Vl.numP_len t kb
        generalize Vl.numP t kb = Q at *
        obtain ⟨qv, ql, qb⟩ := Q
        simp only [] at *
        have HC := Lib.hid hpt
        clear hpt
        go_wp2_with fail
        refine HC.out.mono ?_
        rintro e w5 ⟨rfl, hrb5, hg5⟩
        have hv5 := (hg5.block w3.heap.size (by simp) (by intro e; have := Option.some.inj e; omega)).trans HV4.out
        have hr5 := (hg5.block w.heap.size (by simp; omega) (by intro e; have := Option.some.inj e; omega)).trans ((HbA.out.block _ hs3').trans HR3.out)
        have hs5 : w3.heap.size + 1 ≤ w5.heap.size := by have := hg5.size; rwa [World.size_alloc] at this
        obtain ⟨m0, m1, m2, m3, m4⟩ := Vl.five_of hv5
        obtain ⟨f0, f1, f2, f3, f4⟩ := Vl.fiveF_of hv5
        have hgs := Vl.set1_grown w5 w3.heap.size 2 (.int .i64 qv)
        have X6 := Lib.hid ((Lib.heap_setCell_same (i := 2) hv5 (.int .i64 qv)).trans rfl : (w5.setCell ⟨w3.heap.size, 2, none⟩ (.int .i64 qv)).heap[w3.heap.size]? = some (.cells #[.int .u8 3, .string ⟨#[]⟩, .int .i64 qv, .slice none 0 0, .slice none 0 0] 26 (0, 0)))
        have R6 := Lib.hid ((hgs.block w.heap.size (by omega) (by intro e; have := Option.some.inj e; omega)).trans hr5)
        have RB6 := Lib.hid ((hgs.block g (by omega) (by intro e; have := Option.some.inj e; omega)).trans hrb5 : Vl.RBox (w5.setCell ⟨w3.heap.size, 2, none⟩ (.int .i64 qv)) g ql qb (r - 1))
        have hG5 := grownBy_trans (grownBy_trans HG3.out (grownBy_of HbA.out _)) hg5
        have G6 := Lib.hid (⟨hgs.os.trans hG5.os, hgs.tape.trans hG5.tape, hgs.output.trans hG5.output, Nat.le_trans hG5.size hgs.size, fun i hi hne => (hgs.block i (by omega) (by intro e; have := Option.some.inj e; omega)).trans (hG5.block i hi hne)⟩ : w.grownBy (w5.setCell ⟨w3.heap.size, 2, none⟩ (.int .i64 qv)) (some g))
        have hs6 : w.heap.size < (w5.setCell ⟨w3.heap.size, 2, none⟩ (.int .i64 qv)).heap.size := by rw [World.size_setCell]; omega
        clear hv5 hr5 hrb5 hg5 hgs hG5 HC
        go_upto_region 14 with fail
        generalize (w5.setCell ⟨w3.heap.size, 2, none⟩ (.int .i64 qv)) = W6 at *
        clear m0 m1 m2 m3 m4 f0 f1 f2 f3 f4
        obtain ⟨m0, m1, m2, m3, m4⟩ := Vl.five_of X6.out
        obtain ⟨r0, r1, r2, r3, r4⟩ := Vl.five_of R6.out
        obtain ⟨n0, n1, n2, n3, n4⟩ := Vl.fiveF_of R6.out
        go_wp2_with fail
        refine bodyPost_ret (Vl.ret1 rfl _ _ w.heap.size 26 _ _ rfl (Vl.set5 R6.out _ _ _ _ _) Tryd.underlying26 rfl (by kernel_rfl)) rfl ?_
        rw [hT.out]
        exact Vl.vend hgl G6.out hs6 RB6.out (fun W' _ => Vl.At.leaf W' 3 _ _ (by omega) (by decide) hlen.2.1)
      · have e3 : ((k : Int) == 3) = false := beq_eq_false_iff_ne.2 (by omega)
        by_cases k45 : k = 4 ∨ k = 5
        · have hkb : kb = false := by
            cases kb with
            | false => rfl
            | true => have := hk2 rfl; omega
          subst hkb
          have hit := items_any F g w3.heap.size k k45 HI.out t (r - 1) _ HB4.out HV4.out (by omega) (by omega) (by omega) (by omega) (by omega)
          have hT := Lib.hid (show Vl.bodyP (Vl.pv (F + 1)) k ⟨t, false, r - 1⟩ = (.mk k ⟨#[]⟩ 0 (Vl.itemsP (Vl.pv (F + 1)) k ⟨t, false, r - 1⟩).2.1 (Vl.itemsP (Vl.pv (F + 1)) k ⟨t, false, r - 1⟩).1, (Vl.itemsP (Vl.pv (F + 1)) k ⟨t, false, r - 1⟩).2.2) by unfold Vl.bodyP; rw [if_neg k1, if_neg (by omega), if_pos k45])
          generalize Vl.itemsP (Vl.pv (F + 1)) k ⟨t, false, r - 1⟩ = Q at *
          obtain ⟨qn, qi, ⟨ql, qb, qr⟩⟩ := Q
          simp only [] at *
          have HC := Lib.hid hit
          clear hit
          have hkc : ((k : Int) == 4) = true ∨ ((k : Int) == 4) = false ∧ ((k : Int) == 5) = true := by
            rcases k45 with rfl | rfl
            · exact Or.inl rfl
            · exact Or.inr ⟨rfl, rfl⟩
          have hfin : ∀ (w5 : World), Vl.IPost (F + 1) g w3.heap.size k (qn, qi, ⟨ql, qb, qr⟩) (w3.alloc (.cells #[.int .u8 (k : Nat), .string ⟨#[]⟩, .int .i64 0, .slice none 0 0, .slice none 0 0] 26)) (.returned (.tuple #[])) w5 → ∃ pi ci pn cn,
              w5.heap[w3.heap.size]? = some (.cells #[.int .u8 (k : Nat), .string ⟨#[]⟩, .int .i64 0, .slice pi qi.length ci, .slice pn qn.length cn] 26 (0, 0)) ∧ w5.heap[w.heap.size]? = some (.cells #[.int .u8 0, .string ⟨#[]⟩, .int .i64 0, .slice none 0 0, .slice none 0 0] 26 (0, 0)) ∧
              Vl.RBox w5 g ql qb qr ∧ w.grownBy w5 (some g) ∧ w.heap.size < w5.heap.size ∧ (∀ W', (∀ j, w.heap.size + 1 ≤ j → j < w5.heap.size → W'.heap[j]? = w5.heap[j]?) → Vl.At (F + 2) W' (.agg #[.int .u8 (k : Nat), .string ⟨#[]⟩, .int .i64 0, .slice pi qi.length ci, .slice pn qn.length cn]) (.mk k ⟨#[]⟩ 0 qi qn)) := by
            rintro w5 ⟨-, vi, vn, x1, x2, x3, x4, x5, x6, x7⟩
            obtain ⟨pi, ci, pn, cn, rfl, rfl, hoff⟩ := x3.off
            have hs5 := x4.size
            rw [World.size_alloc] at hs5 hoff
            have hG := grownBy_trans HG3.out (grownBy_of HbA.out (some g))
            refine ⟨pi, ci, pn, cn, x2, (x4.block _ (by simp; omega) (by omega) (by omega)).trans ((HbA.out.block _ hs3').trans HR3.out), x1, ⟨x4.os.trans hG.os, x4.tape.trans hG.tape, x4.output.trans hG.output, Nat.le_trans hG.size x4.size, fun i hi hne => (x4.block i (by simp; omega) (fun e => hne (by rw [e])) (by omega)).trans (hG.block i hi hne)⟩, by omega, fun W' hW => ?_⟩
            obtain ⟨o1, o2⟩ := hoff W' (fun j h1 h2 => hW j (by omega) h2)
            exact ⟨pi, ci, pn, cn, rfl, ⟨hk4, by show (⟨#[]⟩ : ByteArray).size ≤ _; decide, by show Wp.I64 0; constructor <;> omega, by show qi.length ≤ _; simp only [] at x5; omega, by show qn.length ≤ _; simp only [] at x6; omega, fun s hs => by have := x7 s hs; omega⟩, o2, o1⟩
          have HF := Lib.hid hfin
          clear hfin
          rcases hkc with e4 | ⟨e4, e5⟩
          · go_wp2_with fail
            refine HC.out.mono ?_
            rintro e w5 hI5
            obtain rfl := hI5.1
            obtain ⟨pi, ci, pn, cn, x1, x2, x3, x4, x5, x6⟩ := HF.out w5 hI5
            have X6 := Lib.hid x1
            have R6 := Lib.hid x2
            have G6 := Lib.hid x4
            have RB6 := Lib.hid x3
            have O6 := Lib.hid x6
            clear hI5 x1 x2 x3 x4 x6 HF HC
            obtain ⟨m0, m1, m2, m3, m4⟩ := Vl.five_of X6.out
            obtain ⟨r0, r1, r2, r3, r4⟩ := Vl.five_of R6.out
            obtain ⟨n0, n1, n2, n3, n4⟩ := Vl.fiveF_of R6.out
            go_wp2_with fail
            refine bodyPost_ret (Vl.ret1 rfl _ _ w.heap.size 26 _ _ rfl (Vl.set5 R6.out _ _ _ _ _) Tryd.underlying26 rfl (by kernel_rfl)) rfl ?_
            rw [hT.out]
            exact Vl.vend hgl G6.out x5 RB6.out O6.out
          · go_wp2_with fail
            refine HC.out.mono ?_
            rintro e w5 hI5
            obtain rfl := hI5.1
            obtain ⟨pi, ci, pn, cn, x1, x2, x3, x4, x5, x6⟩ := HF.out w5 hI5
            have X6 := Lib.hid x1
            have R6 := Lib.hid x2
            have G6 := Lib.hid x4
            have RB6 := Lib.hid x3
            have O6 := Lib.hid x6
            clear hI5 x1 x2 x3 x4 x6 HF HC
            obtain ⟨m0, m1, m2, m3, m4⟩ := Vl.five_of X6.out
            obtain ⟨r0, r1, r2, r3, r4⟩ := Vl.five_of R6.out
            obtain ⟨n0, n1, n2, n3, n4⟩ := Vl.fiveF_of R6.out
            go_wp2_with fail
            refine bodyPost_ret (Vl.ret1 rfl _ _ w.heap.size 26 _ _ rfl (Vl.set5 R6.out _ _ _ _ _) Tryd.underlying26 rfl (by kernel_rfl)) rfl ?_
            rw [hT.out]
            exact Vl.vend hgl G6.out x5 RB6.out O6.out
        · have e4 : ((k : Int) == 4) = false := beq_eq_false_iff_ne.2 (by omega)
          have e5 : ((k : Int) == 5) = false := beq_eq_false_iff_ne.2 (by omega)
          have hT := Lib.hid (show Vl.bodyP (Vl.pv (F + 1)) k ⟨t, kb, r - 1⟩ = (.mk k ⟨#[]⟩ 0 [] [], ⟨t, kb, r - 1⟩) by unfold Vl.bodyP; rw [if_neg k1, if_neg (by omega), if_neg k45])
          have X6 := Lib.hid HV4.out
          have R6 := Lib.hid ((HbA.out.block _ hs3').trans HR3.out)
          have G6 := Lib.hid (grownBy_trans HG3.out (grownBy_of HbA.out (some g)))
          have RB6 := Lib.hid HB4.out
          have hs6 : w.heap.size < (w3.alloc (.cells #[.int .u8 (k : Nat), .string ⟨#[]⟩, .int .i64 0, .slice none 0 0, .slice none 0 0] 26)).heap.size := by rw [World.size_alloc]; omega
          clear HbA HB4 HV4
          go_upto_region 14 with fail
          generalize (w3.alloc (.cells #[.int .u8 (k : Nat), .string ⟨#[]⟩, .int .i64 0, .slice none 0 0, .slice none 0 0] 26)) = W6 at *
          obtain ⟨m0, m1, m2, m3, m4⟩ := Vl.five_of X6.out
          obtain ⟨r0, r1, r2, r3, r4⟩ := Vl.five_of R6.out
          obtain ⟨n0, n1, n2, n3, n4⟩ := Vl.fiveF_of R6.out
          go_wp2_with fail
          refine bodyPost_ret (Vl.ret1 rfl _ _ w.heap.size 26 _ _ rfl (Vl.set5 R6.out _ _ _ _ _) Tryd.underlying26 rfl (by kernel_rfl)) rfl ?_
          rw [hT.out]
          exact Vl.vend hgl G6.out hs6 RB6.out (fun W' _ => Vl.At.leaf W' k _ _ hk4 (by decide) (by constructor <;> omega))
/-- A value, read. -/
theorem value_any : ∀ (F g : Nat), Vl.VCall F g
  | 0, _ => fun l b r W _ h0 hF _ _ => by omega
  | F + 1, g => fun l b r W hb h0 hF hr hl => by
    show Calls Tryd.prog 36 #[.pointer (some ⟨g, 0, none⟩)] W (Vl.VPost (F + 1) g (Vl.pv (F + 1) ⟨l, b, r⟩) W)
    by_cases hr0 : r = 0
    · subst hr0
      have h := value_none F g l b W hb hl
      have e : Vl.pv (F + 1) ⟨l, b, 0⟩ = (Vl.zero, ⟨l, true, -1⟩) := by
        rw [Vl.pv]
        have : (b || decide ((0 : Int) - 1 < 0)) = true := by cases b <;> rfl
        simp only [this]
        rfl
      rw [e]
      exact h
    · cases F with
      | zero => omega
      | succ F =>
        have h := value_some F g (value_any (F + 1) g) l b r W hb (by omega) (by omega) hr hl
        have e : Vl.pv (F + 1 + 1) ⟨l, b, r⟩ = Vl.bodyP (Vl.pv (F + 1)) (Vl.kindP l b).1 ⟨(Vl.kindP l b).2.1, (Vl.kindP l b).2.2, r - 1⟩ := by
          rw [Vl.pv]
          have : (b || decide (r - 1 < 0)) = b := by rw [decide_eq_false (by omega), Bool.or_false]
          simp only [this]
        rw [e]
        exact h
end Go.Proofs.YtckcbdnlligndaaDoor
