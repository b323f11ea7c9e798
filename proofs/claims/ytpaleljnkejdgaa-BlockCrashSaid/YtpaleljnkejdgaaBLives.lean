/-
  The walk of bellmanlaw03.lives: the answers that the document gives. No condition.
-/
import Derived.Test.YtpaleljnkejdgaaGood
namespace Go.Proofs.Ytpaleljnkejdgaa
open Go.RowKit

def Lv.d0 : Wp.Dev := Wp.Dev.make 3
def Lv.abc : ByteArray := ⟨#[97, 98, 99, 100, 101, 102]⟩
def Lv.d1 : Wp.Dev := (Lv.d0.write1 1 Lv.abc).1
def Lv.c : Wp.Dev := ⟨Wp.tearAll Lv.d1.bl Lv.d1.ws [3], [], -1, false⟩
def Lv.e : Wp.Dev := Lv.d1.sync1.1
def Lv.e0 : Wp.Dev := { Lv.e with fu := 0 }
def Lv.f : Wp.Dev := (Lv.e0.write1 0 ⟨#[120]⟩).1
theorem Lv.g0 : Wp.Good Lv.d0 := Wp.Good.make 3 (by omega)
theorem Lv.g1 : Wp.Good Lv.d1 := Lv.g0.write1 _ _
theorem Lv.gc : Wp.Good Lv.c := Lv.g1.crash _
theorem Lv.ge : Wp.Good Lv.e := Lv.g1.sync1
theorem Lv.ge0 : Wp.Good Lv.e0 := by
  obtain ⟨⟨h1, h2, h3⟩, h4, h5⟩ := (Wp.Dev.ok_iff _).1 Lv.ge.ok
  exact ⟨(Wp.Dev.ok_iff _).2 ⟨⟨h1, h2, by decide⟩, h4, h5⟩, by decide⟩
theorem Lv.gf : Wp.Good Lv.f := Lv.ge0.write1 _ _
theorem Lv.r1 : (Lv.d0.write1 1 Lv.abc).2 = 0 := rfl
theorem Lv.re : Lv.d1.sync1.2 = 0 := rfl
theorem Lv.r8 : (Lv.d1.write1 3 ⟨#[]⟩).2 = 1 := rfl
theorem Lv.r9 : (Lv.e0.write1 0 ⟨#[120]⟩).2 = 9 := rfl
theorem Lv.s2 : (Lv.d1.read 1).2 = 0 := by
  unfold Wp.Dev.read; rw [if_neg (by rw [Lv.g1.ok]; simp)]; rfl
theorem Lv.s1 : (Lv.d1.read 1).1.data.toList = [97, 98, 99, 100, 101, 102] ++ List.replicate 58 0 := by
  unfold Wp.Dev.read; rw [if_neg (by rw [Lv.g1.ok]; simp)]; rfl
theorem Lv.t2 : (Lv.c.read 1).2 = 0 := by
  unfold Wp.Dev.read; rw [if_neg (by rw [Lv.gc.ok]; simp)]; rfl
theorem Lv.t1 : (Lv.c.read 1).1.data.toList = [97, 98, 99] ++ List.replicate 61 0 := by
  unfold Wp.Dev.read; rw [if_neg (by rw [Lv.gc.ok]; simp)]; rfl
theorem Lv.sm : Lv.d1.hasAll = Lv.e.hasAll := rfl
theorem Lv.ew : Lv.e.ws.length = 0 := rfl
theorem Lv.fw : Lv.f.ws.length = 1 := rfl
theorem Lv.fd : Lv.f.dn = true := rfl

/-- A device's value laid open. -/
theorem devAt_open {w : World} {v : Value} {d : Wp.Dev} (h : Wp.DevAt w v d) : ∃ pb cb pw cw, v = .agg #[.slice pb d.bl.length cb, .slice pw d.ws.length cw, .int .i64 d.fu, .bool d.dn] ∧ Wp.DevAt w (.agg #[.slice pb d.bl.length cb, .slice pw d.ws.length cw, .int .i64 d.fu, .bool d.dn]) d := by
  have h2 := h
  obtain ⟨pb, cb, pw, cw, rfl, _, _⟩ := h2
  exact ⟨pb, cb, pw, cw, rfl, h⟩
/-- A box holds no row: a device's value reads as it did when a box is written. -/
theorem devAt_box {w w' : World} {v : Value} {d : Wp.Dev} {k : Nat} {a b : Option Addr} {n1 c1 n2 c2 : Nat} {i : Int} {q : Bool} {T : TypeId} (h : Wp.DevAt w v d)
    (hb : w.heap[k]? = some (.cells #[.slice a n1 c1, .slice b n2 c2, .int .i64 i, .bool q] T (0, 0))) (hk : ∀ j, j ≠ k → w'.heap[j]? = w.heap[j]?) : Wp.DevAt w' v d := by
  obtain ⟨pb, cb, pw, cw, rfl, h1, h2⟩ := h
  have key : ∀ (x : Nat) (s : ByteArray), w.cell? ⟨k, x, none⟩ ≠ some (.string s) := by
    intro x s
    rw [Lib.cell_of_heap hb]
    match x with
    | 0 => simp
    | 1 => simp
    | 2 => simp
    | 3 => simp
    | x + 4 => simp
  have cellk : ∀ {p : Addr}, p.spot = none → p.block ≠ k → w'.cell? p = w.cell? p := fun {p} hs hp => World.cell?_of_block (hk p.block hp)
  refine ⟨pb, cb, pw, cw, rfl, ?_, ?_⟩
  · rcases h1 with h1 | ⟨g, off, hp, hc⟩
    · exact Or.inl h1
    · by_cases h0 : d.bl = []
      · exact Or.inl h0
      · have hg : g ≠ k := by
          intro e
          subst e
          exact key _ _ (hc 0 (List.length_pos_iff.2 h0))
        exact Or.inr ⟨g, off, hp, fun i hi => (cellk rfl hg).trans (hc i hi)⟩
  · rcases h2 with h2 | ⟨g, off, hp, hc⟩
    · exact Or.inl h2
    · by_cases h0 : d.ws = []
      · exact Or.inl h0
      · have hg : g ≠ k := by
          intro e
          subst e
          exact key _ _ (hc 0 (List.length_pos_iff.2 h0)).2
        exact Or.inr ⟨g, off, hp, fun i hi => ⟨(cellk rfl hg).trans (hc i hi).1, (cellk rfl hg).trans (hc i hi).2⟩⟩
theorem devAt_fuse {w : World} {x y : Value} {d : Wp.Dev} {i : Int} {b : Bool} (h : Wp.DevAt w (.agg #[x, y, .int .i64 i, .bool b]) d) (n : Int) : Wp.DevAt w (.agg #[x, y, .int .i64 n, .bool b]) { d with fu := n } := by
  obtain ⟨pb, cb, pw, cw, he, h1, h2⟩ := h
  simp only [Wp.devV, Value.agg.injEq, Array.mk.injEq, List.cons.injEq, and_true] at he
  obtain ⟨rfl, rfl, _, e4⟩ := he
  refine ⟨pb, cb, pw, cw, ?_, h1, h2⟩
  unfold Wp.devV
  rw [e4]
set_option maxHeartbeats 2000000 in
theorem blives_walk (d0 d1 c e e0 f d8 : Wp.Dev) (s t : ByteArray) (w : World)
    (K0 : Hid (∀ w, Calls Try.prog 18 #[.int .i64 3] w fun r w' => ∃ v', r = .returned (.tuple #[v', .int .i64 0]) ∧ Wp.DevAt w' v' d0 ∧ Below w.heap.size w w'))
    (K1 : Hid (∀ v w, Wp.DevAt w v d0 → Calls Try.prog 19 #[v, .int .i64 1, .string ⟨#[97, 98, 99, 100, 101, 102]⟩] w fun r w' => ∃ v', r = .returned (.tuple #[v', .int .i64 0]) ∧ Wp.DevAt w' v' d1 ∧ Below w.heap.size w w'))
    (K2 : Hid (∀ v w, Wp.DevAt w v d1 → Calls Try.prog 20 #[v, .int .i64 1] w fun r w' => r = .returned (.tuple #[.string s, .int .i64 0]) ∧ Below w.heap.size w w'))
    (K3 : Hid (∀ v k w, Wp.DevAt w v d1 → w.heap[k]? = some (.cells #[.int .i64 3] 3 (0, 0)) → Calls Try.prog 4 #[v, .slice (some ⟨k, 0, none⟩) 1 1] w fun r w' => ∃ v', r = .returned (.tuple #[v', .int .i64 0]) ∧ Wp.DevAt w' v' c ∧ Below w.heap.size w w'))
    (K4 : Hid (∀ v w, Wp.DevAt w v c → Calls Try.prog 20 #[v, .int .i64 1] w fun r w' => r = .returned (.tuple #[.string t, .int .i64 0]) ∧ Below w.heap.size w w'))
    (K5 : Hid (∀ v w, Wp.DevAt w v d1 → Calls Try.prog 21 #[v] w fun r w' => ∃ v', r = .returned (.tuple #[v', .int .i64 0]) ∧ Wp.DevAt w' v' e ∧ Below w.heap.size w w'))
    (K6 : Hid (∀ v u w, Wp.DevAt w v d1 → Wp.DevAt w u e → Calls Try.prog 6 #[v, u] w fun r w' => r = .returned (.tuple #[.bool true, .int .i64 0]) ∧ Below w.heap.size w w'))
    (K8 : Hid (∀ v w, Wp.DevAt w v d1 → Calls Try.prog 19 #[v, .int .i64 3, .string ⟨#[]⟩] w fun r w' => ∃ v', r = .returned (.tuple #[v', .int .i64 1]) ∧ Wp.DevAt w' v' d8 ∧ Below w.heap.size w w'))
    (K9 : Hid (∀ v w, Wp.DevAt w v e0 → Calls Try.prog 19 #[v, .int .i64 0, .string ⟨#[120]⟩] w fun r w' => ∃ v', r = .returned (.tuple #[v', .int .i64 9]) ∧ Wp.DevAt w' v' f ∧ Below w.heap.size w w'))
    (K10 : Hid (∀ v w, Wp.DevAt w v f → Calls Try.prog 10 #[v] w fun r w' => r = .returned (.int .i64 0) ∧ Below w.heap.size w w'))
    (he0 : Hid (e0 = { e with fu := 0 })) (hs : s.size = 64) (ht : t.size = 64) (hs7 : s.extract 0 7 = ⟨#[97, 98, 99, 100, 101, 102, 0]⟩) (ht4 : t.extract 0 4 = ⟨#[97, 98, 99, 0]⟩) (hew : Hid (e.ws.length = 0)) (hfw : Hid (f.ws.length = 1)) (hfd : Hid (f.dn = true)) :
    Calls Try.prog 8 #[] w fun e w' => e = .returned (.bool true) ∧ Below w.heap.size w w' := by
  go_enter Try.func8, Try.ntmps8
  go_wp2_with fail
  refine (K0.out _).mono ?_
  rintro r w1 ⟨v0, rfl, hd0, hb1⟩
  obtain ⟨pb0, cb0, pw0, cw0, rfl, hd0⟩ := devAt_open hd0
  go_wp2_with fail
  refine (K1.out _ _ (hd0.below ((Below.refl _ _).alloc (Nat.le_refl _) _))).mono ?_
  rintro r w2 ⟨v1, rfl, hd1, hb2⟩
  obtain ⟨pb1, cb1, pw1, cw1, rfl, hd1⟩ := devAt_open hd1
  have hbx2 := (hb2.block w1.heap.size (by simp)).trans (alloc_new w1 _)
  obtain ⟨c0, c1, c2, c3, f0, f1, f2, f3⟩ := Wp.four_of hbx2
  have s1 : w1.heap.size < w2.heap.size := by have := hb2.size; simp at this; omega
  have hB2 : Below w.heap.size w w2 := (hb1.alloc hb1.size _).trans (hb2.mono (by have := hb1.size; simp; omega))
  have hbx3 := four_set hbx2 (.slice pb1 d1.bl.length cb1) (.slice pw1 d1.ws.length cw1) (.int .i64 d1.fu) (.bool d1.dn)
  have hd3 := devAt_box hd1 hbx2 (four_rest w2 w1.heap.size (.slice pb1 d1.bl.length cb1) (.slice pw1 d1.ws.length cw1) (.int .i64 d1.fu) (.bool d1.dn))
  have hB3 := four_below hB2 hb1.size (.slice pb1 d1.bl.length cb1) (.slice pw1 d1.ws.length cw1) (.int .i64 d1.fu) (.bool d1.dn)
  have s3 : w1.heap.size < ((((w2.setCell ⟨w1.heap.size, 0, none⟩ (.slice pb1 d1.bl.length cb1)).setCell ⟨w1.heap.size, 1, none⟩ (.slice pw1 d1.ws.length cw1)).setCell ⟨w1.heap.size, 2, none⟩ (.int .i64 d1.fu)).setCell ⟨w1.heap.size, 3, none⟩ (.bool d1.dn)).heap.size := by simp [World.setCell]; omega
  have Hbx3 := Lib.hid hbx3
  have Hd3 := Lib.hid hd3
  have HB3 := Lib.hid hB3
  have Hs3 := Lib.hid s3
  clear hbx2 hbx3 hd3 hB3 hd1 hd0 s3
  go_wp2_with fail
  refine (K2.out _ _ Hd3.out).mono ?_
  rintro r w3 ⟨rfl, hb3⟩
  have hbx4 := (hb3.block w1.heap.size Hs3.out).trans Hbx3.out
  have hd4 := Hd3.out.below hb3
  have hB4 := HB3.out.trans (hb3.mono HB3.out.size)
  have s4 : w1.heap.size < w3.heap.size := Nat.lt_of_lt_of_le Hs3.out hb3.size
  have sw4 : w.heap.size ≤ w1.heap.size := hb1.size
  clear c0 c1 c2 c3 f0 f1 f2 f3 Hbx3 Hd3 HB3 Hs3 hb3 hb2 hB2 hb1 s1
  obtain ⟨c0, c1, c2, c3, f0, f1, f2, f3⟩ := Wp.four_of hbx4
  have Hbx4 := Lib.hid hbx4
  have Hd4 := Lib.hid hd4
  have HB4 := Lib.hid hB4
  clear hbx4 hd4 hB4
  go_wp2_with fail
  refine (K3.out _ _ _ (Hd4.out.below ((Below.refl _ _).alloc (Nat.le_refl _) _)) (alloc_new _ _)).mono ?_
  rintro r w5 ⟨v5, rfl, hd5, hb5⟩
  rw [World.size_alloc] at hb5
  obtain ⟨pb5, cb5, pw5, cw5, rfl, hd5⟩ := devAt_open hd5
  have hbx5 := (hb5.block w1.heap.size (by omega)).trans ((alloc_past _ _ _ s4).trans Hbx4.out)
  have hB5 := (HB4.out.alloc HB4.out.size (.cells #[.int .i64 3] 3)).trans (hb5.mono (by have := HB4.out.size; omega))
  have hd5' := (Hd4.out.below ((Below.refl _ _).alloc (Nat.le_refl _) (.cells #[.int .i64 3] 3))).below (by rw [World.size_alloc]; exact hb5)
  have s5 : w1.heap.size < w5.heap.size := by have := hb5.size; simp at this; omega
  clear c0 c1 c2 c3 f0 f1 f2 f3 Hbx4 Hd4 HB4 hb5 s4
  obtain ⟨c0, c1, c2, c3, f0, f1, f2, f3⟩ := Wp.four_of hbx5
  have Hbx5 := Lib.hid hbx5
  have Hd5 := Lib.hid hd5
  have Hd5' := Lib.hid hd5'
  have HB5 := Lib.hid hB5
  clear hbx5 hd5 hB5 hd5'
  go_wp2_with fail
  refine (K4.out _ _ (Hd5.out.below ((Below.refl _ _).alloc (Nat.le_refl _) _))).mono ?_
  rintro r w6 ⟨rfl, hb6⟩
  rw [World.size_alloc] at hb6
  have hbx6 := (hb6.block w1.heap.size (by omega)).trans ((alloc_past _ _ _ s5).trans Hbx5.out)
  have hd6 := (Hd5'.out.below ((Below.refl _ _).alloc (Nat.le_refl _) (.cells #[.slice pb5 c.bl.length cb5, .slice pw5 c.ws.length cw5, .int .i64 c.fu, .bool c.dn] 25))).below (by rw [World.size_alloc]; exact hb6)
  have hB6 := (HB5.out.alloc HB5.out.size (.cells #[.slice pb5 c.bl.length cb5, .slice pw5 c.ws.length cw5, .int .i64 c.fu, .bool c.dn] 25)).trans (hb6.mono (by have := HB5.out.size; omega))
  have s6 : w1.heap.size < w6.heap.size := by have := hb6.size; simp at this; omega
  clear c0 c1 c2 c3 f0 f1 f2 f3 Hbx5 Hd5 Hd5' HB5 hb6 s5
  obtain ⟨c0, c1, c2, c3, f0, f1, f2, f3⟩ := Wp.four_of hbx6
  have Hbx6 := Lib.hid hbx6
  have Hd6 := Lib.hid hd6
  have HB6 := Lib.hid hB6
  clear hbx6 hd6 hB6
  go_wp2_with fail
  refine (K5.out _ _ Hd6.out).mono ?_
  rintro r w7 ⟨v7, rfl, hd7, hb7⟩
  obtain ⟨pb7, cb7, pw7, cw7, rfl, hd7⟩ := devAt_open hd7
  have hbx7 := (hb7.block w1.heap.size s6).trans Hbx6.out
  have hd7' := Hd6.out.below hb7
  have hB7 := HB6.out.trans (hb7.mono HB6.out.size)
  have s7 : w1.heap.size < w7.heap.size := by have := hb7.size; omega
  clear c0 c1 c2 c3 f0 f1 f2 f3 Hbx6 Hd6 HB6 hb7 s6
  obtain ⟨c0, c1, c2, c3, f0, f1, f2, f3⟩ := Wp.four_of hbx7
  have Hbx7 := Lib.hid hbx7
  have Hd7 := Lib.hid hd7
  have Hd7' := Lib.hid hd7'
  have HB7 := Lib.hid hB7
  clear hbx7 hd7 hB7 hd7'
  go_wp2_with fail
  refine (K6.out _ _ _ (Hd7'.out.below ((Below.refl _ _).alloc (Nat.le_refl _) _)) (Hd7.out.below ((Below.refl _ _).alloc (Nat.le_refl _) _))).mono ?_
  rintro r w8 ⟨rfl, hb8⟩
  rw [World.size_alloc] at hb8
  have hbx8 := (hb8.block w1.heap.size (by omega)).trans ((alloc_past _ _ _ s7).trans Hbx7.out)
  have hex8 := (hb8.block w7.heap.size (by omega)).trans (alloc_new w7 _)
  have hd8 := (Hd7'.out.below ((Below.refl _ _).alloc (Nat.le_refl _) (.cells #[.slice pb7 e.bl.length cb7, .slice pw7 e.ws.length cw7, .int .i64 e.fu, .bool e.dn] 25))).below (by rw [World.size_alloc]; exact hb8)
  have he8 := (Hd7.out.below ((Below.refl _ _).alloc (Nat.le_refl _) (.cells #[.slice pb7 e.bl.length cb7, .slice pw7 e.ws.length cw7, .int .i64 e.fu, .bool e.dn] 25))).below (by rw [World.size_alloc]; exact hb8)
  have hB8 := (HB7.out.alloc HB7.out.size (.cells #[.slice pb7 e.bl.length cb7, .slice pw7 e.ws.length cw7, .int .i64 e.fu, .bool e.dn] 25)).trans (hb8.mono (by have := HB7.out.size; omega))
  have s8 : w7.heap.size < w8.heap.size := by have := hb8.size; simp at this; omega
  have sw7 := HB7.out.size
  clear c0 c1 c2 c3 f0 f1 f2 f3 Hbx7 Hd7 Hd7' HB7 hb8
  obtain ⟨c0, c1, c2, c3, f0, f1, f2, f3⟩ := Wp.four_of hbx8
  have Hex8 := Lib.hid hex8
  have Hd8 := Lib.hid hd8
  have He8 := Lib.hid he8
  have HB8 := Lib.hid hB8
  clear hbx8 hex8 hd8 he8 hB8
  go_wp2_with fail
  refine (K8.out _ _ Hd8.out).mono ?_
  rintro r w9 ⟨v9, rfl, hd9, hb9⟩
  obtain ⟨pb9, cb9, pw9, cw9, rfl, hd9⟩ := devAt_open hd9
  have hex9 := (hb9.block w7.heap.size s8).trans Hex8.out
  have he9 := He8.out.below hb9
  have hB9 := HB8.out.trans (hb9.mono HB8.out.size)
  have s9 : w7.heap.size < w9.heap.size := by have := hb9.size; omega
  clear c0 c1 c2 c3 f0 f1 f2 f3 Hex8 Hd8 He8 HB8 hb9 hd9
  obtain ⟨c0, c1, c2, c3, f0, f1, f2, f3⟩ := Wp.four_of hex9
  have Hex9 := Lib.hid hex9
  have He9 := Lib.hid he9
  have HB9 := Lib.hid hB9
  clear hex9 he9 hB9
  go_wp2_with fail
  have hex10 := (alloc_past (w9.setCell ⟨w7.heap.size, 2, none⟩ (.int .i64 0)) (.cells #[.slice pb9 d8.bl.length cb9, .slice pw9 d8.ws.length cw9, .int .i64 d8.fu, .bool d8.dn] 25) w7.heap.size (by simp [World.setCell]; omega)).trans ((Lib.heap_setCell_same (i := 2) Hex9.out (.int .i64 0)).trans (show _ = some (.cells #[.slice pb7 e.bl.length cb7, .slice pw7 e.ws.length cw7, .int .i64 0, .bool e.dn] 25 (0, 0)) from rfl))
  have he10 := (devAt_fuse (devAt_box He9.out Hex9.out (fun j hj => Below.heap_setCell w9 ⟨w7.heap.size, 2, none⟩ (.int .i64 0) j hj)) 0).below ((Below.refl _ _).alloc (Nat.le_refl _) (.cells #[.slice pb9 d8.bl.length cb9, .slice pw9 d8.ws.length cw9, .int .i64 d8.fu, .bool d8.dn] 25))
  rw [← he0.out] at he10
  have hB10 := (HB9.out.setCell (p := ⟨w7.heap.size, 2, none⟩) (by simp; omega) (.int .i64 0)).alloc (by simp [World.setCell]; omega) (.cells #[.slice pb9 d8.bl.length cb9, .slice pw9 d8.ws.length cw9, .int .i64 d8.fu, .bool d8.dn] 25)
  refine (K9.out _ _ he10).mono ?_
  rintro r w10 ⟨v10, rfl, hf10, hb10⟩
  obtain ⟨pb10, cb10, pw10, cw10, rfl, hf10⟩ := devAt_open hf10
  have hex11 := (hb10.block w7.heap.size (by simp [World.setCell]; omega)).trans hex10
  have hB11 := hB10.trans (hb10.mono hB10.size)
  have s10 : w7.heap.size < w10.heap.size := by have := hb10.size; simp [World.setCell] at this; omega
  clear c0 c1 c2 c3 f0 f1 f2 f3 Hex9 He9 HB9 hb10 hex10 he10 hB10
  obtain ⟨c0, c1, c2, c3, f0, f1, f2, f3⟩ := Wp.four_of hex11
  have Hf10 := Lib.hid hf10
  have HB11 := Lib.hid hB11
  have l7 : (7 : Int) ≤ (s.size : Int) := by omega
  have l4 : (4 : Int) ≤ (t.size : Int) := by omega
  have q1 : ((e.ws.length : Int) == 0) = true := by rw [hew.out]; rfl
  have q2 : ((f.ws.length : Int) == 1) = true := by rw [hfw.out]; rfl
  have q3 := hfd.out
  clear hex11 hf10 hB11
  go_wp2_with fail
  have hf11 := Hf10.out
  rw [q3] at hf11
  refine (K10.out _ _ (hf11.below ((Below.refl _ _).alloc (Nat.le_refl _) _))).mono ?_
  rintro r w12 ⟨rfl, hb12⟩
  have hB12 := (HB11.out.alloc HB11.out.size (.cells #[.slice pb10 f.bl.length cb10, .slice pw10 f.ws.length cw10, .int .i64 f.fu, .bool true] 25)).trans (hb12.mono (by have := HB11.out.size; rw [World.size_alloc]; omega))
  go_wp2_with fail
  go_ret
  exact ⟨rfl, hB12⟩
theorem blives_any (w : World) : Calls Try.prog 8 #[] w fun e w' => e = .returned (.bool true) ∧ Below w.heap.size w w' := by
  have e0 : Lv.e0.write1 0 ⟨#[120]⟩ = (Lv.f, 9) := Prod.ext rfl Lv.r9
  refine blives_walk Lv.d0 Lv.d1 Lv.c Lv.e Lv.e0 Lv.f (Lv.d1.write1 3 ⟨#[]⟩).1 (Lv.d1.read 1).1 (Lv.c.read 1).1 w
    (Lib.hid fun w => Make_any 3 w (by omega) (by omega))
    (Lib.hid fun v w hv => by have := Write_good v Lv.d0 1 Lv.abc w hv Lv.g0 (by decide); rw [Lv.r1] at this; exact this)
    (Lib.hid fun v w hv => by have := Read_any v Lv.d1 1 w hv Lv.g1.fits; rw [Lv.s2] at this; exact this)
    (Lib.hid fun v k w hv hk => Crash_ok v Lv.d1 (some ⟨k, 0, none⟩) 1 [3] w hv Lv.g1.fits Lv.g1.ok (by decide) (Or.inr ⟨k, 0, rfl, fun i hi => by
      have : i = 0 := by simpa using hi
      subst this
      rw [Lib.cell_of_heap hk]
      rfl⟩) (by intro x hx; simp at hx; subst hx; unfold Wp.I64; omega))
    (Lib.hid fun v w hv => by have := Read_any v Lv.c 1 w hv Lv.gc.fits; rw [Lv.t2] at this; exact this)
    (Lib.hid fun v w hv => by have := Sync_good v Lv.d1 w hv Lv.g1; rw [Lv.re] at this; exact this)
    (Lib.hid fun v u w hv hu => by have := Same_ok v u Lv.d1 Lv.e w hv hu Lv.g1.fits Lv.ge.fits Lv.g1.ok Lv.ge.ok; rw [decide_eq_true Lv.sm] at this; exact this)
    (Lib.hid fun v w hv => by have := Write_good v Lv.d1 3 ⟨#[]⟩ w hv Lv.g1 (by decide); rw [Lv.r8] at this; exact this)
    (Lib.hid fun v w hv => by have := Write_good v Lv.e0 0 ⟨#[120]⟩ w hv Lv.ge0 (by decide); rw [e0] at this; exact this)
    (Lib.hid fun v w hv => by have := check_any v Lv.f w hv Lv.gf.fits; rw [Wp.Dev.chk_ok Lv.gf.ok] at this; exact this)
    (Lib.hid rfl) ?_ ?_ ?_ ?_ (Lib.hid Lv.ew) (Lib.hid Lv.fw) (Lib.hid Lv.fd)
  · rw [Wp.size_len, Lv.s1]; rfl
  · rw [Wp.size_len, Lv.t1]; rfl
  · rw [Wp.extract_B, Lv.s1]; rfl
  · rw [Wp.extract_B, Lv.t1]; rfl
end Go.Proofs.Ytpaleljnkejdgaa
