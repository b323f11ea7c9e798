/-
  The walk of block.Write, at whatever device. Conditions: a device's lists and numbers, and the data, are of a size that a machine holds.
-/
import Derived.Test.YtpmhgfjnabgilaaDoorWriteBad
namespace Go.Proofs.YtpmhgfjnabgilaaDoor
open Go.RowKit

set_option maxRecDepth 100000 in
theorem Wp.Dev.Fits_ok {d : Wp.Dev} (h : d.ok = true) : (d.bl.length ≤ 4096 ∧ d.ws.length ≤ 4096 ∧ -1 ≤ d.fu) ∧ (∀ x ∈ d.bl, x.size ≤ 64) ∧ ∀ x ∈ d.ws, x.2.size ≤ 64 := by
  obtain ⟨h1, h2, h3⟩ := (Wp.Dev.ok_iff d).1 h
  exact ⟨h1, fun x hx => by rw [h2 x hx]; omega, fun x hx => by rw [(h3 x hx).2.2]; omega⟩
set_option maxRecDepth 100000 in
/-- A row of waits reads as the list of them. -/
theorem owns_atW {w : World} {base : Nat} {e : TypeId} {v : Value} {l : List (Int × ByteArray)} (h : w.ownsRow base e 2 v l.length (Wp.wcells l)) :
    ∃ p c, v = .slice p l.length c ∧ Wp.AtW w p l := by
  rcases h.2 with ⟨hv, h0⟩ | ⟨g, cap, cur, hv, hg, hc, hn, hm, hs, ht⟩
  · exact ⟨none, 0, by rw [hv, h0], Or.inl (List.length_eq_zero_iff.1 h0)⟩
  · refine ⟨some ⟨g, 0, none⟩, cap, hv, Or.inr ⟨g, 0, rfl, fun i hi => ?_⟩⟩
    have key : ∀ j v, j < l.length * 2 → (Wp.wcells l)[j]? = some v → w.cell? ⟨g, 0 + j, none⟩ = some v := by
      intro j v hj hv
      rw [Lib.cell_of_heap hc, Nat.zero_add, ← Array.getElem?_toList, ← List.getElem?_take_of_lt hj, ht]
      exact hv
    have hw := Wp.wcells_get l i hi
    refine ⟨?_, ?_⟩
    · exact key (i * 2) _ (by omega) hw.1
    · rw [Nat.add_assoc]
      exact key (i * 2 + 1) _ (by omega) hw.2
set_option maxRecDepth 100000 in
/-- A device whose two slices are rows of their own reads as that device. -/
theorem devAt_rows {w : World} {b1 b2 : Nat} {vb vw : Value} {d : Wp.Dev} (h1 : w.ownsRow b1 9 1 vb d.bl.length (d.bl.map Wp.mkT)) (h2 : w.ownsRow b2 100 2 vw d.ws.length (Wp.wcells d.ws)) :
    Wp.DevAt w (.agg #[vb, vw, .int .i64 d.fu, .bool d.dn]) d := by
  obtain ⟨p, c, rfl, ha⟩ := owns_at h1
  obtain ⟨q, c2, rfl, hw⟩ := owns_atW h2
  exact ⟨p, c, q, c2, rfl, ha, hw⟩
set_option maxRecDepth 100000 in
theorem alloc_nil_dev : Value.agg #[.slice none 0 0, .slice none 0 0, .int .i64 0, .bool false] = Wp.devV none 0 none 0 Wp.Dev.zero := rfl

set_option maxRecDepth 100000 in
/-- What the calls of block ask first, at a device's value, in whatever world behind this one. -/
theorem asks {w : World} {v : Value} {d : Wp.Dev} (hv : Wp.DevAt w v d) (hf : d.Fits) : ∃ pb cb pw cw, v = .agg #[.slice pb d.bl.length cb, .slice pw d.ws.length cw, .int .i64 d.fu, .bool d.dn] ∧
    (∀ w', Below w.heap.size w w' → Wp.DevAt w' (.agg #[.slice pb d.bl.length cb, .slice pw d.ws.length cw, .int .i64 d.fu, .bool d.dn]) d) ∧
    ∀ w', Below w.heap.size w w' → Calls Tryd.prog 59 #[.agg #[.slice pb d.bl.length cb, .slice pw d.ws.length cw, .int .i64 d.fu, .bool d.dn]] w' fun e w'' => e = .returned (.int .i64 d.chk) ∧ Below w'.heap.size w' w'' := by
  have hv2 := hv
  obtain ⟨pb, cb, pw, cw, rfl, h1, h2⟩ := hv2
  exact ⟨pb, cb, pw, cw, rfl, fun w' hb => hv.below hb, fun w' hb => check_any _ d w' (hv.below hb) hf⟩

structure Wp.Four (w : World) (g : Nat) (a b c d : Value) : Prop where
  c0 : w.cell? ⟨g, 0, none⟩ = some a
  c1 : w.cell? ⟨g, 1, none⟩ = some b
  c2 : w.cell? ⟨g, 2, none⟩ = some c
  c3 : w.cell? ⟨g, 3, none⟩ = some d
  f0 : w.frozen? ⟨g, 0, none⟩ = false
  f1 : w.frozen? ⟨g, 1, none⟩ = false
  f2 : w.frozen? ⟨g, 2, none⟩ = false
  f3 : w.frozen? ⟨g, 3, none⟩ = false
set_option maxRecDepth 100000 in
theorem Wp.four_of {w : World} {g : Nat} {a b c d : Value} {t : TypeId} (h : w.heap[g]? = some (.cells #[a, b, c, d] t (0, 0))) : Wp.Four w g a b c d :=
  ⟨by rw [Lib.cell_of_heap h]; rfl, by rw [Lib.cell_of_heap h]; rfl, by rw [Lib.cell_of_heap h]; rfl, by rw [Lib.cell_of_heap h]; rfl, by simp [World.frozen?, h], by simp [World.frozen?, h], by simp [World.frozen?, h], by simp [World.frozen?, h]⟩
set_option maxRecDepth 100000 in
/-- The two boxes that a call begins with: its device, and its result. -/
theorem two_boxes (w : World) (C0 C1 : Array Value) (t0 t1 : TypeId) : ((w.alloc (.cells C0 t0)).alloc (.cells C1 t1)).heap.size = w.heap.size + 2 ∧ Below w.heap.size w ((w.alloc (.cells C0 t0)).alloc (.cells C1 t1)) ∧
    ((w.alloc (.cells C0 t0)).alloc (.cells C1 t1)).heap[w.heap.size]? = some (.cells C0 t0 (0, 0)) ∧ ((w.alloc (.cells C0 t0)).alloc (.cells C1 t1)).heap[w.heap.size + 1]? = some (.cells C1 t1 (0, 0)) :=
  ⟨by rw [World.size_alloc, World.size_alloc], ((Below.refl _ _).alloc (Nat.le_refl _) _).alloc (by simp) _, by rw [alloc_past _ _ _ (by simp), alloc_new], alloc_at _ _ _ (by simp)⟩
set_option maxRecDepth 100000 in
/-- Two results, the first of a struct's type and in a box. -/
theorem ret_cell2 {P : Program} {fn : Func} {p u : Tmp} {ty : TypeId} (h : fn.results = #[.cell p ty, .tmp u]) (tmps : Array Value) (w : World) (g : Nat) (t : TypeId) (cs : Array Value) (d : TypeDesc) (hp : tmps.getD p undef = .pointer (some ⟨g, 0, none⟩))
    (hg : w.heap[g]? = some (.cells cs t (0, 0))) (hu : P.underlying ty = some d) (hd : (match d with | .struct _ | .array _ _ => true | _ => false) = true) (hi : (P.info? ty).map (·.size) = some cs.size) :
    (results fn tmps).run P w = .ok (.tuple #[.agg cs, tmps.getD u undef]) w := by
  have hl := run_loadVar_row w g t ty cs (0, 0) d hg hu hd hi
  have ha : (asAddr (tmps.getD p undef)).run P w = .ok ⟨g, 0, none⟩ w := by rw [hp]; rfl
  rw [results_cell_tmp h, ha, Result.andThen_ok, hl, Result.andThen_ok]
set_option maxRecDepth 100000 in
/-- Storing a device into a box of four cells. -/
theorem four_set {w : World} {g : Nat} {a b c d : Value} {t : TypeId} (h : w.heap[g]? = some (.cells #[a, b, c, d] t (0, 0))) (x y z u : Value) :
    ((((w.setCell ⟨g, 0, none⟩ x).setCell ⟨g, 1, none⟩ y).setCell ⟨g, 2, none⟩ z).setCell ⟨g, 3, none⟩ u).heap[g]? = some (.cells #[x, y, z, u] t (0, 0)) :=
  (Lib.heap_setCell_same (i := 3) (Lib.heap_setCell_same (i := 2) (Lib.heap_setCell_same (i := 1) (Lib.heap_setCell_same (i := 0) h x) y) z) u).trans rfl
set_option maxRecDepth 100000 in
theorem four_rest (w : World) (g : Nat) (x y z u : Value) (k : Nat) (hk : k ≠ g) : ((((w.setCell ⟨g, 0, none⟩ x).setCell ⟨g, 1, none⟩ y).setCell ⟨g, 2, none⟩ z).setCell ⟨g, 3, none⟩ u).heap[k]? = w.heap[k]? := by
  rw [Below.heap_setCell _ _ _ _ (by simpa using hk), Below.heap_setCell _ _ _ _ (by simpa using hk), Below.heap_setCell _ _ _ _ (by simpa using hk), Below.heap_setCell _ _ _ _ (by simpa using hk)]
set_option maxRecDepth 100000 in
theorem four_below {w0 w : World} {B g : Nat} (h : Below B w0 w) (hg : B ≤ g) (x y z u : Value) : Below B w0 ((((w.setCell ⟨g, 0, none⟩ x).setCell ⟨g, 1, none⟩ y).setCell ⟨g, 2, none⟩ z).setCell ⟨g, 3, none⟩ u) :=
  (((h.setCell (p := ⟨g, 0, none⟩) hg x).setCell (p := ⟨g, 1, none⟩) hg y).setCell (p := ⟨g, 2, none⟩) hg z).setCell (p := ⟨g, 3, none⟩) hg u

set_option maxRecDepth 100000 in
set_option maxHeartbeats 1000000 in
/-- Write, of a device that is not right. -/
theorem Write_bad (v : Value) (d : Wp.Dev) (at_ : Int) (data : ByteArray) (w : World) (hv : Wp.DevAt w v d) (hf : d.Fits) (hok : d.ok = false) :
    Calls Tryd.prog 103 #[v, .int .i64 at_, .string data] w fun e w' => ∃ v', e = .returned (.tuple #[v', .int .i64 2]) ∧ Wp.DevAt w' v' Wp.Dev.zero ∧ Below w.heap.size w w' := by
  obtain ⟨pb, cb, pw, cw, rfl, _, hc⟩ := asks hv hf
  rw [Wp.Dev.chk_bad hok] at hc
  have Hc := Lib.hid hc
  clear hv hf hok hc
  obtain ⟨bl, ws, fu, dn⟩ := d
  simp only [] at Hc
  obtain ⟨s2, b2, x2, y2⟩ := two_boxes w #[.slice pb bl.length cb, .slice pw ws.length cw, .int .i64 fu, .bool dn] #[.slice none 0 0, .slice none 0 0, .int .i64 0, .bool false] 25 25
  have Y2 := Lib.hid y2
  have B2 := Lib.hid b2
  clear x2 y2 b2
  go_enter Tryd.func103, Tryd.ntmps103
  go_wp2_with fail
  refine (Hc.out _ B2.out).mono ?_
  rintro e w1 ⟨rfl, hb1⟩
  rw [s2] at hb1
  have hy := (hb1.block (w.heap.size + 1) (by omega)).trans Y2.out
  obtain ⟨c0, c1, c2, c3, f0, f1, f2, f3⟩ := Wp.four_of hy
  have Hy := Lib.hid hy
  clear hy
  go_wp2_with fail
  refine bodyPost_ret (ret_cell2 rfl _ _ (w.heap.size + 1) 25 _ _ rfl (four_set Hy.out _ _ _ _) Tryd.underlying25 rfl (by kernel_rfl)) rfl ?_
  exact ⟨_, rfl, Wp.DevAt.zero _, four_below (B2.out.trans (hb1.mono (by omega))) (by omega) _ _ _ _⟩
set_option maxRecDepth 100000 in
theorem spend_lists (d : Wp.Dev) : d.spend.1.bl = d.bl ∧ d.spend.1.ws = d.ws := by
  unfold Wp.Dev.spend
  split
  · exact ⟨rfl, rfl⟩
  · split <;> exact ⟨rfl, rfl⟩
set_option maxRecDepth 100000 in
theorem spend_same (d : Wp.Dev) (ws : List (Int × ByteArray)) : ({ d with ws := ws } : Wp.Dev).spend.2 = d.spend.2 ∧ ({ d with ws := ws } : Wp.Dev).spend.1.fu = d.spend.1.fu ∧ ({ d with ws := ws } : Wp.Dev).spend.1.dn = d.spend.1.dn := by
  unfold Wp.Dev.spend
  by_cases h0 : d.fu = 0
  · simp [h0]
  · by_cases h1 : d.fu = -1
    · simp [h1]
    · simp [h0, h1]
/-- What stands behind a device's own writing, whatever is written. -/
structure Wp.Wrote2 (w w' : World) (g base : Nat) (vb vw : Value) (d : Wp.Dev) : Prop where
  wrote : ∃ vw', Wp.Box w' g vb vw' d.fu d.dn ∧ w'.ownsRow base 9 1 vb d.bl.length (d.bl.map Wp.mkT) ∧ w'.ownsRow base 100 2 vw' d.ws.length (Wp.wcells d.ws)
  rest : ∀ k, k < w.heap.size → k ≠ g → vw.ownBlock ≠ some k → w'.heap[k]? = w.heap[k]?
  below : Below base w w'
set_option maxRecDepth 100000 in
theorem write_any (w : World) (g base : Nat) (vb vw : Value) (d : Wp.Dev) (at_ : Int) (data : ByteArray) (h : Wp.Box w g vb vw d.fu d.dn) (h0 : -1 ≤ d.fu) (h1 : d.fu ≤ 9223372036854775807)
    (hob : w.ownsRow base 9 1 vb d.bl.length (d.bl.map Wp.mkT)) (how : w.ownsRow base 100 2 vw d.ws.length (Wp.wcells d.ws)) (_hne : vw.ownBlock ≠ none) (hnb : vb.ownBlock ≠ vw.ownBlock) (hg1 : vb.ownBlock ≠ some g) (hg2 : vw.ownBlock ≠ some g)
    (hbase : base ≤ g) (hbl : d.bl.length ≤ 4096) (hws : d.ws.length ≤ 4096) (hdata : data.size ≤ 9223372036854775807) :
    Calls Tryd.prog 152 #[.pointer (some ⟨g, 0, none⟩), .int .i64 at_, .string data] w fun e w' => e = .returned (.int .i64 (d.write1 at_ data).2) ∧ Wp.Wrote2 w w' g base vb vw (d.write1 at_ data).1 := by
  have hvb : ∃ p c, vb = .slice p d.bl.length c := by
    obtain ⟨p5, c5, h5, _⟩ := owns_at hob
    exact ⟨p5, c5, h5⟩
  have hvw : ∃ p c, vw = .slice p d.ws.length c := by
    obtain ⟨p5, c5, h5, _⟩ := owns_atW how
    exact ⟨p5, c5, h5⟩
  have hlt : ∀ k, vb.ownBlock = some k → k < w.heap.size := fun k hk => (hob.lt k hk).2
  by_cases hno : d.writeNo at_ data.size = 0
  · obtain ⟨y1, y2, y3, y4, y5, y6⟩ := Wp.write1_yes d at_ data hno
    refine (write_waits w g vb vw d at_ data h h0 h1 hvb base how hg2 hbase hbl (by omega) y1 y2 y3 y4).mono ?_
    rintro e w' ⟨rfl, hw⟩
    rw [y6]
    have e2 := spend_same d (d.ws ++ [(at_, Wp.laid (Wp.B []) data data.size)])
    have e1 := spend_lists { d with ws := d.ws ++ [(at_, Wp.laid (Wp.B []) data data.size)] }
    refine ⟨?_, ?_, hw.rest, hw.below⟩
    · rw [e2.1]
    · obtain ⟨vw', a1, a2⟩ := hw.wrote
      refine ⟨vw', ?_, ?_, ?_⟩
      · rw [e2.2.1, e2.2.2]; exact a1
      · rw [e1.1]
        refine ownsRow_at2 hob (fun k hk => hw.rest k (hlt k hk) ?_ ?_)
        · intro e; subst e; exact hg1 hk
        · intro e; exact hnb (hk.trans e.symm)
      · rw [e1.2]; exact a2
  · refine (write_no w g vb vw d at_ data h hvb hvw hbl hws hdata hno).mono ?_
    rintro e w' ⟨rfl, hb⟩
    rw [Wp.write1_no d at_ data hno]
    exact ⟨rfl, ⟨vw, h.below hb, ownsRow_below hob hb, ownsRow_below how hb⟩, fun k hk _ _ => hb.block k hk, hb.mono (by have := h.lt; omega)⟩

theorem owns_low {w : World} {b b0 : Nat} {e : TypeId} {size : Nat} {v : Value} {n : Nat} {xs : List Value} (h : w.ownsRow b e size v n xs) (hb : b0 ≤ b) : w.ownsRow b0 e size v n xs := by
  refine ⟨h.1, ?_⟩
  rcases h.2 with h0 | ⟨g, cap, cur, hv, hg, rest⟩
  · exact Or.inl h0
  · exact Or.inr ⟨g, cap, cur, hv, Nat.le_trans hb hg, rest⟩
/-- A device's value whose lists lie in memory of their own, from a block on. -/
def Wp.OwnDev (w : World) (base : Nat) (v : Value) (d : Wp.Dev) : Prop :=
  ∃ vb vw, v = .agg #[vb, vw, .int .i64 d.fu, .bool d.dn] ∧ w.ownsRow base 9 1 vb d.bl.length (d.bl.map Wp.mkT) ∧ w.ownsRow base 100 2 vw d.ws.length (Wp.wcells d.ws)
theorem Wp.OwnDev.devAt {w : World} {base : Nat} {v : Value} {d : Wp.Dev} (h : Wp.OwnDev w base v d) : Wp.DevAt w v d := by
  obtain ⟨vb, vw, rfl, h1, h2⟩ := h
  exact devAt_rows h1 h2
theorem Wp.OwnDev.low {w : World} {base b0 : Nat} {v : Value} {d : Wp.Dev} (h : Wp.OwnDev w base v d) (hb : b0 ≤ base) : Wp.OwnDev w b0 v d := by
  obtain ⟨vb, vw, rfl, h1, h2⟩ := h
  exact ⟨vb, vw, rfl, owns_low h1 hb, owns_low h2 hb⟩
/-- It reads as it did where nothing from that block on has turned. -/
theorem Wp.OwnDev.rest {w w' : World} {base : Nat} {v : Value} {d : Wp.Dev} (h : Wp.OwnDev w base v d) (hk : ∀ k, base ≤ k → k < w.heap.size → w'.heap[k]? = w.heap[k]?) : Wp.OwnDev w' base v d := by
  obtain ⟨vb, vw, rfl, h1, h2⟩ := h
  exact ⟨vb, vw, rfl, ownsRow_at2 h1 (fun k e => hk k (h1.lt k e).1 (h1.lt k e).2), ownsRow_at2 h2 (fun k e => hk k (h2.lt k e).1 (h2.lt k e).2)⟩
set_option maxRecDepth 100000 in
set_option maxHeartbeats 1000000 in
/-- Write, of a device that is right. -/
theorem Write_okf (v : Value) (d : Wp.Dev) (at_ : Int) (data : ByteArray) (w : World) (hv : Wp.DevAt w v d) (hf : d.Fits) (hok : d.ok = true) (hdata : data.size ≤ 9223372036854775807) :
    Calls Tryd.prog 103 #[v, .int .i64 at_, .string data] w fun e w' => ∃ v', e = .returned (.tuple #[v', .int .i64 (d.write1 at_ data).2]) ∧ Wp.OwnDev w' w.heap.size v' (d.write1 at_ data).1 ∧ Below w.heap.size w w' := by
  obtain ⟨⟨n1, n2, n3⟩, n4, n5⟩ := Wp.Dev.Fits_ok hok
  have n6 := hf.fu.2
  obtain ⟨pb, cb, pw, cw, rfl, hv2, hc⟩ := asks hv hf
  rw [Wp.Dev.chk_ok hok] at hc
  have hcp := fun (w' : World) (hb : Below w.heap.size w w') => copied_any _ d w' (hv2 w' hb) n1 n2 n4 n5
  have Hcp := Lib.hid hcp
  have Hc := Lib.hid hc
  clear hcp hc hv hf n4 n5 hv2 hok
  obtain ⟨bl, ws, fu, dn⟩ := d
  simp only [] at Hc Hcp n1 n2 n3 n6
  obtain ⟨r, hr⟩ : ∃ r, r = (⟨bl, ws, fu, dn⟩ : Wp.Dev).write1 at_ data := ⟨_, rfl⟩
  rw [← hr]
  have HR := Lib.hid hr
  clear hr
  obtain ⟨s2, b2, x2, y2⟩ := two_boxes w #[.slice pb bl.length cb, .slice pw ws.length cw, .int .i64 fu, .bool dn] #[.slice none 0 0, .slice none 0 0, .int .i64 0, .bool false] 25 25
  have X2 := Lib.hid x2
  have Y2 := Lib.hid y2
  have B2 := Lib.hid b2
  clear x2 y2 b2
  go_enter Tryd.func103, Tryd.ntmps103
  go_wp2_with fail
  refine (Hc.out _ B2.out).mono ?_
  rintro e w1 ⟨rfl, hb1⟩
  rw [s2] at hb1
  have hB1 := Lib.hid (B2.out.trans (hb1.mono (by omega)))
  have hx := (hb1.block w.heap.size (by omega)).trans X2.out
  have hy := (hb1.block (w.heap.size + 1) (by omega)).trans Y2.out
  have s3 : w.heap.size + 2 ≤ w1.heap.size := by have := hb1.size; omega
  obtain ⟨c0, c1, c2, c3, _, _, _, _⟩ := Wp.four_of hx
  have Hy := Lib.hid hy
  clear hy hx
  go_wp2_with fail
  refine (Hcp.out _ hB1.out).mono ?_
  rintro e w2 ⟨vb, vw, rfl, hob, how, hne, hnb, hb2⟩
  clear c0 c1 c2 c3
  have hvb : ∃ p c, vb = .slice p bl.length c := by
    obtain ⟨p5, c5, h5, _⟩ := owns_at hob
    exact ⟨p5, c5, h5⟩
  have hvw : ∃ p c, vw = .slice p ws.length c := by
    obtain ⟨p5, c5, h5, _⟩ := owns_atW how
    exact ⟨p5, c5, h5⟩
  have s4 : w1.heap.size ≤ w2.heap.size := hb2.size
  have Hob := Lib.hid hob
  have How := Lib.hid how
  obtain ⟨p1, q1, rfl⟩ := hvb
  obtain ⟨p2, q2, rfl⟩ := hvw
  have hwr := write_any (w2.alloc (.cells #[.slice p1 bl.length q1, .slice p2 ws.length q2, .int .i64 fu, .bool dn] 92)) w2.heap.size w1.heap.size _ _ ⟨bl, ws, fu, dn⟩ at_ data (alloc_new _ _) n3 n6 (hob.alloc _) (how.alloc _) hne hnb
    (fun e => by have := (hob.lt _ e).2; omega) (fun e => by have := (how.lt _ e).2; omega) s4 n1 n2 hdata
  clear hob how hne hnb
  have hy2 := (alloc_past w2 (.cells #[.slice p1 bl.length q1, .slice p2 ws.length q2, .int .i64 fu, .bool dn] 92) (w.heap.size + 1) (by omega)).trans ((hb2.block (w.heap.size + 1) (by omega)).trans Hy.out)
  have hyn := ownsRow_block How.out (w.heap.size + 1) (by omega)
  have Hy2 := Lib.hid hy2
  have hB2 := Lib.hid ((hB1.out.trans (hb2.mono (by omega))).alloc (by omega) (.cells #[.slice p1 bl.length q1, .slice p2 ws.length q2, .int .i64 fu, .bool dn] 92))
  rw [← HR.out] at hwr
  have Hwr := Lib.hid hwr
  clear hwr hy2
  go_wp2_with fail
  refine Hwr.out.mono ?_
  rintro e w5 ⟨rfl, ⟨vw5, hbx, ho1, ho2⟩, hrest, hb5⟩
  obtain ⟨r1, r2⟩ := r
  obtain ⟨bl5, ws5, fu5, dn5⟩ := r1
  simp only [] at hbx ho1 ho2 ⊢
  obtain ⟨p6, c6, h6, _⟩ := owns_atW ho2
  subst h6
  have hy5 := (hrest (w.heap.size + 1) (by rw [World.size_alloc]; omega) (by omega) hyn).trans Hy2.out
  have s5 : w2.heap.size < w5.heap.size := by have := hb5.size; simp at this; omega
  obtain ⟨d0, d1, d2, d3, _, _, _, _⟩ := hbx.facts
  obtain ⟨c0, c1, c2, c3, f0, f1, f2, f3⟩ := Wp.four_of hy5
  have Hy5 := Lib.hid hy5
  have Ho1 := Lib.hid ho1
  have Ho2 := Lib.hid ho2
  have hB5 := Lib.hid (hB2.out.trans (hb5.mono (by omega)))
  clear hy5 ho1 ho2 hbx hrest
  go_wp2_with fail
  refine bodyPost_ret (ret_cell2 rfl _ _ (w.heap.size + 1) 25 _ _ rfl (four_set Hy5.out _ _ _ _) Tryd.underlying25 rfl (by kernel_rfl)) rfl ?_
  refine ⟨_, rfl, ?_, four_below hB5.out (by omega) _ _ _ _⟩
  exact ⟨_, _, rfl, owns_low (ownsRow_at Ho1.out (Nat.le_refl _) (fun k hk => four_rest _ _ _ _ _ _ k (by omega))) (by omega), owns_low (ownsRow_at Ho2.out (Nat.le_refl _) (fun k hk => four_rest _ _ _ _ _ _ k (by omega))) (by omega)⟩
/-- Write, of a device that is right. -/
theorem Write_ok (v : Value) (d : Wp.Dev) (at_ : Int) (data : ByteArray) (w : World) (hv : Wp.DevAt w v d) (hf : d.Fits) (hok : d.ok = true) (hdata : data.size ≤ 9223372036854775807) :
    Calls Tryd.prog 103 #[v, .int .i64 at_, .string data] w fun e w' => ∃ v', e = .returned (.tuple #[v', .int .i64 (d.write1 at_ data).2]) ∧ Wp.DevAt w' v' (d.write1 at_ data).1 ∧ Below w.heap.size w w' := by
  refine (Write_okf v d at_ data w hv hf hok hdata).mono ?_
  rintro e w' ⟨v', h1, h2, h3⟩
  exact ⟨v', h1, h2.devAt, h3⟩
end Go.Proofs.YtpmhgfjnabgilaaDoor
