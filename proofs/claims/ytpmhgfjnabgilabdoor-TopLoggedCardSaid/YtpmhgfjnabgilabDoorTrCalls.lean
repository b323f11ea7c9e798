
/-
  The walks of trail.Blocks, trail.Read, trail.Append and trail.Wipe. Conditions: sum's table reads as it is laid; a device's lists and numbers are of a size that a machine holds.
-/
import Derived.Test.YtpmhgfjnabgilabDoorTrWipe
namespace Go.Proofs.YtpmhgfjnabgilabDoor
open Go.RowKit

theorem results_cell_tmp2 {fn : Func} {p u v : Tmp} {ty : TypeId} (h : fn.results = #[.cell p ty, .tmp u, .tmp v]) (tmps : Array Value) (P : Program) (w : World) :
    (results fn tmps).run P w = ((asAddr (tmps.getD p undef)).run P w).andThen fun a w => ((loadVar ty a).run P w).andThen fun x w => .ok (.tuple #[x, tmps.getD u undef, tmps.getD v undef]) w := by
  simp only [results, h]
  simp [Sem.run_bind, Result.andThen]
/-- Three results, the first of a struct's type and in a box. -/
theorem ret_cell3 {P : Program} {fn : Func} {p u v : Tmp} {ty : TypeId} (h : fn.results = #[.cell p ty, .tmp u, .tmp v]) (tmps : Array Value) (w : World) (g : Nat) (t : TypeId) (cs : Array Value) (d : TypeDesc) (hp : tmps.getD p undef = .pointer (some ⟨g, 0, none⟩))
    (hg : w.heap[g]? = some (.cells cs t (0, 0))) (hu : P.underlying ty = some d) (hd : (match d with | .struct _ | .array _ _ => true | _ => false) = true) (hi : (P.info? ty).map (·.size) = some cs.size) :
    (results fn tmps).run P w = .ok (.tuple #[.agg cs, tmps.getD u undef, tmps.getD v undef]) w := by
  have hl := run_loadVar_row w g t ty cs (0, 0) d hg hu hd hi
  have ha : (asAddr (tmps.getD p undef)).run P w = .ok ⟨g, 0, none⟩ w := by rw [hp]; rfl
  rw [results_cell_tmp2 h, ha, Result.andThen_ok, hl, Result.andThen_ok]

/-- The three boxes that a call begins with: its device, its result, its region. -/
theorem three_boxes (w : World) (C0 C1 C2 : Array Value) (t0 t1 t2 : TypeId) : (((w.alloc (.cells C0 t0)).alloc (.cells C1 t1)).alloc (.cells C2 t2)).heap.size = w.heap.size + 3 ∧ Below w.heap.size w (((w.alloc (.cells C0 t0)).alloc (.cells C1 t1)).alloc (.cells C2 t2)) ∧
    (((w.alloc (.cells C0 t0)).alloc (.cells C1 t1)).alloc (.cells C2 t2)).heap[w.heap.size]? = some (.cells C0 t0 (0, 0)) ∧ (((w.alloc (.cells C0 t0)).alloc (.cells C1 t1)).alloc (.cells C2 t2)).heap[w.heap.size + 1]? = some (.cells C1 t1 (0, 0)) ∧ (((w.alloc (.cells C0 t0)).alloc (.cells C1 t1)).alloc (.cells C2 t2)).heap[w.heap.size + 2]? = some (.cells C2 t2 (0, 0)) := by
  obtain ⟨s2, b2, x2, y2⟩ := two_boxes w C0 C1 t0 t1
  exact ⟨by rw [World.size_alloc, s2], b2.alloc (by omega) _, (alloc_past _ _ _ (by omega)).trans x2, (alloc_past _ _ _ (by omega)).trans y2, alloc_at _ _ _ (by omega)⟩
theorem six_nostr {w : World} {g : Nat} {a b : Option Addr} {n1 c1 n2 c2 : Nat} {i f k : Int} {q : Bool} {T : TypeId} (h : w.heap[g]? = some (.cells #[.slice a n1 c1, .slice b n2 c2, .int .i64 i, .bool q, .int .i64 f, .int .i64 k] T (0, 0))) (x : Nat) (s : ByteArray) : w.cell? ⟨g, x, none⟩ ≠ some (.string s) := by
  rw [Lib.cell_of_heap h]
  match x with
  | 0 => simp
  | 1 => simp
  | 2 => simp
  | 3 => simp
  | 4 => simp
  | 5 => simp
  | x + 6 => simp
def Tr.ReadPost (d : Wp.Dev) (f k : Int) (w : World) (e : Ending) (w' : World) : Prop :=
  ∃ v l u, e = .returned (.tuple #[v, .int .i64 ((u : Nat) : Int), .int .i64 (Tr.rchk d f k)]) ∧ (Tr.rchk d f k ≠ 0 → l = [] ∧ u = 0) ∧ (Tr.rchk d f k = 0 → Tr.Recs (Tr.rgn d f k) l u) ∧ w'.ownsRow w.heap.size 9 1 v l.length (l.map Wp.mkT) ∧ Below w.heap.size w w'
set_option maxRecDepth 100000 in
set_option maxHeartbeats 800000 in
theorem trRead_any (v : Value) (d : Wp.Dev) (f k : Int) (w : World) (hL : Sp.Laid w) (hv : Wp.DevAt w v d) (hf : d.Fits) (f1 : Wp.I64 f) (k1 : Wp.I64 k) :
    Calls Tryd.prog 15 #[v, .int .i64 f, .int .i64 k] w (Tr.ReadPost d f k w) := by
  obtain ⟨pb, cb, pw, cw, rfl, hv⟩ := devAt_open hv
  have hck := fun w' (h : Below w.heap.size w w') => regCheck_any pb cb pw cw d f k w' (hv.below h) hf f1 k1
  by_cases h0 : Tr.rchk d f k = 0
  · obtain ⟨r1, r2, r3, r4, r5⟩ := Tr.rchk_ok h0
    obtain ⟨F, rfl⟩ := Int.eq_ofNat_of_zero_le r3
    obtain ⟨K, rfl⟩ := Int.eq_ofNat_of_zero_le r5
    have hrc := fun w' (h : Below w.heap.size w w') => records_any pb cb pw cw d F K w' (hL.below h) (hv.below h) hf r1 r2 (by omega)
    rw [h0] at hck
    have HP := Lib.hid (show ∀ v l u W, Tr.Recs (Tr.rgn d F K) l u → W.ownsRow w.heap.size 9 1 v l.length (l.map Wp.mkT) → Below w.heap.size w W → Tr.ReadPost d F K w (.returned (.tuple #[v, .int .i64 ((u : Nat) : Int), .int .i64 0])) W from
      fun v l u W h1 h2 h3 => ⟨v, l, u, by rw [h0], fun h => absurd h0 h, fun _ => h1, h2, h3⟩)
    have Hck := Lib.hid hck
    have Hrc := Lib.hid hrc
    clear hck hrc hv hf h0 hL r1 r2 r3 r4 r5
    generalize Tr.rgn d F K = R at *
    generalize d.bl.length = n at *
    generalize d.ws.length = m at *
    generalize d.fu = fu at *
    generalize d.dn = dn at *
    obtain ⟨s2, b2, x2, y2⟩ := two_boxes w #[.slice pb n cb, .slice pw m cw, .int .i64 fu, .bool dn] #[.slice pb n cb, .slice pw m cw, .int .i64 fu, .bool dn, .int .i64 (F : Int), .int .i64 (K : Int)] 38 76
    have X2 := Lib.hid x2
    have Y2 := Lib.hid y2
    have B2 := Lib.hid b2
    clear x2 y2 b2
    go_enter Tryd.func15, Tryd.ntmps15
    go_wp2_with fail
    refine (Hck.out _ B2.out).mono ?_
    rintro e w1 ⟨rfl, hb1⟩
    rw [s2] at hb1
    have s1 := hb1.size
    rw [s2] at s1
    obtain ⟨c0, c1, c2, c3, c4, c5, _, _, _, _⟩ := Wp.six_of ((hb1.block (w.heap.size + 1) (by omega)).trans Y2.out)
    have HB1 := Lib.hid (B2.out.trans (hb1.mono (by omega)))
    clear hb1
    go_wp2_with fail
    refine (Hrc.out _ HB1.out).mono ?_
    rintro e w2 ⟨v2, l2, u2, rfl, hrs, ho2, hb2⟩
    have Hrs := Lib.hid hrs
    have Ho2 := Lib.hid (owns_base ho2 (show w.heap.size ≤ w1.heap.size by omega))
    have HB2 := Lib.hid (HB1.out.trans (hb2.mono (by omega)))
    clear hrs ho2 hb2 c0 c1 c2 c3 c4 c5
    go_wp2_with fail
    go_ret3
    exact HP.out _ _ _ _ Hrs.out Ho2.out HB2.out
  · have HP := Lib.hid (show ∀ W, Below w.heap.size w W → Tr.ReadPost d f k w (.returned (.tuple #[.slice none 0 0, .int .i64 0, .int .i64 (Tr.rchk d f k)])) W from
      fun W h3 => ⟨_, [], 0, rfl, fun _ => ⟨rfl, rfl⟩, fun h => absurd h h0, World.ownsRow_nil _ _ _ _, h3⟩)
    have hb : (Tr.rchk d f k != 0) = true := by rw [bne_iff_ne]; exact h0
    generalize Tr.rchk d f k = C at *
    have Hck := Lib.hid hck
    clear hck hv hf h0 hL
    generalize d.bl.length = n at *
    generalize d.ws.length = m at *
    generalize d.fu = fu at *
    generalize d.dn = dn at *
    obtain ⟨s2, b2, x2, y2⟩ := two_boxes w #[.slice pb n cb, .slice pw m cw, .int .i64 fu, .bool dn] #[.slice pb n cb, .slice pw m cw, .int .i64 fu, .bool dn, .int .i64 f, .int .i64 k] 38 76
    have X2 := Lib.hid x2
    have Y2 := Lib.hid y2
    have B2 := Lib.hid b2
    clear x2 y2 b2
    go_enter Tryd.func15, Tryd.ntmps15
    go_wp2_with fail
    refine (Hck.out _ B2.out).mono ?_
    rintro e w1 ⟨rfl, hb1⟩
    rw [s2] at hb1
    have HB1 := Lib.hid (B2.out.trans (hb1.mono (by omega)))
    clear hb1
    go_wp2_with fail
    go_ret3
    exact HP.out _ HB1.out

set_option maxRecDepth 100000 in
set_option maxHeartbeats 800000 in
theorem trAppend_anyF (v : Value) (d : Wp.Dev) (f k u : Int) (r : ByteArray) (w : World) (hL : Sp.Laid w) (hv : Wp.DevAt w v d) (hf : d.Fits) (f1 : Wp.I64 f) (k1 : Wp.I64 k) (u1 : Wp.I64 u) (hr : r.size ≤ 281474976710656) :
    Calls Tryd.prog 12 #[v, .int .i64 f, .int .i64 k, .int .i64 u, .string r] w fun e w' => ∃ v', e = .returned (.tuple #[v', .int .i64 (Tr.app d f k u r).2.1, .int .i64 (Tr.app d f k u r).2.2]) ∧ Wp.DevAt w' v' (Tr.app d f k u r).1 ∧ Below w.heap.size w w' ∧ ((Tr.app d f k u r).2.2 = 0 → Wp.OwnDev w' w.heap.size v' (Tr.app d f k u r).1) := by
  have hv0 := hv
  obtain ⟨pb, cb, pw, cw, rfl, hv⟩ := devAt_open hv
  have hck := fun w' (h : Below w.heap.size w w') => regFit_any pb cb pw cw d f k u r w' (hL.below h) (hv.below h) hf f1 k1 u1 hr
  have has := fun w' (h : Below w.heap.size w w') => asIs_any _ d w' (hv.below h) hf
  have hap : Tr.app d f k u r = if Tr.fitC d f k u r ≠ 0 then (Tr.asIs d, 0, Tr.fitC d f k u r)
    else if (Tr.writes d (f + u) (Tr.cutB r.data.toList)).2 = 0 then ((Tr.writes d (f + u) (Tr.cutB r.data.toList)).1, u + (Tr.cutB r.data.toList).length, 0)
    else ((Tr.writes d (f + u) (Tr.cutB r.data.toList)).1, 0, (Tr.writes d (f + u) (Tr.cutB r.data.toList)).2) := rfl
  obtain ⟨T, hT⟩ : ∃ T, T = Tr.app d f k u r := ⟨_, rfl⟩
  rw [← hT] at hap ⊢
  clear hT
  by_cases h0 : Tr.fitC d f k u r = 0
  · rw [if_neg (by rw [h0]; simp)] at hap
    have hfx : Tr.rchk d f k = 0 ∧ 0 ≤ u ∧ u ≤ k ∧ r.size ≤ 32768 ∧ ((Tr.cutB r.data.toList).length : Int) ≤ k - u := by
      unfold Tr.fitC at h0
      by_cases q1 : Tr.rchk d f k ≠ 0
      · rw [if_pos q1] at h0; exact absurd h0 q1
      · rw [if_neg q1] at h0
        by_cases q2 : u < 0 ∨ k < u
        · rw [if_pos q2] at h0; cases h0
        · rw [if_neg q2] at h0
          by_cases q3 : 32768 < r.size
          · rw [if_pos q3] at h0; cases h0
          · rw [if_neg q3] at h0
            by_cases q4 : k - u < ((Tr.cutB r.data.toList).length : Int)
            · rw [if_pos q4] at h0; cases h0
            · exact ⟨by simpa using q1, by omega, by omega, by omega, by omega⟩
    obtain ⟨x1, x2, x3, x4, x5⟩ := hfx
    obtain ⟨r1, r2, r3, r4, r5⟩ := Tr.rchk_ok x1
    have hgd : Wp.Good d := ⟨r1, hf.fu.2⟩
    obtain ⟨⟨n1, _, _⟩, _, _⟩ := (Wp.Dev.ok_iff d).1 r1
    have hrw := fun w' g base p c (hb : Tr.Box w' g pb cb pw cw d f k) (hbase : base ≤ g) hA => regWrite_anyF w' g base pb cb pw cw d f k u p c (Tr.cutB r.data.toList) hb hgd hbase hA (by omega) (Tr.cutB_size _) r3 (by omega) x2 (by omega)
    rw [h0] at hck
    have hGne : Tr.cutB r.data.toList ≠ [] := List.length_pos_iff.1 (Tr.cutB_pos _)
    have hG1 : ((Tr.cutB r.data.toList).length : Int) ≤ 4096 := by omega
    have hG2 : u ≤ 4096 := by omega
    obtain ⟨⟨D, C⟩, hD⟩ : ∃ y, y = Tr.writes d (f + u) (Tr.cutB r.data.toList) := ⟨_, rfl⟩
    rw [← hD] at hap hrw
    simp only [] at hap hrw
    generalize Tr.cutB r.data.toList = G at *
    have hmk := fun w' g (h1 : w'.heap[g]? = some (.cells #[.slice pb d.bl.length cb, .slice pw d.ws.length cw, .int .i64 d.fu, .bool d.dn, .int .i64 f, .int .i64 k] 76 (0, 0))) (h2 : Below w.heap.size w w') => (show Tr.Box w' g pb cb pw cw d f k from ⟨h1, hv.below h2⟩)
    have Hmk := Lib.hid hmk
    have HGne := Lib.hid hGne
    clear hGne
    have Hrw := Lib.hid hrw
    have Hck := Lib.hid hck
    have Hv := Lib.hid hv
    clear hmk hrw hck has hv hv0 hf hL h0 hD hgd r1 r2 r3 r4 r5 x1 x3 x4 x5 n1 f1 k1 u1
    generalize d.bl.length = n at *
    generalize d.ws.length = m at *
    generalize d.fu = fu at *
    generalize d.dn = dn at *
    obtain ⟨s3, b3, x3, y3, z3⟩ := three_boxes w #[.slice pb n cb, .slice pw m cw, .int .i64 fu, .bool dn] #[.slice none 0 0, .slice none 0 0, .int .i64 0, .bool false] #[.slice pb n cb, .slice pw m cw, .int .i64 fu, .bool dn, .int .i64 f, .int .i64 k] 38 38 76
    obtain ⟨w0, hw0⟩ : ∃ w0, ((w.alloc (.cells #[.slice pb n cb, .slice pw m cw, .int .i64 fu, .bool dn] 38)).alloc (.cells #[.slice none 0 0, .slice none 0 0, .int .i64 0, .bool false] 38)).alloc (.cells #[.slice pb n cb, .slice pw m cw, .int .i64 fu, .bool dn, .int .i64 f, .int .i64 k] 76) = w0 := ⟨_, rfl⟩
    rw [hw0] at s3 b3 x3 y3 z3
    have X3 := Lib.hid x3
    have Y3 := Lib.hid y3
    have Z3 := Lib.hid z3
    have B3 := Lib.hid b3
    have W0 := Lib.hid hw0
    clear x3 y3 z3 b3 hw0
    go_enter Tryd.func12, Tryd.ntmps12
    go_wp2_with fail
    rw [W0.out]
    refine (Hck.out _ B3.out).mono ?_
    rintro e w1 ⟨v1, rfl, ho1, hb1⟩
    rw [s3] at hb1 
    have s1 := hb1.size
    rw [s3] at s1
    have HB1 := Lib.hid (B3.out.trans (hb1.mono (by omega)))
    have HX1 := Lib.hid ((hb1.block w.heap.size (by omega)).trans X3.out)
    have HY1 := Lib.hid ((hb1.block (w.heap.size + 1) (by omega)).trans Y3.out)
    have HZ1 := Lib.hid ((hb1.block (w.heap.size + 2) (by omega)).trans Z3.out)
    clear hb1
    have ho := ho1 trivial
    obtain ⟨p1, q1, rfl, ha1⟩ := owns_at ho
    have hbx := Hmk.out w1 (w.heap.size + 2) HZ1.out HB1.out
    have HR1 := Lib.hid (Hrw.out w1 (w.heap.size + 2) w.heap.size p1 q1 hbx (by omega) ha1)
    clear ho ho1 ha1 hbx
    by_cases he : C = 0
    · subst he
      rw [if_pos rfl] at hap
      have Hap := Lib.hid hap
      clear hap
      go_wp2_with fail
      refine HR1.out.mono ?_
      rintro e w2 ⟨rfl, ⟨pb2, cb2, pw2, cw2, hbx, hown⟩, hr2, hb2, hs2⟩
      have HOw := Lib.hid (hown HGne.out)
      clear hown
      have HY2 := Lib.hid ((hr2 (w.heap.size + 1) (by omega) (by omega)).trans HY1.out)
      have HB2 := Lib.hid (HB1.out.trans hb2)
      have Hbx := Lib.hid hbx
      have hlt2 := hbx.lt
      obtain ⟨c0, c1, c2, c3, c4, c5, _, _, _, _⟩ := Wp.six_of Hbx.out.1
      obtain ⟨d0, d1, d2, d3, g0, g1, g2, g3⟩ := Wp.four_of HY2.out
      clear hr2 hb2 hbx
      go_wp2_with fail
      refine bodyPost_ret (ret_cell3 rfl _ _ (w.heap.size + 1) 38 _ _ rfl (four_set HY2.out _ _ _ _) Tryd.underlying38 rfl (by kernel_rfl)) rfl ?_
      refine ⟨_, by rw [Hap.out]; rfl, ?_, four_below HB2.out (by omega) _ _ _ _, fun _ => ?_⟩
      · rw [Hap.out]
        exact devAt_box Hbx.out.2 HY2.out (fun j hj => four_rest _ _ _ _ _ _ j hj)
      · rw [Hap.out]
        exact (HOw.out.rest (fun k hk _ => four_rest _ _ _ _ _ _ k (by omega))).low (by omega)
    · have hb1 : (C != 0) = true := by rw [bne_iff_ne]; exact he
      rw [if_neg he] at hap
      have Hap := Lib.hid hap
      have HC := Lib.hid he
      clear hap he
      go_wp2_with fail
      refine HR1.out.mono ?_
      rintro e w2 ⟨rfl, ⟨pb2, cb2, pw2, cw2, hbx, _⟩, hr2, hb2, hs2⟩
      have HY2 := Lib.hid ((hr2 (w.heap.size + 1) (by omega) (by omega)).trans HY1.out)
      have HB2 := Lib.hid (HB1.out.trans hb2)
      have Hbx := Lib.hid hbx
      have hlt2 := hbx.lt
      obtain ⟨c0, c1, c2, c3, c4, c5, _, _, _, _⟩ := Wp.six_of Hbx.out.1
      obtain ⟨d0, d1, d2, d3, g0, g1, g2, g3⟩ := Wp.four_of HY2.out
      clear hr2 hb2 hbx
      go_wp2_with fail
      refine bodyPost_ret (ret_cell3 rfl _ _ (w.heap.size + 1) 38 _ _ rfl (four_set HY2.out _ _ _ _) Tryd.underlying38 rfl (by kernel_rfl)) rfl ?_
      refine ⟨_, by rw [Hap.out]; rfl, ?_, four_below HB2.out (by omega) _ _ _ _, fun h => ?_⟩
      · rw [Hap.out]
        exact devAt_box Hbx.out.2 HY2.out (fun j hj => four_rest _ _ _ _ _ _ j hj)
      · rw [Hap.out] at h
        exact absurd h HC.out
  · rw [if_pos h0] at hap
    have hb : (Tr.fitC d f k u r != 0) = true := by rw [bne_iff_ne]; exact h0
    obtain ⟨C, hC⟩ : ∃ C, C = Tr.fitC d f k u r := ⟨_, rfl⟩
    rw [← hC] at hap hb hck
    have Hap := Lib.hid hap
    have Hck := Lib.hid hck
    have Has := Lib.hid has
    have Hv := Lib.hid hv
    have HC : Hid (C ≠ 0) := Lib.hid (by rw [hC]; exact h0)
    clear hap hck has hv hv0 hf hL h0 hC
    generalize Tr.asIs d = A at *
    generalize d.bl.length = n at *
    generalize d.ws.length = m at *
    generalize d.fu = fu at *
    generalize d.dn = dn at *
    obtain ⟨s3, b3, x3, y3, z3⟩ := three_boxes w #[.slice pb n cb, .slice pw m cw, .int .i64 fu, .bool dn] #[.slice none 0 0, .slice none 0 0, .int .i64 0, .bool false] #[.slice pb n cb, .slice pw m cw, .int .i64 fu, .bool dn, .int .i64 f, .int .i64 k] 38 38 76
    obtain ⟨w0, hw0⟩ : ∃ w0, ((w.alloc (.cells #[.slice pb n cb, .slice pw m cw, .int .i64 fu, .bool dn] 38)).alloc (.cells #[.slice none 0 0, .slice none 0 0, .int .i64 0, .bool false] 38)).alloc (.cells #[.slice pb n cb, .slice pw m cw, .int .i64 fu, .bool dn, .int .i64 f, .int .i64 k] 76) = w0 := ⟨_, rfl⟩
    rw [hw0] at s3 b3 x3 y3 z3
    have X3 := Lib.hid x3
    have Y3 := Lib.hid y3
    have Z3 := Lib.hid z3
    have B3 := Lib.hid b3
    have W0 := Lib.hid hw0
    clear x3 y3 z3 b3 hw0
    go_enter Tryd.func12, Tryd.ntmps12
    go_wp2_with fail
    rw [W0.out]
    refine (Hck.out _ B3.out).mono ?_
    rintro e w1 ⟨v1, rfl, _, hb1⟩
    rw [s3] at hb1 
    have s1 := hb1.size
    rw [s3] at s1
    have HB1 := Lib.hid (B3.out.trans (hb1.mono (by omega)))
    have HX1 := Lib.hid ((hb1.block w.heap.size (by omega)).trans X3.out)
    have HY1 := Lib.hid ((hb1.block (w.heap.size + 1) (by omega)).trans Y3.out)
    have HZ1 := Lib.hid ((hb1.block (w.heap.size + 2) (by omega)).trans Z3.out)
    clear hb1
    obtain ⟨c0, c1, c2, c3, _, _, _, _⟩ := Wp.four_of HX1.out
    go_wp2_with fail
    refine (Has.out _ HB1.out).mono ?_
    rintro e w2 ⟨v2, rfl, hd2, hb2⟩
    obtain ⟨pb2, cb2, pw2, cw2, rfl, hd2⟩ := devAt_open hd2
    have s2 := hb2.size
    have HY2 := Lib.hid ((hb2.block (w.heap.size + 1) (by omega)).trans HY1.out)
    have HB2 := Lib.hid (HB1.out.trans (hb2.mono (by omega)))
    have Hd2 := Lib.hid hd2
    clear c0 c1 c2 c3 hd2 hb2
    obtain ⟨c0, c1, c2, c3, g0, g1, g2, g3⟩ := Wp.four_of HY2.out
    go_wp2_with fail
    refine bodyPost_ret (ret_cell3 rfl _ _ (w.heap.size + 1) 38 _ _ rfl (four_set HY2.out _ _ _ _) Tryd.underlying38 rfl (by kernel_rfl)) rfl ?_
    refine ⟨_, by rw [Hap.out]; rfl, ?_, four_below HB2.out (by omega) _ _ _ _, fun h => ?_⟩
    · rw [Hap.out]
      exact devAt_box Hd2.out HY2.out (fun j hj => four_rest _ _ _ _ _ _ j hj)
    · rw [Hap.out] at h
      exact absurd h HC.out
theorem trAppend_any (v : Value) (d : Wp.Dev) (f k u : Int) (r : ByteArray) (w : World) (hL : Sp.Laid w) (hv : Wp.DevAt w v d) (hf : d.Fits) (f1 : Wp.I64 f) (k1 : Wp.I64 k) (u1 : Wp.I64 u) (hr : r.size ≤ 281474976710656) :
    Calls Tryd.prog 12 #[v, .int .i64 f, .int .i64 k, .int .i64 u, .string r] w fun e w' => ∃ v', e = .returned (.tuple #[v', .int .i64 (Tr.app d f k u r).2.1, .int .i64 (Tr.app d f k u r).2.2]) ∧ Wp.DevAt w' v' (Tr.app d f k u r).1 ∧ Below w.heap.size w w' := by
  refine (trAppend_anyF v d f k u r w hL hv hf f1 k1 u1 hr).mono ?_
  rintro e w' ⟨v', h1, h2, h3, _⟩
  exact ⟨v', h1, h2, h3⟩

set_option maxRecDepth 100000 in
set_option maxHeartbeats 800000 in
theorem trWipe_any (v : Value) (d : Wp.Dev) (f k : Int) (w : World) (hv : Wp.DevAt w v d) (hf : d.Fits) (f1 : Wp.I64 f) (k1 : Wp.I64 k) :
    Calls Tryd.prog 16 #[v, .int .i64 f, .int .i64 k] w fun e w' => ∃ v', e = .returned (.tuple #[v', .int .i64 (Tr.wipe d f k).2]) ∧ Wp.DevAt w' v' (Tr.wipe d f k).1 ∧ Below w.heap.size w w' := by
  obtain ⟨pb, cb, pw, cw, rfl, hv⟩ := devAt_open hv
  have hck := fun w' (h : Below w.heap.size w w') => regCheck_any pb cb pw cw d f k w' (hv.below h) hf f1 k1
  have has := fun w' (h : Below w.heap.size w w') => asIs_any _ d w' (hv.below h) hf
  have hap : Tr.wipe d f k = if Tr.rchk d f k ≠ 0 then (Tr.asIs d, Tr.rchk d f k) else Tr.wipes d f (Tr.rgn d f k) := rfl
  obtain ⟨T, hT⟩ : ∃ T, T = Tr.wipe d f k := ⟨_, rfl⟩
  rw [← hT] at hap ⊢
  clear hT
  by_cases h0 : Tr.rchk d f k = 0
  · rw [if_neg (by rw [h0]; simp)] at hap
    obtain ⟨r1, r2, r3, r4, r5⟩ := Tr.rchk_ok h0
    obtain ⟨F, rfl⟩ := Int.eq_ofNat_of_zero_le r3
    obtain ⟨K, rfl⟩ := Int.eq_ofNat_of_zero_le r5
    have hgd : Wp.Good d := ⟨r1, hf.fu.2⟩
    have hrw := fun w' g base p1 q1 p2 q2 (hb : Tr.Box w' g p1 q1 p2 q2 d F K) (hbase : base ≤ g) => regWipe_any w' g base p1 q1 p2 q2 d F K hb hgd hbase r2 (by omega)
    rw [h0] at hck
    rw [show Tr.asIs d = d from if_pos r1] at has
    rw [← hap] at hrw
    have Hrw := Lib.hid hrw
    have Hck := Lib.hid hck
    have Has := Lib.hid has
    have Hv := Lib.hid hv
    clear hrw hck has hv hf h0 hgd r1 r2 r3 r4 r5 f1 k1 hap
    generalize hn : d.bl.length = n at *
    generalize hm : d.ws.length = m at *
    generalize hfu : d.fu = fu at *
    generalize hdn : d.dn = dn at *
    have HE := Lib.hid (And.intro hn (And.intro hm (And.intro hfu hdn)))
    clear hn hm hfu hdn
    obtain ⟨s3, b3, x3, y3, z3⟩ := three_boxes w #[.slice pb n cb, .slice pw m cw, .int .i64 fu, .bool dn] #[.slice none 0 0, .slice none 0 0, .int .i64 0, .bool false] #[.slice pb n cb, .slice pw m cw, .int .i64 fu, .bool dn, .int .i64 (F : Int), .int .i64 (K : Int)] 38 38 76
    obtain ⟨w0, hw0⟩ : ∃ w0, ((w.alloc (.cells #[.slice pb n cb, .slice pw m cw, .int .i64 fu, .bool dn] 38)).alloc (.cells #[.slice none 0 0, .slice none 0 0, .int .i64 0, .bool false] 38)).alloc (.cells #[.slice pb n cb, .slice pw m cw, .int .i64 fu, .bool dn, .int .i64 (F : Int), .int .i64 (K : Int)] 76) = w0 := ⟨_, rfl⟩
    rw [hw0] at s3 b3 x3 y3 z3
    have X3 := Lib.hid x3
    have Y3 := Lib.hid y3
    have Z3 := Lib.hid z3
    have B3 := Lib.hid b3
    have W0 := Lib.hid hw0
    clear x3 y3 z3 b3 hw0
    go_enter Tryd.func16, Tryd.ntmps16
    go_wp2_with fail
    rw [W0.out]
    refine (Hck.out _ B3.out).mono ?_
    rintro e w1 ⟨rfl, hb1⟩
    rw [s3] at hb1
    have s1 := hb1.size
    rw [s3] at s1
    have HB1 := Lib.hid (B3.out.trans (hb1.mono (by omega)))
    have HX1 := Lib.hid ((hb1.block w.heap.size (by omega)).trans X3.out)
    have HY1 := Lib.hid ((hb1.block (w.heap.size + 1) (by omega)).trans Y3.out)
    have HZ1 := Lib.hid ((hb1.block (w.heap.size + 2) (by omega)).trans Z3.out)
    clear hb1
    obtain ⟨c0, c1, c2, c3, _, _, _, _⟩ := Wp.four_of HX1.out
    go_wp2_with fail
    refine (Has.out _ HB1.out).mono ?_
    rintro e w2 ⟨v2, rfl, hd2, hb2⟩
    obtain ⟨pb2, cb2, pw2, cw2, rfl, hd2⟩ := devAt_open hd2
    have s2 := hb2.size
    have HY2 := Lib.hid ((hb2.block (w.heap.size + 1) (by omega)).trans HY1.out)
    have HZ2 := Lib.hid ((hb2.block (w.heap.size + 2) (by omega)).trans HZ1.out)
    have HB2 := Lib.hid (HB1.out.trans (hb2.mono (by omega)))
    have Hd2 := Lib.hid hd2
    clear c0 c1 c2 c3 hd2 hb2
    obtain ⟨c0, c1, c2, c3, c4, c5, g0, g1, g2, g3⟩ := Wp.six_of HZ2.out
    obtain ⟨d0, d1, d2, d3, h0, h1, h2, h3⟩ := Wp.four_of HY2.out
    go_wp2_with fail
    have hbx0 : Tr.Box w2 (w.heap.size + 2) pb cb pw cw d F K := by
      obtain ⟨e1, e2, e3, e4⟩ := HE.out
      refine ⟨?_, ?_⟩
      · rw [e1, e2, e3, e4]; exact HZ2.out
      · rw [e1, e2, e3, e4]; exact Hv.out.below HB2.out
    have hbx1 := hbx0.store Hd2.out
    have HR1 := Lib.hid (Hrw.out _ (w.heap.size + 2) w.heap.size _ _ _ _ hbx1 (by omega))
    clear hbx0 hbx1 c0 c1 c2 c3 c4 c5 g0 g1 g2 g3 d0 d1 d2 d3 h0 h1 h2 h3
    refine HR1.out.mono ?_
    rintro e w3 ⟨rfl, ⟨pb3, cb3, pw3, cw3, hbx⟩, hr3, hb3, hs3⟩
    rw [set4_size] at hr3 hs3
    have HY3 := Lib.hid (((hr3 (w.heap.size + 1) (by omega) (by omega)).trans (four_rest _ _ _ _ _ _ _ (by omega))).trans HY2.out)
    have HB3 := Lib.hid ((four_below HB2.out (show w.heap.size ≤ w.heap.size + 2 by omega) _ _ _ _).trans hb3)
    have Hbx := Lib.hid hbx
    have hlt3 := hbx.lt
    obtain ⟨c0, c1, c2, c3, c4, c5, _, _, _, _⟩ := Wp.six_of Hbx.out.1
    obtain ⟨d0, d1, d2, d3, h0, h1, h2, h3⟩ := Wp.four_of HY3.out
    clear hr3 hb3 hbx
    go_wp2_with fail
    refine bodyPost_ret (ret_cell2 rfl _ _ (w.heap.size + 1) 38 _ _ rfl (four_set HY3.out _ _ _ _) Tryd.underlying38 rfl (by kernel_rfl)) rfl ?_
    refine ⟨_, rfl, ?_, four_below HB3.out (by omega) _ _ _ _⟩
    exact devAt_box Hbx.out.2 HY3.out (fun j hj => four_rest _ _ _ _ _ _ j hj)
  · rw [if_pos h0] at hap
    have hb : (Tr.rchk d f k == 0) = false := beq_eq_false_iff_ne.2 h0
    generalize Tr.rchk d f k = C at *
    have Hap := Lib.hid hap
    have Hck := Lib.hid hck
    have Has := Lib.hid has
    clear hap hck has hv hf h0
    generalize Tr.asIs d = A at *
    generalize d.bl.length = n at *
    generalize d.ws.length = m at *
    generalize d.fu = fu at *
    generalize d.dn = dn at *
    obtain ⟨s3, b3, x3, y3, z3⟩ := three_boxes w #[.slice pb n cb, .slice pw m cw, .int .i64 fu, .bool dn] #[.slice none 0 0, .slice none 0 0, .int .i64 0, .bool false] #[.slice pb n cb, .slice pw m cw, .int .i64 fu, .bool dn, .int .i64 f, .int .i64 k] 38 38 76
    obtain ⟨w0, hw0⟩ : ∃ w0, ((w.alloc (.cells #[.slice pb n cb, .slice pw m cw, .int .i64 fu, .bool dn] 38)).alloc (.cells #[.slice none 0 0, .slice none 0 0, .int .i64 0, .bool false] 38)).alloc (.cells #[.slice pb n cb, .slice pw m cw, .int .i64 fu, .bool dn, .int .i64 f, .int .i64 k] 76) = w0 := ⟨_, rfl⟩
    rw [hw0] at s3 b3 x3 y3 z3
    have X3 := Lib.hid x3
    have Y3 := Lib.hid y3
    have Z3 := Lib.hid z3
    have B3 := Lib.hid b3
    have W0 := Lib.hid hw0
    clear x3 y3 z3 b3 hw0
    go_enter Tryd.func16, Tryd.ntmps16
    go_wp2_with fail
    rw [W0.out]
    refine (Hck.out _ B3.out).mono ?_
    rintro e w1 ⟨rfl, hb1⟩
    rw [s3] at hb1
    have s1 := hb1.size
    rw [s3] at s1
    have HB1 := Lib.hid (B3.out.trans (hb1.mono (by omega)))
    have HX1 := Lib.hid ((hb1.block w.heap.size (by omega)).trans X3.out)
    have HY1 := Lib.hid ((hb1.block (w.heap.size + 1) (by omega)).trans Y3.out)
    have HZ1 := Lib.hid ((hb1.block (w.heap.size + 2) (by omega)).trans Z3.out)
    clear hb1
    obtain ⟨c0, c1, c2, c3, _, _, _, _⟩ := Wp.four_of HX1.out
    go_wp2_with fail
    refine (Has.out _ HB1.out).mono ?_
    rintro e w2 ⟨v2, rfl, hd2, hb2⟩
    obtain ⟨pb2, cb2, pw2, cw2, rfl, hd2⟩ := devAt_open hd2
    have s2 := hb2.size
    have HY2 := Lib.hid ((hb2.block (w.heap.size + 1) (by omega)).trans HY1.out)
    have HZ2 := Lib.hid ((hb2.block (w.heap.size + 2) (by omega)).trans HZ1.out)
    have HB2 := Lib.hid (HB1.out.trans (hb2.mono (by omega)))
    have Hd2 := Lib.hid hd2
    clear c0 c1 c2 c3 hd2 hb2
    obtain ⟨c0, c1, c2, c3, c4, c5, g0, g1, g2, g3⟩ := Wp.six_of HZ2.out
    obtain ⟨d0, d1, d2, d3, h0, h1, h2, h3⟩ := Wp.four_of HY2.out
    go_wp2_with fail
    have HYW := (four_rest w2 (w.heap.size + 2) (.slice pb2 A.bl.length cb2) (.slice pw2 A.ws.length cw2) (.int .i64 A.fu) (.bool A.dn) (w.heap.size + 1) (by omega)).trans HY2.out
    have HdW := devAt_rest Hd2.out (six_nostr HZ2.out) (fun j _ hj => four_rest w2 (w.heap.size + 2) (.slice pb2 A.bl.length cb2) (.slice pw2 A.ws.length cw2) (.int .i64 A.fu) (.bool A.dn) j hj)
    have HBW := four_below HB2.out (show w.heap.size ≤ w.heap.size + 2 by omega) (.slice pb2 A.bl.length cb2) (.slice pw2 A.ws.length cw2) (.int .i64 A.fu) (.bool A.dn)
    refine bodyPost_ret (ret_cell2 rfl _ _ (w.heap.size + 1) 38 _ _ rfl (four_set HYW _ _ _ _) Tryd.underlying38 rfl (by kernel_rfl)) rfl ?_
    refine ⟨_, by rw [Hap.out]; rfl, ?_, four_below HBW (by omega) _ _ _ _⟩
    rw [Hap.out]
    exact devAt_box HdW HYW (fun j hj => four_rest _ _ _ _ _ _ j hj)
end Go.Proofs.YtpmhgfjnabgilabDoor
