
/-
  The walks of a region's check, blocks, fit and of trail.asItWas. Conditions: a device's lists and numbers are of a size that a machine holds; sum's table reads as it is laid.
-/
import Derived.Test.YtpmhgfjnabgilabDoorTrFirst
import Derived.Test.YtpmhgfjnabgilabDoorDevBox
namespace Go.Proofs.YtpmhgfjnabgilabDoor
open Go.RowKit

theorem owns_base {w : World} {b b0 : Nat} {e : TypeId} {size : Nat} {v : Value} {n : Nat} {xs : List Value} (h : w.ownsRow b e size v n xs) (hb : b0 ≤ b) : w.ownsRow b0 e size v n xs := by
  refine ⟨h.1, ?_⟩
  rcases h.2 with h0 | ⟨g, cap, cur, hv, hg, rest⟩
  · exact Or.inl h0
  · exact Or.inr ⟨g, cap, cur, hv, Nat.le_trans hb hg, rest⟩
structure Wp.Six (w : World) (g : Nat) (a b c d e f : Value) : Prop where
  c0 : w.cell? ⟨g, 0, none⟩ = some a
  c1 : w.cell? ⟨g, 1, none⟩ = some b
  c2 : w.cell? ⟨g, 2, none⟩ = some c
  c3 : w.cell? ⟨g, 3, none⟩ = some d
  c4 : w.cell? ⟨g, 4, none⟩ = some e
  c5 : w.cell? ⟨g, 5, none⟩ = some f
  f0 : w.frozen? ⟨g, 0, none⟩ = false
  f1 : w.frozen? ⟨g, 1, none⟩ = false
  f2 : w.frozen? ⟨g, 2, none⟩ = false
  f3 : w.frozen? ⟨g, 3, none⟩ = false
theorem Wp.six_of {w : World} {g : Nat} {a b c d e f : Value} {t : TypeId} (h : w.heap[g]? = some (.cells #[a, b, c, d, e, f] t (0, 0))) : Wp.Six w g a b c d e f :=
  ⟨by rw [Lib.cell_of_heap h]; rfl, by rw [Lib.cell_of_heap h]; rfl, by rw [Lib.cell_of_heap h]; rfl, by rw [Lib.cell_of_heap h]; rfl, by rw [Lib.cell_of_heap h]; rfl, by rw [Lib.cell_of_heap h]; rfl, by simp [World.frozen?, h], by simp [World.frozen?, h], by simp [World.frozen?, h], by simp [World.frozen?, h]⟩
theorem six_set {w : World} {g : Nat} {a b c d e f : Value} {t : TypeId} (h : w.heap[g]? = some (.cells #[a, b, c, d, e, f] t (0, 0))) (x y z u : Value) :
    ((((w.setCell ⟨g, 0, none⟩ x).setCell ⟨g, 1, none⟩ y).setCell ⟨g, 2, none⟩ z).setCell ⟨g, 3, none⟩ u).heap[g]? = some (.cells #[x, y, z, u, e, f] t (0, 0)) :=
  (Lib.heap_setCell_same (i := 3) (Lib.heap_setCell_same (i := 2) (Lib.heap_setCell_same (i := 1) (Lib.heap_setCell_same (i := 0) h x) y) z) u).trans rfl

/-- The cells of a region's value. -/
abbrev Tr.rV (pb : Option Addr) (n cb : Nat) (pw : Option Addr) (m cw : Nat) (fu : Int) (dn : Bool) (f k : Int) : Array Value := #[.slice pb n cb, .slice pw m cw, .int .i64 fu, .bool dn, .int .i64 f, .int .i64 k]
set_option maxRecDepth 100000 in
set_option maxHeartbeats 800000 in
theorem regCheck_any (pb : Option Addr) (cb : Nat) (pw : Option Addr) (cw : Nat) (d : Wp.Dev) (f k : Int) (w : World) (hv : Wp.DevAt w (.agg #[.slice pb d.bl.length cb, .slice pw d.ws.length cw, .int .i64 d.fu, .bool d.dn]) d) (hf : d.Fits) (hf1 : Wp.I64 f) (hk1 : Wp.I64 k) :
    Calls Tryd.prog 39 #[.agg #[.slice pb d.bl.length cb, .slice pw d.ws.length cw, .int .i64 d.fu, .bool d.dn, .int .i64 f, .int .i64 k]] w fun e w' => e = .returned (.int .i64 (Tr.rchk d f k)) ∧ Below w.heap.size w w' := by
  have hbl := hf.bl
  have hc := fun (w' : World) (hb : Below w.heap.size w w') => check_any _ d w' (hv.below hb) hf
  have hR : Tr.rchk d f k = if d.ok = false then 2 else if d.dn then 9 else if f < 0 ∨ (d.bl.length : Int) < f ∨ k < 0 ∨ (d.bl.length : Int) - f < k then 1 else 0 := rfl
  generalize Tr.rchk d f k = R at *
  obtain ⟨F1, F2⟩ := hf1
  obtain ⟨K1, K2⟩ := hk1
  cases hok : d.ok with
  | false =>
    rw [if_pos hok] at hR
    rw [Wp.Dev.chk_bad hok] at hc
    have HR := Lib.hid hR
    have Hc := Lib.hid hc
    clear hR hc hok hv hf
    obtain ⟨bl, ws, fu, dn⟩ := d
    simp only [] at Hc hbl ⊢
    go_enter Tryd.func39, Tryd.ntmps39
    go_wp2_with fail
    refine (Hc.out _ ((Below.refl _ _).alloc (Nat.le_refl _) _)).mono ?_
    rintro e w1 ⟨rfl, hb1⟩
    go_wp2_with fail
    go_ret
    exact ⟨by rw [HR.out]; rfl, ((Below.refl _ _).alloc (Nat.le_refl _) _).trans (hb1.mono (by simp))⟩
  | true =>
    rw [if_neg (by rw [hok]; simp)] at hR
    rw [Wp.Dev.chk_ok hok] at hc
    have Hc := Lib.hid hc
    clear hc hok hv hf
    obtain ⟨bl, ws, fu, dn⟩ := d
    simp only [] at Hc hbl hR ⊢
    generalize bl.length = n at *
    generalize ws.length = m at *
    have HR := Lib.hid hR
    clear hR
    have hx := Lib.hid (alloc_new w (.cells #[.slice pb n cb, .slice pw m cw, .int .i64 fu, .bool dn, .int .i64 f, .int .i64 k] 76))
    have tail : ∀ w1 : World, Below (w.heap.size + 1) (w.alloc (.cells #[.slice pb n cb, .slice pw m cw, .int .i64 fu, .bool dn, .int .i64 f, .int .i64 k] 76)) w1 → Below w.heap.size w w1 ∧ w1.heap[w.heap.size]? = some (.cells #[.slice pb n cb, .slice pw m cw, .int .i64 fu, .bool dn, .int .i64 f, .int .i64 k] 76 (0, 0)) :=
      fun w1 hb => ⟨((Below.refl _ _).alloc (Nat.le_refl _) _).trans (hb.mono (by omega)), (hb.block w.heap.size (by omega)).trans hx.out⟩
    have Tail := Lib.hid tail
    clear tail hx
    cases dn with
    | true =>
      go_enter Tryd.func39, Tryd.ntmps39
      go_wp2_with fail
      refine (Hc.out _ ((Below.refl _ _).alloc (Nat.le_refl _) _)).mono ?_
      rintro e w1 ⟨rfl, hb1⟩
      rw [World.size_alloc] at hb1
      obtain ⟨hB, hx⟩ := Tail.out w1 hb1
      obtain ⟨c0, c1, c2, c3, c4, c5, _, _, _, _⟩ := Wp.six_of hx
      clear hx
      go_wp2_with fail
      go_ret
      exact ⟨by rw [HR.out]; rfl, hB⟩
    | false =>
      have HR2 := Lib.hid (HR.out.trans (if_neg (by simp)))
      clear HR
      by_cases h0 : f < 0
      · have HR := Lib.hid (HR2.out.trans (if_pos (Or.inl h0)))
        go_enter Tryd.func39, Tryd.ntmps39
        go_wp2_with fail
        refine (Hc.out _ ((Below.refl _ _).alloc (Nat.le_refl _) _)).mono ?_
        rintro e w1 ⟨rfl, hb1⟩
        rw [World.size_alloc] at hb1
        obtain ⟨hB, hx⟩ := Tail.out w1 hb1
        obtain ⟨c0, c1, c2, c3, c4, c5, _, _, _, _⟩ := Wp.six_of hx
        clear hx
        go_wp2_with fail
        go_ret
        exact ⟨by rw [HR.out]; rfl, hB⟩
      by_cases h1 : (n : Int) < f
      · have HR := Lib.hid (HR2.out.trans (if_pos (Or.inr (Or.inl h1))))
        go_enter Tryd.func39, Tryd.ntmps39
        go_wp2_with fail
        refine (Hc.out _ ((Below.refl _ _).alloc (Nat.le_refl _) _)).mono ?_
        rintro e w1 ⟨rfl, hb1⟩
        rw [World.size_alloc] at hb1
        obtain ⟨hB, hx⟩ := Tail.out w1 hb1
        obtain ⟨c0, c1, c2, c3, c4, c5, _, _, _, _⟩ := Wp.six_of hx
        clear hx
        go_wp2_with fail
        go_ret
        exact ⟨by rw [HR.out]; rfl, hB⟩
      by_cases h2 : k < 0
      · have HR := Lib.hid (HR2.out.trans (if_pos (Or.inr (Or.inr (Or.inl h2)))))
        go_enter Tryd.func39, Tryd.ntmps39
        go_wp2_with fail
        refine (Hc.out _ ((Below.refl _ _).alloc (Nat.le_refl _) _)).mono ?_
        rintro e w1 ⟨rfl, hb1⟩
        rw [World.size_alloc] at hb1
        obtain ⟨hB, hx⟩ := Tail.out w1 hb1
        obtain ⟨c0, c1, c2, c3, c4, c5, _, _, _, _⟩ := Wp.six_of hx
        clear hx
        go_wp2_with fail
        go_ret
        exact ⟨by rw [HR.out]; rfl, hB⟩
      by_cases h3 : (n : Int) - f < k
      · have HR := Lib.hid (HR2.out.trans (if_pos (Or.inr (Or.inr (Or.inr h3)))))
        go_enter Tryd.func39, Tryd.ntmps39
        go_wp2_with fail
        refine (Hc.out _ ((Below.refl _ _).alloc (Nat.le_refl _) _)).mono ?_
        rintro e w1 ⟨rfl, hb1⟩
        rw [World.size_alloc] at hb1
        obtain ⟨hB, hx⟩ := Tail.out w1 hb1
        obtain ⟨c0, c1, c2, c3, c4, c5, _, _, _, _⟩ := Wp.six_of hx
        clear hx
        go_wp2_with fail
        go_ret
        exact ⟨by rw [HR.out]; rfl, hB⟩
      · have HR := Lib.hid (HR2.out.trans (if_neg (by omega)))
        go_enter Tryd.func39, Tryd.ntmps39
        go_wp2_with fail
        refine (Hc.out _ ((Below.refl _ _).alloc (Nat.le_refl _) _)).mono ?_
        rintro e w1 ⟨rfl, hb1⟩
        rw [World.size_alloc] at hb1
        obtain ⟨hB, hx⟩ := Tail.out w1 hb1
        obtain ⟨c0, c1, c2, c3, c4, c5, _, _, _, _⟩ := Wp.six_of hx
        clear hx
        go_wp2_with fail
        go_ret
        exact ⟨by rw [HR.out]; rfl, hB⟩

theorem Tr.asIs_write {d : Wp.Dev} (hok : d.ok = true) : (d.write1 (-1) ⟨#[]⟩).1 = Tr.asIs d := by
  have hno : d.writeNo (-1) (⟨#[]⟩ : ByteArray).size ≠ 0 := by
    unfold Wp.Dev.writeNo
    split
    · simp
    · rw [if_pos (by unfold Wp.inside; rfl)]; simp
  rw [Wp.write1_no d _ _ hno]
  unfold Tr.asIs
  rw [if_pos hok]
set_option maxRecDepth 100000 in
set_option maxHeartbeats 800000 in
theorem asIs_any (v : Value) (d : Wp.Dev) (w : World) (hv : Wp.DevAt w v d) (hf : d.Fits) :
    Calls Tryd.prog 34 #[v] w fun e w' => ∃ v', e = .returned v' ∧ Wp.DevAt w' v' (Tr.asIs d) ∧ Below w.heap.size w w' := by
  have hW : ∀ w', Below w.heap.size w w' → Calls Tryd.prog 66 #[v, .int .i64 (-1), .string ⟨#[]⟩] w' fun e w'' => ∃ v' c, e = .returned (.tuple #[v', .int .i64 c]) ∧ Wp.DevAt w'' v' (Tr.asIs d) ∧ Below w'.heap.size w' w'' := by
    intro w' hb
    cases hok : d.ok with
    | true =>
      refine (Write_ok v d (-1) ⟨#[]⟩ w' (hv.below hb) hf hok (by decide)).mono ?_
      rintro e w2 ⟨v', rfl, h2, h3⟩
      rw [Tr.asIs_write hok] at h2
      exact ⟨v', _, rfl, h2, h3⟩
    | false =>
      refine (Write_bad v d (-1) ⟨#[]⟩ w' (hv.below hb) hf hok).mono ?_
      rintro e w2 ⟨v', rfl, h2, h3⟩
      rw [show Tr.asIs d = Wp.Dev.zero by unfold Tr.asIs; rw [hok]; rfl]
      exact ⟨v', _, rfl, h2, h3⟩
  have HW := Lib.hid hW
  obtain ⟨pb, cb, pw, cw, rfl, hv2⟩ := devAt_open hv
  clear hW hv hf hv2
  obtain ⟨d2, hd2⟩ : ∃ d2, d2 = Tr.asIs d := ⟨_, rfl⟩
  rw [← hd2] at HW ⊢
  clear hd2
  obtain ⟨bl, ws, fu, dn⟩ := d
  simp only [] at HW ⊢
  obtain ⟨s2, b2, x2, y2⟩ := two_boxes w #[.slice pb bl.length cb, .slice pw ws.length cw, .int .i64 fu, .bool dn] #[.slice none 0 0, .slice none 0 0, .int .i64 0, .bool false] 38 38
  have Y2 := Lib.hid y2
  have B2 := Lib.hid b2
  clear x2 y2 b2
  go_enter Tryd.func34, Tryd.ntmps34
  go_wp2_with fail
  refine (HW.out _ B2.out).mono ?_
  rintro e w1 ⟨v1, c1, rfl, hd1, hb1⟩
  rw [s2] at hb1
  obtain ⟨pb1, cb1, pw1, cw1, rfl, hd1⟩ := devAt_open hd1
  have s1 := hb1.size
  rw [s2] at s1
  have HB1 := Lib.hid (B2.out.trans (hb1.mono (by omega)))
  have Hd1 := Lib.hid hd1
  have q0 : w1.heap[w.heap.size + 1]? = some (.cells #[.slice none 0 0, .slice none 0 0, .int .i64 0, .bool false] 38 (0, 0)) := (hb1.block (w.heap.size + 1) (by omega)).trans Y2.out
  obtain ⟨c0, c1, c2, c3, g0, g1, g2, g3⟩ := Wp.four_of q0
  have s1' : w.heap.size + 1 < w1.heap.size := by omega
  have Q0 := Lib.hid q0
  clear hd1 hb1 q0
  go_wp2_with fail
  have sz : w.heap.size + 1 < ((((w1.setCell ⟨w.heap.size + 1, 0, none⟩ (.slice pb1 d2.bl.length cb1)).setCell ⟨w.heap.size + 1, 1, none⟩ (.slice pw1 d2.ws.length cw1)).setCell ⟨w.heap.size + 1, 2, none⟩ (.int .i64 d2.fu)).setCell ⟨w.heap.size + 1, 3, none⟩ (.bool d2.dn)).heap.size := by simp [World.setCell]; omega
  refine bodyPost_ret (ret_cell1 rfl _ _ (w.heap.size + 1) 38 _ _ rfl ((alloc_past _ _ _ sz).trans (four_set Q0.out _ _ _ _)) Tryd.underlying38 rfl (by kernel_rfl)) rfl ?_
  refine ⟨_, rfl, ?_, (four_below HB1.out (by omega) _ _ _ _).alloc (by omega) _⟩
  exact (devAt_box Hd1.out Q0.out (fun j hj => four_rest _ _ _ _ _ _ j hj)).below ((Below.refl _ _).alloc (Nat.le_refl _) _)

theorem Tr.sync_all {d : Wp.Dev} (hd : d.dn = false) : ({ d with fu := -1 } : Wp.Dev).sync1.1 = { bl := d.hasAll, ws := [], fu := -1, dn := false } := by
  unfold Wp.Dev.sync1
  rw [if_neg (by simp [hd])]
  unfold Wp.Dev.spend
  simp [hd, Wp.Dev.hasAll]
theorem Tr.rgn_at {w : World} {p : Option Addr} {d : Wp.Dev} (h : Wp.At Wp.mkT w p d.hasAll) (f k : Nat) (hfk : f + k ≤ d.hasAll.length) : ∀ q : Option Addr, (∀ b off, p = some ⟨b, off, none⟩ → q = some ⟨b, off + f, none⟩) → Wp.At Wp.mkT w q (Tr.rgn d f k) := by
  intro q hq
  unfold Tr.rgn
  rw [Int.toNat_natCast, Int.toNat_natCast]
  rcases h with h | ⟨b, off, hp, hc⟩
  · exact Or.inl (by simp [h])
  · refine Or.inr ⟨b, off + f, hq _ _ hp, fun i hi => ?_⟩
    rw [List.length_take, List.length_drop] at hi
    rw [List.getElem_take, List.getElem_drop, Nat.add_assoc]
    exact hc (f + i) (by omega)
set_option maxRecDepth 100000 in
set_option maxHeartbeats 800000 in
theorem regBlocks_any (pb : Option Addr) (cb : Nat) (pw : Option Addr) (cw : Nat) (d : Wp.Dev) (f k : Nat) (w : World) (hv : Wp.DevAt w (.agg #[.slice pb d.bl.length cb, .slice pw d.ws.length cw, .int .i64 d.fu, .bool d.dn]) d) (hf : d.Fits) (hok : d.ok = true) (hd : d.dn = false) (hfk : f + k ≤ d.bl.length) :
    Calls Tryd.prog 71 #[.agg #[.slice pb d.bl.length cb, .slice pw d.ws.length cw, .int .i64 d.fu, .bool d.dn, .int .i64 f, .int .i64 k]] w fun e w' => ∃ p c, e = .returned (.slice p (Tr.rgn d f k).length c) ∧ (Tr.rgn d f k).length ≤ c ∧ Wp.At Wp.mkT w' p (Tr.rgn d f k) ∧ Below w.heap.size w w' := by
  obtain ⟨⟨n1, n2, n3⟩, n4, n5⟩ := (Wp.Dev.ok_iff d).1 hok
  have hok2 : ({ d with fu := -1 } : Wp.Dev).ok = true := (Wp.Dev.ok_iff _).2 ⟨⟨n1, n2, by simp⟩, n4, n5⟩
  have hf2 : ({ d with fu := -1 } : Wp.Dev).Fits := ⟨hf.bl, hf.ws, ⟨by show (-9223372036854775808 : Int) ≤ -1; decide, by show (-1 : Int) ≤ 9223372036854775807; decide⟩, hf.bs, hf.wa, hf.wb⟩
  have hS := fun (w' : World) (hb : Below w.heap.size w w') => Sync_okc _ { d with fu := -1 } w' (devAt_fuse (hv.below hb) (-1)) hf2 hok2
  have hl : d.hasAll.length = d.bl.length := Wp.setAll_length _ _
  have hrl : (Tr.rgn d f k).length = k := by unfold Tr.rgn; rw [List.length_take, List.length_drop, hl, Int.toNat_natCast, Int.toNat_natCast]; omega
  have hra := fun w' p (h : Wp.At Wp.mkT w' p d.hasAll) => Tr.rgn_at h f k (by omega)
  have hs1 : ({ d with fu := -1 } : Wp.Dev).sync1 = ({ bl := d.hasAll, ws := [], fu := -1, dn := false }, 0) := by
    have h2 : ({ d with fu := -1 } : Wp.Dev).sync1.2 = 0 := by
      unfold Wp.Dev.sync1
      rw [if_neg (by simp [hd])]
      simp [Wp.Dev.spend]
    rw [← Tr.sync_all hd, ← h2]
  rw [hs1] at hS
  rw [hrl]
  simp only [hl] at hS
  have HS := Lib.hid hS
  have Hra := Lib.hid hra
  obtain ⟨A, hA⟩ : ∃ A, A = d.hasAll := ⟨_, rfl⟩
  obtain ⟨R, hR⟩ : ∃ R, R = Tr.rgn d f k := ⟨_, rfl⟩
  rw [← hA] at HS Hra hl
  rw [← hR] at Hra hrl ⊢
  clear hS hra hv hf hok hok2 hf2 hs1 hA hR n3 n4 n5
  obtain ⟨bl, ws, fu, dn⟩ := d
  simp only [] at hd HS hl hfk n1 ⊢
  subst hd
  generalize bl.length = n at *
  generalize ws.length = m at *
  have Hl := Lib.hid hl
  have X0 := Lib.hid (alloc_new w (.cells #[.slice pb n cb, .slice pw m cw, .int .i64 (-1), .bool false, .int .i64 f, .int .i64 k] 76))
  have B0 := Lib.hid ((Below.refl w.heap.size w).alloc (Nat.le_refl _) (.cells #[.slice pb n cb, .slice pw m cw, .int .i64 (-1), .bool false, .int .i64 f, .int .i64 k] 76))
  clear hl
  go_enter Tryd.func71, Tryd.ntmps71
  go_wp2_with fail
  refine (HS.out _ B0.out).mono ?_
  rintro e w1 ⟨v1, rfl, hd1, hb1, hcap⟩
  rw [World.size_alloc] at hb1
  obtain ⟨p1, c1, p2, c2, rfl, ha, _⟩ := hd1
  unfold Wp.devV at hcap ⊢
  simp only [] at ha
  have hc1 : n ≤ c1 := by
    obtain ⟨p, c, x, y, z, he, h⟩ := hcap
    simp only [Value.agg.injEq, Array.mk.injEq, List.cons.injEq, Value.slice.injEq] at he
    omega
  have hx := (hb1.block w.heap.size (by omega)).trans X0.out
  have s1 := hb1.size
  rw [World.size_alloc] at s1
  obtain ⟨c0, c1', c2', c3, c4, c5, _, _, _, _⟩ := Wp.six_of hx
  have Ha := Lib.hid (Hra.out w1 p1 ha)
  have hB1 := B0.out.trans (hb1.mono (by omega))
  have HB1 := Lib.hid hB1
  clear hcap hx ha hb1 hB1 Hra
  simp only [Hl.out]
  have s2 : w.heap.size < w1.heap.size := by omega
  go_wp2_with fail
  case inr =>
    go_ret
    exact ⟨_, _, rfl, by omega, (Ha.out _ (fun b off h => by subst h; simp [Addr.add])).below ((Below.refl _ _).alloc (Nat.le_refl _) _), HB1.out.alloc HB1.out.size _⟩
  case inl =>
    go_ret
    exact ⟨_, _, rfl, by omega, Or.inl (List.length_eq_zero_iff.1 (by omega)), HB1.out.alloc HB1.out.size _⟩

set_option maxRecDepth 100000 in
set_option maxHeartbeats 800000 in
theorem regFit_any (pb : Option Addr) (cb : Nat) (pw : Option Addr) (cw : Nat) (d : Wp.Dev) (f k u : Int) (r : ByteArray) (w : World) (hL : Sp.Laid w) (hv : Wp.DevAt w (.agg #[.slice pb d.bl.length cb, .slice pw d.ws.length cw, .int .i64 d.fu, .bool d.dn]) d) (hf : d.Fits) (hf1 : Wp.I64 f) (hk1 : Wp.I64 k) (hu1 : Wp.I64 u) (hr : r.size ≤ 281474976710656) :
    Calls Tryd.prog 33 #[.agg #[.slice pb d.bl.length cb, .slice pw d.ws.length cw, .int .i64 d.fu, .bool d.dn, .int .i64 f, .int .i64 k], .int .i64 u, .string r] w
      fun e w' => ∃ v, e = .returned (.tuple #[v, .int .i64 (Tr.fitC d f k u r)]) ∧ (Tr.fitC d f k u r = 0 → w'.ownsRow w.heap.size 9 1 v (Tr.cutB r.data.toList).length ((Tr.cutB r.data.toList).map Wp.mkT)) ∧ Below w.heap.size w w' := by
  have hC := fun (w' : World) (hb : Below w.heap.size w w') => regCheck_any pb cb pw cw d f k w' (hv.below hb) hf hf1 hk1
  have hcu := fun (w' : World) (hb : Below w.heap.size w w') => cut_any r w' (hL.below hb) hr
  have hR : Tr.fitC d f k u r = if Tr.rchk d f k ≠ 0 then Tr.rchk d f k else if u < 0 ∨ k < u then 1 else if 32768 < r.size then 12 else if k - u < ((Tr.cutB r.data.toList).length : Int) then 8 else 0 := rfl
  have hbnd := fun h => (Tr.rchk_ok (d := d) (f := f) (m := k) h).2.2
  have hbl := hf.bl
  have hU := hu1
  generalize Tr.fitC d f k u r = C at *
  generalize Tr.rchk d f k = Q at *
  have HC := Lib.hid hC
  have Hcu := Lib.hid hcu
  have Hbnd := Lib.hid hbnd
  clear hC hcu hv hf hL hbnd hu1
  obtain ⟨F1, F2⟩ := hf1
  obtain ⟨K1, K2⟩ := hk1
  obtain ⟨U1, U2⟩ := hU
  obtain ⟨bl, ws, fu, dn⟩ := d
  simp only [] at HC hbl Hbnd ⊢
  generalize bl.length = n at *
  generalize ws.length = m at *
  have X0 := Lib.hid (alloc_new w (.cells #[.slice pb n cb, .slice pw m cw, .int .i64 fu, .bool dn, .int .i64 f, .int .i64 k] 76))
  have B0 := Lib.hid ((Below.refl w.heap.size w).alloc (Nat.le_refl _) (.cells #[.slice pb n cb, .slice pw m cw, .int .i64 fu, .bool dn, .int .i64 f, .int .i64 k] 76))
  by_cases hq : Q = 0
  · subst hq
    rw [if_neg (by simp)] at hR
    obtain ⟨_, b1, b2⟩ := Hbnd.out rfl
    by_cases hu : u < 0 ∨ k < u
    · rw [if_pos hu] at hR
      have HR := Lib.hid hR
      clear hR
      have hb : (decide (u < 0) || decide (k < u)) = true := by
        rcases hu with h | h
        · rw [decide_eq_true h]; rfl
        · rw [decide_eq_true h]; simp
      by_cases hu0 : u < 0
      · go_enter Tryd.func33, Tryd.ntmps33
        go_wp2_with fail
        refine (HC.out _ B0.out).mono ?_
        rintro e w1 ⟨rfl, hb1⟩
        rw [World.size_alloc] at hb1
        obtain ⟨c0, c1, c2, c3, c4, c5, _, _, _, _⟩ := Wp.six_of ((hb1.block w.heap.size (by omega)).trans X0.out)
        have hB1 := B0.out.trans (hb1.mono (by omega))
        go_wp2_with fail
        go_ret2
        exact ⟨_, by rw [HR.out]; rfl, (fun h => by rw [HR.out] at h; cases h), hB1⟩
      · have hku : k < u := by omega
        go_enter Tryd.func33, Tryd.ntmps33
        go_wp2_with fail
        refine (HC.out _ B0.out).mono ?_
        rintro e w1 ⟨rfl, hb1⟩
        rw [World.size_alloc] at hb1
        obtain ⟨c0, c1, c2, c3, c4, c5, _, _, _, _⟩ := Wp.six_of ((hb1.block w.heap.size (by omega)).trans X0.out)
        have hB1 := B0.out.trans (hb1.mono (by omega))
        go_wp2_with fail
        go_ret2
        exact ⟨_, by rw [HR.out]; rfl, (fun h => by rw [HR.out] at h; cases h), hB1⟩
    · rw [if_neg hu] at hR
      have u1 : 0 ≤ u := by omega
      have u2 : u ≤ k := by omega
      by_cases hr2 : 32768 < r.size
      · rw [if_pos hr2] at hR
        have hcu := Hcu.out
        rw [show Tr.cutR r = [] from if_pos hr2, show Tr.cutC r = 12 from if_pos hr2] at hcu
        have Hcu2 := Lib.hid hcu
        have HR := Lib.hid hR
        clear hR hcu Hcu
        go_enter Tryd.func33, Tryd.ntmps33
        go_wp2_with fail
        refine (HC.out _ B0.out).mono ?_
        rintro e w1 ⟨rfl, hb1⟩
        rw [World.size_alloc] at hb1
        obtain ⟨c0, c1, c2, c3, c4, c5, _, _, _, _⟩ := Wp.six_of ((hb1.block w.heap.size (by omega)).trans X0.out)
        have hB1 := B0.out.trans (hb1.mono (by omega))
        go_wp2_with fail
        refine (Hcu2.out _ hB1).mono ?_
        rintro e w2 ⟨v2, rfl, _, hb2⟩
        go_wp2_with fail
        go_ret2
        exact ⟨_, by rw [HR.out]; rfl, (fun h => by rw [HR.out] at h; cases h), hB1.trans (hb2.mono hB1.size)⟩
      · rw [if_neg hr2] at hR
        have hcu := Hcu.out
        rw [show Tr.cutR r = Tr.cutB r.data.toList from if_neg hr2, show Tr.cutC r = 0 from if_neg hr2] at hcu
        have hcl : (Tr.cutB r.data.toList).length ≤ 4096 := by
          have := Wp.numB_len r.data.toList.length
          rw [Tr.cutB_len, Sp.frameB, List.length_append, List.length_append, Sp.four_len]
          rw [Wp.size_len] at hr2
          omega
        generalize Tr.cutB r.data.toList = G at *
        have Hcu2 := Lib.hid hcu
        clear hcu Hcu
        by_cases hg : k - u < (G.length : Int)
        · rw [if_pos hg] at hR
          have HR := Lib.hid hR
          clear hR
          go_enter Tryd.func33, Tryd.ntmps33
          go_wp2_with fail
          refine (HC.out _ B0.out).mono ?_
          rintro e w1 ⟨rfl, hb1⟩
          rw [World.size_alloc] at hb1
          have hB1 := B0.out.trans (hb1.mono (by omega))
          have HX := Lib.hid ((hb1.block w.heap.size (by omega)).trans X0.out)
          have s1 : w.heap.size < w1.heap.size := by have := hb1.size; rw [World.size_alloc] at this; omega
          obtain ⟨c0, c1, c2, c3, c4, c5, _, _, _, _⟩ := Wp.six_of HX.out
          go_wp2_with fail
          refine (Hcu2.out _ hB1).mono ?_
          rintro e w2 ⟨v2, rfl, ho, hb2⟩
          obtain ⟨p2, q2, rfl, _⟩ := owns_at ho
          clear c0 c1 c2 c3 c4 c5
          obtain ⟨c0, c1, c2, c3, c4, c5, _, _, _, _⟩ := Wp.six_of ((hb2.block w.heap.size s1).trans HX.out)
          have hB2 := hB1.trans (hb2.mono hB1.size)
          clear ho
          go_wp2_with fail
          go_ret2
          exact ⟨_, by rw [HR.out]; rfl, (fun h => by rw [HR.out] at h; cases h), hB2⟩
        · rw [if_neg hg] at hR
          have HR := Lib.hid hR
          clear hR
          go_enter Tryd.func33, Tryd.ntmps33
          go_wp2_with fail
          refine (HC.out _ B0.out).mono ?_
          rintro e w1 ⟨rfl, hb1⟩
          rw [World.size_alloc] at hb1
          have hB1 := B0.out.trans (hb1.mono (by omega))
          have HX := Lib.hid ((hb1.block w.heap.size (by omega)).trans X0.out)
          have s1 : w.heap.size < w1.heap.size := by have := hb1.size; rw [World.size_alloc] at this; omega
          obtain ⟨c0, c1, c2, c3, c4, c5, _, _, _, _⟩ := Wp.six_of HX.out
          go_wp2_with fail
          refine (Hcu2.out _ hB1).mono ?_
          rintro e w2 ⟨v2, rfl, ho, hb2⟩
          have Ho := Lib.hid ho
          obtain ⟨p2, q2, rfl, _⟩ := owns_at ho
          clear c0 c1 c2 c3 c4 c5
          obtain ⟨c0, c1, c2, c3, c4, c5, _, _, _, _⟩ := Wp.six_of ((hb2.block w.heap.size s1).trans HX.out)
          have hB2 := hB1.trans (hb2.mono hB1.size)
          have hB1s := hB1.size
          clear ho
          go_wp2_with fail
          go_ret2
          exact ⟨_, by rw [HR.out]; rfl, fun _ => owns_base Ho.out hB1s, hB2⟩
  · rw [if_pos hq] at hR
    have hb : (Q != 0) = true := by rw [bne_iff_ne]; exact hq
    have HR := Lib.hid hR
    have HQ := Lib.hid hq
    clear hR hq Hbnd
    go_enter Tryd.func33, Tryd.ntmps33
    go_wp2_with fail
    refine (HC.out _ B0.out).mono ?_
    rintro e w1 ⟨rfl, hb1⟩
    rw [World.size_alloc] at hb1
    have hB1 := B0.out.trans (hb1.mono (by omega))
    go_wp2_with fail
    go_ret2
    exact ⟨_, by rw [HR.out]; rfl, (fun h => by rw [HR.out] at h; exact absurd h HQ.out), hB1⟩
end Go.Proofs.YtpmhgfjnabgilabDoor
