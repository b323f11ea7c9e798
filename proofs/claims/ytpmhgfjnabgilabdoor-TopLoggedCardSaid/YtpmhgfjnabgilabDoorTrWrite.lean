
/-
  The walk of a region's own writing: blocks written one behind the other, until one fails. Conditions: the region lies in a box of its own; its device is right.
-/
import Derived.Test.YtpmhgfjnabgilabDoorTrRec
import Derived.Deep.RegionHeld3
namespace Go.Proofs.YtpmhgfjnabgilabDoor
open Go.RowKit

/-- A region in a box. -/
def Tr.Box (w : World) (g : Nat) (pb : Option Addr) (cb : Nat) (pw : Option Addr) (cw : Nat) (d : Wp.Dev) (f k : Int) : Prop :=
  w.heap[g]? = some (.cells #[.slice pb d.bl.length cb, .slice pw d.ws.length cw, .int .i64 d.fu, .bool d.dn, .int .i64 f, .int .i64 k] 76 (0, 0)) ∧
  Wp.DevAt w (.agg #[.slice pb d.bl.length cb, .slice pw d.ws.length cw, .int .i64 d.fu, .bool d.dn]) d
theorem Tr.Box.lt {w : World} {g : Nat} {pb : Option Addr} {cb : Nat} {pw : Option Addr} {cw : Nat} {d : Wp.Dev} {f k : Int} (h : Tr.Box w g pb cb pw cw d f k) : g < w.heap.size := (Array.getElem?_eq_some_iff.1 h.1).1
theorem Tr.Box.nostr {w : World} {g : Nat} {pb : Option Addr} {cb : Nat} {pw : Option Addr} {cw : Nat} {d : Wp.Dev} {f k : Int} (h : Tr.Box w g pb cb pw cw d f k) (x : Nat) (s : ByteArray) : w.cell? ⟨g, x, none⟩ ≠ some (.string s) := by
  rw [Lib.cell_of_heap h.1]
  match x with
  | 0 => simp
  | 1 => simp
  | 2 => simp
  | 3 => simp
  | 4 => simp
  | 5 => simp
  | x + 6 => simp
theorem at_rest {w w' : World} {g : Nat} {p : Option Addr} {l : List ByteArray} (h : Wp.At Wp.mkT w p l) (hn : ∀ x s, w.cell? ⟨g, x, none⟩ ≠ some (.string s)) (hk : ∀ j, j < w.heap.size → j ≠ g → w'.heap[j]? = w.heap[j]?) : Wp.At Wp.mkT w' p l := by
  rcases h with h1 | ⟨b, off, hp, hc⟩
  · exact Or.inl h1
  · by_cases h0 : l = []
    · exact Or.inl h0
    · have hg : b ≠ g := by
        intro e
        subst e
        exact hn _ _ (hc 0 (List.length_pos_iff.2 h0))
      refine Or.inr ⟨b, off, hp, fun i hi => ?_⟩
      have hlt := World.block_lt_of_cell? w _ (hc i hi)
      exact (World.cell?_of_block (hk b hlt hg)).trans (hc i hi)
theorem devAt_rest {w w' : World} {g : Nat} {v : Value} {d : Wp.Dev} (h : Wp.DevAt w v d) (hn : ∀ x s, w.cell? ⟨g, x, none⟩ ≠ some (.string s)) (hk : ∀ j, j < w.heap.size → j ≠ g → w'.heap[j]? = w.heap[j]?) : Wp.DevAt w' v d := by
  obtain ⟨pb, cb, pw, cw, rfl, h1, h2⟩ := h
  refine ⟨pb, cb, pw, cw, rfl, at_rest h1 hn hk, ?_⟩
  rcases h2 with h2 | ⟨b, off, hp, hc⟩
  · exact Or.inl h2
  · by_cases h0 : d.ws = []
    · exact Or.inl h0
    · have hg : b ≠ g := by
        intro e
        subst e
        exact hn _ _ (hc 0 (List.length_pos_iff.2 h0)).2
      refine Or.inr ⟨b, off, hp, fun i hi => ?_⟩
      have hlt := World.block_lt_of_cell? w _ (hc i hi).1
      exact ⟨(World.cell?_of_block (hk b hlt hg)).trans (hc i hi).1, (World.cell?_of_block (hk b hlt hg)).trans (hc i hi).2⟩
theorem Tr.Box.below {w w' : World} {g : Nat} {pb : Option Addr} {cb : Nat} {pw : Option Addr} {cw : Nat} {d : Wp.Dev} {f k : Int} (h : Tr.Box w g pb cb pw cw d f k) (hb : Below w.heap.size w w') : Tr.Box w' g pb cb pw cw d f k := ⟨(hb.block g h.lt).trans h.1, h.2.below hb⟩
/-- A device stored into the box. -/
theorem Tr.Box.store {w : World} {g : Nat} {pb : Option Addr} {cb : Nat} {pw : Option Addr} {cw : Nat} {d : Wp.Dev} {f k : Int} (h : Tr.Box w g pb cb pw cw d f k) {pb2 : Option Addr} {cb2 : Nat} {pw2 : Option Addr} {cw2 : Nat} {d2 : Wp.Dev}
    (h2 : Wp.DevAt w (.agg #[.slice pb2 d2.bl.length cb2, .slice pw2 d2.ws.length cw2, .int .i64 d2.fu, .bool d2.dn]) d2) :
    Tr.Box ((((w.setCell ⟨g, 0, none⟩ (.slice pb2 d2.bl.length cb2)).setCell ⟨g, 1, none⟩ (.slice pw2 d2.ws.length cw2)).setCell ⟨g, 2, none⟩ (.int .i64 d2.fu)).setCell ⟨g, 3, none⟩ (.bool d2.dn)) g pb2 cb2 pw2 cw2 d2 f k :=
  ⟨six_set h.1 _ _ _ _, devAt_rest h2 (fun x s => h.nostr x s) (fun j _ hj => four_rest _ _ _ _ _ _ j hj)⟩
theorem set4_size (w : World) (g : Nat) (x y z u : Value) : ((((w.setCell ⟨g, 0, none⟩ x).setCell ⟨g, 1, none⟩ y).setCell ⟨g, 2, none⟩ z).setCell ⟨g, 3, none⟩ u).heap.size = w.heap.size := by simp [World.setCell]

/-- What stands behind a region's own writing. -/
def Tr.Wrote (w w' : World) (g base : Nat) (d : Wp.Dev) (f k : Int) : Prop :=
  (∃ pb cb pw cw, Tr.Box w' g pb cb pw cw d f k) ∧ (∀ j, j < w.heap.size → j ≠ g → w'.heap[j]? = w.heap[j]?) ∧ Below base w w' ∧ w.heap.size ≤ w'.heap.size
/-- What stands behind a region's own writing, where something was written in memory of its own. -/
def Tr.WroteF (w w' : World) (g base : Nat) (d : Wp.Dev) (f k : Int) (P : Prop) : Prop :=
  (∃ pb cb pw cw, Tr.Box w' g pb cb pw cw d f k ∧ (P → Wp.OwnDev w' w.heap.size (.agg #[.slice pb d.bl.length cb, .slice pw d.ws.length cw, .int .i64 d.fu, .bool d.dn]) d)) ∧ (∀ j, j < w.heap.size → j ≠ g → w'.heap[j]? = w.heap[j]?) ∧ Below base w w' ∧ w.heap.size ≤ w'.heap.size
theorem Tr.WroteF.wrote {w w' : World} {g base : Nat} {d : Wp.Dev} {f k : Int} {P : Prop} (h : Tr.WroteF w w' g base d f k P) : Tr.Wrote w w' g base d f k := by
  obtain ⟨⟨pb, cb, pw, cw, h1, _⟩, h2⟩ := h
  exact ⟨⟨pb, cb, pw, cw, h1⟩, h2⟩
theorem Tr.writes_step (d : Wp.Dev) (a : Int) (l : List ByteArray) (j : Nat) (hj : j < l.length) :
    Tr.writes d a (l.drop j) = if (d.write1 a l[j]).2 = 0 then Tr.writes (d.write1 a l[j]).1 (a + 1) (l.drop (j + 1)) else d.write1 a l[j] := by
  rw [List.drop_eq_getElem_cons hj, Tr.writes]
theorem Tr.writes_end (d : Wp.Dev) (a : Int) (l : List ByteArray) (j : Nat) (hj : l.length ≤ j) : Tr.writes d a (l.drop j) = (d, 0) := by
  rw [List.drop_of_length_le hj, Tr.writes]
set_option maxRecDepth 100000 in
set_option maxHeartbeats 1000000 in
theorem regWrite_anyF (w : World) (g base : Nat) (pb : Option Addr) (cb : Nat) (pw : Option Addr) (cw : Nat) (d : Wp.Dev) (f k a : Int) (p : Option Addr) (c : Nat) (l : List ByteArray) (hb : Tr.Box w g pb cb pw cw d f k) (hg : Wp.Good d) (hbase : base ≤ g)
    (hA : Wp.At Wp.mkT w p l) (hl : l.length ≤ 4096) (hs : ∀ x ∈ l, x.size = 64) (f0 : 0 ≤ f) (f1 : f ≤ 4096) (a0 : 0 ≤ a) (a1 : a ≤ 4096) :
    Calls Tryd.prog 35 #[.pointer (some ⟨g, 0, none⟩), .int .i64 a, .slice p l.length c] w
      fun e w' => e = .returned (.int .i64 (Tr.writes d (f + a) l).2) ∧ Tr.WroteF w w' g base (Tr.writes d (f + a) l).1 f k (l ≠ []) := by
  have hlt := hb.lt
  have HA := Lib.hid hA
  have HS := Lib.hid hs
  have HNS := Lib.hid (fun x s => hb.nostr x s)
  have HB := Lib.hid hb
  have HG := Lib.hid hg
  obtain ⟨T, hT⟩ : ∃ T, T = Tr.writes d (f + a) l := ⟨_, rfl⟩
  have HT := Lib.hid hT
  rw [← hT]
  obtain ⟨n, hn⟩ : ∃ n, n = l.length := ⟨_, rfl⟩
  have HN := Lib.hid hn
  rw [← hn] at hl ⊢
  clear hA hs hb hg hT hn
  go_enter Tryd.func35, Tryd.ntmps35
  go_wp2_with fail
  go_loopw [7, 8, 9, 10, 13] (fun _ _ _ _ i wr => ∃ (j : Nat) (D : Wp.Dev) (pb2 : Option Addr) (cb2 : Nat) (pw2 : Option Addr) (cw2 : Nat), j ≤ n ∧ i = .int .i64 j ∧ Hid (Tr.Box wr g pb2 cb2 pw2 cw2 D f k) ∧ Hid (Wp.Good D) ∧ Hid (T = Tr.writes D (f + a + j) (l.drop j)) ∧ Hid (∀ x, x < w.heap.size → x ≠ g → wr.heap[x]? = w.heap[x]?) ∧ Hid (0 < j → Wp.OwnDev wr w.heap.size (.agg #[.slice pb2 D.bl.length cb2, .slice pw2 D.ws.length cw2, .int .i64 D.fu, .bool D.dn]) D) ∧ Below base w wr ∧ w.heap.size ≤ wr.heap.size) (fun _ _ _ _ i _ => n - (intOf i).toNat)
  case atStart => exact ⟨0, d, pb, cb, pw, cw, Nat.zero_le _, rfl, HB, HG, Lib.hid (by rw [HT.out]; simp), Lib.hid (fun _ _ _ => rfl), Lib.hid (fun h => absurd h (Nat.lt_irrefl _)), Below.refl _ _, Nat.le_refl _⟩
  case round =>
    obtain ⟨j, D, pb2, cb2, pw2, cw2, hj, rfl, HB2, HG2, HT2, HR, HOw, hB, hsz⟩ := hrel
    have hgl : g < wr.heap.size := by omega
    by_cases hlt2 : j < n
    · have hjl : j < l.length := by rw [← HN.out]; exact hlt2
      obtain ⟨b, off, rfl, hcell⟩ := (at_rest HA.out HNS.out HR.out).get j hjl
      rw [show Wp.mkT l[j] = Value.string l[j] from rfl] at hcell
      have hst := Tr.writes_step D (f + a + j) l j hjl
      have hsx := HS.out l[j] (List.getElem_mem _)
      generalize l[j] = x at hcell hst hsx
      have hw := fun v w' (hv : Wp.DevAt w' v D) => Write_okf v D (f + a + j) x w' hv HG2.out.fits HG2.out.ok (by omega)
      have hg3 := HG2.out.write1 (f + a + j) x
      obtain ⟨⟨D3, e3⟩, hD3⟩ : ∃ y, y = D.write1 (f + a + j) x := ⟨_, rfl⟩
      rw [← hD3] at hw hst hg3
      simp only [] at hw hst hg3
      have Hw := Lib.hid hw
      have Hst := Lib.hid hst
      have HG3 := Lib.hid hg3
      clear hw hst hg3 hD3 hjl
      obtain ⟨c0, c1, c2, c3, c4, c5, g0, g1, g2, g3⟩ := Wp.six_of HB2.out.1
      by_cases he : e3 = 0
      · subst he
        rw [if_pos rfl] at Hst
        have q1 : IntKind.i64.wrap (f + a) = f + a := IntWalk.i64_in _ (by omega)
        have q2 : IntKind.i64.wrap (f + a + (j : Int)) = f + a + (j : Int) := IntWalk.i64_in _ (by omega)
        have hbel : ∀ W, Below wr.heap.size wr W → Wp.DevAt W (.agg #[.slice pb2 D.bl.length cb2, .slice pw2 D.ws.length cw2, .int .i64 D.fu, .bool D.dn]) D ∧ Below wr.heap.size wr W := fun W h => ⟨HB2.out.2.below h, h⟩
        have hv1 := hbel _ ((Below.refl _ wr).drew)
        have hv2 := hbel _ (((Below.refl _ wr).alloc (Nat.le_refl _) (.cells #[.slice none 0 0, .slice none 0 0, .int .i64 0, .bool false] 38)).drew)
        have hn2 := (show ((wr.alloc (.cells #[.slice none 0 0, .slice none 0 0, .int .i64 0, .bool false] 38)).drew).heap[wr.heap.size]? = some (.cells #[.slice none 0 0, .slice none 0 0, .int .i64 0, .bool false] 38 (0, 0)) from alloc_new wr _)
        have HK : Hid (∀ w' : World, Below wr.heap.size wr w' → w'.cell? ⟨g, 0, none⟩ = some (.slice pb2 D.bl.length cb2) ∧ w'.cell? ⟨g, 1, none⟩ = some (.slice pw2 D.ws.length cw2) ∧ w'.cell? ⟨g, 2, none⟩ = some (.int .i64 D.fu) ∧ w'.cell? ⟨g, 3, none⟩ = some (.bool D.dn) ∧ w'.cell? ⟨g, 4, none⟩ = some (.int .i64 f)) := Lib.hid (fun w' h => ⟨(h.cell (p := ⟨g, 0, none⟩) hgl).trans c0, (h.cell (p := ⟨g, 1, none⟩) hgl).trans c1, (h.cell (p := ⟨g, 2, none⟩) hgl).trans c2, (h.cell (p := ⟨g, 3, none⟩) hgl).trans c3, (h.cell (p := ⟨g, 4, none⟩) hgl).trans c4⟩)
        clear hbel
        go_wp2_with fail
        go_region_held3 (fun w' => w'.cell? ⟨g, 0, none⟩ = some (.slice pb2 D.bl.length cb2) ∧ w'.cell? ⟨g, 1, none⟩ = some (.slice pw2 D.ws.length cw2) ∧ w'.cell? ⟨g, 2, none⟩ = some (.int .i64 D.fu) ∧ w'.cell? ⟨g, 3, none⟩ = some (.bool D.dn) ∧ w'.cell? ⟨g, 4, none⟩ = some (.int .i64 f))
          (first | (go_keep; done) | (exact HK.out _ e7) | (exact HK.out _ (e7.alloc e7.size _)) | (exact HK.out _ (four_below e7 (Nat.le_refl _) _ _ _ _)))
          (first
            | (go_at_call 66; (with_reducible refine (Hw.out _ _ hv1.1).mono ?_); rintro e w3 ⟨v3, rfl, ho3, hb3⟩; have hd3 := ho3.devAt; have e7 : Below wr.heap.size wr w3 := hv1.2.trans (hb3.mono hv1.2.size); obtain ⟨pb3, cb3, pw3, cw3, rfl, hd3⟩ := devAt_open hd3)
            | (go_at_call 66; (with_reducible refine (Hw.out _ _ hv2.1).mono ?_); rintro e w3 ⟨v3, rfl, ho3, hb3⟩; have hd3 := ho3.devAt; have e7 : Below wr.heap.size wr w3 := hv2.2.trans (hb3.mono hv2.2.size); have hx := (hb3.block wr.heap.size (by simp)).trans hn2; obtain ⟨k0, k1, k2, k3, h0, h1, h2, h3⟩ := Wp.four_of hx; obtain ⟨pb3, cb3, pw3, cw3, rfl, hd3⟩ := devAt_open hd3))
        · have XD := alloc_new w3 (.cells #[.slice pb3 D3.bl.length cb3, .slice pw3 D3.ws.length cw3, .int .i64 D3.fu, .bool D3.dn] 38)
          have HBX := (HB2.out.below e7).below ((Below.refl _ _).alloc (Nat.le_refl _) (.cells #[.slice pb3 D3.bl.length cb3, .slice pw3 D3.ws.length cw3, .int .i64 D3.fu, .bool D3.dn] 38))
          have HD3 := hd3.below ((Below.refl _ _).alloc (Nat.le_refl _) (.cells #[.slice pb3 D3.bl.length cb3, .slice pw3 D3.ws.length cw3, .int .i64 D3.fu, .bool D3.dn] 38))
          have hbW := e7.alloc e7.size (.cells #[.slice pb3 D3.bl.length cb3, .slice pw3 D3.ws.length cw3, .int .i64 D3.fu, .bool D3.dn] 38)
          have hgd : g ≠ w3.heap.size := by have := e7.size; omega
          have HO := (ho3.rest (w' := w3.alloc (.cells #[.slice pb3 D3.bl.length cb3, .slice pw3 D3.ws.length cw3, .int .i64 D3.fu, .bool D3.dn] 38)) (fun k _ hk => alloc_past _ _ _ hk)).low (b0 := w.heap.size) (by first | exact hsz | (simp; omega))
          clear hd3 hb3 e7 ho3
          generalize hW : w3.alloc (.cells #[.slice pb3 D3.bl.length cb3, .slice pw3 D3.ws.length cw3, .int .i64 D3.fu, .bool D3.dn] 38) = W at *
          generalize w3.heap.size = gd at *
          clear hW
          have HXD := Lib.hid XD
          have HBX2 := Lib.hid HBX
          have HD32 := Lib.hid HD3
          have hbW2 := Lib.hid hbW
          have hgW : g < W.heap.size := by have := hbW.size; omega
          clear XD HBX HD3 hbW c0 c1 c2 c3 c4 c5 g0 g1 g2 g3 hv1 hv2 hn2 HK hcell
          obtain ⟨d0, d1, d2, d3, _, _, _, _⟩ := Wp.four_of HXD.out
          obtain ⟨c0, c1, c2, c3, c4, c5, g0, g1, g2, g3⟩ := Wp.six_of HBX2.out.1
          have HSt := Lib.hid (HBX2.out.store HD32.out)
          have HOF := Lib.hid (HO.rest (w' := ((((W.setCell ⟨g, 0, none⟩ (.slice pb3 D3.bl.length cb3)).setCell ⟨g, 1, none⟩ (.slice pw3 D3.ws.length cw3)).setCell ⟨g, 2, none⟩ (.int .i64 D3.fu)).setCell ⟨g, 3, none⟩ (.bool D3.dn))) (fun k hk _ => four_rest _ _ _ _ _ _ k (by omega)))
          clear HO
          have hR4 := Lib.hid (fun x (h1 : x < w.heap.size) (h2 : x ≠ g) => (four_rest W g (.slice pb3 D3.bl.length cb3) (.slice pw3 D3.ws.length cw3) (.int .i64 D3.fu) (.bool D3.dn) x h2).trans ((hbW2.out.block x (by omega)).trans (HR.out x h1 h2)))
          have hB4 := Lib.hid (four_below (hB.trans (hbW2.out.mono (by have := hB.size; omega))) hbase (.slice pb3 D3.bl.length cb3) (.slice pw3 D3.ws.length cw3) (.int .i64 D3.fu) (.bool D3.dn))
          have hsz4 : w.heap.size ≤ W.heap.size := by have := hbW2.out.size; omega
          go_wp2_with fail
          refine ⟨⟨j + 1, D3, pb3, cb3, pw3, cw3, by omega, by go_num, HSt, HG3, Lib.hid ?_, hR4, Lib.hid (fun _ => HOF.out), hB4.out, by rw [set4_size]; exact hsz4⟩, by simp [intOf]; omega⟩
          rw [HT2.out, Hst.out]
          congr 1
          omega
        · have XD := four_set hx (.slice pb3 D3.bl.length cb3) (.slice pw3 D3.ws.length cw3) (.int .i64 D3.fu) (.bool D3.dn)
          have hbW := four_below e7 (Nat.le_refl _) (.slice pb3 D3.bl.length cb3) (.slice pw3 D3.ws.length cw3) (.int .i64 D3.fu) (.bool D3.dn)
          have HBX := HB2.out.below hbW
          have HD3 := devAt_box hd3 hx (fun y hy => four_rest w3 wr.heap.size (.slice pb3 D3.bl.length cb3) (.slice pw3 D3.ws.length cw3) (.int .i64 D3.fu) (.bool D3.dn) y hy)
          have hgd : g ≠ wr.heap.size := by omega
          have HO := (ho3.rest (w' := ((((w3.setCell ⟨wr.heap.size, 0, none⟩ (.slice pb3 D3.bl.length cb3)).setCell ⟨wr.heap.size, 1, none⟩ (.slice pw3 D3.ws.length cw3)).setCell ⟨wr.heap.size, 2, none⟩ (.int .i64 D3.fu)).setCell ⟨wr.heap.size, 3, none⟩ (.bool D3.dn))) (fun k hk _ => four_rest _ _ _ _ _ _ k (by simp at hk; omega))).low (b0 := w.heap.size) (by simp; omega)
          clear hd3 hb3 e7 ho3 k0 k1 k2 k3 h0 h1 h2 h3 hx
          generalize ((((w3.setCell ⟨wr.heap.size, 0, none⟩ (.slice pb3 D3.bl.length cb3)).setCell ⟨wr.heap.size, 1, none⟩ (.slice pw3 D3.ws.length cw3)).setCell ⟨wr.heap.size, 2, none⟩ (.int .i64 D3.fu)).setCell ⟨wr.heap.size, 3, none⟩ (.bool D3.dn)) = W at *
          obtain ⟨gd, hgde⟩ : ∃ gd, gd = wr.heap.size := ⟨_, rfl⟩
          rw [← hgde] at XD hgd ⊢
          clear hgde
          have HXD := Lib.hid XD
          have HBX2 := Lib.hid HBX
          have HD32 := Lib.hid HD3
          have hbW2 := Lib.hid hbW
          have hgW : g < W.heap.size := by have := hbW.size; omega
          clear XD HBX HD3 hbW c0 c1 c2 c3 c4 c5 g0 g1 g2 g3 hv1 hv2 hn2 HK hcell
          obtain ⟨d0, d1, d2, d3, _, _, _, _⟩ := Wp.four_of HXD.out
          obtain ⟨c0, c1, c2, c3, c4, c5, g0, g1, g2, g3⟩ := Wp.six_of HBX2.out.1
          have HSt := Lib.hid (HBX2.out.store HD32.out)
          have HOF := Lib.hid (HO.rest (w' := ((((W.setCell ⟨g, 0, none⟩ (.slice pb3 D3.bl.length cb3)).setCell ⟨g, 1, none⟩ (.slice pw3 D3.ws.length cw3)).setCell ⟨g, 2, none⟩ (.int .i64 D3.fu)).setCell ⟨g, 3, none⟩ (.bool D3.dn))) (fun k hk _ => four_rest _ _ _ _ _ _ k (by omega)))
          clear HO
          have hR4 := Lib.hid (fun x (h1 : x < w.heap.size) (h2 : x ≠ g) => (four_rest W g (.slice pb3 D3.bl.length cb3) (.slice pw3 D3.ws.length cw3) (.int .i64 D3.fu) (.bool D3.dn) x h2).trans ((hbW2.out.block x (by omega)).trans (HR.out x h1 h2)))
          have hB4 := Lib.hid (four_below (hB.trans (hbW2.out.mono (by have := hB.size; omega))) hbase (.slice pb3 D3.bl.length cb3) (.slice pw3 D3.ws.length cw3) (.int .i64 D3.fu) (.bool D3.dn))
          have hsz4 : w.heap.size ≤ W.heap.size := by have := hbW2.out.size; omega
          go_wp2_with fail
          refine ⟨⟨j + 1, D3, pb3, cb3, pw3, cw3, by omega, by go_num, HSt, HG3, Lib.hid ?_, hR4, Lib.hid (fun _ => HOF.out), hB4.out, by rw [set4_size]; exact hsz4⟩, by simp [intOf]; omega⟩
          rw [HT2.out, Hst.out]
          congr 1
          omega
      · have hb1 : (e3 != 0) = true := by rw [bne_iff_ne]; exact he
        rw [if_neg he] at Hst
        clear he
        have q1 : IntKind.i64.wrap (f + a) = f + a := IntWalk.i64_in _ (by omega)
        have q2 : IntKind.i64.wrap (f + a + (j : Int)) = f + a + (j : Int) := IntWalk.i64_in _ (by omega)
        have hbel : ∀ W, Below wr.heap.size wr W → Wp.DevAt W (.agg #[.slice pb2 D.bl.length cb2, .slice pw2 D.ws.length cw2, .int .i64 D.fu, .bool D.dn]) D ∧ Below wr.heap.size wr W := fun W h => ⟨HB2.out.2.below h, h⟩
        have hv1 := hbel _ ((Below.refl _ wr).drew)
        have hv2 := hbel _ (((Below.refl _ wr).alloc (Nat.le_refl _) (.cells #[.slice none 0 0, .slice none 0 0, .int .i64 0, .bool false] 38)).drew)
        have hn2 := (show ((wr.alloc (.cells #[.slice none 0 0, .slice none 0 0, .int .i64 0, .bool false] 38)).drew).heap[wr.heap.size]? = some (.cells #[.slice none 0 0, .slice none 0 0, .int .i64 0, .bool false] 38 (0, 0)) from alloc_new wr _)
        have HK : Hid (∀ w' : World, Below wr.heap.size wr w' → w'.cell? ⟨g, 0, none⟩ = some (.slice pb2 D.bl.length cb2) ∧ w'.cell? ⟨g, 1, none⟩ = some (.slice pw2 D.ws.length cw2) ∧ w'.cell? ⟨g, 2, none⟩ = some (.int .i64 D.fu) ∧ w'.cell? ⟨g, 3, none⟩ = some (.bool D.dn) ∧ w'.cell? ⟨g, 4, none⟩ = some (.int .i64 f)) := Lib.hid (fun w' h => ⟨(h.cell (p := ⟨g, 0, none⟩) hgl).trans c0, (h.cell (p := ⟨g, 1, none⟩) hgl).trans c1, (h.cell (p := ⟨g, 2, none⟩) hgl).trans c2, (h.cell (p := ⟨g, 3, none⟩) hgl).trans c3, (h.cell (p := ⟨g, 4, none⟩) hgl).trans c4⟩)
        clear hbel
        go_wp2_with fail
        go_region_held3 (fun w' => w'.cell? ⟨g, 0, none⟩ = some (.slice pb2 D.bl.length cb2) ∧ w'.cell? ⟨g, 1, none⟩ = some (.slice pw2 D.ws.length cw2) ∧ w'.cell? ⟨g, 2, none⟩ = some (.int .i64 D.fu) ∧ w'.cell? ⟨g, 3, none⟩ = some (.bool D.dn) ∧ w'.cell? ⟨g, 4, none⟩ = some (.int .i64 f))
          (first | (go_keep; done) | (exact HK.out _ e7) | (exact HK.out _ (e7.alloc e7.size _)) | (exact HK.out _ (four_below e7 (Nat.le_refl _) _ _ _ _)))
          (first
            | (go_at_call 66; (with_reducible refine (Hw.out _ _ hv1.1).mono ?_); rintro e w3 ⟨v3, rfl, ho3, hb3⟩; have hd3 := ho3.devAt; have e7 : Below wr.heap.size wr w3 := hv1.2.trans (hb3.mono hv1.2.size); obtain ⟨pb3, cb3, pw3, cw3, rfl, hd3⟩ := devAt_open hd3)
            | (go_at_call 66; (with_reducible refine (Hw.out _ _ hv2.1).mono ?_); rintro e w3 ⟨v3, rfl, ho3, hb3⟩; have hd3 := ho3.devAt; have e7 : Below wr.heap.size wr w3 := hv2.2.trans (hb3.mono hv2.2.size); have hx := (hb3.block wr.heap.size (by simp)).trans hn2; obtain ⟨k0, k1, k2, k3, h0, h1, h2, h3⟩ := Wp.four_of hx; obtain ⟨pb3, cb3, pw3, cw3, rfl, hd3⟩ := devAt_open hd3))
        · have XD := alloc_new w3 (.cells #[.slice pb3 D3.bl.length cb3, .slice pw3 D3.ws.length cw3, .int .i64 D3.fu, .bool D3.dn] 38)
          have HBX := (HB2.out.below e7).below ((Below.refl _ _).alloc (Nat.le_refl _) (.cells #[.slice pb3 D3.bl.length cb3, .slice pw3 D3.ws.length cw3, .int .i64 D3.fu, .bool D3.dn] 38))
          have HD3 := hd3.below ((Below.refl _ _).alloc (Nat.le_refl _) (.cells #[.slice pb3 D3.bl.length cb3, .slice pw3 D3.ws.length cw3, .int .i64 D3.fu, .bool D3.dn] 38))
          have hbW := e7.alloc e7.size (.cells #[.slice pb3 D3.bl.length cb3, .slice pw3 D3.ws.length cw3, .int .i64 D3.fu, .bool D3.dn] 38)
          have hgd : g ≠ w3.heap.size := by have := e7.size; omega
          have HO := (ho3.rest (w' := w3.alloc (.cells #[.slice pb3 D3.bl.length cb3, .slice pw3 D3.ws.length cw3, .int .i64 D3.fu, .bool D3.dn] 38)) (fun k _ hk => alloc_past _ _ _ hk)).low (b0 := w.heap.size) (by first | exact hsz | (simp; omega))
          clear hd3 hb3 e7 ho3
          generalize hW : w3.alloc (.cells #[.slice pb3 D3.bl.length cb3, .slice pw3 D3.ws.length cw3, .int .i64 D3.fu, .bool D3.dn] 38) = W at *
          generalize w3.heap.size = gd at *
          clear hW
          have HXD := Lib.hid XD
          have HBX2 := Lib.hid HBX
          have HD32 := Lib.hid HD3
          have hbW2 := Lib.hid hbW
          have hgW : g < W.heap.size := by have := hbW.size; omega
          clear XD HBX HD3 hbW c0 c1 c2 c3 c4 c5 g0 g1 g2 g3 hv1 hv2 hn2 HK hcell
          obtain ⟨d0, d1, d2, d3, _, _, _, _⟩ := Wp.four_of HXD.out
          obtain ⟨c0, c1, c2, c3, c4, c5, g0, g1, g2, g3⟩ := Wp.six_of HBX2.out.1
          have HSt := Lib.hid (HBX2.out.store HD32.out)
          have HOF := Lib.hid (HO.rest (w' := ((((W.setCell ⟨g, 0, none⟩ (.slice pb3 D3.bl.length cb3)).setCell ⟨g, 1, none⟩ (.slice pw3 D3.ws.length cw3)).setCell ⟨g, 2, none⟩ (.int .i64 D3.fu)).setCell ⟨g, 3, none⟩ (.bool D3.dn))) (fun k hk _ => four_rest _ _ _ _ _ _ k (by omega)))
          clear HO
          have hR4 := Lib.hid (fun x (h1 : x < w.heap.size) (h2 : x ≠ g) => (four_rest W g (.slice pb3 D3.bl.length cb3) (.slice pw3 D3.ws.length cw3) (.int .i64 D3.fu) (.bool D3.dn) x h2).trans ((hbW2.out.block x (by omega)).trans (HR.out x h1 h2)))
          have hB4 := Lib.hid (four_below (hB.trans (hbW2.out.mono (by have := hB.size; omega))) hbase (.slice pb3 D3.bl.length cb3) (.slice pw3 D3.ws.length cw3) (.int .i64 D3.fu) (.bool D3.dn))
          have hsz4 : w.heap.size ≤ W.heap.size := by have := hbW2.out.size; omega
          go_wp2_with fail
          go_ret
          exact ⟨by rw [HT2.out, Hst.out]; rfl, by rw [HT2.out, Hst.out]; exact ⟨⟨_, _, _, _, HSt.out, fun _ => HOF.out⟩, hR4.out, hB4.out, by rw [set4_size]; exact hsz4⟩⟩
        · have XD := four_set hx (.slice pb3 D3.bl.length cb3) (.slice pw3 D3.ws.length cw3) (.int .i64 D3.fu) (.bool D3.dn)
          have hbW := four_below e7 (Nat.le_refl _) (.slice pb3 D3.bl.length cb3) (.slice pw3 D3.ws.length cw3) (.int .i64 D3.fu) (.bool D3.dn)
          have HBX := HB2.out.below hbW
          have HD3 := devAt_box hd3 hx (fun y hy => four_rest w3 wr.heap.size (.slice pb3 D3.bl.length cb3) (.slice pw3 D3.ws.length cw3) (.int .i64 D3.fu) (.bool D3.dn) y hy)
          have hgd : g ≠ wr.heap.size := by omega
          have HO := (ho3.rest (w' := ((((w3.setCell ⟨wr.heap.size, 0, none⟩ (.slice pb3 D3.bl.length cb3)).setCell ⟨wr.heap.size, 1, none⟩ (.slice pw3 D3.ws.length cw3)).setCell ⟨wr.heap.size, 2, none⟩ (.int .i64 D3.fu)).setCell ⟨wr.heap.size, 3, none⟩ (.bool D3.dn))) (fun k hk _ => four_rest _ _ _ _ _ _ k (by simp at hk; omega))).low (b0 := w.heap.size) (by simp; omega)
          clear hd3 hb3 e7 ho3 k0 k1 k2 k3 h0 h1 h2 h3 hx
          generalize ((((w3.setCell ⟨wr.heap.size, 0, none⟩ (.slice pb3 D3.bl.length cb3)).setCell ⟨wr.heap.size, 1, none⟩ (.slice pw3 D3.ws.length cw3)).setCell ⟨wr.heap.size, 2, none⟩ (.int .i64 D3.fu)).setCell ⟨wr.heap.size, 3, none⟩ (.bool D3.dn)) = W at *
          obtain ⟨gd, hgde⟩ : ∃ gd, gd = wr.heap.size := ⟨_, rfl⟩
          rw [← hgde] at XD hgd ⊢
          clear hgde
          have HXD := Lib.hid XD
          have HBX2 := Lib.hid HBX
          have HD32 := Lib.hid HD3
          have hbW2 := Lib.hid hbW
          have hgW : g < W.heap.size := by have := hbW.size; omega
          clear XD HBX HD3 hbW c0 c1 c2 c3 c4 c5 g0 g1 g2 g3 hv1 hv2 hn2 HK hcell
          obtain ⟨d0, d1, d2, d3, _, _, _, _⟩ := Wp.four_of HXD.out
          obtain ⟨c0, c1, c2, c3, c4, c5, g0, g1, g2, g3⟩ := Wp.six_of HBX2.out.1
          have HSt := Lib.hid (HBX2.out.store HD32.out)
          have HOF := Lib.hid (HO.rest (w' := ((((W.setCell ⟨g, 0, none⟩ (.slice pb3 D3.bl.length cb3)).setCell ⟨g, 1, none⟩ (.slice pw3 D3.ws.length cw3)).setCell ⟨g, 2, none⟩ (.int .i64 D3.fu)).setCell ⟨g, 3, none⟩ (.bool D3.dn))) (fun k hk _ => four_rest _ _ _ _ _ _ k (by omega)))
          clear HO
          have hR4 := Lib.hid (fun x (h1 : x < w.heap.size) (h2 : x ≠ g) => (four_rest W g (.slice pb3 D3.bl.length cb3) (.slice pw3 D3.ws.length cw3) (.int .i64 D3.fu) (.bool D3.dn) x h2).trans ((hbW2.out.block x (by omega)).trans (HR.out x h1 h2)))
          have hB4 := Lib.hid (four_below (hB.trans (hbW2.out.mono (by have := hB.size; omega))) hbase (.slice pb3 D3.bl.length cb3) (.slice pw3 D3.ws.length cw3) (.int .i64 D3.fu) (.bool D3.dn))
          have hsz4 : w.heap.size ≤ W.heap.size := by have := hbW2.out.size; omega
          go_wp2_with fail
          go_ret
          exact ⟨by rw [HT2.out, Hst.out]; rfl, by rw [HT2.out, Hst.out]; exact ⟨⟨_, _, _, _, HSt.out, fun _ => HOF.out⟩, hR4.out, hB4.out, by rw [set4_size]; exact hsz4⟩⟩
    · obtain rfl : j = n := by omega
      have hT3 := HT2.out
      rw [Tr.writes_end _ _ _ _ (by rw [HN.out]; exact Nat.le_refl _)] at hT3
      have HT3 := Lib.hid hT3
      clear hT3
      go_wp2_with fail
      go_ret
      exact ⟨by rw [HT3.out]; rfl, by rw [HT3.out]; exact ⟨⟨_, _, _, _, HB2.out, fun hne => HOw.out (by rw [HN.out]; exact List.length_pos_iff.2 hne)⟩, HR.out, hB, hsz⟩⟩
theorem regWrite_any (w : World) (g base : Nat) (pb : Option Addr) (cb : Nat) (pw : Option Addr) (cw : Nat) (d : Wp.Dev) (f k a : Int) (p : Option Addr) (c : Nat) (l : List ByteArray) (hb : Tr.Box w g pb cb pw cw d f k) (hg : Wp.Good d) (hbase : base ≤ g)
    (hA : Wp.At Wp.mkT w p l) (hl : l.length ≤ 4096) (hs : ∀ x ∈ l, x.size = 64) (f0 : 0 ≤ f) (f1 : f ≤ 4096) (a0 : 0 ≤ a) (a1 : a ≤ 4096) :
    Calls Tryd.prog 35 #[.pointer (some ⟨g, 0, none⟩), .int .i64 a, .slice p l.length c] w
      fun e w' => e = .returned (.int .i64 (Tr.writes d (f + a) l).2) ∧ Tr.Wrote w w' g base (Tr.writes d (f + a) l).1 f k := by
  refine (regWrite_anyF w g base pb cb pw cw d f k a p c l hb hg hbase hA hl hs f0 f1 a0 a1).mono ?_
  rintro e w' ⟨h1, h2⟩
  exact ⟨h1, h2.wrote⟩
end Go.Proofs.YtpmhgfjnabgilabDoor
