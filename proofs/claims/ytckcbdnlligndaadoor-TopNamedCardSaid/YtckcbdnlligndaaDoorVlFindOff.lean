
/-
  The walk of value's Find once more: what it hands back hangs on blocks that the call made. Condition: a value's texts and lists are of a size that a machine holds.
-/
import Derived.Test.YtckcbdnlligndaaDoorVlFind
namespace Go.Proofs.YtckcbdnlligndaaDoor
open Go.RowKit

/-- What Find hands back: it hangs on blocks of the call's own. -/
def Vl.FPostO (d : Nat) (T : Vl.V × Int) (w : World) (e : Ending) (w' : World) : Prop := ∃ u, e = .returned (.tuple #[u, .int .i64 T.2]) ∧ Vl.Off (d + 1) w.heap.size w' none u T.1 ∧ Below w.heap.size w w'
set_option maxRecDepth 100000 in
set_option maxHeartbeats 2000000 in
theorem vlFind_off (d : Nat) (x : Vl.V) (v : Value) (w : World) (hA : Vl.At (d + 1) w v x) (pp : Option Addr) (cp : Nat) (path : List ByteArray) (hm : path.length ≤ 140737488351232) (hP : Wp.At Wp.mkT w pp path) :
    Calls Tryd.prog 30 #[v, .slice pp path.length cp] w (Vl.FPostO d (Vl.findR x path) w) := by
  have hck := Lib.hid (fun W (h : Below w.heap.size w W) => vlCheck_any (d + 1) x v W (hA.below h))
  obtain ⟨pi, ci, pn, cn, rfl, hrest⟩ := hA
  have hA : Vl.At (d + 1) w (.agg #[.int .u8 (x.kind : Nat), .string x.text, .int .i64 x.num, .slice pi x.items.length ci, .slice pn x.names.length cn]) x := ⟨pi, ci, pn, cn, rfl, hrest⟩
  have HA := Lib.hid hA
  have HP := Lib.hid hP
  obtain ⟨n, hn⟩ : ∃ n, n = path.length := ⟨_, rfl⟩
  have HN := Lib.hid hn
  rw [← hn] at hm ⊢
  obtain ⟨T, hT⟩ : ∃ T, T = Vl.findR x path := ⟨_, rfl⟩
  have HT := Lib.hid hT
  rw [← hT]
  have hx0 := Lib.hid (show ((w.alloc (.cells #[.int .u8 (x.kind : Nat), .string x.text, .int .i64 x.num, .slice pi x.items.length ci, .slice pn x.names.length cn] 26)).alloc (.cells #[.int .u8 0, .string ⟨#[]⟩, .int .i64 0, .slice none 0 0, .slice none 0 0] 26)).heap[w.heap.size]? = some (.cells #[.int .u8 (x.kind : Nat), .string x.text, .int .i64 x.num, .slice pi x.items.length ci, .slice pn x.names.length cn] 26 (0, 0)) by rw [Vl.past _ _ _ (by simp)]; exact Vl.new _ _)
  have hr0 := Lib.hid (Vl.newAt (w.alloc (.cells #[.int .u8 (x.kind : Nat), .string x.text, .int .i64 x.num, .slice pi x.items.length ci, .slice pn x.names.length cn] 26)) (.cells #[.int .u8 0, .string ⟨#[]⟩, .int .i64 0, .slice none 0 0, .slice none 0 0] 26) (w.heap.size + 1) (by simp))
  have hbw := Lib.hid (((Below.refl w.heap.size w).alloc (Nat.le_refl _) (.cells #[.int .u8 (x.kind : Nat), .string x.text, .int .i64 x.num, .slice pi x.items.length ci, .slice pn x.names.length cn] 26)).alloc (by simp) (.cells #[.int .u8 0, .string ⟨#[]⟩, .int .i64 0, .slice none 0 0, .slice none 0 0] 26))
  have Hs0 := Lib.hid (show ((w.alloc (.cells #[.int .u8 (x.kind : Nat), .string x.text, .int .i64 x.num, .slice pi x.items.length ci, .slice pn x.names.length cn] 26)).alloc (.cells #[.int .u8 0, .string ⟨#[]⟩, .int .i64 0, .slice none 0 0, .slice none 0 0] 26)).heap.size = w.heap.size + 2 by simp)
  clear hA hP hn hT hrest
  have Hstart := Lib.hid (fun (W : World) (hg : Vl.good x = true) (h1 : W.heap[w.heap.size]? = some (.cells #[.int .u8 (x.kind : Nat), .string x.text, .int .i64 x.num, .slice pi x.items.length ci, .slice pn x.names.length cn] 26 (0, 0))) (h2 : W.heap[w.heap.size + 1]? = some (.cells #[.int .u8 0, .string ⟨#[]⟩, .int .i64 0, .slice none 0 0, .slice none 0 0] 26 (0, 0))) (h3 : Below w.heap.size w W) =>
    (⟨⟨pi, ci, pn, cn, h1, HA.out⟩, h2, h3, Vl.Okay.of hg, by rw [List.drop_zero]⟩ : Vl.FBox w W d x path 0 x))
  generalize x.items.length = ni at *
  generalize x.names.length = nn at *
  generalize x.kind = k at *
  generalize x.text = t at *
  generalize x.num = i at *
  have hchk : Vl.chk x = if Vl.good x then 0 else 2 := rfl
  rw [hchk] at hck
  clear hchk
  go_enter Tryd.func30, Tryd.ntmps30
  go_wp2_with fail
  refine (hck.out _ hbw.out).mono ?_
  rintro e w1 ⟨rfl, hb1⟩
  have hz1 : w.heap.size + 2 ≤ w1.heap.size := by have := hb1.size; rwa [Hs0.out] at this
  have hx1 := (hb1.block w.heap.size (by rw [Hs0.out]; omega)).trans hx0.out
  have hr1 := (hb1.block (w.heap.size + 1) (by rw [Hs0.out]; omega)).trans hr0.out
  have hB1 := hbw.out.trans (hb1.mono (by rw [Hs0.out]; omega))
  cases hgd : Vl.good x with
  | false =>
    obtain ⟨n0, n1, n2, n3, n4⟩ := Vl.fiveF_of hr1
    obtain ⟨m0, m1, m2, m3, m4⟩ := Vl.five_of hr1
    have hTe : T = (Vl.zero, 2) := by rw [HT.out, Vl.findR_bad hgd]
    have HB1 := Lib.hid hB1
    have HR1 := Lib.hid hr1
    clear hb1 hx1 hB1 hr1 hck hx0 hr0 hbw Hstart
    go_wp2_with fail
    refine bodyPost_ret (Vl.ret2 rfl _ _ (w.heap.size + 1) 26 _ _ rfl (Vl.set5 HR1.out _ _ _ _ _) Tryd.underlying26 rfl (by kernel_rfl)) rfl ?_
    rw [hTe]
    exact ⟨_, rfl, fun _ _ => Vl.At.zero d _, below_grownBy HB1.out (Vl.set5_grown _ _ _ _ _ _ _) (by omega) (by omega)⟩
  | true =>
    have HF := Lib.hid (Hstart.out w1 hgd hx1 hr1 hB1)
    have HT2 := Lib.hid (fun (h : Vl.find x path = none) => HT.out.trans (Vl.findR_none hgd h))
    have HT3 := Lib.hid (fun y (h : Vl.find x path = some y) => HT.out.trans (Vl.findR_some hgd h))
    clear hb1 hx1 hB1 hr1 hck hx0 hr0 hbw Hstart Hs0 HT
    go_wp2_with fail
    go_loopw [8, 9, 18] (fun _ _ s wr => ∃ (kk : Nat) (y : Vl.V), kk ≤ n ∧ s = .int .i64 kk ∧ w.heap.size + 2 ≤ wr.heap.size ∧ Hid (Vl.FBox w wr d x path kk y)) (fun _ _ s _ => n - (intOf s).toNat)
    case atStart => exact ⟨0, x, Nat.zero_le _, rfl, hz1, HF⟩
    case round =>
      obtain ⟨kk, y, hkk, rfl, hzr, HB⟩ := hrel
      obtain ⟨⟨pi2, ci2, pn2, cn2, hbox, hAy⟩, hres, hbel, hok, heq⟩ := HB.out
      by_cases hlt : kk < n
      · have hkl : kk < path.length := by rw [← HN.out]; exact hlt
        obtain ⟨b, off, rfl, hcell⟩ := (HP.out.below hbel).get kk hkl
        rw [show Wp.mkT path[kk] = Value.string path[kk] from rfl] at hcell
        have hst : Vl.find x path = Vl.find y (path[kk] :: path.drop (kk + 1)) := by rw [heq, List.drop_eq_getElem_cons hkl]
        have hidx := Lib.hid (fun W (h : Below w.heap.size w W) => vlIndex_any pn2 cn2 y.names path[kk] W (by obtain ⟨_, _, _, _, _, hf, _⟩ := hAy; exact hf.2.2.2.2.1) (by obtain ⟨_, _, _, _, e, _, hn', _⟩ := hAy; simp only [Value.agg.injEq, Array.mk.injEq, List.cons.injEq, Value.slice.injEq, and_true] at e; obtain ⟨-, -, -, -, rfl, -, -⟩ := e; exact hn'.below h))
        have hitem : ∀ j, Vl.idx y.names path[kk] = some j → ∃ z, y.items[j]? = some z ∧ Vl.Okay z := fun j hj => by
          have h1 := Vl.idx_lt hj
          have h2 := hok.names
          exact ⟨y.items[j]'(by omega), List.getElem?_eq_getElem _, hok.item (List.getElem_mem _)⟩
        have hrow : Vl.RowIs wr pi2 y.items.length (Vl.G d w y.items) := by
          obtain ⟨_, _, _, _, e, _, _, hi'⟩ := hAy
          simp only [Value.agg.injEq, Array.mk.injEq, List.cons.injEq, Value.slice.injEq, and_true] at e
          obtain ⟨-, -, -, ⟨rfl, -, -⟩, -⟩ := e
          exact Vl.rowIs hi' wr hbel
        have Hst := Lib.hid hst
        have Hitem := Lib.hid hitem
        have Hrow := Lib.hid hrow
        have Hbox := Lib.hid hbox
        have Hres := Lib.hid hres
        have Hbel := Lib.hid hbel
        have Hnl := Lib.hid (fun j (h : Vl.idx y.names path[kk] = some j) => (Nat.lt_of_lt_of_le (Vl.idx_lt h) hok.names : j < y.items.length))
        generalize path[kk] = sx at *
        obtain ⟨m0, m1, m2, m3, m4⟩ := Vl.five_of hbox
        clear hst hitem hrow hkl hres heq hok HB hAy
        cases hq : Vl.idx y.names sx with
        | none =>
          rw [show Vl.idxI y.names sx = -1 by rw [Vl.idxI, hq]] at hidx
          have hTe := Lib.hid (HT2.out (Hst.out.trans (Vl.find_none hq)))
          clear Hst Hitem Hrow Hnl hq
          generalize y.items.length = ni2 at *
          generalize y.names.length = nn2 at *
          generalize y.kind = k2 at *
          generalize y.text = t2 at *
          generalize y.num = i2 at *
          obtain ⟨r0, r1, r2, r3, r4⟩ := Vl.five_of Hres.out
          obtain ⟨n0, n1, n2, n3, n4⟩ := Vl.fiveF_of Hres.out
          go_wp2_with fail
          refine (hidx.out _ Hbel.out).mono ?_
          rintro e w2 ⟨rfl, rfl⟩
          go_wp2_with fail
          refine bodyPost_ret (Vl.ret2 rfl _ _ (w.heap.size + 1) 26 _ _ rfl (Vl.set5 Hres.out _ _ _ _ _) Tryd.underlying26 rfl (by kernel_rfl)) rfl ?_
          rw [hTe.out]
          exact ⟨_, rfl, fun _ _ => Vl.At.zero d _, below_grownBy Hbel.out (Vl.set5_grown _ _ _ _ _ _ _) (by omega) (by omega)⟩
        | some j =>
          rw [show Vl.idxI y.names sx = (j : Int) by rw [Vl.idxI, hq]] at hidx
          obtain ⟨z, hz, hzok⟩ := Hitem.out j hq
          have hji : j < y.items.length := Hnl.out j hq
          obtain ⟨b2, off2, c0, c1, c2, c3, c4, rfl, ⟨e0, e1, e2, e3, e4⟩, z', hz', hAz⟩ := Hrow.out j hji
          obtain rfl : z' = z := Option.some.inj (hz'.symm.trans hz)
          have hAz2 : ∃ pi' ci' pn' cn', Value.agg #[c0, c1, c2, c3, c4] = .agg #[.int .u8 (z'.kind : Nat), .string z'.text, .int .i64 z'.num, .slice pi' z'.items.length ci', .slice pn' z'.names.length cn'] := by
            cases d with
            | zero => exact hAz.elim
            | succ d =>
              obtain ⟨pi', ci', pn', cn', e, _⟩ := hAz
              exact ⟨pi', ci', pn', cn', e⟩
          obtain ⟨pi', ci', pn', cn', hsh⟩ := hAz2
          simp only [Value.agg.injEq, Array.mk.injEq, List.cons.injEq, and_true] at hsh
          obtain ⟨rfl, rfl, rfl, rfl, rfl⟩ := hsh
          have Hnext := Lib.hid (fun (W : World) (h1 : W.heap[w.heap.size]? = some (.cells #[.int .u8 (z'.kind : Nat), .string z'.text, .int .i64 z'.num, .slice pi' z'.items.length ci', .slice pn' z'.names.length cn'] 26 (0, 0))) (h2 : W.heap[w.heap.size + 1]? = some (.cells #[.int .u8 0, .string ⟨#[]⟩, .int .i64 0, .slice none 0 0, .slice none 0 0] 26 (0, 0))) (h3 : Below w.heap.size w W) =>
            (⟨⟨pi', ci', pn', cn', h1, hAz.succ⟩, h2, h3, hzok, Hst.out.trans (Vl.find_some hq hz)⟩ : Vl.FBox w W d x path (kk + 1) z'))
          clear Hst Hitem Hrow Hnl hq hz hz' hzok hAz
          generalize y.items.length = ni2 at *
          generalize y.names.length = nn2 at *
          generalize y.kind = k2 at *
          generalize y.text = t2 at *
          generalize y.num = i2 at *
          generalize z'.items.length = ni3 at *
          generalize z'.names.length = nn3 at *
          generalize z'.kind = k3 at *
          generalize z'.text = t3 at *
          generalize z'.num = i3 at *
          obtain ⟨n0, n1, n2, n3, n4⟩ := Vl.fiveF_of Hbox.out
          have hj0 : (0 : Int) ≤ (j : Int) := by omega
          have hj1 : (j : Int) < (ni2 : Int) := by omega
          go_wp2_with fail
          refine (hidx.out _ Hbel.out).mono ?_
          rintro e w2 ⟨rfl, rfl⟩
          go_wp2_with fail
          refine ⟨⟨kk + 1, z', by omega, by go_num, by rw [Vl.set5_size]; exact hzr, Lib.hid (Hnext.out _ (Vl.set5 Hbox.out _ _ _ _ _) ((Vl.set5_rest _ _ _ _ _ _ _ _ (by omega)).trans Hres.out) (below_grownBy Hbel.out (Vl.set5_grown _ _ _ _ _ _ _) (Nat.le_refl _) (by omega)))⟩, by simp [intOf]; omega⟩
      · obtain rfl : kk = n := by omega
        have hfx : Vl.find x path = some y := by rw [heq, HN.out, List.drop_length, Vl.find]
        have hTe := Lib.hid (HT3.out y hfx)
        have hcp := Lib.hid (copied_any (d + 1) y _ wr (hAy.below hbel) (Vl.few_of _ _ hok.1 hok.2))
        have Hbox := Lib.hid hbox
        have Hres := Lib.hid hres
        have Hbel := Lib.hid hbel
        clear hfx heq hok HB hAy HT2 HT3 hbox hres hbel
        generalize y.items.length = ni2 at *
        generalize y.names.length = nn2 at *
        generalize y.kind = k2 at *
        generalize y.text = t2 at *
        generalize y.num = i2 at *
        obtain ⟨m0, m1, m2, m3, m4⟩ := Vl.five_of Hbox.out
        go_wp2_with fail
        refine hcp.out.mono ?_
        rintro e w2 ⟨u, rfl, hoff, hb2⟩
        obtain ⟨k5, t5, i5, pi5, ni5, ci5, pn5, nn5, cn5, rfl⟩ := hoff.at.shape
        have Hoff := Lib.hid hoff
        have hs2 := hb2.size
        have hr2 := (hb2.block (w.heap.size + 1) (by omega)).trans Hres.out
        have HB2 := Lib.hid (Hbel.out.trans (hb2.mono (by omega)))
        have HR2 := Lib.hid hr2
        obtain ⟨r0, r1, r2, r3, r4⟩ := Vl.five_of hr2
        obtain ⟨n0, n1, n2, n3, n4⟩ := Vl.fiveF_of hr2
        clear m0 m1 m2 m3 m4 hoff hb2 hr2
        go_wp2_with fail
        refine bodyPost_ret (Vl.ret2 rfl _ _ (w.heap.size + 1) 26 _ _ rfl (Vl.set5 HR2.out _ _ _ _ _) Tryd.underlying26 rfl (by kernel_rfl)) rfl ?_
        rw [hTe.out]
        refine ⟨_, rfl, fun W' hW => Hoff.out W' (fun j h1 h2 h3 => (hW j (by omega) (by rw [Vl.set5_size]; exact h2) h3).trans (Vl.set5_rest _ _ _ _ _ _ _ j (by omega))), below_grownBy HB2.out (Vl.set5_grown _ _ _ _ _ _ _) (by omega) (by omega)⟩
end Go.Proofs.YtckcbdnlligndaaDoor
