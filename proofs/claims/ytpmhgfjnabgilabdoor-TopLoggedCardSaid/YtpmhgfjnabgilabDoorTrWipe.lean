
/-
  The walk of a region's own wiping: zero bytes written to the blocks that have others. Conditions: the region lies in a box of its own, within its device, which is right and has power.
-/
import Derived.Test.YtpmhgfjnabgilabDoorTrWrite
namespace Go.Proofs.YtpmhgfjnabgilabDoor
open Go.RowKit

theorem Tr.ba_ne {a b : ByteArray} (h : ¬ a = b) : (a == b) = false := by
  rcases a with ⟨x⟩
  rcases b with ⟨y⟩
  have h2 : ¬ x = y := fun e => h (by rw [e])
  exact (beq_eq_false_iff_ne (a := x) (b := y)).2 h2
theorem Tr.ba_nel {a b : ByteArray} (h : ¬ a = b) : (a.toList == b.toList) = false := by
  rw [beq_eq_false_iff_ne, ne_eq, ByteArray.toList_eq, ByteArray.toList_eq]
  intro e
  apply h
  rcases a with ⟨x⟩
  rcases b with ⟨y⟩
  simp only [] at e
  rw [Array.toList_inj.1 e]
theorem Tr.zeros_eq : Wp.B (List.replicate 64 0) = Wp.zeros := by rw [← Tr.zeros_data, Wp.B_of]
theorem Tr.wipes_step (d : Wp.Dev) (a : Int) (l : List ByteArray) (j : Nat) (hj : j < l.length) :
    Tr.wipes d a (l.drop j) = if l[j] = Wp.zeros then Tr.wipes d (a + 1) (l.drop (j + 1)) else if (Tr.writes d a [Wp.zeros]).2 = 0 then Tr.wipes (Tr.writes d a [Wp.zeros]).1 (a + 1) (l.drop (j + 1)) else Tr.writes d a [Wp.zeros] := by
  rw [List.drop_eq_getElem_cons hj, Tr.wipes]
  by_cases h : (d.write1 a Wp.zeros).2 = 0
  · have e : Tr.writes d a [Wp.zeros] = ((d.write1 a Wp.zeros).1, 0) := by simp only [Tr.writes]; rw [if_pos h]
    rw [e, if_pos h]
    rfl
  · have e : Tr.writes d a [Wp.zeros] = d.write1 a Wp.zeros := by simp only [Tr.writes]; rw [if_neg h]
    rw [e]
theorem Tr.wipes_end (d : Wp.Dev) (a : Int) (l : List ByteArray) (j : Nat) (hj : l.length ≤ j) : Tr.wipes d a (l.drop j) = (d, 0) := by
  rw [List.drop_of_length_le hj, Tr.wipes]
theorem Tr.good_writes {d : Wp.Dev} (h : Wp.Good d) (a : Int) (l : List ByteArray) : Wp.Good (Tr.writes d a l).1 := by
  induction l generalizing d a with
  | nil => exact h
  | cons b l ih =>
    unfold Tr.writes
    split
    · exact ih (h.write1 a b) (a + 1)
    · exact h.write1 a b
set_option maxRecDepth 100000 in
set_option maxHeartbeats 1000000 in
theorem regWipe_any (w : World) (g base : Nat) (pb : Option Addr) (cb : Nat) (pw : Option Addr) (cw : Nat) (d : Wp.Dev) (f k : Nat) (hb : Tr.Box w g pb cb pw cw d f k) (hg : Wp.Good d) (hbase : base ≤ g) (hd : d.dn = false) (hfk : f + k ≤ d.bl.length) :
    Calls Tryd.prog 41 #[.pointer (some ⟨g, 0, none⟩)] w
      fun e w' => e = .returned (.int .i64 (Tr.wipes d f (Tr.rgn d f k)).2) ∧ Tr.Wrote w w' g base (Tr.wipes d f (Tr.rgn d f k)).1 f k := by
  have hlt := hb.lt
  obtain ⟨⟨n1, _, _⟩, _, _⟩ := (Wp.Dev.ok_iff d).1 hg.ok
  have hrl : (Tr.rgn d f k).length = k := by unfold Tr.rgn; rw [List.length_take, List.length_drop, Tr.hasAll_length, Int.toNat_natCast, Int.toNat_natCast]; omega
  have hrs := Tr.rgn_size (d := d) (f := (f : Int)) (m := (k : Int)) hg.ok
  have hbk := fun w' (hw : Below w.heap.size w w') => regBlocks_any pb cb pw cw d f k w' (hb.2.below hw) hg.fits hg.ok hd hfk
  rw [hrl] at hbk
  have HBk := Lib.hid hbk
  have HB := Lib.hid hb
  have HG := Lib.hid hg
  have HS := Lib.hid hrs
  obtain ⟨T, hT⟩ : ∃ T, T = Tr.wipes d f (Tr.rgn d f k) := ⟨_, rfl⟩
  have HT := Lib.hid hT
  rw [← hT]
  generalize Tr.rgn d f k = R at *
  have HN := Lib.hid hrl
  have hk1 : k ≤ 4096 := by omega
  have hf1 : f ≤ 4096 := by omega
  clear hb hg hT hbk hrs hrl hd hfk
  obtain ⟨c0, c1, c2, c3, c4, c5, g0, g1, g2, g3⟩ := Wp.six_of HB.out.1
  go_enter Tryd.func41, Tryd.ntmps41
  go_wp2_with fail
  refine (rep_zeros 64 _ (by omega)).mono ?_
  rintro e w1 ⟨rfl, hb1⟩
  rw [Tr.zeros_eq]
  have hb1s := hb1.size
  have HB1 := Lib.hid (HB.out.below hb1)
  clear c0 c1 c2 c3 c4 c5 g0 g1 g2 g3
  obtain ⟨c0, c1, c2, c3, c4, c5, g0, g1, g2, g3⟩ := Wp.six_of HB1.out.1
  have hlt1 : g < w1.heap.size := by omega
  go_wp2_with fail
  refine (HBk.out _ hb1).mono ?_
  rintro e w2 ⟨p, c, rfl, _, ha, hb2⟩
  have hb2s := hb2.size
  have HA := Lib.hid ha
  have HB2 := Lib.hid (HB1.out.below hb2)
  have HNS := Lib.hid (fun x s => HB2.out.nostr x s)
  have HB12 := Lib.hid (hb1.trans (hb2.mono hb1s))
  have hlt2 : g < w2.heap.size := by omega
  clear c0 c1 c2 c3 c4 c5 g0 g1 g2 g3 ha hb1 hb2
  have hZ : Wp.zeros.size = 64 := Tr.zeros_size
  have hst := fun D (a : Int) j hj => Tr.wipes_step D a R j hj
  have hnd := fun D (a : Int) => Tr.wipes_end D a R k (by rw [HN.out]; exact Nat.le_refl _)
  have Hst := Lib.hid hst
  have Hnd := Lib.hid hnd
  clear hst hnd
  generalize Wp.zeros = Z at *
  have hG2 : g ≠ w2.heap.size := by omega
  go_wp2_with fail
  go_loopw [4, 5, 6, 13] (fun _ _ _ i wr => ∃ (j : Nat) (D : Wp.Dev) (pb2 : Option Addr) (cb2 : Nat) (pw2 : Option Addr) (cw2 : Nat), j ≤ k ∧ i = .int .i64 j ∧ Hid (Tr.Box wr g pb2 cb2 pw2 cw2 D f k) ∧ Hid (Wp.Good D) ∧ Hid (T = Tr.wipes D (f + j) (R.drop j)) ∧ Hid (∀ x, x < w2.heap.size → x ≠ g → wr.heap[x]? = w2.heap[x]?) ∧ Below base w2 wr ∧ w2.heap.size ≤ wr.heap.size) (fun _ _ _ i _ => k - (intOf i).toNat)
  case atStart => exact ⟨0, d, pb, cb, pw, cw, Nat.zero_le _, rfl, HB2, HG, Lib.hid (by rw [HT.out]; simp), Lib.hid (fun _ _ _ => rfl), Below.refl _ _, Nat.le_refl _⟩
  case round =>
    obtain ⟨j, D, pb2, cb2, pw2, cw2, hj, rfl, HBr, HGr, HTr, HR, hB, hsz⟩ := hrel
    have hgl : g < wr.heap.size := by omega
    have hfin : ∀ W, Tr.Wrote w2 W g base T.1 f k → Tr.Wrote w W g base T.1 f k := fun W h =>
      ⟨h.1, fun x h1 h2 => (h.2.1 x (by omega) h2).trans (HB12.out.block x h1), (HB12.out.mono (by omega)).trans h.2.2.1, by have := h.2.2.2; omega⟩
    have Hfin := Lib.hid hfin
    clear hfin
    by_cases hlt3 : j < k
    · have hjl : j < R.length := by rw [HN.out]; exact hlt3
      obtain ⟨b, off, rfl, hcell⟩ := (at_rest HA.out HNS.out HR.out).get j hjl
      rw [show Wp.mkT R[j] = Value.string R[j] from rfl] at hcell
      have hst := Hst.out D (f + j) j hjl
      have hsx := HS.out R[j] (List.getElem_mem _)
      generalize R[j] = x at hcell hst hsx
      by_cases hxz : x = Z
      · rw [if_pos hxz] at hst
        subst hxz
        have Hst2 := Lib.hid hst
        clear hst hjl
        go_wp2_with fail
        refine ⟨⟨j + 1, D, pb2, cb2, pw2, cw2, by omega, by go_num, HBr, HGr, Lib.hid ?_, HR, hB, hsz⟩, by simp [intOf]; omega⟩
        rw [HTr.out, Hst2.out, show (f : Int) + ((j + 1 : Nat) : Int) = f + j + 1 by omega]
      · rw [if_neg hxz] at hst
        have hxn := Tr.ba_ne hxz
        have hxn2 := Tr.ba_nel hxz
        have Hst2 := Lib.hid hst
        clear hst hjl hxz
        have hBs := hB.size
        have hrw := regWrite_any (wr.alloc (.cells #[.string Z] 9)) g base pb2 cb2 pw2 cw2 D f k j (some ⟨wr.heap.size, 0, none⟩) 1 [Z] (HBr.out.below ((Below.refl _ _).alloc (Nat.le_refl _) _)) HGr.out hbase
          (Or.inr ⟨wr.heap.size, 0, rfl, fun i hi => by
            have hi0 : i = 0 := by simp at hi; omega
            subst hi0
            rw [Lib.cell_of_heap (alloc_new _ _)]; rfl⟩) (by simp) (by simpa using hZ) (by omega) (by omega) (by omega) (by omega)
        have hgw := Tr.good_writes HGr.out ((f : Int) + j) [Z]
        obtain ⟨⟨D3, e3⟩, hD3⟩ : ∃ y, y = Tr.writes D ((f : Int) + j) [Z] := ⟨_, rfl⟩
        rw [← hD3] at hrw Hst2 hgw
        simp only [] at hrw hgw
        have Hrw := Lib.hid hrw
        have Hgw := Lib.hid hgw
        clear hrw hgw hD3
        have hpost : ∀ W, Tr.Wrote (wr.alloc (.cells #[.string Z] 9)) W g base D3 f k → (∀ x, x < w2.heap.size → x ≠ g → W.heap[x]? = w2.heap[x]?) ∧ Below base w2 W ∧ w2.heap.size ≤ W.heap.size := by
          intro W h
          refine ⟨fun x h1 h2 => ((h.2.1 x (by rw [World.size_alloc]; omega) h2).trans (alloc_past _ _ _ (by omega))).trans (HR.out x h1 h2), (hB.alloc (by omega) _).trans h.2.2.1, ?_⟩
          have := h.2.2.2
          rw [World.size_alloc] at this
          omega
        have Hpost := Lib.hid hpost
        clear hpost
        by_cases he : e3 = 0
        · subst he
          rw [if_pos rfl] at Hst2
          go_wp2_with fail
          refine Hrw.out.mono ?_
          rintro e w3 ⟨rfl, hwr⟩
          obtain ⟨h1, h2, h3⟩ := Hpost.out w3 hwr
          obtain ⟨⟨pb3, cb3, pw3, cw3, hbx⟩, _⟩ := hwr
          have Hbx := Lib.hid hbx
          have H1 := Lib.hid h1
          clear hbx h1
          go_wp2_with fail
          refine ⟨⟨j + 1, D3, pb3, cb3, pw3, cw3, by omega, by go_num, Hbx, Hgw, Lib.hid ?_, H1, h2, h3⟩, by simp [intOf]; omega⟩
          rw [HTr.out, Hst2.out, show (f : Int) + ((j + 1 : Nat) : Int) = f + j + 1 by omega]
        · have hb1 : (e3 != 0) = true := by rw [bne_iff_ne]; exact he
          rw [if_neg he] at Hst2
          have hT2 := HTr.out.trans Hst2.out
          have HT2 := Lib.hid hT2
          clear he hT2
          go_wp2_with fail
          refine Hrw.out.mono ?_
          rintro e w3 ⟨rfl, hwr⟩
          obtain ⟨h1, h2, h3⟩ := Hpost.out w3 hwr
          have Hwr := Lib.hid hwr
          have H1 := Lib.hid h1
          clear hwr h1
          go_wp2_with fail
          go_ret
          refine ⟨by rw [HT2.out]; rfl, Hfin.out _ ?_⟩
          rw [HT2.out]
          exact ⟨Hwr.out.1, H1.out, h2, h3⟩
    · obtain rfl : j = k := by omega
      have hT2 := HTr.out.trans (Hnd.out D _)
      have HT2 := Lib.hid hT2
      clear hT2
      go_wp2_with fail
      go_ret
      refine ⟨by rw [HT2.out]; rfl, Hfin.out _ ?_⟩
      rw [HT2.out]
      exact ⟨⟨_, _, _, _, HBr.out⟩, HR.out, hB, hsz⟩
end Go.Proofs.YtpmhgfjnabgilabDoor
