/-
  The walks of a device's own writing: spend, write. Conditions: the device lies in a box of its own.
  The walk of a device's own writing where nothing is written: the power is gone, there is no such block, the data are too long, too much waits. Conditions: the device lies in a box of its own.
  The walk of block.Write, at whatever device. Conditions: a device's lists and numbers, and the data, are of a size that a machine holds.
-/
import Derived.Test.YtpmhgfjnabgilabDoorCopied
import Derived.Deep.RegionHeld3
import Derived.Deep.AppendLies
import Derived.OwnWalk
namespace Go.Proofs.YtpmhgfjnabgilabDoor
open Go.RowKit

set_option maxRecDepth 100000 in
theorem ownsRow_at2 {w w' : World} {base : Nat} {e : TypeId} {size : Nat} {v : Value} {n : Nat} {xs : List Value} (h : w.ownsRow base e size v n xs) (hk : ∀ k, v.ownBlock = some k → w'.heap[k]? = w.heap[k]?) : w'.ownsRow base e size v n xs := by
  refine ⟨h.1, ?_⟩
  rcases h.2 with h0 | ⟨g, cap, cur, hv, hg, hc, rest⟩
  · exact Or.inl h0
  · exact Or.inr ⟨g, cap, cur, hv, hg, (hk g (by rw [hv]; rfl)).trans hc, rest⟩
/-- A device in a box. -/
def Wp.Box (w : World) (g : Nat) (vb vw : Value) (fu : Int) (dn : Bool) : Prop := w.heap[g]? = some (.cells #[vb, vw, .int .i64 fu, .bool dn] 82 (0, 0))
structure Wp.BoxF (w : World) (g : Nat) (vb vw : Value) (fu : Int) (dn : Bool) : Prop where
  c0 : w.cell? ⟨g, 0, none⟩ = some vb
  c1 : w.cell? ⟨g, 1, none⟩ = some vw
  c2 : w.cell? ⟨g, 2, none⟩ = some (.int .i64 fu)
  c3 : w.cell? ⟨g, 3, none⟩ = some (.bool dn)
  f0 : w.frozen? ⟨g, 0, none⟩ = false
  f1 : w.frozen? ⟨g, 1, none⟩ = false
  f2 : w.frozen? ⟨g, 2, none⟩ = false
  f3 : w.frozen? ⟨g, 3, none⟩ = false
set_option maxRecDepth 100000 in
theorem Wp.Box.facts {w : World} {g : Nat} {vb vw : Value} {fu : Int} {dn : Bool} (h : Wp.Box w g vb vw fu dn) : Wp.BoxF w g vb vw fu dn := by
  unfold Wp.Box at h
  exact ⟨by rw [Lib.cell_of_heap h]; rfl, by rw [Lib.cell_of_heap h]; rfl, by rw [Lib.cell_of_heap h]; rfl, by rw [Lib.cell_of_heap h]; rfl, by simp [World.frozen?, h], by simp [World.frozen?, h], by simp [World.frozen?, h], by simp [World.frozen?, h]⟩

set_option maxRecDepth 100000 in
theorem Wp.Box.lt {w : World} {g : Nat} {vb vw : Value} {fu : Int} {dn : Bool} (h : Wp.Box w g vb vw fu dn) : g < w.heap.size := (Array.getElem?_eq_some_iff.1 h).1
set_option maxRecDepth 100000 in
theorem Wp.Box.below {w w' : World} {g : Nat} {vb vw : Value} {fu : Int} {dn : Bool} (h : Wp.Box w g vb vw fu dn) (hb : Below w.heap.size w w') : Wp.Box w' g vb vw fu dn := (hb.block g h.lt).trans h
set_option maxRecDepth 100000 in
set_option maxHeartbeats 400000 in
theorem spend_zero (w : World) (g : Nat) (vb vw : Value) (dn : Bool) (h : Wp.Box w g vb vw 0 dn) :
    Calls Tryd.prog 69 #[.pointer (some ⟨g, 0, none⟩)] w fun e w' => e = .returned (.int .i64 9) ∧ w' = w.setCell ⟨g, 3, none⟩ (.bool true) := by
  obtain ⟨c0, c1, c2, c3, f0, f1, f2, f3⟩ := h.facts
  clear h
  go_enter Tryd.func69, Tryd.ntmps69
  go_wp2_with fail
  go_ret
  exact ⟨rfl, rfl⟩
set_option maxRecDepth 100000 in
set_option maxHeartbeats 400000 in
theorem spend_never (w : World) (g : Nat) (vb vw : Value) (dn : Bool) (h : Wp.Box w g vb vw (-1) dn) :
    Calls Tryd.prog 69 #[.pointer (some ⟨g, 0, none⟩)] w fun e w' => e = .returned (.int .i64 0) ∧ w' = w := by
  obtain ⟨c0, c1, c2, c3, f0, f1, f2, f3⟩ := h.facts
  clear h
  go_enter Tryd.func69, Tryd.ntmps69
  go_wp2_with fail
  go_ret
  exact ⟨rfl, rfl⟩
set_option maxRecDepth 100000 in
set_option maxHeartbeats 400000 in
theorem spend_some (w : World) (g : Nat) (vb vw : Value) (fu : Int) (dn : Bool) (h : Wp.Box w g vb vw fu dn) (h0 : 0 < fu) (h1 : fu ≤ 9223372036854775807) :
    Calls Tryd.prog 69 #[.pointer (some ⟨g, 0, none⟩)] w fun e w' => e = .returned (.int .i64 0) ∧ w' = w.setCell ⟨g, 2, none⟩ (.int .i64 (fu - 1)) := by
  obtain ⟨c0, c1, c2, c3, f0, f1, f2, f3⟩ := h.facts
  clear h
  have e0 : (fu == 0) = false := beq_eq_false_iff_ne.2 (by omega)
  have e1 : (fu == -1) = false := beq_eq_false_iff_ne.2 (by omega)
  go_enter Tryd.func69, Tryd.ntmps69
  go_wp2_with fail
  go_ret
  exact ⟨rfl, rfl⟩

/-- What of a device's box and of all else stands behind a call that works on it. -/
structure Wp.Worked (w w' : World) (g : Nat) (vb vw : Value) (fu : Int) (dn : Bool) : Prop where
  box : Wp.Box w' g vb vw fu dn
  below : Below g w w'
  size : w.heap.size = w'.heap.size
  rest : ∀ k, k ≠ g → w'.heap[k]? = w.heap[k]?
set_option maxRecDepth 100000 in
theorem spend_any (w : World) (g : Nat) (vb vw : Value) (d : Wp.Dev) (h : Wp.Box w g vb vw d.fu d.dn) (h0 : -1 ≤ d.fu) (h1 : d.fu ≤ 9223372036854775807) :
    Calls Tryd.prog 69 #[.pointer (some ⟨g, 0, none⟩)] w fun e w' => e = .returned (.int .i64 d.spend.2) ∧ Wp.Worked w w' g vb vw d.spend.1.fu d.spend.1.dn := by
  obtain ⟨bl, ws, fu, dn⟩ := d
  simp only [] at *
  unfold Wp.Dev.spend
  simp only []
  by_cases e0 : fu = 0
  · subst e0
    simp only [if_true]
    refine (spend_zero w g vb vw dn h).mono ?_
    rintro e w' ⟨rfl, rfl⟩
    exact ⟨rfl, Lib.heap_setCell_same (i := 3) h _, (Below.refl _ _).setCell (p := ⟨g, 3, none⟩) (Nat.le_refl _) _, by simp [World.setCell], fun k hk => Below.heap_setCell _ _ _ _ hk⟩
  · rw [if_neg e0]
    by_cases e1 : fu = -1
    · subst e1
      simp only [if_true]
      refine (spend_never w g vb vw dn h).mono ?_
      rintro e w' ⟨rfl, rfl⟩
      exact ⟨rfl, h, Below.refl _ _, rfl, fun k hk => rfl⟩
    · rw [if_neg e1]
      refine (spend_some w g vb vw fu dn h (by omega) h1).mono ?_
      rintro e w' ⟨rfl, rfl⟩
      exact ⟨rfl, Lib.heap_setCell_same (i := 2) h _, (Below.refl _ _).setCell (p := ⟨g, 2, none⟩) (Nat.le_refl _) _, by simp [World.setCell], fun k hk => Below.heap_setCell _ _ _ _ hk⟩

/-- What stands behind a write that waits: the box, the row of waits, and all else as it was. -/
structure Wp.Wrote (w w' : World) (g base : Nat) (vb vw : Value) (ws : List (Int × ByteArray)) (fu : Int) (dn : Bool) : Prop where
  wrote : ∃ vw', Wp.Box w' g vb vw' fu dn ∧ w'.ownsRow base 86 2 vw' ws.length (Wp.wcells ws)
  rest : ∀ k, k < w.heap.size → k ≠ g → vw.ownBlock ≠ some k → w'.heap[k]? = w.heap[k]?
  below : Below base w w'
set_option maxRecDepth 100000 in
theorem Wp.wcells_snoc (ws : List (Int × ByteArray)) (a : Int) (x : ByteArray) : Wp.wcells (ws ++ [(a, x)]) = Wp.wcells ws ++ [.int .i64 a, .string x] := by simp [Wp.wcells]
set_option maxRecDepth 100000 in
theorem wrote_end {w w3 w4 w5 w6 : World} {g base g2 cap : Nat} {vb vw : Value} {ws : List (Int × ByteArray)} {at_ : Int} {L : ByteArray} {fu fu' : Int} {dn dn' : Bool} {C : Array Value} {t : TypeId} (hbox : Wp.Box w3 g vb vw fu dn) (hb3 : Below w.heap.size w w3) (hg : g < w.heap.size) (hbg : base ≤ g) (hbase : base ≤ w.heap.size)
    (b4 : Below w3.drew.heap.size w3.drew w4) (hown : w5.ownsRow base 86 2 (.slice (some ⟨g2, 0, none⟩) (ws.length + 1) cap) (ws.length + 1) (Wp.wcells ws ++ [.int .i64 at_, .string L]))
    (hgrow : (w4.alloc (.cells C t)).grownBy w5 vw.ownBlock) (hgne : vw.ownBlock ≠ some g) (hrow : w.ownsRow base 86 2 vw ws.length (Wp.wcells ws)) (hat : vw.ownBlock = some g2 ∨ g2 = w4.heap.size + 1)
    (hw6 : ∀ vw2, Wp.Box (w5.setCell ⟨g, 1, none⟩ (.slice (some ⟨g2, 0, none⟩) (ws.length + 1) cap)) g vb vw2 fu dn → Wp.Worked (w5.setCell ⟨g, 1, none⟩ (.slice (some ⟨g2, 0, none⟩) (ws.length + 1) cap)) w6 g vb vw2 fu' dn') :
    Wp.Wrote w w6 g base vb vw (ws ++ [(at_, L)]) fu' dn' := by
  have s3 : w.heap.size ≤ w3.heap.size := hb3.size
  have s4 : w3.heap.size ≤ w4.heap.size := b4.size
  have hk5 : ∀ k, k < w.heap.size → vw.ownBlock ≠ some k → w5.heap[k]? = w.heap[k]? := fun k hk hne =>
    (hgrow.block k (by rw [World.size_alloc]; omega) (Ne.symm hne)).trans ((alloc_past _ _ _ (by omega)).trans ((b4.block k (by show k < w3.heap.size; omega)).trans (hb3.block k hk)))
  have hbox5 : Wp.Box w5 g vb vw fu dn := (hk5 g hg hgne).trans ((hb3.block g hg).symm.trans hbox)
  have hbox6 : Wp.Box (w5.setCell ⟨g, 1, none⟩ (.slice (some ⟨g2, 0, none⟩) (ws.length + 1) cap)) g vb (.slice (some ⟨g2, 0, none⟩) (ws.length + 1) cap) fu dn := Lib.heap_setCell_same (i := 1) hbox5 _
  obtain ⟨x1, x2, x3, x4⟩ := hw6 _ hbox6
  have hg2 : g2 ≠ g := by
    rcases hat with h | h
    · intro e; subst e; exact hgne h
    · omega
  refine ⟨⟨_, x1, ?_⟩, ?_, ?_⟩
  · rw [Wp.wcells_snoc, List.length_append, List.length_singleton]
    refine ownsRow_at2 hown ?_
    intro k hk
    have e : k = g2 := by simp [Value.ownBlock] at hk; exact hk.symm
    subst e
    exact (x4 k hg2).trans (Below.heap_setCell _ _ _ _ (by simpa using hg2))
  · intro k hk hkg hne
    exact (x4 k hkg).trans ((Below.heap_setCell _ _ _ _ (by simpa using hkg)).trans (hk5 k hk hne))
  · have h1 : Below base w w5 := ((((hb3.mono hbase).drew.trans (b4.mono (by show base ≤ w3.heap.size; omega))).alloc (by omega) _).grown hgrow (by rw [World.size_alloc]; omega) (fun k hk => by
      rcases hrow.2 with ⟨rfl, _⟩ | ⟨gg, cc, cur, rfl, hgg, _⟩
      · simp [Value.ownBlock] at hk
      · simp [Value.ownBlock] at hk; omega))
    exact (h1.setCell (p := ⟨g, 1, none⟩) hbg _).trans (x2.mono hbg)
set_option maxRecDepth 100000 in
set_option maxHeartbeats 1000000 in
/-- write, where it waits. -/
theorem write_waits (w : World) (g : Nat) (vb vw : Value) (d : Wp.Dev) (at_ : Int) (data : ByteArray) (h : Wp.Box w g vb vw d.fu d.dn) (h0 : -1 ≤ d.fu) (h1 : d.fu ≤ 9223372036854775807)
    (hvb : ∃ p c, vb = .slice p d.bl.length c) (base : Nat) (hrow : w.ownsRow base 86 2 vw d.ws.length (Wp.wcells d.ws)) (hgne : vw.ownBlock ≠ some g) (hbase : base ≤ g) (hbl : d.bl.length ≤ 4096) (hws : d.ws.length < 4096)
    (hdn : d.dn = false) (ha0 : 0 ≤ at_) (ha1 : at_ < (d.bl.length : Int)) (hdata : data.size ≤ 64) :
    Calls Tryd.prog 95 #[.pointer (some ⟨g, 0, none⟩), .int .i64 at_, .string data] w fun e w' => e = .returned (.int .i64 d.spend.2) ∧ Wp.Wrote w w' g base vb vw (d.ws ++ [(at_, Wp.laid (Wp.B []) data data.size)]) d.spend.1.fu d.spend.1.dn := by
  obtain ⟨c0, c1, c2, c3, f0, f1, f2, f3⟩ := h.facts
  obtain ⟨pb, cb, rfl⟩ := hvb
  obtain ⟨pw, cw, rfl⟩ : ∃ p c, vw = .slice p d.ws.length c := by
    rcases hrow.2 with ⟨hv, hn⟩ | ⟨g, cap, cur, hv, _⟩
    · exact ⟨none, 0, by rw [hv, hn]⟩
    · exact ⟨_, _, hv⟩
  obtain ⟨bl, ws, fu, dn⟩ := d
  simp only [] at *
  subst hdn
  have Hrow := Lib.hid hrow
  have Hb := Lib.hid h
  have hglt : g < w.heap.size := h.lt
  have hsp := fun (w : World) (vw : Value) (hx : Wp.Box w g (.slice pb bl.length cb) vw fu false) => spend_any w g _ vw ⟨bl, ws, fu, false⟩ hx h0 h1
  obtain ⟨r, hr⟩ : ∃ r, r = (⟨bl, ws, fu, false⟩ : Wp.Dev).spend := ⟨_, rfl⟩
  rw [← hr] at hsp ⊢
  have Hsp := Lib.hid hsp
  clear hrow h hr hsp
  have hin : (decide (0 ≤ at_) && decide (at_ < (bl.length : Int))) = true := by rw [Bool.and_eq_true]; exact ⟨decide_eq_true ha0, decide_eq_true ha1⟩
  have hne : ((ws.length : Int) == 4096) = false := beq_eq_false_iff_ne.2 (by omega)
  go_enter Tryd.func95, Tryd.ntmps95
  go_wp2_with fail
  refine (holds_any _ _ _ _ _ _ _ _ _ _ (by omega)).mono ?_
  rintro e w3 ⟨rfl, hb3⟩
  rw [hin]
  have hb3' := Hb.out.below hb3
  have hr3 := Lib.hid (ownsRow_below Hrow.out hb3)
  clear c0 c1 c2 c3 f0 f1 f2 f3
  obtain ⟨c0, c1, c2, c3, f0, f1, f2, f3⟩ := hb3'.facts
  have Hb3 := Lib.hid hb3'
  clear hb3'
  have hlaid := fun w => laid_any (Wp.B []) data data.size w (Nat.le_refl _) hdata (by simp [Wp.B_size])
  rw [show Wp.B [] = ⟨#[]⟩ from rfl] at hlaid
  obtain ⟨L, hL⟩ : ∃ L, L = Wp.laid ⟨#[]⟩ data data.size := ⟨_, rfl⟩
  rw [← hL] at hlaid
  have HL := Lib.hid hL
  clear hL
  go_wp2_with fail
  obtain ⟨iw, hiw, hiw0, hiw1, hiw2⟩ := infoWait_some
  have hg3 : g < w3.heap.size := by have := Hb3.out.lt; exact this
  have hs3 : w.heap.size ≤ w3.heap.size := hb3.size
  have hd3 : base ≤ w3.heap.size := by omega
  have hbase' : base ≤ w.heap.size := by omega
  go_region_law
    (first
      | (refine step_append_lies _ (by rfl) _ _ _ (by rfl) base 86 iw _ 2 24 Tryd.underlying36 hiw hiw0 hiw1 hiw2 rfl (by omega) (.slice pw ws.length cw) ws.length (Wp.wcells ws) (by rfl) ((ownsRow_below (w := w3.drew) hr3.out b4).alloc _)
             ⟨w4.heap.size, 0, none⟩ 1 1 [.int .i64 at_, .string L] (by rfl) (by rfl) (World.news_of_block (cs := #[.int .i64 at_, .string L]) (t := 86) (fr := (0, 0)) (heap_alloc_new w4 _)) (by simp [Value.oneCell'])
             (by omega) (by unfold maxLen; omega) (by omega) (by simp; have := b4.size; simp at this; omega) (w4.heap.size + 1) (by simp) ?_; intro g2 cap w5 hown5 hgrow hat5 hlt5; have k3 := (hgrow.cell_far ⟨g, 1, none⟩ (by simp; omega) (Ne.symm hgne)).trans (Lib.cell?_alloc_some _ k1); have k4 := (hgrow.frozen_far ⟨g, 1, none⟩ (by simp; omega) (Ne.symm hgne)).trans ((RowKit.frozen?_alloc_cells _ _ _ _).trans k2); have Hown5 := Lib.hid hown5; have Hgrow := Lib.hid hgrow; have Hat5 := Lib.hid hat5; clear hown5 hgrow hat5)
      | (go_simp; (with_reducible refine (hlaid _).mono ?_); rintro e w4 ⟨rfl, b4⟩; have k1 := (b4.cell (p := ⟨g, 1, none⟩) (by simp; omega)).trans c1; have k2 := (b4.frozen (p := ⟨g, 1, none⟩) (by simp; omega)).trans f1; have k0 : g < w4.heap.size := (by have := b4.size; first | omega | (simp at this; omega))))
  all_goals (
    have hbx6 : Wp.Box (w5.setCell ⟨g, 1, none⟩ (.slice (some ⟨g2, 0, none⟩) (ws.length + 1) cap)) g (.slice pb bl.length cb) (.slice (some ⟨g2, 0, none⟩) (ws.length + 1) cap) fu false := Lib.heap_setCell_same (i := 1) ((Hgrow.out.block g (by rw [World.size_alloc]; omega) (Ne.symm hgne)).trans ((alloc_past _ _ _ k0).trans ((b4.block g (by show g < w3.heap.size; omega)).trans Hb3.out))) _
    go_wp2_with fail
    refine (Hsp.out _ _ hbx6).mono ?_
    rintro e w6 ⟨rfl, hw6⟩
    go_wp2_with fail
    go_ret
    refine ⟨rfl, ?_⟩
    rw [show (Wp.B []) = ⟨#[]⟩ from rfl, ← HL.out]
    exact wrote_end Hb3.out hb3 hglt hbase (by omega) b4 Hown5.out Hgrow.out hgne Hrow.out Hat5.out (fun vw2 hb2 => by
      have e : vw2 = .slice (some ⟨g2, 0, none⟩) (ws.length + 1) cap := by
        have := hb2.symm.trans hbx6
        simpa using this
      subst e
      exact hw6))
end Go.Proofs.YtpmhgfjnabgilabDoor
namespace Go.Proofs.YtpmhgfjnabgilabDoor
open Go.RowKit

/-- What is answered of a write that writes nothing; 0: it waits. -/
def Wp.Dev.writeNo (d : Wp.Dev) (at_ : Int) (n : Nat) : Int := if d.dn then 9 else if Wp.inside d at_ = false then 1 else if 64 < n then 12 else if d.ws.length = 4096 then 8 else 0
set_option maxRecDepth 100000 in
theorem Wp.write1_no (d : Wp.Dev) (at_ : Int) (data : ByteArray) (h : d.writeNo at_ data.size ≠ 0) : d.write1 at_ data = (d, d.writeNo at_ data.size) := by
  unfold Wp.Dev.writeNo at h ⊢
  unfold Wp.Dev.write1
  split
  · rfl
  · split
    · rfl
    · split
      · rfl
      · split
        · rfl
        · rename_i h1 h2 h3 h4
          simp [h1, h2, h3, h4] at h
set_option maxRecDepth 100000 in
theorem Wp.write1_yes (d : Wp.Dev) (at_ : Int) (data : ByteArray) (h : d.writeNo at_ data.size = 0) : d.dn = false ∧ 0 ≤ at_ ∧ at_ < (d.bl.length : Int) ∧ data.size ≤ 64 ∧ d.ws.length ≠ 4096 ∧ d.write1 at_ data = Wp.Dev.spend { d with ws := d.ws ++ [(at_, Wp.laid (Wp.B []) data data.size)] } := by
  unfold Wp.Dev.writeNo at h
  unfold Wp.Dev.write1
  split at h
  · simp at h
  · split at h
    · simp at h
    · split at h
      · simp at h
      · split at h
        · simp at h
        · rename_i h1 h2 h3 h4
          rw [if_neg h1, if_neg h2, if_neg h3, if_neg h4]
          simp only [Wp.inside, Bool.not_eq_false, Bool.and_eq_true, decide_eq_true_eq] at h2
          exact ⟨by simpa using h1, h2.1, h2.2, by omega, h4, rfl⟩

set_option maxRecDepth 100000 in
set_option maxHeartbeats 1000000 in
theorem write_no (w : World) (g : Nat) (vb vw : Value) (d : Wp.Dev) (at_ : Int) (data : ByteArray) (h : Wp.Box w g vb vw d.fu d.dn)
    (hvb : ∃ p c, vb = .slice p d.bl.length c) (hvw : ∃ p c, vw = .slice p d.ws.length c) (hbl : d.bl.length ≤ 4096) (hws : d.ws.length ≤ 4096) (hdata : data.size ≤ 9223372036854775807) (hno : d.writeNo at_ data.size ≠ 0) :
    Calls Tryd.prog 95 #[.pointer (some ⟨g, 0, none⟩), .int .i64 at_, .string data] w fun e w' => e = .returned (.int .i64 (d.writeNo at_ data.size)) ∧ Below w.heap.size w w' := by
  obtain ⟨pb, cb, rfl⟩ := hvb
  obtain ⟨pw, cw, rfl⟩ := hvw
  obtain ⟨bl, ws, fu, dn⟩ := d
  simp only [Wp.Dev.writeNo] at *
  obtain ⟨c0, c1, c2, c3, f0, f1, f2, f3⟩ := h.facts
  have Hb := Lib.hid h
  clear h
  cases dn with
  | true =>
    simp only [if_true] at *
    go_enter Tryd.func95, Tryd.ntmps95
    go_wp2_with fail
    go_ret
    exact ⟨rfl, Below.refl _ _⟩
  | false =>
    simp only [Bool.false_eq_true, if_false] at *
    cases hin : (decide (0 ≤ at_) && decide (at_ < (bl.length : Int))) with
    | false =>
      have hin2 : Wp.inside ⟨bl, ws, fu, false⟩ at_ = false := hin
      rw [if_pos hin2]
      clear hno hin2
      go_enter Tryd.func95, Tryd.ntmps95
      go_wp2_with fail
      refine (holds_any _ _ _ _ _ _ _ _ _ _ (by omega)).mono ?_
      rintro e w3 ⟨rfl, hb3⟩
      rw [hin]
      go_wp2_with fail
      go_ret
      exact ⟨rfl, hb3⟩
    | true =>
      have hin2 : ¬ Wp.inside ⟨bl, ws, fu, false⟩ at_ = false := by rw [show Wp.inside ⟨bl, ws, fu, false⟩ at_ = true from hin]; simp
      rw [if_neg hin2] at hno ⊢
      clear hin2
      by_cases hl : 64 < data.size
      · rw [if_pos hl]
        clear hno
        go_enter Tryd.func95, Tryd.ntmps95
        go_wp2_with fail
        refine (holds_any _ _ _ _ _ _ _ _ _ _ (by omega)).mono ?_
        rintro e w3 ⟨rfl, hb3⟩
        rw [hin]
        go_wp2_with fail
        go_ret
        exact ⟨rfl, hb3⟩
      · rw [if_neg hl] at hno ⊢
        by_cases hf : ws.length = 4096
        · rw [if_pos hf]
          clear hno
          have hq : ((ws.length : Int) == 4096) = true := beq_iff_eq.2 (by omega)
          have hl' : ¬ (64 : Int) < (data.size : Int) := by omega
          clear hf
          go_enter Tryd.func95, Tryd.ntmps95
          go_wp2_with fail
          refine (holds_any _ _ _ _ _ _ _ _ _ _ (by omega)).mono ?_
          rintro e w3 ⟨rfl, hb3⟩
          rw [hin]
          obtain ⟨d0, d1, d2, d3, _, _, _, _⟩ := (Hb.out.below hb3).facts
          go_wp2_with fail
          go_ret
          exact ⟨rfl, hb3⟩
        · rw [if_neg hf] at hno
          exact absurd rfl hno
end Go.Proofs.YtpmhgfjnabgilabDoor
namespace Go.Proofs.YtpmhgfjnabgilabDoor
open Go.RowKit

set_option maxRecDepth 100000 in
theorem Wp.Dev.Fits_ok {d : Wp.Dev} (h : d.ok = true) : (d.bl.length ≤ 4096 ∧ d.ws.length ≤ 4096 ∧ -1 ≤ d.fu) ∧ (∀ x ∈ d.bl, x.size ≤ 64) ∧ ∀ x ∈ d.ws, x.2.size ≤ 64 := by
  obtain ⟨h1, h2, h3⟩ := (Wp.Dev.ok_iff d).1 h
  exact ⟨h1, fun x hx => by rw [h2 x hx]; omega, fun x hx => by rw [(h3 x hx).2.2]; omega⟩
set_option maxRecDepth 100000 in
/-- A row of waits reads as the list of them. -/
theorem owns_atW {w : World} {base : Nat} {e : TypeId} {v : Value} {l : List (Int × ByteArray)} (h : w.ownsRow base e 2 v l.length (Wp.wcells l)) :
    ∃ p c, v = .slice p l.length c ∧ Wp.AtW w p l := by
  rcases h.2 with ⟨hv, h0⟩ | ⟨g, cap, cur, hv, hg, hc, hn, hm, hs, ht⟩
  · exact ⟨none, 0, by rw [hv, h0], Or.inl (List.length_eq_zero_iff.1 h0)⟩
  · refine ⟨some ⟨g, 0, none⟩, cap, hv, Or.inr ⟨g, 0, rfl, fun i hi => ?_⟩⟩
    have key : ∀ j v, j < l.length * 2 → (Wp.wcells l)[j]? = some v → w.cell? ⟨g, 0 + j, none⟩ = some v := by
      intro j v hj hv
      rw [Lib.cell_of_heap hc, Nat.zero_add, ← Array.getElem?_toList, ← List.getElem?_take_of_lt hj, ht]
      exact hv
    have hw := Wp.wcells_get l i hi
    refine ⟨?_, ?_⟩
    · exact key (i * 2) _ (by omega) hw.1
    · rw [Nat.add_assoc]
      exact key (i * 2 + 1) _ (by omega) hw.2
set_option maxRecDepth 100000 in
/-- A device whose two slices are rows of their own reads as that device. -/
theorem devAt_rows {w : World} {b1 b2 : Nat} {vb vw : Value} {d : Wp.Dev} (h1 : w.ownsRow b1 9 1 vb d.bl.length (d.bl.map Wp.mkT)) (h2 : w.ownsRow b2 86 2 vw d.ws.length (Wp.wcells d.ws)) :
    Wp.DevAt w (.agg #[vb, vw, .int .i64 d.fu, .bool d.dn]) d := by
  obtain ⟨p, c, rfl, ha⟩ := owns_at h1
  obtain ⟨q, c2, rfl, hw⟩ := owns_atW h2
  exact ⟨p, c, q, c2, rfl, ha, hw⟩
set_option maxRecDepth 100000 in
theorem alloc_nil_dev : Value.agg #[.slice none 0 0, .slice none 0 0, .int .i64 0, .bool false] = Wp.devV none 0 none 0 Wp.Dev.zero := rfl

set_option maxRecDepth 100000 in
/-- What the calls of block ask first, at a device's value, in whatever world behind this one. -/
theorem asks {w : World} {v : Value} {d : Wp.Dev} (hv : Wp.DevAt w v d) (hf : d.Fits) : ∃ pb cb pw cw, v = .agg #[.slice pb d.bl.length cb, .slice pw d.ws.length cw, .int .i64 d.fu, .bool d.dn] ∧
    (∀ w', Below w.heap.size w w' → Wp.DevAt w' (.agg #[.slice pb d.bl.length cb, .slice pw d.ws.length cw, .int .i64 d.fu, .bool d.dn]) d) ∧
    ∀ w', Below w.heap.size w w' → Calls Tryd.prog 36 #[.agg #[.slice pb d.bl.length cb, .slice pw d.ws.length cw, .int .i64 d.fu, .bool d.dn]] w' fun e w'' => e = .returned (.int .i64 d.chk) ∧ Below w'.heap.size w' w'' := by
  have hv2 := hv
  obtain ⟨pb, cb, pw, cw, rfl, h1, h2⟩ := hv2
  exact ⟨pb, cb, pw, cw, rfl, fun w' hb => hv.below hb, fun w' hb => check_any _ d w' (hv.below hb) hf⟩

structure Wp.Four (w : World) (g : Nat) (a b c d : Value) : Prop where
  c0 : w.cell? ⟨g, 0, none⟩ = some a
  c1 : w.cell? ⟨g, 1, none⟩ = some b
  c2 : w.cell? ⟨g, 2, none⟩ = some c
  c3 : w.cell? ⟨g, 3, none⟩ = some d
  f0 : w.frozen? ⟨g, 0, none⟩ = false
  f1 : w.frozen? ⟨g, 1, none⟩ = false
  f2 : w.frozen? ⟨g, 2, none⟩ = false
  f3 : w.frozen? ⟨g, 3, none⟩ = false
set_option maxRecDepth 100000 in
theorem Wp.four_of {w : World} {g : Nat} {a b c d : Value} {t : TypeId} (h : w.heap[g]? = some (.cells #[a, b, c, d] t (0, 0))) : Wp.Four w g a b c d :=
  ⟨by rw [Lib.cell_of_heap h]; rfl, by rw [Lib.cell_of_heap h]; rfl, by rw [Lib.cell_of_heap h]; rfl, by rw [Lib.cell_of_heap h]; rfl, by simp [World.frozen?, h], by simp [World.frozen?, h], by simp [World.frozen?, h], by simp [World.frozen?, h]⟩
set_option maxRecDepth 100000 in
/-- The two boxes that a call begins with: its device, and its result. -/
theorem two_boxes (w : World) (C0 C1 : Array Value) (t0 t1 : TypeId) : ((w.alloc (.cells C0 t0)).alloc (.cells C1 t1)).heap.size = w.heap.size + 2 ∧ Below w.heap.size w ((w.alloc (.cells C0 t0)).alloc (.cells C1 t1)) ∧
    ((w.alloc (.cells C0 t0)).alloc (.cells C1 t1)).heap[w.heap.size]? = some (.cells C0 t0 (0, 0)) ∧ ((w.alloc (.cells C0 t0)).alloc (.cells C1 t1)).heap[w.heap.size + 1]? = some (.cells C1 t1 (0, 0)) :=
  ⟨by rw [World.size_alloc, World.size_alloc], ((Below.refl _ _).alloc (Nat.le_refl _) _).alloc (by simp) _, by rw [alloc_past _ _ _ (by simp), alloc_new], alloc_at _ _ _ (by simp)⟩
set_option maxRecDepth 100000 in
/-- Two results, the first of a struct's type and in a box. -/
theorem ret_cell2 {P : Program} {fn : Func} {p u : Tmp} {ty : TypeId} (h : fn.results = #[.cell p ty, .tmp u]) (tmps : Array Value) (w : World) (g : Nat) (t : TypeId) (cs : Array Value) (d : TypeDesc) (hp : tmps.getD p undef = .pointer (some ⟨g, 0, none⟩))
    (hg : w.heap[g]? = some (.cells cs t (0, 0))) (hu : P.underlying ty = some d) (hd : (match d with | .struct _ | .array _ _ => true | _ => false) = true) (hi : (P.info? ty).map (·.size) = some cs.size) :
    (results fn tmps).run P w = .ok (.tuple #[.agg cs, tmps.getD u undef]) w := by
  have hl := run_loadVar_row w g t ty cs (0, 0) d hg hu hd hi
  have ha : (asAddr (tmps.getD p undef)).run P w = .ok ⟨g, 0, none⟩ w := by rw [hp]; rfl
  rw [results_cell_tmp h, ha, Result.andThen_ok, hl, Result.andThen_ok]
set_option maxRecDepth 100000 in
/-- Storing a device into a box of four cells. -/
theorem four_set {w : World} {g : Nat} {a b c d : Value} {t : TypeId} (h : w.heap[g]? = some (.cells #[a, b, c, d] t (0, 0))) (x y z u : Value) :
    ((((w.setCell ⟨g, 0, none⟩ x).setCell ⟨g, 1, none⟩ y).setCell ⟨g, 2, none⟩ z).setCell ⟨g, 3, none⟩ u).heap[g]? = some (.cells #[x, y, z, u] t (0, 0)) :=
  (Lib.heap_setCell_same (i := 3) (Lib.heap_setCell_same (i := 2) (Lib.heap_setCell_same (i := 1) (Lib.heap_setCell_same (i := 0) h x) y) z) u).trans rfl
set_option maxRecDepth 100000 in
theorem four_rest (w : World) (g : Nat) (x y z u : Value) (k : Nat) (hk : k ≠ g) : ((((w.setCell ⟨g, 0, none⟩ x).setCell ⟨g, 1, none⟩ y).setCell ⟨g, 2, none⟩ z).setCell ⟨g, 3, none⟩ u).heap[k]? = w.heap[k]? := by
  rw [Below.heap_setCell _ _ _ _ (by simpa using hk), Below.heap_setCell _ _ _ _ (by simpa using hk), Below.heap_setCell _ _ _ _ (by simpa using hk), Below.heap_setCell _ _ _ _ (by simpa using hk)]
set_option maxRecDepth 100000 in
theorem four_below {w0 w : World} {B g : Nat} (h : Below B w0 w) (hg : B ≤ g) (x y z u : Value) : Below B w0 ((((w.setCell ⟨g, 0, none⟩ x).setCell ⟨g, 1, none⟩ y).setCell ⟨g, 2, none⟩ z).setCell ⟨g, 3, none⟩ u) :=
  (((h.setCell (p := ⟨g, 0, none⟩) hg x).setCell (p := ⟨g, 1, none⟩) hg y).setCell (p := ⟨g, 2, none⟩) hg z).setCell (p := ⟨g, 3, none⟩) hg u

set_option maxRecDepth 100000 in
set_option maxHeartbeats 1000000 in
/-- Write, of a device that is not right. -/
theorem Write_bad (v : Value) (d : Wp.Dev) (at_ : Int) (data : ByteArray) (w : World) (hv : Wp.DevAt w v d) (hf : d.Fits) (hok : d.ok = false) :
    Calls Tryd.prog 66 #[v, .int .i64 at_, .string data] w fun e w' => ∃ v', e = .returned (.tuple #[v', .int .i64 2]) ∧ Wp.DevAt w' v' Wp.Dev.zero ∧ Below w.heap.size w w' := by
  obtain ⟨pb, cb, pw, cw, rfl, _, hc⟩ := asks hv hf
  rw [Wp.Dev.chk_bad hok] at hc
  have Hc := Lib.hid hc
  clear hv hf hok hc
  obtain ⟨bl, ws, fu, dn⟩ := d
  simp only [] at Hc
  obtain ⟨s2, b2, x2, y2⟩ := two_boxes w #[.slice pb bl.length cb, .slice pw ws.length cw, .int .i64 fu, .bool dn] #[.slice none 0 0, .slice none 0 0, .int .i64 0, .bool false] 38 38
  have Y2 := Lib.hid y2
  have B2 := Lib.hid b2
  clear x2 y2 b2
  go_enter Tryd.func66, Tryd.ntmps66
  go_wp2_with fail
  refine (Hc.out _ B2.out).mono ?_
  rintro e w1 ⟨rfl, hb1⟩
  rw [s2] at hb1
  have hy := (hb1.block (w.heap.size + 1) (by omega)).trans Y2.out
  obtain ⟨c0, c1, c2, c3, f0, f1, f2, f3⟩ := Wp.four_of hy
  have Hy := Lib.hid hy
  clear hy
  go_wp2_with fail
  refine bodyPost_ret (ret_cell2 rfl _ _ (w.heap.size + 1) 38 _ _ rfl (four_set Hy.out _ _ _ _) Tryd.underlying38 rfl (by kernel_rfl)) rfl ?_
  exact ⟨_, rfl, Wp.DevAt.zero _, four_below (B2.out.trans (hb1.mono (by omega))) (by omega) _ _ _ _⟩
set_option maxRecDepth 100000 in
theorem spend_lists (d : Wp.Dev) : d.spend.1.bl = d.bl ∧ d.spend.1.ws = d.ws := by
  unfold Wp.Dev.spend
  split
  · exact ⟨rfl, rfl⟩
  · split <;> exact ⟨rfl, rfl⟩
set_option maxRecDepth 100000 in
theorem spend_same (d : Wp.Dev) (ws : List (Int × ByteArray)) : ({ d with ws := ws } : Wp.Dev).spend.2 = d.spend.2 ∧ ({ d with ws := ws } : Wp.Dev).spend.1.fu = d.spend.1.fu ∧ ({ d with ws := ws } : Wp.Dev).spend.1.dn = d.spend.1.dn := by
  unfold Wp.Dev.spend
  by_cases h0 : d.fu = 0
  · simp [h0]
  · by_cases h1 : d.fu = -1
    · simp [h1]
    · simp [h0, h1]
/-- What stands behind a device's own writing, whatever is written. -/
structure Wp.Wrote2 (w w' : World) (g base : Nat) (vb vw : Value) (d : Wp.Dev) : Prop where
  wrote : ∃ vw', Wp.Box w' g vb vw' d.fu d.dn ∧ w'.ownsRow base 9 1 vb d.bl.length (d.bl.map Wp.mkT) ∧ w'.ownsRow base 86 2 vw' d.ws.length (Wp.wcells d.ws)
  rest : ∀ k, k < w.heap.size → k ≠ g → vw.ownBlock ≠ some k → w'.heap[k]? = w.heap[k]?
  below : Below base w w'
set_option maxRecDepth 100000 in
theorem write_any (w : World) (g base : Nat) (vb vw : Value) (d : Wp.Dev) (at_ : Int) (data : ByteArray) (h : Wp.Box w g vb vw d.fu d.dn) (h0 : -1 ≤ d.fu) (h1 : d.fu ≤ 9223372036854775807)
    (hob : w.ownsRow base 9 1 vb d.bl.length (d.bl.map Wp.mkT)) (how : w.ownsRow base 86 2 vw d.ws.length (Wp.wcells d.ws)) (_hne : vw.ownBlock ≠ none) (hnb : vb.ownBlock ≠ vw.ownBlock) (hg1 : vb.ownBlock ≠ some g) (hg2 : vw.ownBlock ≠ some g)
    (hbase : base ≤ g) (hbl : d.bl.length ≤ 4096) (hws : d.ws.length ≤ 4096) (hdata : data.size ≤ 9223372036854775807) :
    Calls Tryd.prog 95 #[.pointer (some ⟨g, 0, none⟩), .int .i64 at_, .string data] w fun e w' => e = .returned (.int .i64 (d.write1 at_ data).2) ∧ Wp.Wrote2 w w' g base vb vw (d.write1 at_ data).1 := by
  have hvb : ∃ p c, vb = .slice p d.bl.length c := by
    obtain ⟨p5, c5, h5, _⟩ := owns_at hob
    exact ⟨p5, c5, h5⟩
  have hvw : ∃ p c, vw = .slice p d.ws.length c := by
    obtain ⟨p5, c5, h5, _⟩ := owns_atW how
    exact ⟨p5, c5, h5⟩
  have hlt : ∀ k, vb.ownBlock = some k → k < w.heap.size := fun k hk => (hob.lt k hk).2
  by_cases hno : d.writeNo at_ data.size = 0
  · obtain ⟨y1, y2, y3, y4, y5, y6⟩ := Wp.write1_yes d at_ data hno
    refine (write_waits w g vb vw d at_ data h h0 h1 hvb base how hg2 hbase hbl (by omega) y1 y2 y3 y4).mono ?_
    rintro e w' ⟨rfl, hw⟩
    rw [y6]
    have e2 := spend_same d (d.ws ++ [(at_, Wp.laid (Wp.B []) data data.size)])
    have e1 := spend_lists { d with ws := d.ws ++ [(at_, Wp.laid (Wp.B []) data data.size)] }
    refine ⟨?_, ?_, hw.rest, hw.below⟩
    · rw [e2.1]
    · obtain ⟨vw', a1, a2⟩ := hw.wrote
      refine ⟨vw', ?_, ?_, ?_⟩
      · rw [e2.2.1, e2.2.2]; exact a1
      · rw [e1.1]
        refine ownsRow_at2 hob (fun k hk => hw.rest k (hlt k hk) ?_ ?_)
        · intro e; subst e; exact hg1 hk
        · intro e; exact hnb (hk.trans e.symm)
      · rw [e1.2]; exact a2
  · refine (write_no w g vb vw d at_ data h hvb hvw hbl hws hdata hno).mono ?_
    rintro e w' ⟨rfl, hb⟩
    rw [Wp.write1_no d at_ data hno]
    exact ⟨rfl, ⟨vw, h.below hb, ownsRow_below hob hb, ownsRow_below how hb⟩, fun k hk _ _ => hb.block k hk, hb.mono (by have := h.lt; omega)⟩

theorem owns_low {w : World} {b b0 : Nat} {e : TypeId} {size : Nat} {v : Value} {n : Nat} {xs : List Value} (h : w.ownsRow b e size v n xs) (hb : b0 ≤ b) : w.ownsRow b0 e size v n xs := by
  refine ⟨h.1, ?_⟩
  rcases h.2 with h0 | ⟨g, cap, cur, hv, hg, rest⟩
  · exact Or.inl h0
  · exact Or.inr ⟨g, cap, cur, hv, Nat.le_trans hb hg, rest⟩
/-- A device's value whose lists lie in memory of their own, from a block on. -/
def Wp.OwnDev (w : World) (base : Nat) (v : Value) (d : Wp.Dev) : Prop :=
  ∃ vb vw, v = .agg #[vb, vw, .int .i64 d.fu, .bool d.dn] ∧ w.ownsRow base 9 1 vb d.bl.length (d.bl.map Wp.mkT) ∧ w.ownsRow base 86 2 vw d.ws.length (Wp.wcells d.ws)
theorem Wp.OwnDev.devAt {w : World} {base : Nat} {v : Value} {d : Wp.Dev} (h : Wp.OwnDev w base v d) : Wp.DevAt w v d := by
  obtain ⟨vb, vw, rfl, h1, h2⟩ := h
  exact devAt_rows h1 h2
theorem Wp.OwnDev.low {w : World} {base b0 : Nat} {v : Value} {d : Wp.Dev} (h : Wp.OwnDev w base v d) (hb : b0 ≤ base) : Wp.OwnDev w b0 v d := by
  obtain ⟨vb, vw, rfl, h1, h2⟩ := h
  exact ⟨vb, vw, rfl, owns_low h1 hb, owns_low h2 hb⟩
/-- It reads as it did where nothing from that block on has turned. -/
theorem Wp.OwnDev.rest {w w' : World} {base : Nat} {v : Value} {d : Wp.Dev} (h : Wp.OwnDev w base v d) (hk : ∀ k, base ≤ k → k < w.heap.size → w'.heap[k]? = w.heap[k]?) : Wp.OwnDev w' base v d := by
  obtain ⟨vb, vw, rfl, h1, h2⟩ := h
  exact ⟨vb, vw, rfl, ownsRow_at2 h1 (fun k e => hk k (h1.lt k e).1 (h1.lt k e).2), ownsRow_at2 h2 (fun k e => hk k (h2.lt k e).1 (h2.lt k e).2)⟩
set_option maxRecDepth 100000 in
set_option maxHeartbeats 1000000 in
/-- Write, of a device that is right. -/
theorem Write_okf (v : Value) (d : Wp.Dev) (at_ : Int) (data : ByteArray) (w : World) (hv : Wp.DevAt w v d) (hf : d.Fits) (hok : d.ok = true) (hdata : data.size ≤ 9223372036854775807) :
    Calls Tryd.prog 66 #[v, .int .i64 at_, .string data] w fun e w' => ∃ v', e = .returned (.tuple #[v', .int .i64 (d.write1 at_ data).2]) ∧ Wp.OwnDev w' w.heap.size v' (d.write1 at_ data).1 ∧ Below w.heap.size w w' := by
  obtain ⟨⟨n1, n2, n3⟩, n4, n5⟩ := Wp.Dev.Fits_ok hok
  have n6 := hf.fu.2
  obtain ⟨pb, cb, pw, cw, rfl, hv2, hc⟩ := asks hv hf
  rw [Wp.Dev.chk_ok hok] at hc
  have hcp := fun (w' : World) (hb : Below w.heap.size w w') => copied_any _ d w' (hv2 w' hb) n1 n2 n4 n5
  have Hcp := Lib.hid hcp
  have Hc := Lib.hid hc
  clear hcp hc hv hf n4 n5 hv2 hok
  obtain ⟨bl, ws, fu, dn⟩ := d
  simp only [] at Hc Hcp n1 n2 n3 n6
  obtain ⟨r, hr⟩ : ∃ r, r = (⟨bl, ws, fu, dn⟩ : Wp.Dev).write1 at_ data := ⟨_, rfl⟩
  rw [← hr]
  have HR := Lib.hid hr
  clear hr
  obtain ⟨s2, b2, x2, y2⟩ := two_boxes w #[.slice pb bl.length cb, .slice pw ws.length cw, .int .i64 fu, .bool dn] #[.slice none 0 0, .slice none 0 0, .int .i64 0, .bool false] 38 38
  have X2 := Lib.hid x2
  have Y2 := Lib.hid y2
  have B2 := Lib.hid b2
  clear x2 y2 b2
  go_enter Tryd.func66, Tryd.ntmps66
  go_wp2_with fail
  refine (Hc.out _ B2.out).mono ?_
  rintro e w1 ⟨rfl, hb1⟩
  rw [s2] at hb1
  have hB1 := Lib.hid (B2.out.trans (hb1.mono (by omega)))
  have hx := (hb1.block w.heap.size (by omega)).trans X2.out
  have hy := (hb1.block (w.heap.size + 1) (by omega)).trans Y2.out
  have s3 : w.heap.size + 2 ≤ w1.heap.size := by have := hb1.size; omega
  obtain ⟨c0, c1, c2, c3, _, _, _, _⟩ := Wp.four_of hx
  have Hy := Lib.hid hy
  clear hy hx
  go_wp2_with fail
  refine (Hcp.out _ hB1.out).mono ?_
  rintro e w2 ⟨vb, vw, rfl, hob, how, hne, hnb, hb2⟩
  clear c0 c1 c2 c3
  have hvb : ∃ p c, vb = .slice p bl.length c := by
    obtain ⟨p5, c5, h5, _⟩ := owns_at hob
    exact ⟨p5, c5, h5⟩
  have hvw : ∃ p c, vw = .slice p ws.length c := by
    obtain ⟨p5, c5, h5, _⟩ := owns_atW how
    exact ⟨p5, c5, h5⟩
  have s4 : w1.heap.size ≤ w2.heap.size := hb2.size
  have Hob := Lib.hid hob
  have How := Lib.hid how
  obtain ⟨p1, q1, rfl⟩ := hvb
  obtain ⟨p2, q2, rfl⟩ := hvw
  have hwr := write_any (w2.alloc (.cells #[.slice p1 bl.length q1, .slice p2 ws.length q2, .int .i64 fu, .bool dn] 82)) w2.heap.size w1.heap.size _ _ ⟨bl, ws, fu, dn⟩ at_ data (alloc_new _ _) n3 n6 (hob.alloc _) (how.alloc _) hne hnb
    (fun e => by have := (hob.lt _ e).2; omega) (fun e => by have := (how.lt _ e).2; omega) s4 n1 n2 hdata
  clear hob how hne hnb
  have hy2 := (alloc_past w2 (.cells #[.slice p1 bl.length q1, .slice p2 ws.length q2, .int .i64 fu, .bool dn] 82) (w.heap.size + 1) (by omega)).trans ((hb2.block (w.heap.size + 1) (by omega)).trans Hy.out)
  have hyn := ownsRow_block How.out (w.heap.size + 1) (by omega)
  have Hy2 := Lib.hid hy2
  have hB2 := Lib.hid ((hB1.out.trans (hb2.mono (by omega))).alloc (by omega) (.cells #[.slice p1 bl.length q1, .slice p2 ws.length q2, .int .i64 fu, .bool dn] 82))
  rw [← HR.out] at hwr
  have Hwr := Lib.hid hwr
  clear hwr hy2
  go_wp2_with fail
  refine Hwr.out.mono ?_
  rintro e w5 ⟨rfl, ⟨vw5, hbx, ho1, ho2⟩, hrest, hb5⟩
  obtain ⟨r1, r2⟩ := r
  obtain ⟨bl5, ws5, fu5, dn5⟩ := r1
  simp only [] at hbx ho1 ho2 ⊢
  obtain ⟨p6, c6, h6, _⟩ := owns_atW ho2
  subst h6
  have hy5 := (hrest (w.heap.size + 1) (by rw [World.size_alloc]; omega) (by omega) hyn).trans Hy2.out
  have s5 : w2.heap.size < w5.heap.size := by have := hb5.size; simp at this; omega
  obtain ⟨d0, d1, d2, d3, _, _, _, _⟩ := hbx.facts
  obtain ⟨c0, c1, c2, c3, f0, f1, f2, f3⟩ := Wp.four_of hy5
  have Hy5 := Lib.hid hy5
  have Ho1 := Lib.hid ho1
  have Ho2 := Lib.hid ho2
  have hB5 := Lib.hid (hB2.out.trans (hb5.mono (by omega)))
  clear hy5 ho1 ho2 hbx hrest
  go_wp2_with fail
  refine bodyPost_ret (ret_cell2 rfl _ _ (w.heap.size + 1) 38 _ _ rfl (four_set Hy5.out _ _ _ _) Tryd.underlying38 rfl (by kernel_rfl)) rfl ?_
  refine ⟨_, rfl, ?_, four_below hB5.out (by omega) _ _ _ _⟩
  exact ⟨_, _, rfl, owns_low (ownsRow_at Ho1.out (Nat.le_refl _) (fun k hk => four_rest _ _ _ _ _ _ k (by omega))) (by omega), owns_low (ownsRow_at Ho2.out (Nat.le_refl _) (fun k hk => four_rest _ _ _ _ _ _ k (by omega))) (by omega)⟩
/-- Write, of a device that is right. -/
theorem Write_ok (v : Value) (d : Wp.Dev) (at_ : Int) (data : ByteArray) (w : World) (hv : Wp.DevAt w v d) (hf : d.Fits) (hok : d.ok = true) (hdata : data.size ≤ 9223372036854775807) :
    Calls Tryd.prog 66 #[v, .int .i64 at_, .string data] w fun e w' => ∃ v', e = .returned (.tuple #[v', .int .i64 (d.write1 at_ data).2]) ∧ Wp.DevAt w' v' (d.write1 at_ data).1 ∧ Below w.heap.size w w' := by
  refine (Write_okf v d at_ data w hv hf hok hdata).mono ?_
  rintro e w' ⟨v', h1, h2, h3⟩
  exact ⟨v', h1, h2.devAt, h3⟩
end Go.Proofs.YtpmhgfjnabgilabDoor
