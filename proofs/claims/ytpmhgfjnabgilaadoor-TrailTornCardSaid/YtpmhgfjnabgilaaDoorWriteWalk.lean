/-
  The walks of a device's own writing: spend, write. Conditions: the device lies in a box of its own.
-/
import Derived.Test.YtpmhgfjnabgilaaDoorCopied
import Derived.Deep.RegionHeld3
import Derived.Deep.AppendLies
import Derived.OwnWalk
namespace Go.Proofs.YtpmhgfjnabgilaaDoor
open Go.RowKit

set_option maxRecDepth 100000 in
theorem ownsRow_at2 {w w' : World} {base : Nat} {e : TypeId} {size : Nat} {v : Value} {n : Nat} {xs : List Value} (h : w.ownsRow base e size v n xs) (hk : ∀ k, v.ownBlock = some k → w'.heap[k]? = w.heap[k]?) : w'.ownsRow base e size v n xs := by
  refine ⟨h.1, ?_⟩
  rcases h.2 with h0 | ⟨g, cap, cur, hv, hg, hc, rest⟩
  · exact Or.inl h0
  · exact Or.inr ⟨g, cap, cur, hv, hg, (hk g (by rw [hv]; rfl)).trans hc, rest⟩
/-- A device in a box. -/
def Wp.Box (w : World) (g : Nat) (vb vw : Value) (fu : Int) (dn : Bool) : Prop := w.heap[g]? = some (.cells #[vb, vw, .int .i64 fu, .bool dn] 92 (0, 0))
structure Wp.BoxF (w : World) (g : Nat) (vb vw : Value) (fu : Int) (dn : Bool) : Prop where
  c0 : w.cell? ⟨g, 0, none⟩ = some vb
  c1 : w.cell? ⟨g, 1, none⟩ = some vw
  c2 : w.cell? ⟨g, 2, none⟩ = some (.int .i64 fu)
  c3 : w.cell? ⟨g, 3, none⟩ = some (.bool dn)
  f0 : w.frozen? ⟨g, 0, none⟩ = false
  f1 : w.frozen? ⟨g, 1, none⟩ = false
  f2 : w.frozen? ⟨g, 2, none⟩ = false
  f3 : w.frozen? ⟨g, 3, none⟩ = false
set_option maxRecDepth 100000 in
theorem Wp.Box.facts {w : World} {g : Nat} {vb vw : Value} {fu : Int} {dn : Bool} (h : Wp.Box w g vb vw fu dn) : Wp.BoxF w g vb vw fu dn := by
  unfold Wp.Box at h
  exact ⟨by rw [Lib.cell_of_heap h]; rfl, by rw [Lib.cell_of_heap h]; rfl, by rw [Lib.cell_of_heap h]; rfl, by rw [Lib.cell_of_heap h]; rfl, by simp [World.frozen?, h], by simp [World.frozen?, h], by simp [World.frozen?, h], by simp [World.frozen?, h]⟩

set_option maxRecDepth 100000 in
theorem Wp.Box.lt {w : World} {g : Nat} {vb vw : Value} {fu : Int} {dn : Bool} (h : Wp.Box w g vb vw fu dn) : g < w.heap.size := (Array.getElem?_eq_some_iff.1 h).1
set_option maxRecDepth 100000 in
theorem Wp.Box.below {w w' : World} {g : Nat} {vb vw : Value} {fu : Int} {dn : Bool} (h : Wp.Box w g vb vw fu dn) (hb : Below w.heap.size w w') : Wp.Box w' g vb vw fu dn := (hb.block g h.lt).trans h
set_option maxRecDepth 100000 in
set_option maxHeartbeats 400000 in
theorem spend_zero (w : World) (g : Nat) (vb vw : Value) (dn : Bool) (h : Wp.Box w g vb vw 0 dn) :
    Calls Tryd.prog 108 #[.pointer (some ⟨g, 0, none⟩)] w fun e w' => e = .returned (.int .i64 9) ∧ w' = w.setCell ⟨g, 3, none⟩ (.bool true) := by
  obtain ⟨c0, c1, c2, c3, f0, f1, f2, f3⟩ := h.facts
  clear h
  go_enter Tryd.func108, Tryd.ntmps108
  go_wp2_with fail
  go_ret
  exact ⟨rfl, rfl⟩
set_option maxRecDepth 100000 in
set_option maxHeartbeats 400000 in
theorem spend_never (w : World) (g : Nat) (vb vw : Value) (dn : Bool) (h : Wp.Box w g vb vw (-1) dn) :
    Calls Tryd.prog 108 #[.pointer (some ⟨g, 0, none⟩)] w fun e w' => e = .returned (.int .i64 0) ∧ w' = w := by
  obtain ⟨c0, c1, c2, c3, f0, f1, f2, f3⟩ := h.facts
  clear h
  go_enter Tryd.func108, Tryd.ntmps108
  go_wp2_with fail
  go_ret
  exact ⟨rfl, rfl⟩
set_option maxRecDepth 100000 in
set_option maxHeartbeats 400000 in
theorem spend_some (w : World) (g : Nat) (vb vw : Value) (fu : Int) (dn : Bool) (h : Wp.Box w g vb vw fu dn) (h0 : 0 < fu) (h1 : fu ≤ 9223372036854775807) :
    Calls Tryd.prog 108 #[.pointer (some ⟨g, 0, none⟩)] w fun e w' => e = .returned (.int .i64 0) ∧ w' = w.setCell ⟨g, 2, none⟩ (.int .i64 (fu - 1)) := by
  obtain ⟨c0, c1, c2, c3, f0, f1, f2, f3⟩ := h.facts
  clear h
  have e0 : (fu == 0) = false := beq_eq_false_iff_ne.2 (by omega)
  have e1 : (fu == -1) = false := beq_eq_false_iff_ne.2 (by omega)
  go_enter Tryd.func108, Tryd.ntmps108
  go_wp2_with fail
  go_ret
  exact ⟨rfl, rfl⟩

/-- What of a device's box and of all else stands behind a call that works on it. -/
structure Wp.Worked (w w' : World) (g : Nat) (vb vw : Value) (fu : Int) (dn : Bool) : Prop where
  box : Wp.Box w' g vb vw fu dn
  below : Below g w w'
  size : w.heap.size = w'.heap.size
  rest : ∀ k, k ≠ g → w'.heap[k]? = w.heap[k]?
set_option maxRecDepth 100000 in
theorem spend_any (w : World) (g : Nat) (vb vw : Value) (d : Wp.Dev) (h : Wp.Box w g vb vw d.fu d.dn) (h0 : -1 ≤ d.fu) (h1 : d.fu ≤ 9223372036854775807) :
    Calls Tryd.prog 108 #[.pointer (some ⟨g, 0, none⟩)] w fun e w' => e = .returned (.int .i64 d.spend.2) ∧ Wp.Worked w w' g vb vw d.spend.1.fu d.spend.1.dn := by
  obtain ⟨bl, ws, fu, dn⟩ := d
  simp only [] at *
  unfold Wp.Dev.spend
  simp only []
  by_cases e0 : fu = 0
  · subst e0
    simp only [if_true]
    refine (spend_zero w g vb vw dn h).mono ?_
    rintro e w' ⟨rfl, rfl⟩
    exact ⟨rfl, Lib.heap_setCell_same (i := 3) h _, (Below.refl _ _).setCell (p := ⟨g, 3, none⟩) (Nat.le_refl _) _, by simp [World.setCell], fun k hk => Below.heap_setCell _ _ _ _ hk⟩
  · rw [if_neg e0]
    by_cases e1 : fu = -1
    · subst e1
      simp only [if_true]
      refine (spend_never w g vb vw dn h).mono ?_
      rintro e w' ⟨rfl, rfl⟩
      exact ⟨rfl, h, Below.refl _ _, rfl, fun k hk => rfl⟩
    · rw [if_neg e1]
      refine (spend_some w g vb vw fu dn h (by omega) h1).mono ?_
      rintro e w' ⟨rfl, rfl⟩
      exact ⟨rfl, Lib.heap_setCell_same (i := 2) h _, (Below.refl _ _).setCell (p := ⟨g, 2, none⟩) (Nat.le_refl _) _, by simp [World.setCell], fun k hk => Below.heap_setCell _ _ _ _ hk⟩

/-- What stands behind a write that waits: the box, the row of waits, and all else as it was. -/
structure Wp.Wrote (w w' : World) (g base : Nat) (vb vw : Value) (ws : List (Int × ByteArray)) (fu : Int) (dn : Bool) : Prop where
  wrote : ∃ vw', Wp.Box w' g vb vw' fu dn ∧ w'.ownsRow base 100 2 vw' ws.length (Wp.wcells ws)
  rest : ∀ k, k < w.heap.size → k ≠ g → vw.ownBlock ≠ some k → w'.heap[k]? = w.heap[k]?
  below : Below base w w'
set_option maxRecDepth 100000 in
theorem Wp.wcells_snoc (ws : List (Int × ByteArray)) (a : Int) (x : ByteArray) : Wp.wcells (ws ++ [(a, x)]) = Wp.wcells ws ++ [.int .i64 a, .string x] := by simp [Wp.wcells]
set_option maxRecDepth 100000 in
theorem wrote_end {w w3 w4 w5 w6 : World} {g base g2 cap : Nat} {vb vw : Value} {ws : List (Int × ByteArray)} {at_ : Int} {L : ByteArray} {fu fu' : Int} {dn dn' : Bool} {C : Array Value} {t : TypeId} (hbox : Wp.Box w3 g vb vw fu dn) (hb3 : Below w.heap.size w w3) (hg : g < w.heap.size) (hbg : base ≤ g) (hbase : base ≤ w.heap.size)
    (b4 : Below w3.drew.heap.size w3.drew w4) (hown : w5.ownsRow base 100 2 (.slice (some ⟨g2, 0, none⟩) (ws.length + 1) cap) (ws.length + 1) (Wp.wcells ws ++ [.int .i64 at_, .string L]))
    (hgrow : (w4.alloc (.cells C t)).grownBy w5 vw.ownBlock) (hgne : vw.ownBlock ≠ some g) (hrow : w.ownsRow base 100 2 vw ws.length (Wp.wcells ws)) (hat : vw.ownBlock = some g2 ∨ g2 = w4.heap.size + 1)
    (hw6 : ∀ vw2, Wp.Box (w5.setCell ⟨g, 1, none⟩ (.slice (some ⟨g2, 0, none⟩) (ws.length + 1) cap)) g vb vw2 fu dn → Wp.Worked (w5.setCell ⟨g, 1, none⟩ (.slice (some ⟨g2, 0, none⟩) (ws.length + 1) cap)) w6 g vb vw2 fu' dn') :
    Wp.Wrote w w6 g base vb vw (ws ++ [(at_, L)]) fu' dn' := by
  have s3 : w.heap.size ≤ w3.heap.size := hb3.size
  have s4 : w3.heap.size ≤ w4.heap.size := b4.size
  have hk5 : ∀ k, k < w.heap.size → vw.ownBlock ≠ some k → w5.heap[k]? = w.heap[k]? := fun k hk hne =>
    (hgrow.block k (by rw [World.size_alloc]; omega) (Ne.symm hne)).trans ((alloc_past _ _ _ (by omega)).trans ((b4.block k (by show k < w3.heap.size; omega)).trans (hb3.block k hk)))
  have hbox5 : Wp.Box w5 g vb vw fu dn := (hk5 g hg hgne).trans ((hb3.block g hg).symm.trans hbox)
  have hbox6 : Wp.Box (w5.setCell ⟨g, 1, none⟩ (.slice (some ⟨g2, 0, none⟩) (ws.length + 1) cap)) g vb (.slice (some ⟨g2, 0, none⟩) (ws.length + 1) cap) fu dn := Lib.heap_setCell_same (i := 1) hbox5 _
  obtain ⟨x1, x2, x3, x4⟩ := hw6 _ hbox6
  have hg2 : g2 ≠ g := by
    rcases hat with h | h
    · intro e; subst e; exact hgne h
    · omega
  refine ⟨⟨_, x1, ?_⟩, ?_, ?_⟩
  · rw [Wp.wcells_snoc, List.length_append, List.length_singleton]
    refine ownsRow_at2 hown ?_
    intro k hk
    have e : k = g2 := by simp [Value.ownBlock] at hk; exact hk.symm
    subst e
    exact (x4 k hg2).trans (Below.heap_setCell _ _ _ _ (by simpa using hg2))
  · intro k hk hkg hne
    exact (x4 k hkg).trans ((Below.heap_setCell _ _ _ _ (by simpa using hkg)).trans (hk5 k hk hne))
  · have h1 : Below base w w5 := ((((hb3.mono hbase).drew.trans (b4.mono (by show base ≤ w3.heap.size; omega))).alloc (by omega) _).grown hgrow (by rw [World.size_alloc]; omega) (fun k hk => by
      rcases hrow.2 with ⟨rfl, _⟩ | ⟨gg, cc, cur, rfl, hgg, _⟩
      · simp [Value.ownBlock] at hk
      · simp [Value.ownBlock] at hk; omega))
    exact (h1.setCell (p := ⟨g, 1, none⟩) hbg _).trans (x2.mono hbg)
set_option maxRecDepth 100000 in
set_option maxHeartbeats 1000000 in
/-- write, where it waits. -/
theorem write_waits (w : World) (g : Nat) (vb vw : Value) (d : Wp.Dev) (at_ : Int) (data : ByteArray) (h : Wp.Box w g vb vw d.fu d.dn) (h0 : -1 ≤ d.fu) (h1 : d.fu ≤ 9223372036854775807)
    (hvb : ∃ p c, vb = .slice p d.bl.length c) (base : Nat) (hrow : w.ownsRow base 100 2 vw d.ws.length (Wp.wcells d.ws)) (hgne : vw.ownBlock ≠ some g) (hbase : base ≤ g) (hbl : d.bl.length ≤ 4096) (hws : d.ws.length < 4096)
    (hdn : d.dn = false) (ha0 : 0 ≤ at_) (ha1 : at_ < (d.bl.length : Int)) (hdata : data.size ≤ 64) :
    Calls Tryd.prog 152 #[.pointer (some ⟨g, 0, none⟩), .int .i64 at_, .string data] w fun e w' => e = .returned (.int .i64 d.spend.2) ∧ Wp.Wrote w w' g base vb vw (d.ws ++ [(at_, Wp.laid (Wp.B []) data data.size)]) d.spend.1.fu d.spend.1.dn := by
  obtain ⟨c0, c1, c2, c3, f0, f1, f2, f3⟩ := h.facts
  obtain ⟨pb, cb, rfl⟩ := hvb
  obtain ⟨pw, cw, rfl⟩ : ∃ p c, vw = .slice p d.ws.length c := by
    rcases hrow.2 with ⟨hv, hn⟩ | ⟨g, cap, cur, hv, _⟩
    · exact ⟨none, 0, by rw [hv, hn]⟩
    · exact ⟨_, _, hv⟩
  obtain ⟨bl, ws, fu, dn⟩ := d
  simp only [] at *
  subst hdn
  have Hrow := Lib.hid hrow
  have Hb := Lib.hid h
  have hglt : g < w.heap.size := h.lt
  have hsp := fun (w : World) (vw : Value) (hx : Wp.Box w g (.slice pb bl.length cb) vw fu false) => spend_any w g _ vw ⟨bl, ws, fu, false⟩ hx h0 h1
  obtain ⟨r, hr⟩ : ∃ r, r = (⟨bl, ws, fu, false⟩ : Wp.Dev).spend := ⟨_, rfl⟩
  rw [← hr] at hsp ⊢
  have Hsp := Lib.hid hsp
  clear hrow h hr hsp
  have hin : (decide (0 ≤ at_) && decide (at_ < (bl.length : Int))) = true := by rw [Bool.and_eq_true]; exact ⟨decide_eq_true ha0, decide_eq_true ha1⟩
  have hne : ((ws.length : Int) == 4096) = false := beq_eq_false_iff_ne.2 (by omega)
  go_enter Tryd.func152, Tryd.ntmps152
  go_wp2_with fail
  refine (holds_any _ _ _ _ _ _ _ _ _ _ (by omega)).mono ?_
  rintro e w3 ⟨rfl, hb3⟩
  rw [hin]
  have hb3' := Hb.out.below hb3
  have hr3 := Lib.hid (ownsRow_below Hrow.out hb3)
  clear c0 c1 c2 c3 f0 f1 f2 f3
  obtain ⟨c0, c1, c2, c3, f0, f1, f2, f3⟩ := hb3'.facts
  have Hb3 := Lib.hid hb3'
  clear hb3'
  have hlaid := fun w => laid_any (Wp.B []) data data.size w (Nat.le_refl _) hdata (by simp [Wp.B_size])
  rw [show Wp.B [] = ⟨#[]⟩ from rfl] at hlaid
  obtain ⟨L, hL⟩ : ∃ L, L = Wp.laid ⟨#[]⟩ data data.size := ⟨_, rfl⟩
  rw [← hL] at hlaid
  have HL := Lib.hid hL
  clear hL
  go_wp2_with fail
  obtain ⟨iw, hiw, hiw0, hiw1, hiw2⟩ := infoWait_some
  have hg3 : g < w3.heap.size := by have := Hb3.out.lt; exact this
  have hs3 : w.heap.size ≤ w3.heap.size := hb3.size
  have hd3 : base ≤ w3.heap.size := by omega
  have hbase' : base ≤ w.heap.size := by omega
  go_region_law
    (first
      | (refine step_append_lies _ (by rfl) _ _ _ (by rfl) base 100 iw _ 2 24 Tryd.underlying23 hiw hiw0 hiw1 hiw2 rfl (by omega) (.slice pw ws.length cw) ws.length (Wp.wcells ws) (by rfl) ((ownsRow_below (w := w3.drew) hr3.out b4).alloc _)
             ⟨w4.heap.size, 0, none⟩ 1 1 [.int .i64 at_, .string L] (by rfl) (by rfl) (World.news_of_block (cs := #[.int .i64 at_, .string L]) (t := 100) (fr := (0, 0)) (heap_alloc_new w4 _)) (by simp [Value.oneCell'])
             (by omega) (by unfold maxLen; omega) (by omega) (by simp; have := b4.size; simp at this; omega) (w4.heap.size + 1) (by simp) ?_; intro g2 cap w5 hown5 hgrow hat5 hlt5; have k3 := (hgrow.cell_far ⟨g, 1, none⟩ (by simp; omega) (Ne.symm hgne)).trans (Lib.cell?_alloc_some _ k1); have k4 := (hgrow.frozen_far ⟨g, 1, none⟩ (by simp; omega) (Ne.symm hgne)).trans ((RowKit.frozen?_alloc_cells _ _ _ _).trans k2); have Hown5 := Lib.hid hown5; have Hgrow := Lib.hid hgrow; have Hat5 := Lib.hid hat5; clear hown5 hgrow hat5)
      | (go_simp; (with_reducible refine (hlaid _).mono ?_); rintro e w4 ⟨rfl, b4⟩; have k1 := (b4.cell (p := ⟨g, 1, none⟩) (by simp; omega)).trans c1; have k2 := (b4.frozen (p := ⟨g, 1, none⟩) (by simp; omega)).trans f1; have k0 : g < w4.heap.size := (by have := b4.size; first | omega | (simp at this; omega))))
  all_goals (
    have hbx6 : Wp.Box (w5.setCell ⟨g, 1, none⟩ (.slice (some ⟨g2, 0, none⟩) (ws.length + 1) cap)) g (.slice pb bl.length cb) (.slice (some ⟨g2, 0, none⟩) (ws.length + 1) cap) fu false := Lib.heap_setCell_same (i := 1) ((Hgrow.out.block g (by rw [World.size_alloc]; omega) (Ne.symm hgne)).trans ((alloc_past _ _ _ k0).trans ((b4.block g (by show g < w3.heap.size; omega)).trans Hb3.out))) _
    go_wp2_with fail
    refine (Hsp.out _ _ hbx6).mono ?_
    rintro e w6 ⟨rfl, hw6⟩
    go_wp2_with fail
    go_ret
    refine ⟨rfl, ?_⟩
    rw [show (Wp.B []) = ⟨#[]⟩ from rfl, ← HL.out]
    exact wrote_end Hb3.out hb3 hglt hbase (by omega) b4 Hown5.out Hgrow.out hgne Hrow.out Hat5.out (fun vw2 hb2 => by
      have e : vw2 = .slice (some ⟨g2, 0, none⟩) (ws.length + 1) cap := by
        have := hb2.symm.trans hbx6
        simpa using this
      subst e
      exact hw6))
end Go.Proofs.YtpmhgfjnabgilaaDoor
