
/-
  The walks of a device's sync and of block.Sync. Conditions: a device's lists and numbers are of a size that a machine holds.
-/
import Derived.Test.YtpmhgfjnabgilabDoorHasAll
namespace Go.Proofs.YtpmhgfjnabgilabDoor
open Go.RowKit

/-- What stands behind a device's own sync. -/
structure Wp.Synced (w w' : World) (g base : Nat) (d : Wp.Dev) : Prop where
  synced : ∃ vb vw, Wp.Box w' g vb vw d.fu d.dn ∧ w'.ownsRow base 9 1 vb d.bl.length (d.bl.map Wp.mkT) ∧ w'.ownsRow base 86 2 vw d.ws.length (Wp.wcells d.ws)
  rest : ∀ k, k < w.heap.size → k ≠ g → w'.heap[k]? = w.heap[k]?
  below : Below base w w'
set_option maxRecDepth 100000 in
set_option maxHeartbeats 1000000 in
theorem sync_any (w : World) (g base : Nat) (vb vw : Value) (d : Wp.Dev) (h : Wp.Box w g vb vw d.fu d.dn) (h0 : -1 ≤ d.fu) (h1 : d.fu ≤ 9223372036854775807)
    (hob : w.ownsRow base 9 1 vb d.bl.length (d.bl.map Wp.mkT)) (how : w.ownsRow base 86 2 vw d.ws.length (Wp.wcells d.ws)) (hg1 : vb.ownBlock ≠ some g) (hg2 : vw.ownBlock ≠ some g)
    (hbase : base ≤ g) (hbl : d.bl.length ≤ 4096) (hws : d.ws.length ≤ 4096) (hin : ∀ x ∈ d.ws, 0 ≤ x.1 ∧ x.1 < (d.bl.length : Int)) :
    Calls Tryd.prog 38 #[.pointer (some ⟨g, 0, none⟩)] w fun e w' => e = .returned (.int .i64 d.sync1.2) ∧ Wp.Synced w w' g base d.sync1.1 := by
  have hglt := h.lt
  obtain ⟨pb, cb, rfl⟩ : ∃ p c, vb = .slice p d.bl.length c := by
    obtain ⟨p5, c5, h5, _⟩ := owns_at hob
    exact ⟨p5, c5, h5⟩
  obtain ⟨pw, cw, rfl⟩ : ∃ p c, vw = .slice p d.ws.length c := by
    obtain ⟨p5, c5, h5, _⟩ := owns_atW how
    exact ⟨p5, c5, h5⟩
  cases hdn : d.dn with
  | true =>
    have e1 : d.sync1 = (d, 9) := by unfold Wp.Dev.sync1; rw [if_pos hdn]
    rw [e1]
    rw [hdn] at h
    obtain ⟨c0, c1, c2, c3, f0, f1, f2, f3⟩ := h.facts
    have Hob := Lib.hid hob
    have How := Lib.hid how
    have Hb := Lib.hid h
    have Hdn := Lib.hid hdn
    clear hob how h hdn e1 hin
    go_enter Tryd.func38, Tryd.ntmps38
    go_wp2_with fail
    go_ret
    exact ⟨rfl, ⟨⟨_, _, by rw [Hdn.out]; exact Hb.out, Hob.out, How.out⟩, fun _ _ _ => rfl, Below.refl _ _⟩⟩
  | false =>
    have hsp := spend_any w g _ _ d h h0 h1
    have hl := spend_lists d
    have e1 : d.sync1 = if d.spend.2 = 0 then ({ d.spend.1 with bl := d.hasAll, ws := [] }, 0) else (d.spend.1, d.spend.2) := by unfold Wp.Dev.sync1; rw [if_neg (by rw [hdn]; simp)]
    rw [e1]
    have hall : d.spend.1.hasAll = d.hasAll := by unfold Wp.Dev.hasAll; rw [hl.1, hl.2]
    rw [hdn] at h
    obtain ⟨c0, c1, c2, c3, f0, f1, f2, f3⟩ := h.facts
    obtain ⟨s, hs⟩ : ∃ s, s = d.spend := ⟨_, rfl⟩
    rw [← hs] at hsp hl hall ⊢
    obtain ⟨s1, r⟩ := s
    simp only [] at hsp hl hall ⊢
    have Hsp := Lib.hid hsp
    have Hob := Lib.hid hob
    have How := Lib.hid how
    have Hb := Lib.hid h
    have Hl := Lib.hid hl
    have Hall := Lib.hid hall
    have Hin := Lib.hid hin
    clear hsp hob how h hl hs hall e1 hin hdn h0 h1
    by_cases hr : r = 0
    · subst hr
      rw [if_pos rfl]
      go_enter Tryd.func38, Tryd.ntmps38
      go_wp2_with fail
      refine Hsp.out.mono ?_
      rintro e w1 ⟨rfl, hbx, hb1, hs1, hrest⟩
      have hob1 := ownsRow_at2 Hob.out (fun k hk => hrest k (fun e => by subst e; exact hg1 hk))
      have how1 := ownsRow_at2 How.out (fun k hk => hrest k (fun e => by subst e; exact hg2 hk))
      clear c0 c1 c2 c3 f0 f1 f2 f3
      obtain ⟨c0, c1, c2, c3, f0, f1, f2, f3⟩ := hbx.facts
      have hdev : Wp.DevAt w1 (.agg #[.slice pb d.bl.length cb, .slice pw d.ws.length cw, .int .i64 s1.fu, .bool s1.dn]) s1 := devAt_rows (by rw [Hl.out.1]; exact hob1) (by rw [Hl.out.2]; exact how1)
      have hall := hasAll_any _ s1 w1 hdev (by rw [Hl.out.1]; exact hbl) (by rw [Hl.out.2]; exact hws) (by rw [Hl.out.1, Hl.out.2]; exact Hin.out)
      rw [Hall.out] at hall
      have Hcall := Lib.hid hall
      have Hbx := Lib.hid hbx
      clear hall hdev hob1 how1 hbx
      go_wp2_with fail
      refine Hcall.out.mono ?_
      rintro e w2 ⟨v2, rfl, hown, hb2⟩
      clear c0 c1 c2 c3 f0 f1 f2 f3
      obtain ⟨c0, c1, c2, c3, f0, f1, f2, f3⟩ := (Hbx.out.below hb2).facts
      have Hbx2 := Lib.hid (Hbx.out.below hb2)
      obtain ⟨p2, q2, rfl⟩ : ∃ p c, v2 = .slice p d.hasAll.length c := by
        obtain ⟨p5, c5, h5, _⟩ := owns_at hown
        exact ⟨p5, c5, h5⟩
      have Hown := Lib.hid hown
      have s2 := hb2.size
      clear hown
      go_wp2_with fail
      go_ret
      refine ⟨rfl, ⟨⟨_, _, (Lib.heap_setCell_same (i := 1) (Lib.heap_setCell_same (i := 0) Hbx2.out _) _ : Wp.Box _ g _ _ _ _), ?_, World.ownsRow_nil _ _ _ _⟩, ?_, ?_⟩⟩
      · refine ownsRow_at Hown.out (by omega) (fun k hk => ?_)
        rw [Below.heap_setCell _ _ _ _ (by simp; omega), Below.heap_setCell _ _ _ _ (by simp; omega)]
      · intro k hk hkg
        rw [Below.heap_setCell _ _ _ _ (by simpa using hkg), Below.heap_setCell _ _ _ _ (by simpa using hkg)]
        exact (hb2.block k (by omega)).trans (hrest k hkg)
      · exact (((hb1.mono hbase).trans (hb2.mono (by omega))).setCell (p := ⟨g, 0, none⟩) hbase _).setCell (p := ⟨g, 1, none⟩) hbase _
    · rw [if_neg hr]
      have hr2 : (r == 0) = false := beq_eq_false_iff_ne.2 hr
      go_enter Tryd.func38, Tryd.ntmps38
      go_wp2_with fail
      refine Hsp.out.mono ?_
      rintro e w1 ⟨rfl, hbx, hb1, hs1, hrest⟩
      have hob1 := ownsRow_at2 Hob.out (fun k hk => hrest k (fun e => by subst e; exact hg1 hk))
      have how1 := ownsRow_at2 How.out (fun k hk => hrest k (fun e => by subst e; exact hg2 hk))
      clear c0 c1 c2 c3 f0 f1 f2 f3
      have Hbx := Lib.hid hbx
      have Ho1 := Lib.hid hob1
      have Ho2 := Lib.hid how1
      clear hob1 how1 hbx
      go_wp2_with fail
      go_ret
      exact ⟨rfl, ⟨⟨_, _, Hbx.out, by rw [Hl.out.1]; exact Ho1.out, by rw [Hl.out.2]; exact Ho2.out⟩, fun k _ hk => hrest k hk, hb1.mono hbase⟩⟩
end Go.Proofs.YtpmhgfjnabgilabDoor
