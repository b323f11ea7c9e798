
/-
  The walk of a region's records: the records of its blocks, one behind the other, and how many blocks they have. Conditions: sum's table reads as it is laid; the device is right and has power, the region lies within it.
-/
import Derived.Test.YtpmhgfjnabgilabDoorTrReg
import Derived.WalkMore
import Derived.ScopeJumps
namespace Go.Proofs.YtpmhgfjnabgilabDoor
open Go.RowKit Go.Lib Go.Shelf

/-- Records that a region begins with. -/
structure Tr.Part (R l : List ByteArray) (u : Nat) : Prop where
  small : ∀ t ∈ l, t.size ≤ 32768
  blocks : R.take u = Tr.allB l
  le : u ≤ R.length
theorem Tr.Part.nil (R : List ByteArray) : Tr.Part R [] 0 := ⟨by simp, by simp [Tr.allB], Nat.zero_le _⟩
theorem Tr.Part.len {R l : List ByteArray} {u : Nat} (h : Tr.Part R l u) : l.length ≤ u := by
  have h2 := h.blocks
  have h3 : (Tr.allB l).length = u := by rw [← h2, List.length_take]; have := h.le; omega
  rw [← h3]
  clear h2 h3 h
  induction l with
  | nil => exact Nat.zero_le _
  | cons t l ih =>
    rw [Tr.allB_cons, List.length_append, List.length_cons]
    have := Tr.cutB_pos t.data.toList
    omega
theorem Tr.Part.snoc {R l : List ByteArray} {u : Nat} (h : Tr.Part R l u) (hf : (Tr.first (R.drop u)).2 ≠ 0) : Tr.Part R (l ++ [Wp.B (Tr.first (R.drop u)).1]) (u + (Tr.first (R.drop u)).2) := by
  obtain ⟨h1, h2, h3, h4⟩ := Tr.first_ok _ hf
  rw [List.length_drop] at h4
  have hl := h.le
  refine ⟨?_, ?_, by omega⟩
  · intro t ht
    rcases List.mem_append.1 ht with ht | ht
    · exact h.small t ht
    · rw [List.mem_singleton] at ht
      rw [ht, Wp.B_size]; exact h3
  · rw [Tr.allB_append, ← h.blocks, List.take_add]
    congr 1
    have e : ∀ (X : List ByteArray) (t : List UInt8) (m : Nat), X = Tr.cutB t ++ X.drop m → m = (Tr.cutB t).length → X.take m = Tr.allB [Wp.B t] := by
      intro X t m h5 h6
      rw [h5, h6, List.take_left' rfl]
      simp [Tr.allB, Wp.B_data]
    exact e _ _ _ h1 h2
theorem Tr.Part.recs {R l : List ByteArray} {u : Nat} (h : Tr.Part R l u) (hf : (Tr.first (R.drop u)).2 = 0) : Tr.Recs R l u := ⟨h.small, h.blocks, h.le, hf⟩
theorem Wp.At.drop {w : World} {p : Option Addr} {l : List ByteArray} (h : Wp.At Wp.mkT w p l) (k : Nat) (q : Option Addr) (hq : ∀ b off, p = some ⟨b, off, none⟩ → q = some ⟨b, off + k, none⟩) : Wp.At Wp.mkT w q (l.drop k) := by
  rcases h with rfl | ⟨b, off, hp, hc⟩
  · exact Or.inl (by simp)
  · refine Or.inr ⟨b, off + k, hq _ _ hp, fun i hi => ?_⟩
    rw [List.length_drop] at hi
    rw [List.getElem_drop, Nat.add_assoc]
    exact hc (k + i) (by omega)
/-- What holds at each jump, over the whole frame. -/
def Tr.Jmp (R : List ByteArray) (w : World) (g : Nat) (cs : Array Value) (a' : Act) (w' : World) : Prop :=
  ∃ (p : Option Addr) (c : Nat) (l : List ByteArray) (u : Nat) (v u7 u8 u9 u10 u11 u12 u13 u14 u15 u16 u17 u18 u19 u20 u21 u22 u23 u24 u25 u26 u27 u28 : Value), a' = { tmps := #[.agg cs, .pointer (some ⟨g, 0, none⟩), .slice none 0 0, .int .i64 0, .slice p R.length c, v, .int .i64 (u : Int), u7, u8, u9, u10, u11, u12, u13, u14, u15, u16, u17, u18, u19, u20, u21, u22, u23, u24, u25, u26, u27, u28], defers := [] } ∧ R.length ≤ c ∧ Tr.Part R l u ∧ ∃ w1, Below w.heap.size w w1 ∧ Wp.At Wp.mkT w1 p R ∧ w'.ownsRow w1.heap.size 9 1 v l.length (l.map Wp.mkT) ∧ Below w1.heap.size w1 w'
theorem Tr.slice_from (p : Option Addr) (n c u : Nat) (hu : u ≤ n) (W : World) : (Instr.slice 22 (.slice p n c) (some (.int .i64 (u : Int))) none none).run Tryd.prog W = .ok (.slice (if c = u then p else p.map (·.add (u * 1))) (n - u) (c - u)) W := by
  have he : Tryd.prog.elem 22 = 9 := by simp [Program.elem, Tryd.underlying22]
  rw [run_slice_l (t := 22) (a := p) (len := n) (cap := c) (ht := by rw [he]; exact Tryd.underlying22) (kl := .i64) (l := (u : Int)) (h0 := by omega) (h1 := by omega), he, Tryd.sizeOf9]
  rfl
def Tr.RecPost (R : List ByteArray) (w : World) (e : Ending) (w' : World) : Prop := ∃ v l u, e = .returned (.tuple #[v, .int .i64 ((u : Nat) : Int)]) ∧ Tr.Recs R l u ∧ w'.ownsRow w.heap.size 9 1 v l.length (l.map Wp.mkT) ∧ Below w.heap.size w w'
set_option maxRecDepth 100000 in
set_option maxHeartbeats 800000 in
theorem records_any (pb : Option Addr) (cb : Nat) (pw : Option Addr) (cw : Nat) (d : Wp.Dev) (f k : Nat) (w : World) (hL : Sp.Laid w) (hv : Wp.DevAt w (.agg #[.slice pb d.bl.length cb, .slice pw d.ws.length cw, .int .i64 d.fu, .bool d.dn]) d) (hf : d.Fits) (hok : d.ok = true) (hd : d.dn = false) (hfk : f + k ≤ d.bl.length) :
    Calls Tryd.prog 40 #[.agg #[.slice pb d.bl.length cb, .slice pw d.ws.length cw, .int .i64 d.fu, .bool d.dn, .int .i64 f, .int .i64 k]] w (Tr.RecPost (Tr.rgn d f k) w) := by
  obtain ⟨⟨n1, _, _⟩, _, _⟩ := (Wp.Dev.ok_iff d).1 hok
  have hrl : (Tr.rgn d f k).length ≤ 4096 := by unfold Tr.rgn; rw [List.length_take, List.length_drop, Tr.hasAll_length]; omega
  have hrs := Tr.rgn_size (d := d) (f := f) (m := k) hok
  have hB := fun (w' : World) (hb : Below w.heap.size w w') => regBlocks_any pb cb pw cw d f k w' (hv.below hb) hf hok hd hfk
  have HB := Lib.hid hB
  have HL := Lib.hid hL
  have HS := Lib.hid hrs
  clear hB hL hv hf hok hd hfk n1 hrs
  generalize Tr.rgn d f k = R at *
  obtain ⟨bl, ws, fu, dn⟩ := d
  simp only [] at HB ⊢
  generalize bl.length = n at *
  generalize ws.length = m at *
  have B0 := Lib.hid ((Below.refl w.heap.size w).alloc (Nat.le_refl _) (.cells #[.slice pb n cb, .slice pw m cw, .int .i64 fu, .bool dn, .int .i64 f, .int .i64 k] 76))
  obtain ⟨N, hN⟩ : ∃ N, N = R.length := ⟨_, rfl⟩
  have HN := Lib.hid hN
  rw [← hN] at HB hrl
  clear hN
  go_enter Tryd.func40, Tryd.ntmps40
  go_wp2_with fail
  refine wp_scope_jumps 0 (fun a' w' => Tr.Jmp R w w.heap.size #[.slice pb n cb, .slice pw m cw, .int .i64 fu, .bool dn, .int .i64 f, .int .i64 k] a' w') (fun a' _ => N - (RowKit.intOf (a'.tmps.getD 6 undef)).toNat) rfl ?_ ?_
  · go_wp2_with fail
    refine (HB.out _ B0.out).mono ?_
    rintro e w1 ⟨p, c, rfl, hc, ha, hb1⟩
    have HA := Lib.hid ha
    have hB1 := Lib.hid (B0.out.trans (hb1.mono (by simp)))
    clear ha hb1
    go_wp2_with fail
    go_step3
    have hfa := first_any R p c w1 (HL.out.below hB1.out) (by rw [← HN.out]; exact hrl) (by rw [← HN.out]; exact hc) HA.out HS.out
    have hsn := (Tr.Part.nil R).snoc
    have hrc := (Tr.Part.nil R).recs
    rw [List.drop_zero] at hsn hrc
    rw [List.nil_append, Nat.zero_add] at hsn
    rw [← HN.out] at hfa
    obtain ⟨⟨t, q⟩, ht⟩ : ∃ t, t = Tr.first R := ⟨_, rfl⟩
    rw [← ht] at hfa hsn hrc
    simp only [] at hfa hsn hrc
    have Hfa := Lib.hid hfa
    have Hsn := Lib.hid hsn
    have Hrc := Lib.hid hrc
    clear hfa hsn hrc ht
    have hB1s := hB1.out.size
    by_cases hq : q = 0
    · subst hq
      have Hr := Lib.hid (Hrc.out rfl)
      go_wp2_with fail
      refine Hfa.out.mono ?_
      rintro e w2 ⟨rfl, hb2⟩
      have hB2 := hB1.out.trans (hb2.mono hB1s)
      go_wp2_with fail
      simp only [Exit.jump]
      go_ret2
      exact ⟨_, [], 0, rfl, Hr.out, World.ownsRow_nil _ _ _ _, hB2⟩
    · have hq0 : (0 : Int) < (q : Int) := by omega
      have Hp := Lib.hid (Hsn.out hq)
      have hq1 := Hp.out.le
      rw [← HN.out] at hq1
      obtain ⟨i0, hi, hz0, hz1, hz2⟩ := infoText_some
      clear hq Hsn Hrc
      go_wp2_with fail
      refine Hfa.out.mono ?_
      rintro e w2 ⟨rfl, hB2⟩
      have hB2s := hB2.size
      have hown : w2.ownsRow w1.heap.size 9 1 (.slice none 0 0) 0 [] := World.ownsRow_nil _ _ _ _
      have Hown := Lib.hid hown
      clear hown
      go_wp2_with (at_builtin; refine wpList_append_own _ rfl _ _ 22 rfl w1.heap.size 9 i0 _ 1 16 Tryd.underlying22 hi hz0 hz1 hz2 rfl (by decide) _ _ _ rfl (Hown.out.alloc _) ⟨w2.heap.size, 0, none⟩ 1 1 [Wp.mkT (Wp.B t)] rfl rfl ?c1 ?c2 ?c3 ?c4 ?c5 ?_)
      case c1 => exact cell_one_new _ _ _
      case c2 => simp [Wp.mkT, Value.oneCell']
      case c3 => unfold maxLen; omega
      case c4 => omega
      case c5 => simp; omega
      intro v' w4 hown4 hgrow4 _
      have hB4 := below_grown (hB2.alloc hB2s _) (Hown.out.alloc _) (Nat.le_refl _) hgrow4
      have Hown4 := Lib.hid hown4
      clear hown4 hgrow4
      go_wp2_with fail
      go_step3
      refine ⟨rfl, p, c, [Wp.B t], q, v', _, _, _, _, _, _, _, _, _, _, _, _, _, _, _, _, _, _, _, _, _, _, by rw [HN.out], by rw [← HN.out]; exact hc, Hp.out, w1, hB1.out, HA.out, Hown4.out, hB4⟩
  · rintro a' wr ⟨p, c, l, u, v, u7, u8, u9, u10, u11, u12, u13, u14, u15, u16, u17, u18, u19, u20, u21, u22, u23, u24, u25, u26, u27, u28, rfl, hc, hP, w1, hB1, hA1, hown, hBr⟩
    have HP := Lib.hid hP
    have hu := hP.le
    have hBrs := hBr.size
    have HA1 := Lib.hid hA1
    have HB1 := Lib.hid hB1
    have Hown := Lib.hid hown
    have hll : l.length ≤ N := by
      have := hP.len
      rw [HN.out]; omega
    rw [← HN.out] at hc hu ⊢
    clear hP hA1 hown hB1
    have hdl : (R.drop u).length = N - u := by rw [List.length_drop, HN.out]
    have hfa := fun q W (hb : Below w1.heap.size w1 W) (hA : Wp.At Wp.mkT W q (R.drop u)) => first_any (R.drop u) q (c - u) W (HL.out.below (HB1.out.trans (hb.mono HB1.out.size))) (by rw [hdl]; omega) (by rw [hdl]; omega) hA (fun x hx => HS.out x (List.mem_of_mem_drop hx))
    have had := fun q (hq : ∀ b off, p = some ⟨b, off, none⟩ → q = some ⟨b, off + u, none⟩) => (HA1.out.below hBr).drop u q hq
    have hsn := HP.out.snoc
    have hrc := HP.out.recs
    rw [hdl] at hfa
    obtain ⟨⟨t, q⟩, ht⟩ : ∃ t, t = Tr.first (R.drop u) := ⟨_, rfl⟩
    rw [← ht] at hfa hsn hrc
    have hq1 : q ≤ N - u := by
      by_cases h : (Tr.first (R.drop u)).2 = 0
      · rw [← ht] at h; simp only [] at h; omega
      · have := (Tr.first_ok _ h).2.2.2
        rw [← ht, hdl] at this
        exact this
    simp only [] at hfa hsn hrc
    have Hfa := Lib.hid hfa
    have Hsn := Lib.hid hsn
    have Hrc := Lib.hid hrc
    have Had := Lib.hid had
    have hdn : u = N → R.drop u = [] := fun e => List.length_eq_zero_iff.1 (by rw [hdl]; omega)
    have Hdn := Lib.hid hdn
    clear hfa hsn hrc ht had hdl hdn
    have hcq : ∃ Q, Wp.At Wp.mkT wr Q (R.drop u) ∧ ∀ W, (Instr.slice 22 (.slice p N c) (some (.int .i64 (u : Int))) none none).run Tryd.prog W = .ok (.slice Q (N - u) (c - u)) W := by
      refine ⟨if c = u then p else p.map (·.add (u * 1)), ?_, fun W => Tr.slice_from p N c u hu W⟩
      by_cases hcu : c = u
      · rw [if_pos hcu]
        exact Or.inl (Hdn.out (by omega))
      · rw [if_neg hcu]
        refine Had.out _ (fun b off h => ?_)
        subst h
        simp [Addr.add]
    obtain ⟨Q, hQ, hsl⟩ := hcq
    have HQ := Lib.hid hQ
    clear hQ
    have hBr2 : Below w.heap.size w wr := HB1.out.trans (hBr.mono HB1.out.size)
    have hBr2s := hBr2.size
    by_cases hq : q = 0
    · subst hq
      have Hr := Lib.hid (Hrc.out rfl)
      clear Hsn Hrc
      go_wp2_with fail
      refine (Hfa.out Q wr hBr HQ.out).mono ?_
      rintro e w2 ⟨rfl, hb2⟩
      have hB2 := hBr2.trans (hb2.mono hBr2s)
      go_wp2_with fail
      simp only [Exit.jump]
      go_ret2
      exact ⟨_, l, u, rfl, Hr.out, owns_base (ownsRow_below Hown.out hb2) HB1.out.size, hB2⟩
    · have hq0 : (0 : Int) < (q : Int) := by omega
      have Hp := Lib.hid (Hsn.out hq)
      obtain ⟨i0, hi, hz0, hz1, hz2⟩ := infoText_some
      have hq00 : 0 < q := by omega
      clear hq Hsn Hrc
      go_wp2_with fail
      refine (Hfa.out Q wr hBr HQ.out).mono ?_
      rintro e w2 ⟨rfl, hb2⟩
      have hB2 := hBr.trans (hb2.mono hBrs)
      have hB2s := hB2.size
      have Hown2 := Lib.hid (ownsRow_below Hown.out hb2)
      go_wp2_with (at_builtin; refine wpList_append_own _ rfl _ _ 22 rfl w1.heap.size 9 i0 _ 1 16 Tryd.underlying22 hi hz0 hz1 hz2 rfl (by decide) _ _ _ rfl (Hown2.out.alloc _) ⟨w2.heap.size, 0, none⟩ 1 1 [Wp.mkT (Wp.B t)] rfl rfl ?c1 ?c2 ?c3 ?c4 ?c5 ?_)
      case c1 => exact cell_one_new _ _ _
      case c2 => simp [Wp.mkT, Value.oneCell']
      case c3 => unfold maxLen; omega
      case c4 => omega
      case c5 => simp; omega
      intro v' w4 hown4 hgrow4 _
      have hB4 := below_grown (hB2.alloc hB2s _) (Hown2.out.alloc _) (Nat.le_refl _) hgrow4
      have Hown4 := Lib.hid hown4
      clear hown4 hgrow4
      go_wp2_with fail
      go_step3
      refine ⟨rfl, ⟨p, c, l ++ [Wp.B t], u + q, v', _, _, _, _, _, _, _, _, _, _, _, _, _, _, _, _, _, _, _, _, _, _, by rw [HN.out]; rfl, by rw [← HN.out]; exact hc, Hp.out, w1, HB1.out, HA1.out, ?_, hB4⟩, ?_⟩
      · rw [List.length_append, List.map_append]; exact Hown4.out
      · simp [RowKit.intOf]; omega
end Go.Proofs.YtpmhgfjnabgilabDoor
