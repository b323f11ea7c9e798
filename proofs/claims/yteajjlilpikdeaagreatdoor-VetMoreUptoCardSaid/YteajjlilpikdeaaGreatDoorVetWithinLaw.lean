/-
  The walk of VetWithin: whatever the nodes, the law answers true. Conditions: the nodes and their texts are of a size that the walks hold; the words' table and the errors lie as they are laid, the search's limit is set.
-/
import Derived.Test.YteajjlilpikdeaaGreatDoorVtLives
import Derived.Test.YteajjlilpikdeaaGreatDoorVtO
import Derived.Test.YteajjlilpikdeaaGreatDoorOwnOne
namespace Go.Proofs.YteajjlilpikdeaaGreatDoor
open Go.RowKit Go.Shelf

theorem Vt.tyTexts : Ow.Ty 35 9 (.string ⟨#[]⟩) := ⟨Tryz.underlying35, by obtain ⟨i, h1, h2, h3, h4⟩ := Vl.infoText; exact ⟨i, h1, h2, h3, by omega⟩, rfl⟩
theorem Vt.listW {ops : Array Oper} {rest : List Oper} {o : Oper} {a : Act} {w : World} {Q : Exit → Act → World → Prop} {α : Type} {mk : α → Value}
    (hw : Region.wanted o (yielded ops a.tmps) = true) (s x : Operand) (t : TypeId) (hop : o.op = Op.call { callee := Callee.builtin Builtin.append, args := #[s, x], argTypes := #[t, t] })
    (h1 : ∀ x, (mk x).oneCell' = true) {e : TypeId} {z : Value} (hT : Ow.Ty t e z) (l m : List α) (v : Value) (q : Option Addr) (n c : Nat) (base : Nat) (hs : a.eval s = v) (hx : a.eval x = .slice q n c)
    (hO : w.ownsRow base e 1 v l.length (l.map mk)) (hA : Wp.At mk w q m) (hn : n = m.length) (hl : l.length ≤ 3000000) (hm : m.length ≤ 3000000) (hb : base ≤ w.heap.size)
    (hK : ∀ v' w', w'.ownsRow base e 1 v' (l ++ m).length ((l ++ m).map mk) → w.grownBy w' v.ownBlock → wpList Tryz.prog ops Q rest (a.put o.dst v') w') : wpList Tryz.prog ops Q (o :: rest) a w := by
  refine BigFrame.wpList_want hw fun K hK2 => ?_
  obtain ⟨v', w', hr, h2, h3⟩ := Ow.append h1 hT l m v q n c base o.type w hO hA hn hl hm hb
  unfold Oper.wp
  simp [execOp, hop, resolve, invoke, builtin, hs, hx, hr, Result.andThen]
  exact hK2 _ _ (hK v' w' h2 h3)
def Vt.LIST : ByteArray := ⟨#[108, 105, 115, 116]⟩
def Vt.each (l : List Nd.N) : List Nd.N := [.mk 5 ⟨#[]⟩ [Vt.LIST] l []]
theorem Vt.each_toks (l : List Nd.N) (h : ∀ t ∈ Nd.toksL l, t.text.size ≤ 4000000000) : ∀ t ∈ Nd.toksL (Vt.each l), t.text.size ≤ 4000000000 := by
  intro t ht
  unfold Vt.each at ht
  rw [Nd.toksL, Nd.toksL, List.append_nil, Nd.N.toks, if_pos (by decide), List.mem_cons, List.mem_append] at ht
  rcases ht with rfl | ht | ht
  · exact Nat.zero_le _
  · exact h t ht
  · change t ∈ [Nd.tEnd] at ht
    rw [List.mem_singleton] at ht
    subst ht
    exact Nat.zero_le _
theorem Vt.each_row (W : World) (p : Option Addr) (c : Nat) (l : List Nd.N) (g : Nat) (hA : Nd.Row W p l) (hn : l.length ≤ 140737488351232) (hc : l.length ≤ c) (hg : W.cell? ⟨g, 0, none⟩ = some (.string Vt.LIST)) :
    Nd.Row (W.alloc (.cells #[.int .u8 5, .string ⟨#[]⟩, .slice (some ⟨g, 0, none⟩) 1 1, .slice p l.length c, .slice none 0 0] 44)) (some ⟨W.heap.size, 0, none⟩) (Vt.each l) := by
  have hb := (Below.refl W.heap.size W).alloc (Nat.le_refl _) (.cells #[.int .u8 5, .string ⟨#[]⟩, .slice (some ⟨g, 0, none⟩) 1 1, .slice p l.length c, .slice none 0 0] 44)
  intro j hj
  obtain rfl : j = 0 := by have : j < 1 := hj; omega
  have h5 := Vl.new W (.cells #[.int .u8 5, .string ⟨#[]⟩, .slice (some ⟨g, 0, none⟩) 1 1, .slice p l.length c, .slice none 0 0] 44)
  refine ⟨W.heap.size, 0, .int .u8 5, .string ⟨#[]⟩, .slice (some ⟨g, 0, none⟩) 1 1, .slice p l.length c, .slice none 0 0, rfl, ⟨?_, ?_, ?_, ?_, ?_⟩, .mk 5 ⟨#[]⟩ [Vt.LIST] l [], rfl, ?_⟩
  · rw [Lib.cell_of_heap h5]; rfl
  · rw [Lib.cell_of_heap h5]; rfl
  · rw [Lib.cell_of_heap h5]; rfl
  · rw [Lib.cell_of_heap h5]; rfl
  · rw [Lib.cell_of_heap h5]; rfl
  · rw [Nd.At.eq]
    refine ⟨some ⟨g, 0, none⟩, 1, p, c, none, 0, rfl, ⟨(show 5 ≤ 255 by decide), (show 0 ≤ 140737488351232 by decide), (show 1 ≤ 140737488351232 by decide), hn, (show 0 ≤ 140737488351232 by decide), fun s (h : s ∈ [Vt.LIST]) => ?_, Nat.le_refl _, hc, Nat.le_refl _⟩, Or.inr ⟨g, 0, rfl, fun i hi => ?_⟩, (Nd.row_iff _ _ l).2 (hA.below hb), (Nd.row_iff _ _ []).2 (Nd.Row.nil _ _)⟩
    · rw [List.mem_singleton] at h
      subst h
      decide
    · obtain rfl : i = 0 := by have : i < 1 := hi; omega
      exact (hb.cell (World.block_lt_of_cell? _ _ hg)).trans hg
/-- What VetWithin asks. -/
theorem Vt.within (l : List Nd.N) : (Nd.chk l = 0 ∧ Nd.chk (Vt.each l) = 0 ∧ Vt.iff (Nd.good (Vt.each l)) (Vt.dep (Vt.visL 1 false (Vt.each l))) = Vt.iff (Nd.good l) (Vt.dep (Vt.visL 1 false l)) + 1 ∧ Vt.iff (Nd.good (Vt.each l)) (Nd.cntL (Vt.each l)) = Vt.iff (Nd.good l) (Nd.cntL l) + 1 ∧ Vt.thisR (Vt.each l) = 0 ∧ Vt.onlyR (Vt.each l) (Vt.rootsR l ++ [Vt.LIST]) = 0) ∨ Nd.chk l = 2 ∨ (Nd.chk l = 0 ∧ Nd.chk (Vt.each l) = 2) := by
  cases hg : Nd.good l with
  | false => exact Or.inr (Or.inl ((Nd.chk_good).2 hg))
  | true =>
    cases hge : Nd.good (Vt.each l) with
    | false => exact Or.inr (Or.inr ⟨(Nd.chk_good).1 hg, (Nd.chk_good).2 hge⟩)
    | true =>
      refine Or.inl ⟨(Nd.chk_good).1 hg, (Nd.chk_good).1 hge, Vt.dep_within _ _ _ _, ?_, Vt.this_within _ _ _ _ hge (by kernel_rfl), ?_⟩
      · show Nd.cntL (Vt.each l) = Nd.cntL l + 1
        simp [Vt.each, Nd.cntL, Nd.N.cnt]
      · refine ((Vt.only_zero hge _).1).2 fun x hx => ?_
        obtain ⟨q, hq, h2, h3⟩ := (Vt.mem_roots hge x).1 hx
        unfold Vt.each at hq
        rw [Vt.visL_cons, Vt.visL_nil, List.append_nil, Vt.visN_eq, List.mem_cons, List.mem_append] at hq
        rw [List.mem_append]
        rcases hq with rfl | hq | hq
        · exact Or.inr (List.mem_singleton.2 h2.symm)
        · left
          change q ∈ Vt.visL 2 true l at hq
          have h4 : q.node ∈ (Vt.visL 2 true l).map (·.node) := List.mem_map.2 ⟨q, hq, rfl⟩
          rw [Vt.visL_node 2 1 true false l] at h4
          obtain ⟨q', h5, h6⟩ := List.mem_map.1 h4
          have h6 : q'.node = q.node := h6
          exact (Vt.mem_roots hg x).2 ⟨q', h5, by rw [h6]; exact h2, h3⟩
        · change q ∈ Vt.visL 2 false [] at hq
          rw [Vt.visL_nil] at hq
          cases hq
set_option maxRecDepth 100000 in
set_option maxHeartbeats 4000000 in
theorem vetWithin_law (p : Option Addr) (c : Nat) (l : List Nd.N) (w : World) (a b : Addr) (hA : Nd.Row w p l) (hl : l.length ≤ 1048576) (hc : l.length ≤ c) (hts : ∀ t ∈ Nd.toksL l, t.text.size ≤ 4000000000) (hT : Sc.Laid w) (hM : Sc.MaxLen w) (hE : Nd.Errs w a b) :
    Calls Tryz.prog 9 #[.slice p l.length c] w fun e w' => e = .returned (.bool true) ∧ Below w.heap.size w w' := by
  have hte := Vt.each_toks l hts
  have CL := Lib.hid (lives12_any w a b hT hM hE)
  have C1 := Lib.hid (fun W (h : Below w.heap.size w W) => vtDepth_any l p c W (by omega) (hA.below h) hts (hT.below h) (hM.below h))
  have C2 := Lib.hid (fun W q (h : Below w.heap.size w W) (hr : Nd.Row W q (Vt.each l)) => vtDepth_any (Vt.each l) q 1 W (show 1 ≤ _ by decide) hr hte (hT.below h) (hM.below h))
  have C3 := Lib.hid (fun W (h : Below w.heap.size w W) => vtCount_any l p c W (by omega) (hA.below h) hts (hT.below h) (hM.below h))
  have C4 := Lib.hid (fun W q (h : Below w.heap.size w W) (hr : Nd.Row W q (Vt.each l)) => vtCount_any (Vt.each l) q 1 W (show 1 ≤ _ by decide) hr hte (hT.below h) (hM.below h))
  have C5 := Lib.hid (fun W (h : Below w.heap.size w W) => vtRoots_any l p c W (by omega) (hA.below h) hts (hT.below h) (hM.below h))
  have C6 := Lib.hid (fun W q (h : Below w.heap.size w W) (hr : Nd.Row W q (Vt.each l)) => vtThis_any (Vt.each l) q 1 W (show 1 ≤ _ by decide) hr hte (hT.below h) (hM.below h))
  have C7 := Lib.hid (fun W q names pn cn (h : Below w.heap.size w W) (hr : Nd.Row W q (Vt.each l)) (hN : Wp.At Wp.mkT W pn names) (hnn : names.length ≤ 140737488351232) => vtOnly_any (Vt.each l) q 1 names pn cn W (show 1 ≤ _ by decide) hr hte (hT.below h) (hM.below h) hN hnn)
  have HE := Lib.hid (fun W g (h : Below w.heap.size w W) (hg : W.cell? ⟨g, 0, none⟩ = some (.string Vt.LIST)) => Vt.each_row W p c l g (hA.below h) (by omega) hc hg)
  have HZ := Lib.hid (Vt.within l)
  have hR := Vt.rootsR_len l
  clear hts hte hT hM hE hA
  generalize Vt.iff (Nd.good (Vt.each l)) (Vt.dep (Vt.visL 1 false (Vt.each l))) = de at *
  generalize Vt.iff (Nd.good l) (Vt.dep (Vt.visL 1 false l)) = dl at *
  generalize Vt.iff (Nd.good (Vt.each l)) (Nd.cntL (Vt.each l)) = ce at *
  generalize Vt.iff (Nd.good l) (Nd.cntL l) = cl at *
  obtain ⟨n, hn⟩ : ∃ n, n = l.length := ⟨_, rfl⟩
  rw [← hn] at C1 C3 C5 HE hl hc ⊢
  clear hn
  go_enter Tryz.func9, Tryz.ntmps9
  go_wp2_with fail
  refine CL.out.mono ?_
  rintro e w1 ⟨rfl, b1⟩
  have B1 := Lib.hid b1
  clear b1 CL
  have hal := (Below.refl w1.heap.size w1).alloc (Nat.le_refl _) (.cells #[.string Vt.LIST] 9)
  have h0 : (w1.alloc (.cells #[.string Vt.LIST] 9)).cell? ⟨w1.heap.size, 0, none⟩ = some (.string Vt.LIST) := by rw [Lib.cell_of_heap (Vl.new _ _)]; rfl
  have hr := HE.out (w1.alloc (.cells #[.string Vt.LIST] 9)) w1.heap.size (B1.out.trans (hal.mono B1.out.size)) h0
  rw [World.size_alloc] at hr
  have HR := Lib.hid hr
  have B2 := Lib.hid ((B1.out.trans (hal.mono B1.out.size)).alloc (B1.out.trans (hal.mono B1.out.size)).size (.cells #[.int .u8 5, .string ⟨#[]⟩, .slice (some ⟨w1.heap.size, 0, none⟩) 1 1, .slice p n c, .slice none 0 0] 44))
  clear hal h0 hr HE
  go_wp2_with fail
  refine (C1.out _ B2.out).mono ?_
  rintro e w2 ⟨rfl, b2⟩
  have HR := Lib.hid (HR.out.below b2)
  have B2 := Lib.hid (B2.out.trans (b2.mono B2.out.size))
  clear b2 C1
  go_wp2_with fail
  refine (C2.out _ _ B2.out HR.out).mono ?_
  rintro e w3 ⟨rfl, b3⟩
  have HR := Lib.hid (HR.out.below b3)
  have B3 := Lib.hid (B2.out.trans (b3.mono B2.out.size))
  clear b3 C2 B2
  go_wp2_with fail
  refine (C3.out _ B3.out).mono ?_
  rintro e w4 ⟨rfl, b4⟩
  have HR := Lib.hid (HR.out.below b4)
  have B4 := Lib.hid (B3.out.trans (b4.mono B3.out.size))
  clear b4 C3 B3
  go_wp2_with fail
  refine (C4.out _ _ B4.out HR.out).mono ?_
  rintro e w5 ⟨rfl, b5⟩
  have HR := Lib.hid (HR.out.below b5)
  have B5 := Lib.hid (B4.out.trans (b5.mono B4.out.size))
  clear b5 C4 B4
  rcases HZ.out with ⟨h1, h2, h3, h4, h5, h6⟩ | h1 | ⟨h1, h2⟩
  · have hd : (de : Int) - (dl : Int) = 1 := by omega
    have hcc : (ce : Int) - (cl : Int) = 1 := by omega
    rw [h1, h2]
    have HH1 := Lib.hid h1
    rw [h5] at C6
    have H6 := Lib.hid h6
    clear h3 h4 h5 h6 HZ h1 h2
    go_wp2_with fail
    refine (C5.out _ B5.out).mono ?_
    rintro e w6 ⟨pr, cr, rfl, -, har, b6⟩
    have HR := Lib.hid (HR.out.below b6)
    have B6 := Lib.hid (B5.out.trans (b6.mono B5.out.size))
    have HA := Lib.hid har
    clear b6 C5 B5 har
    rw [HH1.out]
    generalize Vt.rootsR l = R at *
    obtain ⟨m, hm⟩ : ∃ m, m = R.length := ⟨_, rfl⟩
    have HM := Lib.hid hm
    rw [← hm] at hR ⊢
    clear hm HH1
    go_wp2_with fail
    refine (C6.out _ _ B6.out HR.out).mono ?_
    rintro e w7 ⟨rfl, b7⟩
    have HR := Lib.hid (HR.out.below b7)
    have HA := Lib.hid (HA.out.below b7)
    have B7 := Lib.hid (B6.out.trans (b7.mono B6.out.size))
    clear b7 C6 B6
    have hbe := Lib.hid ((Below.refl w7.heap.size w7).alloc (Nat.le_refl _) (.cells #[] 9))
    go_wp2_with (at_builtin; go_loud (refine Vt.listW (mk := Wp.mkT) rfl _ _ _ rfl (fun _ => rfl) Vt.tyTexts [] R (.slice (some ⟨w7.heap.size, 0, none⟩) 0 0) _ _ _ w7.heap.size rfl rfl (World.ownsRow_made w7 #[] 0 (Nat.le_refl _) (Nat.zero_le _) rfl) (HA.out.below hbe.out) HM.out (by simp) (by have := HM.out; omega) hbe.out.size ?_))
    intro va wa hoa hga
    have ha : Below w7.heap.size w7 wa := Ow.grown hbe.out (World.ownsRow_made w7 #[] 0 (Nat.le_refl _) (Nat.zero_le _) rfl) hga hbe.out.size
    have Hoa := Lib.hid hoa
    have Ha := Lib.hid ha
    clear hoa hga ha
    go_wp2_with (at_builtin; go_loud (refine Vt.listW (mk := Wp.mkT) rfl _ _ _ rfl (fun _ => rfl) Vt.tyTexts R [Vt.LIST] va _ _ _ w7.heap.size rfl rfl (Hoa.out.alloc _) (Ow.one (Ow.n3 wa 9 _)) rfl (by have := HM.out; omega) (by simp) (Ha.out.alloc Ha.out.size _).size ?_))
    intro vb wb hob hgb
    have hb := Ow.grown (Ha.out.alloc Ha.out.size (.cells #[.string Vt.LIST] 9)) (Hoa.out.alloc _) hgb (Ha.out.alloc Ha.out.size _).size
    have hob2 : wb.ownsRow w7.heap.size 9 1 vb (R ++ [Vt.LIST]).length ((R ++ [Vt.LIST]).map Wp.mkT) := by rw [List.length_append, List.map_append]; exact hob
    obtain ⟨pv, cv, rfl, hav⟩ := owns_at (mk := Wp.mkT) hob2
    have HAV := Lib.hid hav
    have HR := Lib.hid (HR.out.below hb)
    have B8 := Lib.hid (B7.out.trans (hb.mono B7.out.size))
    clear hob hob2 hgb hb hav Hoa Ha hbe B7 HA
    obtain ⟨k, hk⟩ : ∃ k, k = (R ++ [Vt.LIST]).length := ⟨_, rfl⟩
    have CO := Lib.hid (C7.out _ _ (R ++ [Vt.LIST]) pv cv B8.out HR.out HAV.out (by rw [List.length_append]; have := HM.out; have : [Vt.LIST].length = 1 := rfl; omega))
    rw [H6.out] at CO
    rw [← hk] at CO ⊢
    clear hk C7 HAV HR H6
    go_wp2_with fail
    refine CO.out.mono ?_
    rintro e w9 ⟨rfl, b9⟩
    have B9 := Lib.hid (B8.out.trans (b9.mono B8.out.size))
    clear b9 CO B8
    go_wp2_with fail
    go_ret
    exact ⟨rfl, B9.out⟩
  · rw [h1]
    clear HZ h1
    go_wp2_with fail
    go_ret
    exact ⟨rfl, B5.out⟩
  · rw [h1, h2]
    clear HZ h1 h2
    go_wp2_with fail
    go_ret
    exact ⟨rfl, B5.out⟩
end Go.Proofs.YteajjlilpikdeaaGreatDoor
