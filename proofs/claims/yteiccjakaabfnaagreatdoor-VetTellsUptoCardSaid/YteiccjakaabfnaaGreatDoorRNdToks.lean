
/-
  The walk of the document's tokens of nodes: they are the nodes' tokens, in memory of the call's own. Condition: the nodes are right, and few.
-/
import Derived.Test.YteiccjakaabfnaaGreatDoorZ37
import Derived.Test.YteiccjakaabfnaaGreatDoorZ42
import Derived.Test.YteiccjakaabfnaaGreatDoorZ53
namespace Go.Proofs.YteiccjakaabfnaaGreatDoor
open Go.RowKit

/-- What tokens hands back. -/
def Nd.TkPost (out : List Sc.T) (w : World) (e : Ending) (w' : World) : Prop := ∃ v, e = .returned v ∧ Sc.OwnRow w.heap.size w' v out.length out ∧ Below w.heap.size w w'
theorem Nd.strTy : Ow.Ty 23 9 (.string ⟨#[]⟩) := ⟨Tryz.underlying23, by obtain ⟨i, h1, h2, h3, h4⟩ : ∃ i, Tryz.prog.info? 9 = some i ∧ i.zero = some (.string ⟨#[]⟩) ∧ i.size = 1 ∧ i.bytes = 16 := info_parts (by kernel_rfl); exact ⟨i, h1, h2, h3, by omega⟩, rfl⟩
theorem Sc.OwnRow.keep {B : Nat} {w0 w w' : World} {v : Value} {n : Nat} {l : List Sc.T} (h : Below B w0 w) (hO : Sc.OwnRow B w v n l) (hg : w.grownBy w' v.ownBlock) (hb : B ≤ w.heap.size) : Below B w0 w' := h.grown hg hb (fun k hk => (hO.lt k hk).1)
/-- A token whose path lies in blocks of the call's own. -/
theorem Nd.tok_off {B B' : Nat} {W W' : World} {blk : Option Nat} {k : Nat} {t : ByteArray} {pp : Option Addr} {p : List ByteArray} {cp : Nat} (hk : k ≤ 255) (ht : t.size ≤ 140737488351232) (hpl : p.length ≤ 140737488351232) (hps : ∀ s ∈ p, s.size ≤ 140737488351232) (hcp : p.length ≤ cp)
    (hp : ∀ W2 : World, (∀ j, B' ≤ j → j < W.heap.size → W2.heap[j]? = W.heap[j]?) → Wp.At Wp.mkT W2 pp p) (hB : B ≤ B') (hs : W.heap.size ≤ W'.heap.size) (hkeep : ∀ j, B' ≤ j → j < W.heap.size → W'.heap[j]? = W.heap[j]?) (hne : ∀ j, blk = some j → j < B' ∨ W.heap.size ≤ j) :
    Sc.Off B W' blk (.agg #[.int .u8 k, .string t, .slice pp p.length cp]) ⟨k, t, p⟩ := fun W2 hW =>
  ⟨pp, cp, rfl, ⟨⟨hk, hcp⟩, ht, hpl, hps⟩, hp W2 (fun j h1 h2 => (hW j (Nat.le_trans hB h1) (Nat.lt_of_lt_of_le h2 hs) (fun e => by have := hne j e.symm; omega)).trans (hkeep j h1 h2))⟩
set_option maxRecDepth 100000 in
theorem refTokens_zero (q : Option Addr) (c : Nat) (w : World) :
    Calls Tryz.prog 97 #[.slice q 0 c, .int .i64 (0 : Nat)] w (Nd.TkPost [] w) := by
  go_enter Tryz.func97, Tryz.ntmps97
  go_wp2_with fail
  go_ret
  exact ⟨_, rfl, Sc.OwnRow.nil _ _, Below.refl _ _⟩
set_option maxRecDepth 100000 in
set_option maxHeartbeats 8000000 in
theorem refTokens_step (d : Nat) (l : List Nd.N) (q : Option Addr) (c : Nat) (w0 w : World) (hd : d ≤ 8) (hok : ∀ n ∈ l, Nd.okL d n.kids = true ∧ Nd.okL d n.els = true) (hn : l.length ≤ 140737488351232) (hA : Nd.Row w0 q l) (hB : Below w0.heap.size w0 w) (hlen : (Nd.toksL l).length ≤ 1000)
    (hps : ∀ n ∈ l, n.path.length ≤ 3000000)
    (ih : ∀ (l' : List Nd.N) (q' : Option Addr) (c' : Nat) (W : World), (∃ n ∈ l, l' = n.kids ∨ l' = n.els) → Nd.okL d l' = true → l'.length ≤ 140737488351232 → Nd.Row w0 q' l' → Below w0.heap.size w0 W → (Nd.toksL l').length ≤ 1000 → Calls Tryz.prog 97 #[.slice q' l'.length c', .int .i64 (d : Nat)] W (Nd.TkPost (Nd.toksL l') W)) :
    Calls Tryz.prog 97 #[.slice q l.length c, .int .i64 ((d : Int) + 1)] w (Nd.TkPost (Nd.toksL l) w) := by
  have HOk := Lib.hid hok
  have HA := Lib.hid hA
  have HB := Lib.hid hB
  have Hlen := Lib.hid hlen
  have Hps := Lib.hid hps
  have Hih := Lib.hid ih
  obtain ⟨n, hnl⟩ : ∃ n, n = l.length := ⟨_, rfl⟩
  rw [← hnl] at hn ⊢
  have HN := Lib.hid hnl
  obtain ⟨out, hout⟩ : ∃ out, out = Nd.toksL l := ⟨_, rfl⟩
  rw [← hout]
  have HOut := Lib.hid hout
  have hwr : IntKind.i64.wrap ((d : Int) + 1 - 1) = (d : Int) := by rw [IntWalk.i64_in _ (by omega)]; omega
  have hwr2 : IntKind.i64.wrap (d : Int) = (d : Int) := IntWalk.i64_in _ (by omega)
  have q0 : (((d : Int) + 1) == 0) = false := beq_eq_false_iff_ne.2 (by omega)
  clear hok hA hB hlen ih hnl hout hps
  go_enter Tryz.func97, Tryz.ntmps97
  go_wp2_with fail
  go_loopw [5, 7, 12] (fun v5 _ t wr => ∃ k : Nat, k ≤ n ∧ t = .int .i64 k ∧ Hid (Sc.OwnRow w.heap.size wr v5 (Nd.toksL (l.take k)).length (Nd.toksL (l.take k))) ∧ Hid (Below w.heap.size w wr)) (fun _ _ t _ => n - (intOf t).toNat)
  case atStart => exact ⟨0, Nat.zero_le _, rfl, Lib.hid (by rw [List.take_zero, Nd.toksL_nil]; exact Sc.OwnRow.nil _ _), Lib.hid (Below.refl _ _)⟩
  case round =>
    obtain ⟨k, hk, rfl, HO, HBw⟩ := hrel
    by_cases hlt : k < n
    · have hkl : k < l.length := by rw [← HN.out]; exact hlt
      have HBr := Lib.hid (HB.out.trans (HBw.out.mono HB.out.size))
      obtain ⟨b, off, pp, cp, pk, ck, pe, ce, rfl, h5, hf, hp, hrk, hre⟩ := HA.out.get k hkl
      obtain ⟨e0, e1, e2, e3, e4⟩ := h5.below HBr.out
      have hsn := Nd.toks_snoc l k hkl
      have htl := Nd.toks_take l (k + 1)
      rw [hsn, List.length_append] at htl
      have hok := HOk.out l[k] (List.getElem_mem hkl)
      have hpl := Hps.out l[k] (List.getElem_mem hkl)
      have hmem := List.getElem_mem hkl
      obtain ⟨x, hx⟩ : ∃ x, x = l[k] := ⟨_, rfl⟩
      rw [← hx] at e0 e1 e2 e3 e4 hsn htl hok hf hrk hre hpl hmem hp
      rw [Nd.N.toks_eq] at hsn htl
      obtain ⟨f1, f2, f3, f4, f5, f6, f7, -, -⟩ := hf
      have Hsn := Lib.hid hsn
      have Hac := Lib.hid (Nat.le_trans htl Hlen.out)
      have C1 := Lib.hid (fun W h1 h2 => Hih.out x.kids pk ck W ⟨x, hmem, Or.inl rfl⟩ hok.1 f4 hrk h1 h2)
      have C2 := Lib.hid (fun W h1 h2 => Hih.out x.els pe ce W ⟨x, hmem, Or.inr rfl⟩ hok.2 f5 hre h1 h2)
      have hwz := HBw.out.size
      have HX1 := Lib.hid ((Below.refl wr.heap.size wr).alloc (Nat.le_refl _) (.cells #[.int .u8 (x.kind : Nat), .string x.text, .slice pp x.path.length cp, .slice pk x.kids.length ck, .slice pe x.els.length ce] 37))
      have HV := Lib.hid (Vl.new wr (.cells #[.int .u8 (x.kind : Nat), .string x.text, .slice pp x.path.length cp, .slice pk x.kids.length ck, .slice pe x.els.length ce] 37))
      have HO1 := Lib.hid (HO.out.below HX1.out)
      have HP := Lib.hid ((hp.below HBr.out).below HX1.out)
      have HB1 := Lib.hid (HBw.out.trans (HX1.out.mono HBw.out.size))
      have HBr1 := Lib.hid (HBr.out.trans (HX1.out.mono HBr.out.size))
      have Htok := Lib.hid (show ∀ (B B' : Nat) (W W' : World) (blk : Option Nat) (qq : Option Addr) (cq : Nat), x.path.length ≤ cq → (∀ W2 : World, (∀ j, B' ≤ j → j < W.heap.size → W2.heap[j]? = W.heap[j]?) → Wp.At Wp.mkT W2 qq x.path) → B ≤ B' → W.heap.size ≤ W'.heap.size → (∀ j, B' ≤ j → j < W.heap.size → W'.heap[j]? = W.heap[j]?) → (∀ j, blk = some j → j < B' ∨ W.heap.size ≤ j) → Sc.Off B W' blk (.agg #[.int .u8 (x.kind : Nat), .string x.text, .slice qq x.path.length cq]) ⟨x.kind, x.text, x.path⟩ from fun B B' W W' blk qq cq h1 h2 h3 h4 h5 h6 => Nd.tok_off f1 f2 f3 f6 h1 h2 h3 h4 h5 h6)
      have Hne0 := Lib.hid (HO.out.lt)
      clear hsn htl hx hok hp h5 hrk hre HX1 HO HBw HBr hmem f1 f2 f3 f4 f5 f6 f7
      generalize hH : Nd.toksL (l.take k) = tk at *
      have Htkl : Hid (tk.length ≤ 100000000) := Lib.hid (by have := Hac.out; omega)
      go_wp2_with fail
      obtain ⟨bx, hbx⟩ : ∃ bx, bx = wr.heap.size := ⟨_, rfl⟩
      have hV := HV.out
      have hs1 : (wr.alloc (.cells #[.int .u8 (x.kind : Nat), .string x.text, .slice pp x.path.length cp, .slice pk x.kids.length ck, .slice pe x.els.length ce] 37)).heap.size = bx + 1 := by rw [World.size_alloc, hbx]
      have hwbx : w.heap.size ≤ bx := by rw [hbx]; exact hwz
      have hN0 := Hne0.out
      rw [← hbx] at hV hN0 ⊢
      clear hbx HV e0 e1 e2 e3 e4 Hne0
      obtain ⟨wn, hwn⟩ : ∃ wn, wn = wr.alloc (.cells #[.int .u8 (x.kind : Nat), .string x.text, .slice pp x.path.length cp, .slice pk x.kids.length ck, .slice pe x.els.length ce] 37) := ⟨_, rfl⟩
      rw [← hwn] at hV hs1 HO1 HP HB1 HBr1 ⊢
      have HVn := Lib.hid hV
      have Hne : Hid (∀ j, u5.ownBlock = some j → j < bx) := Lib.hid (fun j e => (hN0 j e).2)
      have HS1 : Hid (wn.heap.size = bx + 1) := Lib.hid hs1
      have hblt : bx < wn.heap.size := by rw [hs1]; exact Nat.lt_succ_self _
      clear hwn hV hN0 hs1
      obtain ⟨v0, v1, v2, v3, v4⟩ := Vl.five_of HVn.out
      have HK := Lib.hid (fun (W : World) (hW : Below wn.heap.size wn W) => (by obtain ⟨a0, a1, a2, -, -⟩ := Vl.five_of ((hW.block bx hblt).trans HVn.out); exact ⟨a0, a1, a2⟩ : W.cell? ⟨bx, 0, none⟩ = some (.int .u8 (x.kind : Nat)) ∧ W.cell? ⟨bx, 1, none⟩ = some (.string x.text) ∧ W.cell? ⟨bx, 2, none⟩ = some (.slice pp x.path.length cp)))
      have HK2 := Lib.hid (fun (W : World) (h : W.heap[bx]? = some (.cells #[.int .u8 (x.kind : Nat), .string x.text, .slice pp x.path.length cp, .slice pk x.kids.length ck, .slice pe x.els.length ce] 37)) => (by obtain ⟨a0, a1, a2, -, -⟩ := Vl.five_of h; exact ⟨a0, a1, a2⟩ : W.cell? ⟨bx, 0, none⟩ = some (.int .u8 (x.kind : Nat)) ∧ W.cell? ⟨bx, 1, none⟩ = some (.string x.text) ∧ W.cell? ⟨bx, 2, none⟩ = some (.slice pp x.path.length cp)))
      have Hpl : Hid (x.path.length ≤ 3000000) := Lib.hid (by omega)
      go_region_held3 (fun w' => w'.cell? ⟨bx, 0, none⟩ = some (.int .u8 (x.kind : Nat)) ∧ w'.cell? ⟨bx, 1, none⟩ = some (.string x.text) ∧ w'.cell? ⟨bx, 2, none⟩ = some (.slice pp x.path.length cp))
        (first | (with_reducible exact HK2.out _ hxb) | (with_reducible exact HK.out _ ea) | (with_reducible exact HK.out _ (ea.alloc ea.size _)) | (with_reducible exact HK.out _ (Below.refl _ wn).drew) | (with_reducible exact HK.out _ (Ow.a2 wn (.cells #[] 9))) | (go_keep; done))
        (first
          | (refine Ow.step (mk := Wp.mkT) rfl _ _ _ rfl (fun _ => rfl) Nd.strTy [] x.path (.slice (some ⟨wn.heap.size, 0, none⟩) 0 0) _ _ _ wn.heap.size rfl rfl (Ow.a1 wn 9) (HP.out.below (Ow.a2 wn (.cells #[] 9))) rfl (Nat.zero_le _) Hpl.out (Ow.a2 wn (.cells #[] 9)).size ?_; intro va wa hoa hga; have ea := Ow.grown (Ow.a2 wn (.cells #[] 9)) (Ow.a1 wn 9) hga (Ow.a2 wn (.cells #[] 9)).size; rw [List.nil_append] at hoa; obtain ⟨pq, cq, rfl, hcq, hoff⟩ := Nd.texts_off hoa)
          | (refine Sc.stepO rfl _ _ rfl w.heap.size tk [⟨x.kind, x.text, x.path⟩] u5 _ _ _ rfl rfl (HO1.out.below (ea.alloc ea.size _)) (Nat.le_trans HB1.out.size (ea.alloc ea.size (.cells #[.int .u8 (x.kind : Nat), .string x.text, .slice pq x.path.length cq] 110)).size) (Sc.RowP.one (Vl.new wa (.cells #[.int .u8 (x.kind : Nat), .string x.text, .slice pq x.path.length cq] 110)) (Htok.out w.heap.size wn.heap.size wa (wa.alloc (.cells #[.int .u8 (x.kind : Nat), .string x.text, .slice pq x.path.length cq] 110)) u5.ownBlock pq cq hcq hoff HB1.out.size (by rw [World.size_alloc]; omega) (fun j _ h2 => Vl.past _ _ _ h2) (fun j e => Or.inl (Nat.lt_trans (Hne.out j e) hblt)))) rfl Htkl.out (by simp) ?_; intro vb wb hob hgb hab; have hxb : wb.heap[bx]? = some (.cells #[.int .u8 (x.kind : Nat), .string x.text, .slice pp x.path.length cp, .slice pk x.kids.length ck, .slice pe x.els.length ce] 37) := (hgb.block bx (Nat.lt_of_lt_of_le hblt (ea.alloc ea.size (.cells #[.int .u8 (x.kind : Nat), .string x.text, .slice pq x.path.length cq] 110)).size) (fun e => Nat.lt_irrefl _ (Hne.out bx e.symm))).trans (((ea.alloc ea.size (.cells #[.int .u8 (x.kind : Nat), .string x.text, .slice pq x.path.length cq] 110)).block bx hblt).trans HVn.out)))
      have HOb := Lib.hid hob
      have hbz := (ea.alloc ea.size (.cells #[.int .u8 (x.kind : Nat), .string x.text, .slice pq x.path.length cq] 110))
      have HBb := Lib.hid (Sc.OwnRow.keep (HB1.out.trans (hbz.mono HB1.out.size)) (HO1.out.below hbz) hgb (Nat.le_trans HB1.out.size hbz.size))
      have HVb := Lib.hid hxb
      have Hneb : Hid (∀ j, vb.ownBlock = some j → j ≠ bx ∧ j < wb.heap.size) := Lib.hid (fun j e => ⟨by
        rcases hab with h | h
        · rw [h] at e; have := Hne.out j e; omega
        · rw [h] at e; cases e; have := hbz.size; omega, (hob.lt j e).2⟩)
      have HBrb := Lib.hid (HB.out.trans (HBb.out.mono HB.out.size))
      clear HK2 hxb hob hgb hab hbz ea hoa hga hoff hcq HO1 HB1 HBr1 HVn HP HK Hne Htok v0 v1 v2 v3 v4 HS1 hblt hpl Hpl
      generalize hne : x.els.length = ne at *
      have HNe := Lib.hid hne
      clear hne
      generalize hnk : x.kids.length = nk at *
      have HNk := Lib.hid hnk
      clear hnk
      cases hop : Nd.opens x.kind with
      | false =>
        have Hsn2 := Lib.hid (show Nd.toksL (l.take (k + 1)) = tk ++ [⟨x.kind, x.text, x.path⟩] by rw [Hsn.out, hop]; rfl)
        have hk3 : x.kind ≠ 3 := fun e => by rw [e] at hop; cases hop
        have hk5 : x.kind ≠ 5 := fun e => by rw [e] at hop; cases hop
        have q3 : ((x.kind : Int) != 3) = true := by rw [bne_iff_ne]; omega
        have q5 : ((x.kind : Int) != 5) = true := by rw [bne_iff_ne]; omega
        clear hop hk3 hk5
        obtain ⟨v0, v1, v2, v3, v4⟩ := Vl.five_of HVb.out
        go_wp2_with fail
        exact ⟨⟨k + 1, by omega, by go_num, Lib.hid (by rw [Hsn2.out]; exact HOb.out), HBb⟩, by simp [intOf]; omega⟩
      | true =>
        have hsn := Hsn.out
        have hac := Hac.out
        rw [hop, if_pos rfl] at hsn hac
        have Hsn2 := Lib.hid hsn
        have Hac2 := Lib.hid hac
        have hq : (((x.kind : Int) != 3) = false ∧ True) ∨ (((x.kind : Int) != 3) = true ∧ ((x.kind : Int) != 5) = false) := by
          rcases Nd.opens_iff.1 hop with h | h
          · exact Or.inl ⟨by rw [h]; rfl, trivial⟩
          · exact Or.inr ⟨by rw [h]; rfl, by rw [h]; rfl⟩
        clear hop hsn hac Hsn Hac
        have HC1 := Lib.hid (C1.out wb HBrb.out (by have := Hac2.out; simp only [List.length_append, List.length_cons, List.length_nil] at this ⊢; omega))
        rcases hq with ⟨q3, q5⟩ | ⟨q3, q5⟩
        all_goals
          obtain ⟨v0, v1, v2, v3, v4⟩ := Vl.five_of HVb.out
          go_wp2_with fail
          refine HC1.out.mono ?_
          rintro e w3 ⟨vk, rfl, hOk, hbk⟩
          obtain ⟨pk2, ck2, rfl, hRk⟩ := hOk.rowP (B := w.heap.size) (W := w3) (ob := vb.ownBlock) HBb.out.size (Nat.le_refl _) (fun _ _ _ => rfl) (fun j e => Or.inl (Hneb.out j e).2)
          have HO3 := Lib.hid (HOb.out.below hbk)
          have HB3 := Lib.hid (HBb.out.trans (hbk.mono HBb.out.size))
          have HV3 := Lib.hid ((hbk.block bx (Array.getElem?_eq_some_iff.1 HVb.out).1).trans HVb.out)
          have HR3 := Lib.hid hRk
          have Hl3 : Hid ((tk ++ [(⟨x.kind, x.text, x.path⟩ : Sc.T)]).length ≤ 100000000) := Lib.hid (by have := Hac2.out; simp only [List.length_append, List.length_cons, List.length_nil] at this ⊢; omega)
          have Hlk : Hid ((Nd.toksL x.kids).length ≤ 100000000) := Lib.hid (by have := Hac2.out; simp only [List.length_append, List.length_cons, List.length_nil] at this ⊢; omega)
          have Hl4 : Hid ((tk ++ [(⟨x.kind, x.text, x.path⟩ : Sc.T)] ++ Nd.toksL x.kids).length ≤ 100000000) := Lib.hid (by have := Hac2.out; simp only [List.length_append, List.length_cons, List.length_nil] at this ⊢; omega)
          have Hone : Hid (∀ t : Sc.T, [t].length ≤ 100000000) := Lib.hid (fun t => by simp)
          clear hOk hbk hRk v0 v1 v2 v3 v4 HOb HBb HVb HBrb C1 HC1
          obtain ⟨v0, v1, v2, v3, v4⟩ := Vl.five_of HV3.out
          go_wp2_with (at_builtin; refine Sc.listO rfl _ _ rfl w.heap.size (tk ++ [(⟨x.kind, x.text, x.path⟩ : Sc.T)]) (Nd.toksL x.kids) vb _ _ _ rfl rfl HO3.out HB3.out.size HR3.out rfl Hl3.out Hlk.out ?_)
          intro va4 w4 hO4 hg4 ha4
          obtain ⟨l4, hl4⟩ : ∃ l4, l4 = (tk ++ [(⟨x.kind, x.text, x.path⟩ : Sc.T)] ++ Nd.toksL x.kids) := ⟨_, rfl⟩
          have hO4 : Sc.OwnRow w.heap.size w4 va4 l4.length l4 := hO4.as (by rw [hl4]; simp)
          have Hl4 : Hid (l4.length ≤ 100000000) := Lib.hid (by rw [hl4]; exact Hl4.out)
          have H4e := Lib.hid hl4
          have HO4 := Lib.hid hO4
          have HB4 := Lib.hid (Sc.OwnRow.keep HB3.out HO3.out hg4 HB3.out.size)
          have HV4 := Lib.hid ((hg4.block bx (Array.getElem?_eq_some_iff.1 HV3.out).1 (fun e => (Hneb.out bx e.symm).1 rfl)).trans HV3.out)
          have Hn4 : Hid (∀ j, va4.ownBlock = some j → j ≠ bx ∧ j < w4.heap.size) := Lib.hid (fun j e => ⟨by
            rcases ha4 with h | h
            · rw [h] at e; exact (Hneb.out j e).1
            · rw [h] at e; cases e; have := (Array.getElem?_eq_some_iff.1 HV3.out).1; omega, (hO4.lt j e).2⟩)
          clear hl4 hO4 hg4 ha4 HO3 HB3 HV3 HR3 Hneb v0 v1 v2 v3 v4
          obtain ⟨v0, v1, v2, v3, v4⟩ := Vl.five_of HV4.out
          by_cases hz : ne = 0
          · have hz2 : ¬ (0 : Int) < (ne : Int) := by omega
            have Hsn3 := Lib.hid (show Nd.toksL (l.take (k + 1)) = tk ++ ⟨x.kind, x.text, x.path⟩ :: (Nd.toksL x.kids ++ [Nd.tEnd]) by
              rw [Hsn2.out, show x.els.isEmpty = true from List.isEmpty_iff.2 (List.length_eq_zero_iff.1 (HNe.out.trans hz))]; rfl)
            clear hz Hsn2 Hac2 C2
            have HA5 := Lib.hid ((Below.refl _ _).alloc (Nat.le_refl _) (.cells #[.int .u8 6, .string ⟨#[]⟩, .slice none 0 0] 110) : Below w4.heap.size w4 (w4.alloc (.cells #[.int .u8 6, .string ⟨#[]⟩, .slice none 0 0] 110)))
            have HO5 := Lib.hid (HO4.out.below HA5.out)
            have HB5 := Lib.hid (HB4.out.trans (HA5.out.mono HB4.out.size))
            have HR5 := Lib.hid (Sc.RowP.one (Vl.new w4 (.cells #[.int .u8 6, .string ⟨#[]⟩, .slice none 0 0] 110)) (Sc.end_off w.heap.size (w4.alloc (.cells #[.int .u8 6, .string ⟨#[]⟩, .slice none 0 0] 110)) va4.ownBlock))
            go_wp2_with (at_builtin; refine Sc.listO rfl _ _ rfl w.heap.size l4 [Nd.tEnd] va4 _ _ _ rfl rfl HO5.out HB5.out.size HR5.out rfl Hl4.out (Hone.out _) ?_)
            intro v6 w6 hO6 hg6 ha6
            have HO6 := Lib.hid hO6
            have HB6 := Lib.hid (Sc.OwnRow.keep HB5.out HO5.out hg6 HB5.out.size)
            clear hO6 hg6 ha6 HO5 HB5 HR5 HA5 HO4 HB4 HV4 Hn4 v0 v1 v2 v3 v4
            go_wp2_with fail
            exact ⟨⟨k + 1, by omega, by go_num, Lib.hid (HO6.out.as (by rw [Hsn3.out, H4e.out]; simp)), HB6⟩, by simp [intOf]; omega⟩
          · have hz2 : (0 : Int) < (ne : Int) := by omega
            have hel : x.els.isEmpty = false := by cases he : x.els with | nil => exact absurd (by rw [← HNe.out, he]; rfl) hz | cons a b => rfl
            have Hsn3 := Lib.hid (show Nd.toksL (l.take (k + 1)) = tk ++ ⟨x.kind, x.text, x.path⟩ :: (Nd.toksL x.kids ++ (Nd.tElse :: (Nd.toksL x.els ++ [Nd.tEnd]))) by rw [Hsn2.out, hel]; rfl)
            have Hle : Hid ((Nd.toksL x.els).length ≤ 1000 ∧ (l4 ++ [Nd.tElse] ++ Nd.toksL x.els).length ≤ 1000) := Lib.hid (by have := Hac2.out; rw [hel] at this; rw [H4e.out]; simp only [List.length_append, List.length_cons, List.length_nil, Bool.false_eq_true, if_false] at this ⊢; omega)
            have Hl5 : Hid ((l4 ++ [Nd.tElse]).length ≤ 100000000) := Lib.hid (by have := Hle.out.2; rw [List.length_append] at this; omega)
            have Hl6 : Hid ((Nd.toksL x.els).length ≤ 100000000) := Lib.hid (by have := Hle.out.1; omega)
            have Hl7 : Hid ((l4 ++ [Nd.tElse] ++ Nd.toksL x.els).length ≤ 100000000) := Lib.hid (by have := Hle.out.2; omega)
            have Hbr : Hid (∀ W, Below w.heap.size w W → Below w0.heap.size w0 W) := Lib.hid (fun W h => HB.out.trans (h.mono HB.out.size))
            have HK := Lib.hid (fun (W : World) (h : W.heap[bx]? = some (.cells #[.int .u8 (x.kind : Nat), .string x.text, .slice pp x.path.length cp, .slice pk nk ck, .slice pe ne ce] 37)) => (Vl.five_of h).2.2.2.2)
            have hbx4 := (Array.getElem?_eq_some_iff.1 HV4.out).1
            have HE4 := Lib.hid (Ow.a2 w4 (.cells #[.int .u8 4, .string ⟨#[]⟩, .slice none 0 0] 110))
            have HE4b := Lib.hid (HB4.out.trans (HE4.out.mono HB4.out.size))
            have HE4o := Lib.hid (HO4.out.below HE4.out)
            have HE4r : Hid (Sc.RowP (Sc.Off w.heap.size (w4.alloc (.cells #[.int .u8 4, .string ⟨#[]⟩, .slice none 0 0] 110)).drew va4.ownBlock) (w4.alloc (.cells #[.int .u8 4, .string ⟨#[]⟩, .slice none 0 0] 110)).drew (some ⟨w4.heap.size, 0, none⟩) [Nd.tElse]) := Lib.hid (Sc.RowP.one (Vl.new w4 (.cells #[.int .u8 4, .string ⟨#[]⟩, .slice none 0 0] 110)) (Sc.else_off _ _ _))
            have HE4x : Hid ((w4.alloc (.cells #[.int .u8 4, .string ⟨#[]⟩, .slice none 0 0] 110)).drew.heap[bx]? = some (.cells #[.int .u8 (x.kind : Nat), .string x.text, .slice pp x.path.length cp, .slice pk nk ck, .slice pe ne ce] 37)) := Lib.hid ((Vl.past w4 (.cells #[.int .u8 4, .string ⟨#[]⟩, .slice none 0 0] 110) bx hbx4).trans HV4.out)
            have HE4z : Hid (bx < (w4.alloc (.cells #[.int .u8 4, .string ⟨#[]⟩, .slice none 0 0] 110)).drew.heap.size) := Lib.hid (Nat.lt_of_lt_of_le hbx4 HE4.out.size)
            have Hwx4 : Hid (w4.drew.heap[bx]? = some (.cells #[.int .u8 (x.kind : Nat), .string x.text, .slice pp x.path.length cp, .slice pk nk ck, .slice pe ne ce] 37)) := Lib.hid HV4.out
            clear hel hz Hsn2 Hac2
            go_wp2_with fail
            go_region_held3 (fun w' => w'.cell? ⟨bx, 4, none⟩ = some (.slice pe ne ce))
              (first | (with_reducible exact HK.out _ hx8) | (with_reducible exact HK.out _ hx5) | (with_reducible exact HK.out _ hx6) | (with_reducible exact HK.out _ HE4x.out) | (with_reducible exact HK.out _ Hwx4.out) | (with_reducible exact HK.out _ ((Vl.past w6 (.cells #[.int .u8 4, .string ⟨#[]⟩, .slice none 0 0] 110) bx hbx6).trans hx6)) | (go_keep; done))
              (first
                | (refine Sc.stepO rfl _ _ rfl w.heap.size (l4 ++ [Nd.tElse]) (Nd.toksL x.els) v5 _ _ _ rfl rfl hO5 hBl5.size hR5 rfl Hl5.out Hl6.out ?_; intro v8 w8 hO8 hg8 ha8; have hx8 : w8.heap[bx]? = some (.cells #[.int .u8 (x.kind : Nat), .string x.text, .slice pp x.path.length cp, .slice pk nk ck, .slice pe ne ce] 37) := (hg8.block bx hbx5 (fun e => hn5 bx e.symm rfl)).trans hx5; have hBl8 := Sc.OwnRow.keep hBl5 hO5 hg8 hBl5.size)
                | (refine Sc.stepO rfl _ _ rfl w.heap.size l4 [Nd.tElse] va4 _ _ _ rfl rfl HE4o.out HE4b.out.size HE4r.out rfl Hl4.out (Hone.out _) ?_; intro v5 w5 hO5 hg5 ha5; have hx5 : w5.heap[bx]? = some (.cells #[.int .u8 (x.kind : Nat), .string x.text, .slice pp x.path.length cp, .slice pk nk ck, .slice pe ne ce] 37) := (hg5.block bx HE4z.out (fun e => (Hn4.out bx e.symm).1 rfl)).trans HE4x.out; have hBl5 := Sc.OwnRow.keep HE4b.out HE4o.out hg5 HE4b.out.size; have hbx5 := (Array.getElem?_eq_some_iff.1 hx5).1; have hn5 : ∀ j, v5.ownBlock = some j → j ≠ bx := (fun j e => ha5.elim (fun h => by rw [h] at e; exact (Hn4.out j e).1) (fun h => by rw [h] at e; cases e; have := HE4z.out; omega)))
                | (refine Sc.stepO rfl _ _ rfl w.heap.size l4 [Nd.tElse] va4 _ _ _ rfl rfl hO6 hBl6.size hE6 rfl Hl4.out (Hone.out _) ?_; intro v5 w5 hO5 hg5 ha5; have hx5 : w5.heap[bx]? = some (.cells #[.int .u8 (x.kind : Nat), .string x.text, .slice pp x.path.length cp, .slice pk nk ck, .slice pe ne ce] 37) := (hg5.block bx hbx6 (fun e => (Hn4.out bx e.symm).1 rfl)).trans hx6; have hBl5 := Sc.OwnRow.keep hBl6 hO6 hg5 hBl6.size; have hbx5 := (Array.getElem?_eq_some_iff.1 hx5).1; have hn5 : ∀ j, v5.ownBlock = some j → j ≠ bx := (fun j e => ha5.elim (fun h => by rw [h] at e; exact (Hn4.out j e).1) (fun h => by rw [h] at e; cases e; omega)); have hR5 := hRe w5 v5.ownBlock hg5.size (fun j h1 h2 => hg5.block j h2 (fun e => (by have := (Hn4.out j e.symm).2; omega))) (fun j e => ha5.elim (fun h => by rw [h] at e; have := (Hn4.out j e).2; exact Or.inl (by omega)) (fun h => by rw [h] at e; cases e; exact Or.inr (Nat.le_refl _))))
                | (refine Sc.stepO rfl _ _ rfl w.heap.size l4 [Nd.tElse] va4 _ _ _ rfl rfl (hO6.below ((Below.refl _ _).alloc (Nat.le_refl _) (.cells #[.int .u8 4, .string ⟨#[]⟩, .slice none 0 0] 110))) (Nat.le_trans hBl6.size ((Below.refl _ _).alloc (Nat.le_refl _) (.cells #[.int .u8 4, .string ⟨#[]⟩, .slice none 0 0] 110)).size) (Sc.RowP.one (Vl.new w6 (.cells #[.int .u8 4, .string ⟨#[]⟩, .slice none 0 0] 110)) (Sc.else_off w.heap.size _ va4.ownBlock)) rfl Hl4.out (Hone.out _) ?_; intro v5 w5 hO5 hg5 ha5; have hp6 := ((Below.refl w6.heap.size w6).alloc (Nat.le_refl _) (.cells #[.int .u8 4, .string ⟨#[]⟩, .slice none 0 0] 110)); have hx5 : w5.heap[bx]? = some (.cells #[.int .u8 (x.kind : Nat), .string x.text, .slice pp x.path.length cp, .slice pk nk ck, .slice pe ne ce] 37) := (hg5.block bx (Nat.lt_of_lt_of_le hbx6 hp6.size) (fun e => (Hn4.out bx e.symm).1 rfl)).trans ((hp6.block bx hbx6).trans hx6); have hBl5 := Sc.OwnRow.keep (hBl6.trans (hp6.mono hBl6.size)) (hO6.below hp6) hg5 (Nat.le_trans hBl6.size hp6.size); have hbx5 := (Array.getElem?_eq_some_iff.1 hx5).1; have hn5 : ∀ j, v5.ownBlock = some j → j ≠ bx := (fun j e => ha5.elim (fun h => by rw [h] at e; exact (Hn4.out j e).1) (fun h => by rw [h] at e; cases e; have := hp6.size; omega)); have hR5 := hRe w5 v5.ownBlock (Nat.le_trans hp6.size hg5.size) (fun j h1 h2 => (hg5.block j (Nat.lt_of_lt_of_le h2 hp6.size) (fun e => (by have := (Hn4.out j e.symm).2; omega))).trans (hp6.block j h2)) (fun j e => ha5.elim (fun h => by rw [h] at e; have := (Hn4.out j e).2; exact Or.inl (by omega)) (fun h => by rw [h] at e; cases e; exact Or.inr hp6.size)))
                | (go_at_call 97
                   first
                     | (with_reducible refine (C2.out _ (Hbr.out _ hBl5) Hle.out.1).mono ?_
                        rintro e w6 ⟨ve, rfl, hOe, hb6⟩
                        obtain ⟨pe2, ce2, rfl, hRe⟩ := hOe.rowQ hBl5.size
                        have hR5 := hRe w6 v5.ownBlock (Nat.le_refl _) (fun _ _ _ => rfl) (fun j e => Or.inl (hO5.lt j e).2)
                        have hO5 := hO5.below hb6
                        have hBl5 := hBl5.trans (hb6.mono hBl5.size)
                        have hx5 := (hb6.block bx hbx5).trans hx5
                        have hbx5 := (Array.getElem?_eq_some_iff.1 hx5).1)
                     | (with_reducible refine (C2.out _ (Hbr.out _ HE4b.out) Hle.out.1).mono ?_
                        rintro e w6 ⟨ve, rfl, hOe, hb6⟩
                        have hz6 := HE4.out.size
                        obtain ⟨pe2, ce2, rfl, hRe⟩ := hOe.rowQ HE4b.out.size
                        have hO6 := HE4o.out.below hb6
                        have hBl6 := HE4b.out.trans (hb6.mono HE4b.out.size)
                        have hx6 := (hb6.block bx HE4z.out).trans HE4x.out
                        have hbx6 := (Array.getElem?_eq_some_iff.1 hx6).1
                        have hE6 := Sc.RowP.one (W := w6) (Pr := Sc.Off w.heap.size w6 va4.ownBlock) ((hb6.block w4.heap.size (show w4.heap.size < (w4.alloc (.cells #[.int .u8 4, .string ⟨#[]⟩, .slice none 0 0] 110)).heap.size by rw [World.size_alloc]; omega)).trans (Vl.new w4 (.cells #[.int .u8 4, .string ⟨#[]⟩, .slice none 0 0] 110))) (Sc.else_off w.heap.size _ va4.ownBlock))
                     | (with_reducible refine (C2.out _ (Hbr.out _ HB4.out.drew) Hle.out.1).mono ?_
                        rintro e w6 ⟨ve, rfl, hOe, hb6⟩
                        have hb6 : Below w4.heap.size w4 w6 := hb6
                        have hz6 := Nat.le_refl w4.heap.size
                        obtain ⟨pe2, ce2, rfl, hRe⟩ := hOe.rowQ HB4.out.size
                        have hO6 := HO4.out.below hb6
                        have hBl6 := HB4.out.trans (hb6.mono HB4.out.size)
                        have hx6 := (hb6.block bx hbx4).trans HV4.out
                        have hbx6 := (Array.getElem?_eq_some_iff.1 hx6).1)))
            all_goals
              have HO8 := Lib.hid hO8
              have HB8 := Lib.hid hBl8
              clear hO8 hg8 ha8 hBl8 hx8
              have HA9 := Lib.hid ((Below.refl _ _).alloc (Nat.le_refl _) (.cells #[.int .u8 6, .string ⟨#[]⟩, .slice none 0 0] 110) : Below w8.heap.size w8 (w8.alloc (.cells #[.int .u8 6, .string ⟨#[]⟩, .slice none 0 0] 110)))
              have HO9 := Lib.hid (HO8.out.below HA9.out)
              have HB9 := Lib.hid (HB8.out.trans (HA9.out.mono HB8.out.size))
              have HR9 := Lib.hid (Sc.RowP.one (Vl.new w8 (.cells #[.int .u8 6, .string ⟨#[]⟩, .slice none 0 0] 110)) (Sc.end_off w.heap.size (w8.alloc (.cells #[.int .u8 6, .string ⟨#[]⟩, .slice none 0 0] 110)) v8.ownBlock))
              obtain ⟨l8, hl8⟩ : ∃ l8, l8 = l4 ++ [Nd.tElse] ++ Nd.toksL x.els := ⟨_, rfl⟩
              have H8e := Lib.hid hl8
              have HO9' : Hid (Sc.OwnRow w.heap.size (w8.alloc (.cells #[.int .u8 6, .string ⟨#[]⟩, .slice none 0 0] 110)) v8 l8.length l8) := Lib.hid (HO9.out.as hl8.symm)
              have Hl8 : Hid (l8.length ≤ 100000000) := Lib.hid (by rw [hl8]; exact Hl7.out)
              clear hl8 HO9
              go_wp2_with (at_builtin; refine Sc.listO rfl _ _ rfl w.heap.size l8 [Nd.tEnd] v8 _ _ _ rfl rfl HO9'.out HB9.out.size HR9.out rfl Hl8.out (Hone.out _) ?_)
              intro v10 w10 hO10 hg10 ha10
              have HO10 := Lib.hid hO10
              have HB10 := Lib.hid (Sc.OwnRow.keep HB9.out HO9'.out hg10 HB9.out.size)
              clear hO10 hg10 ha10
              go_wp2_with fail
              exact ⟨⟨k + 1, by omega, by go_num, Lib.hid (HO10.out.as (by rw [Hsn3.out, H8e.out, H4e.out]; simp)), HB10⟩, by simp [intOf]; omega⟩
    · obtain rfl : k = n := by omega
      have E := Lib.hid (show Nd.toksL (l.take k) = out by rw [HOut.out, List.take_of_length_le (by rw [← HN.out]; exact Nat.le_refl _)])
      have hO := HO.out
      rw [E.out] at hO
      have HO2 := Lib.hid hO
      clear hO
      go_wp2_with fail
      go_ret
      exact ⟨_, rfl, HO2.out, HBw.out⟩
theorem Nd.toks_kid {x : Nd.N} {l : List Nd.N} (hx : x ∈ l) (hh : Nd.holds x.kind x.kids.length x.els.length = true) {l' : List Nd.N} (hl : l' = x.kids ∨ l' = x.els) : ∀ t ∈ Nd.toksL l', t ∈ Nd.toksL l := fun t ht => by
  refine Nd.toks_mem hx t ?_
  rw [Nd.N.toks_eq]
  cases ho : Nd.opens x.kind with
  | false =>
    obtain ⟨h1, h2⟩ := Nd.holds_close hh ho
    have : l' = [] := by
      rcases hl with rfl | rfl
      · exact List.length_eq_zero_iff.1 h1
      · exact List.length_eq_zero_iff.1 h2
    rw [this, Nd.toksL_nil] at ht
    cases ht
  | true =>
    rw [if_pos rfl]
    refine List.mem_cons_of_mem _ (List.mem_append.2 ?_)
    rcases hl with rfl | rfl
    · exact Or.inl ht
    · refine Or.inr (List.mem_append.2 (Or.inl ?_))
      cases he : x.els with
      | nil => rw [he, Nd.toksL_nil] at ht; cases ht
      | cons a b => rw [he] at ht; exact List.mem_cons_of_mem _ ht
theorem Nd.toks_head {x : Nd.N} {l : List Nd.N} (hx : x ∈ l) : (⟨x.kind, x.text, x.path⟩ : Sc.T) ∈ Nd.toksL l := Nd.toks_mem hx _ (by rw [Nd.N.toks_eq]; exact List.mem_cons_self)
theorem refTokens_any : ∀ (d : Nat) (l : List Nd.N) (q : Option Addr) (c : Nat) (w0 w : World), d ≤ 8 → Nd.okL d l = true → l.length ≤ 140737488351232 → Nd.Row w0 q l → Below w0.heap.size w0 w → (Nd.toksL l).length ≤ 1000 → (∀ t ∈ Nd.toksL l, t.path.length ≤ 3000000) →
    Calls Tryz.prog 97 #[.slice q l.length c, .int .i64 (d : Nat)] w (Nd.TkPost (Nd.toksL l) w)
  | 0, l, q, c, w0, w, _, hok, _, _, _, _, _ => by
    rw [Nd.okL, List.isEmpty_iff] at hok
    subst hok
    rw [Nd.toksL_nil]
    exact refTokens_zero q c w
  | d + 1, l, q, c, w0, w, hd, hok, hn, hA, hB, hlen, hps => by
    rw [Nd.okL, List.all_eq_true] at hok
    have hk : ∀ n ∈ l, Nd.holds n.kind n.kids.length n.els.length = true ∧ Nd.okL d n.kids = true ∧ Nd.okL d n.els = true := fun n hn => by
      have := hok n hn
      rw [Bool.and_eq_true, Bool.and_eq_true] at this
      exact this
    have h := refTokens_step d l q c w0 w (by omega) (fun n hn => (hk n hn).2) hn hA hB hlen (fun n hn => hps _ (Nd.toks_head hn)) (fun l' q' c' W hx h1 h2 h3 h4 h5 => by
      obtain ⟨x, hx, hl⟩ := hx
      exact refTokens_any d l' q' c' w0 W (by omega) h1 h2 h3 h4 h5 (fun t ht => hps t (Nd.toks_kid hx (hk x hx).1 hl t ht)))
    rw [show ((d : Int) + 1) = ((d + 1 : Nat) : Int) by omega] at h
    exact h
end Go.Proofs.YteiccjakaabfnaaGreatDoor
