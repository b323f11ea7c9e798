/-
  The walk of the document's tokens of nodes: they are the nodes' tokens, in memory of the call's own. Condition: the nodes are right, and few.
  The walks of the document's answer for nodes: leaf and right. Condition: lists are of a size that a machine holds.
  The walks of the document's Check, Tokens, Write, Word and Paths for nodes. Conditions: lists are of a size that a machine holds, texts and paths of one that the walks hold.
-/
import Derived.Test.YteajjlilpikdeaaGreatDoorScP
import Derived.Test.YteajjlilpikdeaaGreatDoorNdR
import Derived.Test.YteajjlilpikdeaaGreatDoorOwnOne
import Derived.Test.YteajjlilpikdeaaGreatDoorNdS
import Derived.Test.YteajjlilpikdeaaGreatDoorRSc
import Derived.Test.YteajjlilpikdeaaGreatDoorNdT
namespace Go.Proofs.YteajjlilpikdeaaGreatDoor
open Go.RowKit

/-- What tokens hands back. -/
def Nd.TkPost (out : List Sc.T) (w : World) (e : Ending) (w' : World) : Prop := ∃ v, e = .returned v ∧ Sc.OwnRow w.heap.size w' v out.length out ∧ Below w.heap.size w w'
theorem Nd.strTy : Ow.Ty 35 9 (.string ⟨#[]⟩) := ⟨Tryz.underlying35, by obtain ⟨i, h1, h2, h3, h4⟩ : ∃ i, Tryz.prog.info? 9 = some i ∧ i.zero = some (.string ⟨#[]⟩) ∧ i.size = 1 ∧ i.bytes = 16 := info_parts (by kernel_rfl); exact ⟨i, h1, h2, h3, by omega⟩, rfl⟩
theorem Sc.OwnRow.keep {B : Nat} {w0 w w' : World} {v : Value} {n : Nat} {l : List Sc.T} (h : Below B w0 w) (hO : Sc.OwnRow B w v n l) (hg : w.grownBy w' v.ownBlock) (hb : B ≤ w.heap.size) : Below B w0 w' := h.grown hg hb (fun k hk => (hO.lt k hk).1)
/-- A token whose path lies in blocks of the call's own. -/
theorem Nd.tok_off {B B' : Nat} {W W' : World} {blk : Option Nat} {k : Nat} {t : ByteArray} {pp : Option Addr} {p : List ByteArray} {cp : Nat} (hk : k ≤ 255) (ht : t.size ≤ 140737488351232) (hpl : p.length ≤ 140737488351232) (hps : ∀ s ∈ p, s.size ≤ 140737488351232) (hcp : p.length ≤ cp)
    (hp : ∀ W2 : World, (∀ j, B' ≤ j → j < W.heap.size → W2.heap[j]? = W.heap[j]?) → Wp.At Wp.mkT W2 pp p) (hB : B ≤ B') (hs : W.heap.size ≤ W'.heap.size) (hkeep : ∀ j, B' ≤ j → j < W.heap.size → W'.heap[j]? = W.heap[j]?) (hne : ∀ j, blk = some j → j < B' ∨ W.heap.size ≤ j) :
    Sc.Off B W' blk (.agg #[.int .u8 k, .string t, .slice pp p.length cp]) ⟨k, t, p⟩ := fun W2 hW =>
  ⟨pp, cp, rfl, ⟨⟨hk, hcp⟩, ht, hpl, hps⟩, hp W2 (fun j h1 h2 => (hW j (Nat.le_trans hB h1) (Nat.lt_of_lt_of_le h2 hs) (fun e => by have := hne j e.symm; omega)).trans (hkeep j h1 h2))⟩
set_option maxRecDepth 100000 in
theorem refTokens_zero (q : Option Addr) (c : Nat) (w : World) :
    Calls Tryz.prog 54 #[.slice q 0 c, .int .i64 (0 : Nat)] w (Nd.TkPost [] w) := by
  go_enter Tryz.func54, Tryz.ntmps54
  go_wp2_with fail
  go_ret
  exact ⟨_, rfl, Sc.OwnRow.nil _ _, Below.refl _ _⟩
set_option maxRecDepth 100000 in
set_option maxHeartbeats 8000000 in
theorem refTokens_step (d : Nat) (l : List Nd.N) (q : Option Addr) (c : Nat) (w0 w : World) (hd : d ≤ 8) (hok : ∀ n ∈ l, Nd.okL d n.kids = true ∧ Nd.okL d n.els = true) (hn : l.length ≤ 140737488351232) (hA : Nd.Row w0 q l) (hB : Below w0.heap.size w0 w) (hlen : (Nd.toksL l).length ≤ 1000)
    (hps : ∀ n ∈ l, n.path.length ≤ 3000000)
    (ih : ∀ (l' : List Nd.N) (q' : Option Addr) (c' : Nat) (W : World), (∃ n ∈ l, l' = n.kids ∨ l' = n.els) → Nd.okL d l' = true → l'.length ≤ 140737488351232 → Nd.Row w0 q' l' → Below w0.heap.size w0 W → (Nd.toksL l').length ≤ 1000 → Calls Tryz.prog 54 #[.slice q' l'.length c', .int .i64 (d : Nat)] W (Nd.TkPost (Nd.toksL l') W)) :
    Calls Tryz.prog 54 #[.slice q l.length c, .int .i64 ((d : Int) + 1)] w (Nd.TkPost (Nd.toksL l) w) := by
  have HOk := Lib.hid hok
  have HA := Lib.hid hA
  have HB := Lib.hid hB
  have Hlen := Lib.hid hlen
  have Hps := Lib.hid hps
  have Hih := Lib.hid ih
  obtain ⟨n, hnl⟩ : ∃ n, n = l.length := ⟨_, rfl⟩
  rw [← hnl] at hn ⊢
  have HN := Lib.hid hnl
  obtain ⟨out, hout⟩ : ∃ out, out = Nd.toksL l := ⟨_, rfl⟩
  rw [← hout]
  have HOut := Lib.hid hout
  have hwr : IntKind.i64.wrap ((d : Int) + 1 - 1) = (d : Int) := by rw [IntWalk.i64_in _ (by omega)]; omega
  have hwr2 : IntKind.i64.wrap (d : Int) = (d : Int) := IntWalk.i64_in _ (by omega)
  have q0 : (((d : Int) + 1) == 0) = false := beq_eq_false_iff_ne.2 (by omega)
  clear hok hA hB hlen ih hnl hout hps
  go_enter Tryz.func54, Tryz.ntmps54
  go_wp2_with fail
  go_loopw [5, 7, 12] (fun v5 _ t wr => ∃ k : Nat, k ≤ n ∧ t = .int .i64 k ∧ Hid (Sc.OwnRow w.heap.size wr v5 (Nd.toksL (l.take k)).length (Nd.toksL (l.take k))) ∧ Hid (Below w.heap.size w wr)) (fun _ _ t _ => n - (intOf t).toNat)
  case atStart => exact ⟨0, Nat.zero_le _, rfl, Lib.hid (by rw [List.take_zero, Nd.toksL_nil]; exact Sc.OwnRow.nil _ _), Lib.hid (Below.refl _ _)⟩
  case round =>
    obtain ⟨k, hk, rfl, HO, HBw⟩ := hrel
    by_cases hlt : k < n
    · have hkl : k < l.length := by rw [← HN.out]; exact hlt
      have HBr := Lib.hid (HB.out.trans (HBw.out.mono HB.out.size))
      obtain ⟨b, off, pp, cp, pk, ck, pe, ce, rfl, h5, hf, hp, hrk, hre⟩ := HA.out.get k hkl
      obtain ⟨e0, e1, e2, e3, e4⟩ := h5.below HBr.out
      have hsn := Nd.toks_snoc l k hkl
      have htl := Nd.toks_take l (k + 1)
      rw [hsn, List.length_append] at htl
      have hok := HOk.out l[k] (List.getElem_mem hkl)
      have hpl := Hps.out l[k] (List.getElem_mem hkl)
      have hmem := List.getElem_mem hkl
      obtain ⟨x, hx⟩ : ∃ x, x = l[k] := ⟨_, rfl⟩
      rw [← hx] at e0 e1 e2 e3 e4 hsn htl hok hf hrk hre hpl hmem hp
      rw [Nd.N.toks_eq] at hsn htl
      obtain ⟨f1, f2, f3, f4, f5, f6, f7, -, -⟩ := hf
      have Hsn := Lib.hid hsn
      have Hac := Lib.hid (Nat.le_trans htl Hlen.out)
      have C1 := Lib.hid (fun W h1 h2 => Hih.out x.kids pk ck W ⟨x, hmem, Or.inl rfl⟩ hok.1 f4 hrk h1 h2)
      have C2 := Lib.hid (fun W h1 h2 => Hih.out x.els pe ce W ⟨x, hmem, Or.inr rfl⟩ hok.2 f5 hre h1 h2)
      have hwz := HBw.out.size
      have HX1 := Lib.hid ((Below.refl wr.heap.size wr).alloc (Nat.le_refl _) (.cells #[.int .u8 (x.kind : Nat), .string x.text, .slice pp x.path.length cp, .slice pk x.kids.length ck, .slice pe x.els.length ce] 44))
      have HV := Lib.hid (Vl.new wr (.cells #[.int .u8 (x.kind : Nat), .string x.text, .slice pp x.path.length cp, .slice pk x.kids.length ck, .slice pe x.els.length ce] 44))
      have HO1 := Lib.hid (HO.out.below HX1.out)
      have HP := Lib.hid ((hp.below HBr.out).below HX1.out)
      have HB1 := Lib.hid (HBw.out.trans (HX1.out.mono HBw.out.size))
      have HBr1 := Lib.hid (HBr.out.trans (HX1.out.mono HBr.out.size))
      have Htok := Lib.hid (show ∀ (B B' : Nat) (W W' : World) (blk : Option Nat) (qq : Option Addr) (cq : Nat), x.path.length ≤ cq → (∀ W2 : World, (∀ j, B' ≤ j → j < W.heap.size → W2.heap[j]? = W.heap[j]?) → Wp.At Wp.mkT W2 qq x.path) → B ≤ B' → W.heap.size ≤ W'.heap.size → (∀ j, B' ≤ j → j < W.heap.size → W'.heap[j]? = W.heap[j]?) → (∀ j, blk = some j → j < B' ∨ W.heap.size ≤ j) → Sc.Off B W' blk (.agg #[.int .u8 (x.kind : Nat), .string x.text, .slice qq x.path.length cq]) ⟨x.kind, x.text, x.path⟩ from fun B B' W W' blk qq cq h1 h2 h3 h4 h5 h6 => Nd.tok_off f1 f2 f3 f6 h1 h2 h3 h4 h5 h6)
      have Hne0 := Lib.hid (HO.out.lt)
      clear hsn htl hx hok hp h5 hrk hre HX1 HO HBw HBr hmem f1 f2 f3 f4 f5 f6 f7
      generalize hH : Nd.toksL (l.take k) = tk at *
      have Htkl : Hid (tk.length ≤ 100000000) := Lib.hid (by have := Hac.out; omega)
      go_wp2_with fail
      obtain ⟨bx, hbx⟩ : ∃ bx, bx = wr.heap.size := ⟨_, rfl⟩
      have hV := HV.out
      have hs1 : (wr.alloc (.cells #[.int .u8 (x.kind : Nat), .string x.text, .slice pp x.path.length cp, .slice pk x.kids.length ck, .slice pe x.els.length ce] 44)).heap.size = bx + 1 := by rw [World.size_alloc, hbx]
      have hwbx : w.heap.size ≤ bx := by rw [hbx]; exact hwz
      have hN0 := Hne0.out
      rw [← hbx] at hV hN0 ⊢
      clear hbx HV e0 e1 e2 e3 e4 Hne0
      obtain ⟨wn, hwn⟩ : ∃ wn, wn = wr.alloc (.cells #[.int .u8 (x.kind : Nat), .string x.text, .slice pp x.path.length cp, .slice pk x.kids.length ck, .slice pe x.els.length ce] 44) := ⟨_, rfl⟩
      rw [← hwn] at hV hs1 HO1 HP HB1 HBr1 ⊢
      have HVn := Lib.hid hV
      have Hne : Hid (∀ j, u5.ownBlock = some j → j < bx) := Lib.hid (fun j e => (hN0 j e).2)
      have HS1 : Hid (wn.heap.size = bx + 1) := Lib.hid hs1
      have hblt : bx < wn.heap.size := by rw [hs1]; exact Nat.lt_succ_self _
      clear hwn hV hN0 hs1
      obtain ⟨v0, v1, v2, v3, v4⟩ := Vl.five_of HVn.out
      have HK := Lib.hid (fun (W : World) (hW : Below wn.heap.size wn W) => (by obtain ⟨a0, a1, a2, -, -⟩ := Vl.five_of ((hW.block bx hblt).trans HVn.out); exact ⟨a0, a1, a2⟩ : W.cell? ⟨bx, 0, none⟩ = some (.int .u8 (x.kind : Nat)) ∧ W.cell? ⟨bx, 1, none⟩ = some (.string x.text) ∧ W.cell? ⟨bx, 2, none⟩ = some (.slice pp x.path.length cp)))
      have HK2 := Lib.hid (fun (W : World) (h : W.heap[bx]? = some (.cells #[.int .u8 (x.kind : Nat), .string x.text, .slice pp x.path.length cp, .slice pk x.kids.length ck, .slice pe x.els.length ce] 44)) => (by obtain ⟨a0, a1, a2, -, -⟩ := Vl.five_of h; exact ⟨a0, a1, a2⟩ : W.cell? ⟨bx, 0, none⟩ = some (.int .u8 (x.kind : Nat)) ∧ W.cell? ⟨bx, 1, none⟩ = some (.string x.text) ∧ W.cell? ⟨bx, 2, none⟩ = some (.slice pp x.path.length cp)))
      have Hpl : Hid (x.path.length ≤ 3000000) := Lib.hid (by omega)
      go_region_held3 (fun w' => w'.cell? ⟨bx, 0, none⟩ = some (.int .u8 (x.kind : Nat)) ∧ w'.cell? ⟨bx, 1, none⟩ = some (.string x.text) ∧ w'.cell? ⟨bx, 2, none⟩ = some (.slice pp x.path.length cp))
        (first | (with_reducible exact HK2.out _ hxb) | (with_reducible exact HK.out _ ea) | (with_reducible exact HK.out _ (ea.alloc ea.size _)) | (with_reducible exact HK.out _ (Below.refl _ wn).drew) | (with_reducible exact HK.out _ (Ow.a2 wn (.cells #[] 9))) | (go_keep; done))
        (first
          | (refine Ow.step (mk := Wp.mkT) rfl _ _ _ rfl (fun _ => rfl) Nd.strTy [] x.path (.slice (some ⟨wn.heap.size, 0, none⟩) 0 0) _ _ _ wn.heap.size rfl rfl (Ow.a1 wn 9) (HP.out.below (Ow.a2 wn (.cells #[] 9))) rfl (Nat.zero_le _) Hpl.out (Ow.a2 wn (.cells #[] 9)).size ?_; intro va wa hoa hga; have ea := Ow.grown (Ow.a2 wn (.cells #[] 9)) (Ow.a1 wn 9) hga (Ow.a2 wn (.cells #[] 9)).size; rw [List.nil_append] at hoa; obtain ⟨pq, cq, rfl, hcq, hoff⟩ := Nd.texts_off hoa)
          | (refine Sc.stepO rfl _ _ rfl w.heap.size tk [⟨x.kind, x.text, x.path⟩] u5 _ _ _ rfl rfl (HO1.out.below (ea.alloc ea.size _)) (Nat.le_trans HB1.out.size (ea.alloc ea.size (.cells #[.int .u8 (x.kind : Nat), .string x.text, .slice pq x.path.length cq] 46)).size) (Sc.RowP.one (Vl.new wa (.cells #[.int .u8 (x.kind : Nat), .string x.text, .slice pq x.path.length cq] 46)) (Htok.out w.heap.size wn.heap.size wa (wa.alloc (.cells #[.int .u8 (x.kind : Nat), .string x.text, .slice pq x.path.length cq] 46)) u5.ownBlock pq cq hcq hoff HB1.out.size (by rw [World.size_alloc]; omega) (fun j _ h2 => Vl.past _ _ _ h2) (fun j e => Or.inl (Nat.lt_trans (Hne.out j e) hblt)))) rfl Htkl.out (by simp) ?_; intro vb wb hob hgb hab; have hxb : wb.heap[bx]? = some (.cells #[.int .u8 (x.kind : Nat), .string x.text, .slice pp x.path.length cp, .slice pk x.kids.length ck, .slice pe x.els.length ce] 44) := (hgb.block bx (Nat.lt_of_lt_of_le hblt (ea.alloc ea.size (.cells #[.int .u8 (x.kind : Nat), .string x.text, .slice pq x.path.length cq] 46)).size) (fun e => Nat.lt_irrefl _ (Hne.out bx e.symm))).trans (((ea.alloc ea.size (.cells #[.int .u8 (x.kind : Nat), .string x.text, .slice pq x.path.length cq] 46)).block bx hblt).trans HVn.out)))
      have HOb := Lib.hid hob
      have hbz := (ea.alloc ea.size (.cells #[.int .u8 (x.kind : Nat), .string x.text, .slice pq x.path.length cq] 46))
      have HBb := Lib.hid (Sc.OwnRow.keep (HB1.out.trans (hbz.mono HB1.out.size)) (HO1.out.below hbz) hgb (Nat.le_trans HB1.out.size hbz.size))
      have HVb := Lib.hid hxb
      have Hneb : Hid (∀ j, vb.ownBlock = some j → j ≠ bx ∧ j < wb.heap.size) := Lib.hid (fun j e => ⟨by
        rcases hab with h | h
        · rw [h] at e; have := Hne.out j e; omega
        · rw [h] at e; cases e; have := hbz.size; omega, (hob.lt j e).2⟩)
      have HBrb := Lib.hid (HB.out.trans (HBb.out.mono HB.out.size))
      clear HK2 hxb hob hgb hab hbz ea hoa hga hoff hcq HO1 HB1 HBr1 HVn HP HK Hne Htok v0 v1 v2 v3 v4 HS1 hblt hpl Hpl
      generalize hne : x.els.length = ne at *
      have HNe := Lib.hid hne
      clear hne
      generalize hnk : x.kids.length = nk at *
      have HNk := Lib.hid hnk
      clear hnk
      cases hop : Nd.opens x.kind with
      | false =>
        have Hsn2 := Lib.hid (show Nd.toksL (l.take (k + 1)) = tk ++ [⟨x.kind, x.text, x.path⟩] by rw [Hsn.out, hop]; rfl)
        have hk3 : x.kind ≠ 3 := fun e => by rw [e] at hop; cases hop
        have hk5 : x.kind ≠ 5 := fun e => by rw [e] at hop; cases hop
        have q3 : ((x.kind : Int) != 3) = true := by rw [bne_iff_ne]; omega
        have q5 : ((x.kind : Int) != 5) = true := by rw [bne_iff_ne]; omega
        clear hop hk3 hk5
        obtain ⟨v0, v1, v2, v3, v4⟩ := Vl.five_of HVb.out
        go_wp2_with fail
        exact ⟨⟨k + 1, by omega, by go_num, Lib.hid (by rw [Hsn2.out]; exact HOb.out), HBb⟩, by simp [intOf]; omega⟩
      | true =>
        have hsn := Hsn.out
        have hac := Hac.out
        rw [hop, if_pos rfl] at hsn hac
        have Hsn2 := Lib.hid hsn
        have Hac2 := Lib.hid hac
        have hq : (((x.kind : Int) != 3) = false ∧ True) ∨ (((x.kind : Int) != 3) = true ∧ ((x.kind : Int) != 5) = false) := by
          rcases Nd.opens_iff.1 hop with h | h
          · exact Or.inl ⟨by rw [h]; rfl, trivial⟩
          · exact Or.inr ⟨by rw [h]; rfl, by rw [h]; rfl⟩
        clear hop hsn hac Hsn Hac
        have HC1 := Lib.hid (C1.out wb HBrb.out (by have := Hac2.out; simp only [List.length_append, List.length_cons, List.length_nil] at this ⊢; omega))
        rcases hq with ⟨q3, q5⟩ | ⟨q3, q5⟩
        all_goals
          obtain ⟨v0, v1, v2, v3, v4⟩ := Vl.five_of HVb.out
          go_wp2_with fail
          refine HC1.out.mono ?_
          rintro e w3 ⟨vk, rfl, hOk, hbk⟩
          obtain ⟨pk2, ck2, rfl, hRk⟩ := hOk.rowP (B := w.heap.size) (W := w3) (ob := vb.ownBlock) HBb.out.size (Nat.le_refl _) (fun _ _ _ => rfl) (fun j e => Or.inl (Hneb.out j e).2)
          have HO3 := Lib.hid (HOb.out.below hbk)
          have HB3 := Lib.hid (HBb.out.trans (hbk.mono HBb.out.size))
          have HV3 := Lib.hid ((hbk.block bx (Array.getElem?_eq_some_iff.1 HVb.out).1).trans HVb.out)
          have HR3 := Lib.hid hRk
          have Hl3 : Hid ((tk ++ [(⟨x.kind, x.text, x.path⟩ : Sc.T)]).length ≤ 100000000) := Lib.hid (by have := Hac2.out; simp only [List.length_append, List.length_cons, List.length_nil] at this ⊢; omega)
          have Hlk : Hid ((Nd.toksL x.kids).length ≤ 100000000) := Lib.hid (by have := Hac2.out; simp only [List.length_append, List.length_cons, List.length_nil] at this ⊢; omega)
          have Hl4 : Hid ((tk ++ [(⟨x.kind, x.text, x.path⟩ : Sc.T)] ++ Nd.toksL x.kids).length ≤ 100000000) := Lib.hid (by have := Hac2.out; simp only [List.length_append, List.length_cons, List.length_nil] at this ⊢; omega)
          have Hone : Hid (∀ t : Sc.T, [t].length ≤ 100000000) := Lib.hid (fun t => by simp)
          clear hOk hbk hRk v0 v1 v2 v3 v4 HOb HBb HVb HBrb C1 HC1
          obtain ⟨v0, v1, v2, v3, v4⟩ := Vl.five_of HV3.out
          go_wp2_with (at_builtin; refine Sc.listO rfl _ _ rfl w.heap.size (tk ++ [(⟨x.kind, x.text, x.path⟩ : Sc.T)]) (Nd.toksL x.kids) vb _ _ _ rfl rfl HO3.out HB3.out.size HR3.out rfl Hl3.out Hlk.out ?_)
          intro va4 w4 hO4 hg4 ha4
          obtain ⟨l4, hl4⟩ : ∃ l4, l4 = (tk ++ [(⟨x.kind, x.text, x.path⟩ : Sc.T)] ++ Nd.toksL x.kids) := ⟨_, rfl⟩
          have hO4 : Sc.OwnRow w.heap.size w4 va4 l4.length l4 := hO4.as (by rw [hl4]; simp)
          have Hl4 : Hid (l4.length ≤ 100000000) := Lib.hid (by rw [hl4]; exact Hl4.out)
          have H4e := Lib.hid hl4
          have HO4 := Lib.hid hO4
          have HB4 := Lib.hid (Sc.OwnRow.keep HB3.out HO3.out hg4 HB3.out.size)
          have HV4 := Lib.hid ((hg4.block bx (Array.getElem?_eq_some_iff.1 HV3.out).1 (fun e => (Hneb.out bx e.symm).1 rfl)).trans HV3.out)
          have Hn4 : Hid (∀ j, va4.ownBlock = some j → j ≠ bx ∧ j < w4.heap.size) := Lib.hid (fun j e => ⟨by
            rcases ha4 with h | h
            · rw [h] at e; exact (Hneb.out j e).1
            · rw [h] at e; cases e; have := (Array.getElem?_eq_some_iff.1 HV3.out).1; omega, (hO4.lt j e).2⟩)
          clear hl4 hO4 hg4 ha4 HO3 HB3 HV3 HR3 Hneb v0 v1 v2 v3 v4
          obtain ⟨v0, v1, v2, v3, v4⟩ := Vl.five_of HV4.out
          by_cases hz : ne = 0
          · have hz2 : ¬ (0 : Int) < (ne : Int) := by omega
            have Hsn3 := Lib.hid (show Nd.toksL (l.take (k + 1)) = tk ++ ⟨x.kind, x.text, x.path⟩ :: (Nd.toksL x.kids ++ [Nd.tEnd]) by
              rw [Hsn2.out, show x.els.isEmpty = true from List.isEmpty_iff.2 (List.length_eq_zero_iff.1 (HNe.out.trans hz))]; rfl)
            clear hz Hsn2 Hac2 C2
            have HA5 := Lib.hid ((Below.refl _ _).alloc (Nat.le_refl _) (.cells #[.int .u8 6, .string ⟨#[]⟩, .slice none 0 0] 46) : Below w4.heap.size w4 (w4.alloc (.cells #[.int .u8 6, .string ⟨#[]⟩, .slice none 0 0] 46)))
            have HO5 := Lib.hid (HO4.out.below HA5.out)
            have HB5 := Lib.hid (HB4.out.trans (HA5.out.mono HB4.out.size))
            have HR5 := Lib.hid (Sc.RowP.one (Vl.new w4 (.cells #[.int .u8 6, .string ⟨#[]⟩, .slice none 0 0] 46)) (Sc.end_off w.heap.size (w4.alloc (.cells #[.int .u8 6, .string ⟨#[]⟩, .slice none 0 0] 46)) va4.ownBlock))
            go_wp2_with (at_builtin; refine Sc.listO rfl _ _ rfl w.heap.size l4 [Nd.tEnd] va4 _ _ _ rfl rfl HO5.out HB5.out.size HR5.out rfl Hl4.out (Hone.out _) ?_)
            intro v6 w6 hO6 hg6 ha6
            have HO6 := Lib.hid hO6
            have HB6 := Lib.hid (Sc.OwnRow.keep HB5.out HO5.out hg6 HB5.out.size)
            clear hO6 hg6 ha6 HO5 HB5 HR5 HA5 HO4 HB4 HV4 Hn4 v0 v1 v2 v3 v4
            go_wp2_with fail
            exact ⟨⟨k + 1, by omega, by go_num, Lib.hid (HO6.out.as (by rw [Hsn3.out, H4e.out]; simp)), HB6⟩, by simp [intOf]; omega⟩
          · have hz2 : (0 : Int) < (ne : Int) := by omega
            have hel : x.els.isEmpty = false := by cases he : x.els with | nil => exact absurd (by rw [← HNe.out, he]; rfl) hz | cons a b => rfl
            have Hsn3 := Lib.hid (show Nd.toksL (l.take (k + 1)) = tk ++ ⟨x.kind, x.text, x.path⟩ :: (Nd.toksL x.kids ++ (Nd.tElse :: (Nd.toksL x.els ++ [Nd.tEnd]))) by rw [Hsn2.out, hel]; rfl)
            have Hle : Hid ((Nd.toksL x.els).length ≤ 1000 ∧ (l4 ++ [Nd.tElse] ++ Nd.toksL x.els).length ≤ 1000) := Lib.hid (by have := Hac2.out; rw [hel] at this; rw [H4e.out]; simp only [List.length_append, List.length_cons, List.length_nil, Bool.false_eq_true, if_false] at this ⊢; omega)
            have Hl5 : Hid ((l4 ++ [Nd.tElse]).length ≤ 100000000) := Lib.hid (by have := Hle.out.2; rw [List.length_append] at this; omega)
            have Hl6 : Hid ((Nd.toksL x.els).length ≤ 100000000) := Lib.hid (by have := Hle.out.1; omega)
            have Hl7 : Hid ((l4 ++ [Nd.tElse] ++ Nd.toksL x.els).length ≤ 100000000) := Lib.hid (by have := Hle.out.2; omega)
            have Hbr : Hid (∀ W, Below w.heap.size w W → Below w0.heap.size w0 W) := Lib.hid (fun W h => HB.out.trans (h.mono HB.out.size))
            have HK := Lib.hid (fun (W : World) (h : W.heap[bx]? = some (.cells #[.int .u8 (x.kind : Nat), .string x.text, .slice pp x.path.length cp, .slice pk nk ck, .slice pe ne ce] 44)) => (Vl.five_of h).2.2.2.2)
            have hbx4 := (Array.getElem?_eq_some_iff.1 HV4.out).1
            have HE4 := Lib.hid (Ow.a2 w4 (.cells #[.int .u8 4, .string ⟨#[]⟩, .slice none 0 0] 46))
            have HE4b := Lib.hid (HB4.out.trans (HE4.out.mono HB4.out.size))
            have HE4o := Lib.hid (HO4.out.below HE4.out)
            have HE4r : Hid (Sc.RowP (Sc.Off w.heap.size (w4.alloc (.cells #[.int .u8 4, .string ⟨#[]⟩, .slice none 0 0] 46)).drew va4.ownBlock) (w4.alloc (.cells #[.int .u8 4, .string ⟨#[]⟩, .slice none 0 0] 46)).drew (some ⟨w4.heap.size, 0, none⟩) [Nd.tElse]) := Lib.hid (Sc.RowP.one (Vl.new w4 (.cells #[.int .u8 4, .string ⟨#[]⟩, .slice none 0 0] 46)) (Sc.else_off _ _ _))
            have HE4x : Hid ((w4.alloc (.cells #[.int .u8 4, .string ⟨#[]⟩, .slice none 0 0] 46)).drew.heap[bx]? = some (.cells #[.int .u8 (x.kind : Nat), .string x.text, .slice pp x.path.length cp, .slice pk nk ck, .slice pe ne ce] 44)) := Lib.hid ((Vl.past w4 (.cells #[.int .u8 4, .string ⟨#[]⟩, .slice none 0 0] 46) bx hbx4).trans HV4.out)
            have HE4z : Hid (bx < (w4.alloc (.cells #[.int .u8 4, .string ⟨#[]⟩, .slice none 0 0] 46)).drew.heap.size) := Lib.hid (Nat.lt_of_lt_of_le hbx4 HE4.out.size)
            have Hwx4 : Hid (w4.drew.heap[bx]? = some (.cells #[.int .u8 (x.kind : Nat), .string x.text, .slice pp x.path.length cp, .slice pk nk ck, .slice pe ne ce] 44)) := Lib.hid HV4.out
            clear hel hz Hsn2 Hac2
            go_wp2_with fail
            go_region_held3 (fun w' => w'.cell? ⟨bx, 4, none⟩ = some (.slice pe ne ce))
              (first | (with_reducible exact HK.out _ hx8) | (with_reducible exact HK.out _ hx5) | (with_reducible exact HK.out _ hx6) | (with_reducible exact HK.out _ HE4x.out) | (with_reducible exact HK.out _ Hwx4.out) | (with_reducible exact HK.out _ ((Vl.past w6 (.cells #[.int .u8 4, .string ⟨#[]⟩, .slice none 0 0] 46) bx hbx6).trans hx6)) | (go_keep; done))
              (first
                | (refine Sc.stepO rfl _ _ rfl w.heap.size (l4 ++ [Nd.tElse]) (Nd.toksL x.els) v5 _ _ _ rfl rfl hO5 hBl5.size hR5 rfl Hl5.out Hl6.out ?_; intro v8 w8 hO8 hg8 ha8; have hx8 : w8.heap[bx]? = some (.cells #[.int .u8 (x.kind : Nat), .string x.text, .slice pp x.path.length cp, .slice pk nk ck, .slice pe ne ce] 44) := (hg8.block bx hbx5 (fun e => hn5 bx e.symm rfl)).trans hx5; have hBl8 := Sc.OwnRow.keep hBl5 hO5 hg8 hBl5.size)
                | (refine Sc.stepO rfl _ _ rfl w.heap.size l4 [Nd.tElse] va4 _ _ _ rfl rfl HE4o.out HE4b.out.size HE4r.out rfl Hl4.out (Hone.out _) ?_; intro v5 w5 hO5 hg5 ha5; have hx5 : w5.heap[bx]? = some (.cells #[.int .u8 (x.kind : Nat), .string x.text, .slice pp x.path.length cp, .slice pk nk ck, .slice pe ne ce] 44) := (hg5.block bx HE4z.out (fun e => (Hn4.out bx e.symm).1 rfl)).trans HE4x.out; have hBl5 := Sc.OwnRow.keep HE4b.out HE4o.out hg5 HE4b.out.size; have hbx5 := (Array.getElem?_eq_some_iff.1 hx5).1; have hn5 : ∀ j, v5.ownBlock = some j → j ≠ bx := (fun j e => ha5.elim (fun h => by rw [h] at e; exact (Hn4.out j e).1) (fun h => by rw [h] at e; cases e; have := HE4z.out; omega)))
                | (refine Sc.stepO rfl _ _ rfl w.heap.size l4 [Nd.tElse] va4 _ _ _ rfl rfl hO6 hBl6.size hE6 rfl Hl4.out (Hone.out _) ?_; intro v5 w5 hO5 hg5 ha5; have hx5 : w5.heap[bx]? = some (.cells #[.int .u8 (x.kind : Nat), .string x.text, .slice pp x.path.length cp, .slice pk nk ck, .slice pe ne ce] 44) := (hg5.block bx hbx6 (fun e => (Hn4.out bx e.symm).1 rfl)).trans hx6; have hBl5 := Sc.OwnRow.keep hBl6 hO6 hg5 hBl6.size; have hbx5 := (Array.getElem?_eq_some_iff.1 hx5).1; have hn5 : ∀ j, v5.ownBlock = some j → j ≠ bx := (fun j e => ha5.elim (fun h => by rw [h] at e; exact (Hn4.out j e).1) (fun h => by rw [h] at e; cases e; omega)); have hR5 := hRe w5 v5.ownBlock hg5.size (fun j h1 h2 => hg5.block j h2 (fun e => (by have := (Hn4.out j e.symm).2; omega))) (fun j e => ha5.elim (fun h => by rw [h] at e; have := (Hn4.out j e).2; exact Or.inl (by omega)) (fun h => by rw [h] at e; cases e; exact Or.inr (Nat.le_refl _))))
                | (refine Sc.stepO rfl _ _ rfl w.heap.size l4 [Nd.tElse] va4 _ _ _ rfl rfl (hO6.below ((Below.refl _ _).alloc (Nat.le_refl _) (.cells #[.int .u8 4, .string ⟨#[]⟩, .slice none 0 0] 46))) (Nat.le_trans hBl6.size ((Below.refl _ _).alloc (Nat.le_refl _) (.cells #[.int .u8 4, .string ⟨#[]⟩, .slice none 0 0] 46)).size) (Sc.RowP.one (Vl.new w6 (.cells #[.int .u8 4, .string ⟨#[]⟩, .slice none 0 0] 46)) (Sc.else_off w.heap.size _ va4.ownBlock)) rfl Hl4.out (Hone.out _) ?_; intro v5 w5 hO5 hg5 ha5; have hp6 := ((Below.refl w6.heap.size w6).alloc (Nat.le_refl _) (.cells #[.int .u8 4, .string ⟨#[]⟩, .slice none 0 0] 46)); have hx5 : w5.heap[bx]? = some (.cells #[.int .u8 (x.kind : Nat), .string x.text, .slice pp x.path.length cp, .slice pk nk ck, .slice pe ne ce] 44) := (hg5.block bx (Nat.lt_of_lt_of_le hbx6 hp6.size) (fun e => (Hn4.out bx e.symm).1 rfl)).trans ((hp6.block bx hbx6).trans hx6); have hBl5 := Sc.OwnRow.keep (hBl6.trans (hp6.mono hBl6.size)) (hO6.below hp6) hg5 (Nat.le_trans hBl6.size hp6.size); have hbx5 := (Array.getElem?_eq_some_iff.1 hx5).1; have hn5 : ∀ j, v5.ownBlock = some j → j ≠ bx := (fun j e => ha5.elim (fun h => by rw [h] at e; exact (Hn4.out j e).1) (fun h => by rw [h] at e; cases e; have := hp6.size; omega)); have hR5 := hRe w5 v5.ownBlock (Nat.le_trans hp6.size hg5.size) (fun j h1 h2 => (hg5.block j (Nat.lt_of_lt_of_le h2 hp6.size) (fun e => (by have := (Hn4.out j e.symm).2; omega))).trans (hp6.block j h2)) (fun j e => ha5.elim (fun h => by rw [h] at e; have := (Hn4.out j e).2; exact Or.inl (by omega)) (fun h => by rw [h] at e; cases e; exact Or.inr hp6.size)))
                | (go_at_call 54
                   first
                     | (with_reducible refine (C2.out _ (Hbr.out _ hBl5) Hle.out.1).mono ?_
                        rintro e w6 ⟨ve, rfl, hOe, hb6⟩
                        obtain ⟨pe2, ce2, rfl, hRe⟩ := hOe.rowQ hBl5.size
                        have hR5 := hRe w6 v5.ownBlock (Nat.le_refl _) (fun _ _ _ => rfl) (fun j e => Or.inl (hO5.lt j e).2)
                        have hO5 := hO5.below hb6
                        have hBl5 := hBl5.trans (hb6.mono hBl5.size)
                        have hx5 := (hb6.block bx hbx5).trans hx5
                        have hbx5 := (Array.getElem?_eq_some_iff.1 hx5).1)
                     | (with_reducible refine (C2.out _ (Hbr.out _ HE4b.out) Hle.out.1).mono ?_
                        rintro e w6 ⟨ve, rfl, hOe, hb6⟩
                        have hz6 := HE4.out.size
                        obtain ⟨pe2, ce2, rfl, hRe⟩ := hOe.rowQ HE4b.out.size
                        have hO6 := HE4o.out.below hb6
                        have hBl6 := HE4b.out.trans (hb6.mono HE4b.out.size)
                        have hx6 := (hb6.block bx HE4z.out).trans HE4x.out
                        have hbx6 := (Array.getElem?_eq_some_iff.1 hx6).1
                        have hE6 := Sc.RowP.one (W := w6) (Pr := Sc.Off w.heap.size w6 va4.ownBlock) ((hb6.block w4.heap.size (show w4.heap.size < (w4.alloc (.cells #[.int .u8 4, .string ⟨#[]⟩, .slice none 0 0] 46)).heap.size by rw [World.size_alloc]; omega)).trans (Vl.new w4 (.cells #[.int .u8 4, .string ⟨#[]⟩, .slice none 0 0] 46))) (Sc.else_off w.heap.size _ va4.ownBlock))
                     | (with_reducible refine (C2.out _ (Hbr.out _ HB4.out.drew) Hle.out.1).mono ?_
                        rintro e w6 ⟨ve, rfl, hOe, hb6⟩
                        have hb6 : Below w4.heap.size w4 w6 := hb6
                        have hz6 := Nat.le_refl w4.heap.size
                        obtain ⟨pe2, ce2, rfl, hRe⟩ := hOe.rowQ HB4.out.size
                        have hO6 := HO4.out.below hb6
                        have hBl6 := HB4.out.trans (hb6.mono HB4.out.size)
                        have hx6 := (hb6.block bx hbx4).trans HV4.out
                        have hbx6 := (Array.getElem?_eq_some_iff.1 hx6).1)))
            all_goals
              have HO8 := Lib.hid hO8
              have HB8 := Lib.hid hBl8
              clear hO8 hg8 ha8 hBl8 hx8
              have HA9 := Lib.hid ((Below.refl _ _).alloc (Nat.le_refl _) (.cells #[.int .u8 6, .string ⟨#[]⟩, .slice none 0 0] 46) : Below w8.heap.size w8 (w8.alloc (.cells #[.int .u8 6, .string ⟨#[]⟩, .slice none 0 0] 46)))
              have HO9 := Lib.hid (HO8.out.below HA9.out)
              have HB9 := Lib.hid (HB8.out.trans (HA9.out.mono HB8.out.size))
              have HR9 := Lib.hid (Sc.RowP.one (Vl.new w8 (.cells #[.int .u8 6, .string ⟨#[]⟩, .slice none 0 0] 46)) (Sc.end_off w.heap.size (w8.alloc (.cells #[.int .u8 6, .string ⟨#[]⟩, .slice none 0 0] 46)) v8.ownBlock))
              obtain ⟨l8, hl8⟩ : ∃ l8, l8 = l4 ++ [Nd.tElse] ++ Nd.toksL x.els := ⟨_, rfl⟩
              have H8e := Lib.hid hl8
              have HO9' : Hid (Sc.OwnRow w.heap.size (w8.alloc (.cells #[.int .u8 6, .string ⟨#[]⟩, .slice none 0 0] 46)) v8 l8.length l8) := Lib.hid (HO9.out.as hl8.symm)
              have Hl8 : Hid (l8.length ≤ 100000000) := Lib.hid (by rw [hl8]; exact Hl7.out)
              clear hl8 HO9
              go_wp2_with (at_builtin; refine Sc.listO rfl _ _ rfl w.heap.size l8 [Nd.tEnd] v8 _ _ _ rfl rfl HO9'.out HB9.out.size HR9.out rfl Hl8.out (Hone.out _) ?_)
              intro v10 w10 hO10 hg10 ha10
              have HO10 := Lib.hid hO10
              have HB10 := Lib.hid (Sc.OwnRow.keep HB9.out HO9'.out hg10 HB9.out.size)
              clear hO10 hg10 ha10
              go_wp2_with fail
              exact ⟨⟨k + 1, by omega, by go_num, Lib.hid (HO10.out.as (by rw [Hsn3.out, H8e.out, H4e.out]; simp)), HB10⟩, by simp [intOf]; omega⟩
    · obtain rfl : k = n := by omega
      have E := Lib.hid (show Nd.toksL (l.take k) = out by rw [HOut.out, List.take_of_length_le (by rw [← HN.out]; exact Nat.le_refl _)])
      have hO := HO.out
      rw [E.out] at hO
      have HO2 := Lib.hid hO
      clear hO
      go_wp2_with fail
      go_ret
      exact ⟨_, rfl, HO2.out, HBw.out⟩
theorem Nd.toks_kid {x : Nd.N} {l : List Nd.N} (hx : x ∈ l) (hh : Nd.holds x.kind x.kids.length x.els.length = true) {l' : List Nd.N} (hl : l' = x.kids ∨ l' = x.els) : ∀ t ∈ Nd.toksL l', t ∈ Nd.toksL l := fun t ht => by
  refine Nd.toks_mem hx t ?_
  rw [Nd.N.toks_eq]
  cases ho : Nd.opens x.kind with
  | false =>
    obtain ⟨h1, h2⟩ := Nd.holds_close hh ho
    have : l' = [] := by
      rcases hl with rfl | rfl
      · exact List.length_eq_zero_iff.1 h1
      · exact List.length_eq_zero_iff.1 h2
    rw [this, Nd.toksL_nil] at ht
    cases ht
  | true =>
    rw [if_pos rfl]
    refine List.mem_cons_of_mem _ (List.mem_append.2 ?_)
    rcases hl with rfl | rfl
    · exact Or.inl ht
    · refine Or.inr (List.mem_append.2 (Or.inl ?_))
      cases he : x.els with
      | nil => rw [he, Nd.toksL_nil] at ht; cases ht
      | cons a b => rw [he] at ht; exact List.mem_cons_of_mem _ ht
theorem Nd.toks_head {x : Nd.N} {l : List Nd.N} (hx : x ∈ l) : (⟨x.kind, x.text, x.path⟩ : Sc.T) ∈ Nd.toksL l := Nd.toks_mem hx _ (by rw [Nd.N.toks_eq]; exact List.mem_cons_self)
theorem refTokens_any : ∀ (d : Nat) (l : List Nd.N) (q : Option Addr) (c : Nat) (w0 w : World), d ≤ 8 → Nd.okL d l = true → l.length ≤ 140737488351232 → Nd.Row w0 q l → Below w0.heap.size w0 w → (Nd.toksL l).length ≤ 1000 → (∀ t ∈ Nd.toksL l, t.path.length ≤ 3000000) →
    Calls Tryz.prog 54 #[.slice q l.length c, .int .i64 (d : Nat)] w (Nd.TkPost (Nd.toksL l) w)
  | 0, l, q, c, w0, w, _, hok, _, _, _, _, _ => by
    rw [Nd.okL, List.isEmpty_iff] at hok
    subst hok
    rw [Nd.toksL_nil]
    exact refTokens_zero q c w
  | d + 1, l, q, c, w0, w, hd, hok, hn, hA, hB, hlen, hps => by
    rw [Nd.okL, List.all_eq_true] at hok
    have hk : ∀ n ∈ l, Nd.holds n.kind n.kids.length n.els.length = true ∧ Nd.okL d n.kids = true ∧ Nd.okL d n.els = true := fun n hn => by
      have := hok n hn
      rw [Bool.and_eq_true, Bool.and_eq_true] at this
      exact this
    have h := refTokens_step d l q c w0 w (by omega) (fun n hn => (hk n hn).2) hn hA hB hlen (fun n hn => hps _ (Nd.toks_head hn)) (fun l' q' c' W hx h1 h2 h3 h4 h5 => by
      obtain ⟨x, hx, hl⟩ := hx
      exact refTokens_any d l' q' c' w0 W (by omega) h1 h2 h3 h4 h5 (fun t ht => hps t (Nd.toks_kid hx (hk x hx).1 hl t ht)))
    rw [show ((d : Int) + 1) = ((d + 1 : Nat) : Int) by omega] at h
    exact h
end Go.Proofs.YteajjlilpikdeaaGreatDoor
namespace Go.Proofs.YteajjlilpikdeaaGreatDoor
open Go.RowKit

def Nd.leafB (k ts np nk ne : Nat) : Bool := if k = 1 then decide (np + nk + ne = 0) else if k = 2 then decide (ts = 0) && decide (nk + ne = 0) else if k = 3 then decide (ts = 0) else if k = 5 then decide (ts = 0) && decide (ne = 0) else false
theorem Nd.leafB_eq (n : Nd.N) : Nd.leafR n = Nd.leafB n.kind n.text.size n.path.length n.kids.length n.els.length := by
  unfold Nd.leafR Nd.leafB
  split
  · rename_i h; rw [if_pos h]
  · rename_i h; rw [h]; rfl
  · rename_i h; rw [h]; rfl
  · rename_i h; rw [h]; rfl
  · rename_i h1 h2 h3 h5
    rw [if_neg h1, if_neg h2, if_neg h3, if_neg h5]
theorem Nd.text_nil {t : ByteArray} (h : t.size = 0) : t = ⟨#[]⟩ := by
  obtain ⟨d⟩ := t
  have : d = #[] := Array.size_eq_zero_iff.1 h
  rw [this]
theorem Nd.text_ne {t : ByteArray} (h : ¬ t.size = 0) : t.toList.isEmpty = false ∧ ¬ t.toList = [] := by
  have e : ¬ t.toList = [] := fun e => h (by
    rw [Wp.size_len, ← Lib.toList_data, e]
    rfl)
  exact ⟨by cases h2 : t.toList with | nil => exact absurd h2 e | cons a b => rfl, e⟩
set_option maxRecDepth 100000 in
set_option maxHeartbeats 2000000 in
theorem refLeaf11_any (k : Nat) (t : ByteArray) (pp : Option Addr) (np cp : Nat) (pk : Option Addr) (nk ck : Nat) (pe : Option Addr) (ne ce : Nat) (w : World) (h1 : np ≤ 140737488351232) (h2 : nk ≤ 140737488351232) (h3 : ne ≤ 140737488351232) :
    Calls Tryz.prog 94 #[.agg #[.int .u8 k, .string t, .slice pp np cp, .slice pk nk ck, .slice pe ne ce]] w fun e w' => e = .returned (.bool (Nd.leafB k t.size np nk ne)) ∧ Below w.heap.size w w' := by
  by_cases k1 : k = 1
  · subst k1
    have Hl := Lib.hid (show Nd.leafB 1 t.size np nk ne = decide (np + nk + ne = 0) from rfl)
    generalize Nd.leafB 1 t.size np nk ne = r at *
    go_enter Tryz.func94, Tryz.ntmps94
    go_wp2_with fail
    all_goals (go_ret; refine ⟨congrArg (fun b => Ending.returned (Value.bool b)) ?_, (Below.refl _ _).alloc (Nat.le_refl _) _⟩; rw [Hl.out]; (rw [Bool.eq_iff_iff]; first | (simp; done) | (simp; omega) | (simp_all; done) | (trace_state; fail)))
  by_cases k2 : k = 2
  · subst k2
    by_cases ht : t.size = 0
    · obtain rfl := Nd.text_nil ht
      have Hl := Lib.hid (show Nd.leafB 2 (ByteArray.size ⟨#[]⟩) np nk ne = decide (nk + ne = 0) from rfl)
      generalize Nd.leafB 2 (ByteArray.size ⟨#[]⟩) np nk ne = r at *
      clear ht
      go_enter Tryz.func94, Tryz.ntmps94
      go_wp2_with fail
      all_goals (go_ret; refine ⟨congrArg (fun b => Ending.returned (Value.bool b)) ?_, (Below.refl _ _).alloc (Nat.le_refl _) _⟩; rw [Hl.out]; (rw [Bool.eq_iff_iff]; first | (simp; done) | (simp; omega) | (simp_all; done) | (trace_state; fail)))
    · obtain ⟨q, q'⟩ := Nd.text_ne ht
      have Hl := Lib.hid (show Nd.leafB 2 t.size np nk ne = false by unfold Nd.leafB; rw [decide_eq_false ht]; rfl)
      generalize Nd.leafB 2 t.size np nk ne = r at *
      clear ht
      go_enter Tryz.func94, Tryz.ntmps94
      go_wp2_with fail
      all_goals (go_ret; refine ⟨congrArg (fun b => Ending.returned (Value.bool b)) ?_, (Below.refl _ _).alloc (Nat.le_refl _) _⟩; rw [Hl.out]; (first | rfl | (simp [q, q']; done) | (simp_all; done) | skip))
  by_cases k3 : k = 3
  · subst k3
    by_cases ht : t.size = 0
    · obtain rfl := Nd.text_nil ht
      clear ht
      go_enter Tryz.func94, Tryz.ntmps94
      go_wp2_with fail
      go_ret
      exact ⟨rfl, (Below.refl _ _).alloc (Nat.le_refl _) _⟩
    · obtain ⟨q, q'⟩ := Nd.text_ne ht
      have Hl := Lib.hid (show Nd.leafB 3 t.size np nk ne = false by unfold Nd.leafB; rw [decide_eq_false ht]; rfl)
      generalize Nd.leafB 3 t.size np nk ne = r at *
      clear ht
      go_enter Tryz.func94, Tryz.ntmps94
      go_wp2_with fail
      all_goals (go_ret; refine ⟨congrArg (fun b => Ending.returned (Value.bool b)) ?_, (Below.refl _ _).alloc (Nat.le_refl _) _⟩; rw [Hl.out]; (first | rfl | (simp [q, q']; done) | (simp_all; done) | skip))
  by_cases k5 : k = 5
  · subst k5
    by_cases ht : t.size = 0
    · obtain rfl := Nd.text_nil ht
      have Hl := Lib.hid (show Nd.leafB 5 (ByteArray.size ⟨#[]⟩) np nk ne = decide (ne = 0) from rfl)
      generalize Nd.leafB 5 (ByteArray.size ⟨#[]⟩) np nk ne = r at *
      clear ht
      go_enter Tryz.func94, Tryz.ntmps94
      go_wp2_with fail
      all_goals (go_ret; refine ⟨congrArg (fun b => Ending.returned (Value.bool b)) ?_, (Below.refl _ _).alloc (Nat.le_refl _) _⟩; rw [Hl.out]; (rw [Bool.eq_iff_iff]; first | (simp; done) | (simp; omega) | (simp_all; done) | (trace_state; fail)))
    · obtain ⟨q, q'⟩ := Nd.text_ne ht
      have Hl := Lib.hid (show Nd.leafB 5 t.size np nk ne = false by unfold Nd.leafB; rw [decide_eq_false ht]; rfl)
      generalize Nd.leafB 5 t.size np nk ne = r at *
      clear ht
      go_enter Tryz.func94, Tryz.ntmps94
      go_wp2_with fail
      all_goals (go_ret; refine ⟨congrArg (fun b => Ending.returned (Value.bool b)) ?_, (Below.refl _ _).alloc (Nat.le_refl _) _⟩; rw [Hl.out]; (first | rfl | (simp [q, q']; done) | (simp_all; done) | skip))
  have Hl : Nd.leafB k t.size np nk ne = false := by unfold Nd.leafB; rw [if_neg k1, if_neg k2, if_neg k3, if_neg k5]
  rw [Hl]
  have q1 : ((k : Int) == 1) = false := beq_eq_false_iff_ne.2 (by omega)
  have q2 : ((k : Int) == 2) = false := beq_eq_false_iff_ne.2 (by omega)
  have q3 : ((k : Int) == 3) = false := beq_eq_false_iff_ne.2 (by omega)
  have q5 : ((k : Int) == 5) = false := beq_eq_false_iff_ne.2 (by omega)
  go_enter Tryz.func94, Tryz.ntmps94
  go_wp2_with fail
  go_ret
  exact ⟨rfl, (Below.refl _ _).alloc (Nat.le_refl _) _⟩
/-- How many, and whether right: what right hands back. -/
def Nd.RPost (R : Nat × Bool) (w : World) (e : Ending) (w' : World) : Prop := e = .returned (.tuple #[.int .i64 (R.1 : Nat), .bool R.2]) ∧ Below w.heap.size w w'
theorem Nd.rgt_le (d : Nat) (l : List Nd.N) : (Nd.rgt d l).1 ≤ 256 := by
  rw [Nd.rgt_eq]
  split
  · rename_i h
    rw [Bool.and_eq_true, decide_eq_true_eq] at h
    exact h.2
  · exact Nat.zero_le _
set_option maxRecDepth 100000 in
theorem refRight_zero (l : List Nd.N) (q : Option Addr) (c : Nat) (w : World) (hn : l.length ≤ 140737488351232) :
    Calls Tryz.prog 50 #[.slice q l.length c, .int .i64 (0 : Nat)] w (Nd.RPost (Nd.rgt 0 l) w) := by
  by_cases h0 : l.length = 0
  · rw [Nd.rgt, if_pos h0, h0]
    clear h0 hn
    go_enter Tryz.func50, Tryz.ntmps50
    go_wp2_with fail
    go_loopw [6, 8, 9, 10, 11, 12, 22] (fun t6 _ _ _ _ _ t wr => t6 = .int .i64 0 ∧ t = .int .i64 0 ∧ wr = w) (fun _ _ _ _ _ _ _ _ => 0)
    case atStart => exact ⟨rfl, rfl, rfl⟩
    case round =>
      obtain ⟨rfl, rfl, rfl⟩ := hrel
      go_wp2_with fail
      go_ret2
      exact ⟨rfl, Below.refl _ _⟩
  · rw [Nd.rgt, if_neg h0]
    have hp : (0 : Int) < (l.length : Int) := by omega
    generalize l.length = n at *
    clear h0
    go_enter Tryz.func50, Tryz.ntmps50
    go_wp2_with fail
    go_ret2
    exact ⟨rfl, Below.refl _ _⟩
set_option maxRecDepth 100000 in
set_option maxHeartbeats 4000000 in
theorem refRight_step (d : Nat) (l : List Nd.N) (q : Option Addr) (c : Nat) (w0 w : World) (hd : d ≤ 8) (hn : l.length ≤ 140737488351232) (hA : Nd.Row w0 q l) (hB : Below w0.heap.size w0 w)
    (ih : ∀ (l' : List Nd.N) (q' : Option Addr) (c' : Nat) (W : World), l'.length ≤ 140737488351232 → Nd.Row w0 q' l' → Below w0.heap.size w0 W → Calls Tryz.prog 50 #[.slice q' l'.length c', .int .i64 (d : Nat)] W (Nd.RPost (Nd.rgt d l') W)) :
    Calls Tryz.prog 50 #[.slice q l.length c, .int .i64 ((d : Int) + 1)] w (Nd.RPost (Nd.rgt (d + 1) l) w) := by
  have HA := Lib.hid hA
  have HB := Lib.hid hB
  have Hih := Lib.hid ih
  have HR0 : Hid (Nd.rgtAll (Nd.rgt d) (l.drop 0) 0 = Nd.rgt (d + 1) l) := Lib.hid (by rw [List.drop_zero, Nd.rgt])
  have Hend : Hid (∀ m, Nd.rgtAll (Nd.rgt d) (l.drop l.length) m = (m, true)) := Lib.hid (fun m => by rw [List.drop_length, Nd.rgtAll])
  have Hstep : Hid (∀ k (h : k < l.length) m, Nd.rgtAll (Nd.rgt d) (l.drop k) m = if (Nd.rgt d l[k].kids).2 = false ∨ (Nd.rgt d l[k].els).2 = false ∨ Nd.leafR l[k] = false ∨ 256 < m + (1 + (Nd.rgt d l[k].kids).1 + (Nd.rgt d l[k].els).1) then (0, false) else Nd.rgtAll (Nd.rgt d) (l.drop (k + 1)) (m + (1 + (Nd.rgt d l[k].kids).1 + (Nd.rgt d l[k].els).1))) := Lib.hid (fun k h m => by rw [List.drop_eq_getElem_cons h, Nd.rgtAll])
  have Hle := Lib.hid (Nd.rgt_le d)
  generalize Nd.rgt (d + 1) l = R at *
  generalize Nd.rgtAll (Nd.rgt d) = RA at *
  generalize Nd.rgt d = RG at *
  obtain ⟨n, hnl⟩ : ∃ n, n = l.length := ⟨_, rfl⟩
  have HN := Lib.hid hnl
  rw [← hnl] at hn ⊢
  have hwr : IntKind.i64.wrap ((d : Int) + 1 - 1) = (d : Int) := by rw [IntWalk.i64_in _ (by omega)]; omega
  have q0 : (((d : Int) + 1) == 0) = false := beq_eq_false_iff_ne.2 (by omega)
  clear hA hB ih hnl
  by_cases hz : n = 0
  · subst hz
    have E := Hend.out 0
    rw [← HN.out, HR0.out] at E
    subst E
    go_enter Tryz.func50, Tryz.ntmps50
    go_wp2_with fail
    go_loopw [6, 8, 9, 10, 11, 12, 22] (fun t6 _ _ _ _ _ t wr => t6 = .int .i64 0 ∧ t = .int .i64 0 ∧ wr = w) (fun _ _ _ _ _ _ _ _ => 0)
    case atStart => exact ⟨rfl, rfl, rfl⟩
    case round =>
      obtain ⟨rfl, rfl, rfl⟩ := hrel
      go_wp2_with fail
      go_ret2
      exact ⟨rfl, Below.refl _ _⟩
  have hp : (0 : Int) < (n : Int) := by omega
  go_enter Tryz.func50, Tryz.ntmps50
  go_wp2_with fail
  go_loopw [6, 8, 9, 10, 11, 12, 22] (fun t6 _ _ _ _ _ t wr => ∃ k m : Nat, k ≤ n ∧ t = .int .i64 k ∧ t6 = .int .i64 m ∧ m ≤ 256 ∧ Hid (RA (l.drop k) m = R) ∧ Hid (Below w.heap.size w wr)) (fun _ _ _ _ _ _ t _ => n - (intOf t).toNat)
  case atStart => exact ⟨0, 0, Nat.zero_le _, rfl, rfl, Nat.zero_le _, HR0, Lib.hid (Below.refl _ _)⟩
  case round =>
    obtain ⟨k, m, hk, rfl, rfl, hm, HR, HBw⟩ := hrel
    by_cases hlt : k < n
    · have hkl : k < l.length := by rw [← HN.out]; exact hlt
      have hBr := HB.out.trans (HBw.out.mono HB.out.size)
      have HBr := Lib.hid hBr
      obtain ⟨b, off, pp, cp, pk, ck, pe, ce, rfl, h5, hf, hp, hrk, hre⟩ := HA.out.get k hkl
      obtain ⟨e0, e1, e2, e3, e4⟩ := h5.below hBr
      have hst := Hstep.out k hkl m
      rw [HR.out] at hst
      obtain ⟨x, hx⟩ : ∃ x, x = l[k] := ⟨_, rfl⟩
      rw [← hx] at e0 e1 e2 e3 e4 hst hf hrk hre
      rw [Nd.leafB_eq] at hst
      obtain ⟨-, -, f3, f4, f5, -, -, -, -⟩ := hf
      have C1 := Lib.hid (fun W h => Hih.out x.kids pk ck W f4 hrk h)
      have C2 := Lib.hid (fun W h => Hih.out x.els pe ce W f5 hre h)
      have CL := Lib.hid (fun W => refLeaf11_any x.kind x.text pp x.path.length cp pk x.kids.length ck pe x.els.length ce W f3 f4 f5)
      have L1 := Hle.out x.kids
      have L2 := Hle.out x.els
      have HX1 := Lib.hid ((Below.refl wr.heap.size wr).alloc (Nat.le_refl _) (.cells #[.int .u8 (x.kind : Nat), .string x.text, .slice pp x.path.length cp, .slice pk x.kids.length ck, .slice pe x.els.length ce] 44))
      have HV := Lib.hid (Vl.new wr (.cells #[.int .u8 (x.kind : Nat), .string x.text, .slice pp x.path.length cp, .slice pk x.kids.length ck, .slice pe x.els.length ce] 44))
      generalize RG x.kids = K1 at *
      generalize RG x.els = K2 at *
      obtain ⟨a1, b1⟩ := K1
      obtain ⟨a2, b2⟩ := K2
      simp only at hst L1 L2
      generalize Nd.leafB x.kind x.text.size x.path.length x.kids.length x.els.length = lf at *
      generalize x.kids.length = nk at *
      generalize x.els.length = ne at *
      generalize x.path.length = np at *
      generalize x.kind = kd at *
      generalize x.text = tx at *
      have Hst := Lib.hid hst
      have B0 := Lib.hid (HBr.out.trans (HX1.out.mono HBr.out.size))
      have B0w := Lib.hid (HBw.out.trans (HX1.out.mono HBw.out.size))
      clear hst hp hrk hre hBr HBr HX1 h5 HBw hx hkl
      obtain ⟨v0, v1, v2, v3, v4⟩ := Vl.five_of HV.out
      go_wp2_with fail
      refine (C1.out _ B0.out).mono ?_
      rintro e w1 ⟨rfl, hb1⟩
      have B1 := Lib.hid (B0.out.trans (hb1.mono B0.out.size))
      have B1w := Lib.hid (B0w.out.trans (hb1.mono B0w.out.size))
      have HV1 := Lib.hid ((hb1.block _ (Array.getElem?_eq_some_iff.1 HV.out).1).trans HV.out)
      clear v0 v1 v2 v3 v4 e0 e1 e2 e3 e4 hb1 HV B0 B0w C1
      obtain ⟨v0, v1, v2, v3, v4⟩ := Vl.five_of HV1.out
      go_wp2_with fail
      refine (C2.out _ B1.out).mono ?_
      rintro e w2 ⟨rfl, hb2⟩
      have B2 := Lib.hid (B1.out.trans (hb2.mono B1.out.size))
      have B2w := Lib.hid (B1w.out.trans (hb2.mono B1w.out.size))
      have HV2 := Lib.hid ((hb2.block _ (Array.getElem?_eq_some_iff.1 HV1.out).1).trans HV1.out)
      clear v0 v1 v2 v3 v4 hb2 HV1 B1 B1w C2
      obtain ⟨v0, v1, v2, v3, v4⟩ := Vl.five_of HV2.out
      obtain ⟨s1, hs1⟩ : ∃ s, s = 1 + a1 := ⟨_, rfl⟩
      obtain ⟨s2, hs2⟩ : ∃ s, s = s1 + a2 := ⟨_, rfl⟩
      obtain ⟨s3, hs3⟩ : ∃ s, s = m + s2 := ⟨_, rfl⟩
      have hst := Hst.out
      rw [← hs1, ← hs2, ← hs3] at hst
      have hw1 : IntKind.i64.wrap (1 + (a1 : Int)) = (s1 : Int) := by rw [IntWalk.i64_in _ (by omega)]; omega
      have hw2 : IntKind.i64.wrap ((s1 : Int) + (a2 : Int)) = (s2 : Int) := by rw [IntWalk.i64_in _ (by omega)]; omega
      have hw3 : IntKind.i64.wrap ((m : Int) + (s2 : Int)) = (s3 : Int) := by rw [IntWalk.i64_in _ (by omega)]; omega
      have HSt := Lib.hid hst
      clear Hst hst hs1 hs2 hs3 L1 L2
      cases b1 with
      | false =>
        have hst := HSt.out
        rw [if_pos (Or.inl rfl)] at hst
        subst hst
        go_wp2_with fail
        go_ret2
        exact ⟨rfl, B2w.out⟩
      | true =>
        cases b2 with
        | false =>
          have hst := HSt.out
          rw [if_pos (Or.inr (Or.inl rfl))] at hst
          subst hst
          go_wp2_with fail
          go_ret2
          exact ⟨rfl, B2w.out⟩
        | true =>
          go_wp2_with fail
          refine (CL.out _).mono ?_
          rintro e w3 ⟨rfl, hb3⟩
          have B3w := Lib.hid (B2w.out.trans (hb3.mono B2w.out.size))
          clear hb3 CL B2 B2w v0 v1 v2 v3 v4 HV2
          cases lf with
          | false =>
            have hst := HSt.out
            rw [if_pos (Or.inr (Or.inr (Or.inl rfl)))] at hst
            subst hst
            go_wp2_with fail
            go_ret2
            exact ⟨rfl, B3w.out⟩
          | true =>
            by_cases h256 : 256 < s3
            · have hst := HSt.out
              rw [if_pos (Or.inr (Or.inr (Or.inr h256)))] at hst
              subst hst
              have q5 : (256 : Int) < (s3 : Int) := by omega
              go_wp2_with fail
              go_ret2
              exact ⟨rfl, B3w.out⟩
            · have hst := HSt.out
              rw [if_neg (by simp [h256])] at hst
              have HS := Lib.hid hst
              have q5 : ¬ (256 : Int) < (s3 : Int) := by omega
              clear hst
              go_wp2_with fail
              exact ⟨⟨k + 1, s3, by omega, by go_num, rfl, by omega, Lib.hid HS.out.symm, B3w⟩, by simp [intOf]; omega⟩
    · obtain rfl : k = n := by omega
      have E := Hend.out m
      rw [← HN.out, HR.out] at E
      subst E
      go_wp2_with fail
      go_ret2
      exact ⟨rfl, HBw.out⟩
theorem refRight_any : ∀ (d : Nat) (l : List Nd.N) (q : Option Addr) (c : Nat) (w0 w : World), d ≤ 8 → l.length ≤ 140737488351232 → Nd.Row w0 q l → Below w0.heap.size w0 w →
    Calls Tryz.prog 50 #[.slice q l.length c, .int .i64 (d : Nat)] w (Nd.RPost (Nd.rgt d l) w)
  | 0, l, q, c, w0, w, _, hn, _, _ => refRight_zero l q c w hn
  | d + 1, l, q, c, w0, w, hd, hn, hA, hB => by
    have h := refRight_step d l q c w0 w (by omega) hn hA hB (fun l' q' c' W h1 h2 h3 => refRight_any d l' q' c' w0 W (by omega) h1 h2 h3)
    rw [show ((d : Int) + 1) = ((d + 1 : Nat) : Int) by omega] at h
    exact h
end Go.Proofs.YteajjlilpikdeaaGreatDoor
namespace Go.Proofs.YteajjlilpikdeaaGreatDoor
open Go.RowKit

theorem Nd.rgt_good {l : List Nd.N} : (Nd.rgt 8 l).2 = (Nd.okLR 8 l && decide (Nd.cntL l ≤ 256)) := by
  rw [Nd.rgt_eq]
  split
  · rename_i h; exact h.symm
  · rename_i h
    cases h2 : Nd.okLR 8 l && decide (Nd.cntL l ≤ 256)
    · rfl
    · exact absurd h2 h
theorem Nd.okTs_all {l : List Sc.T} (h : Sc.okTs l = true) : ∀ t ∈ l, Sc.okT t = true := Nd.all_of h
theorem Nd.good_right {l : List Nd.N} (h : Nd.good l = true) : (Nd.okLR 8 l && decide (Nd.cntL l ≤ 256)) = true := by
  unfold Nd.good Nd.shapedP at h
  rw [Bool.and_eq_true, Bool.and_eq_true] at h
  rw [Bool.and_eq_true]
  exact ⟨Nd.okL_okLR 8 l h.1.1 (Nd.okTs_all h.2), h.1.2⟩
theorem Nd.right_good {l : List Nd.N} (h : (Nd.okLR 8 l && decide (Nd.cntL l ≤ 256)) = true) : Nd.good l = Sc.okTs (Nd.toksL l) := by
  rw [Bool.and_eq_true] at h
  unfold Nd.good Nd.shapedP
  rw [Nd.okLR_okL 8 l h.1, h.2]
  rfl
theorem Nd.right_len {l : List Nd.N} (h : (Nd.okLR 8 l && decide (Nd.cntL l ≤ 256)) = true) : Nd.okL 8 l = true ∧ (Nd.toksL l).length ≤ 1000 := by
  rw [Bool.and_eq_true, decide_eq_true_eq] at h
  have := Nd.toks_len 8 l (Nd.okLR_okL 8 l h.1)
  exact ⟨Nd.okLR_okL 8 l h.1, by omega⟩
theorem Nd.path_names {t : Sc.T} (h : Sc.okT t = true) : ∀ n ∈ t.path, Vl.nameL n.data.toList = true := by
  have key : ∀ p : List ByteArray, Sc.pathOk (p.map (·.data.toList)) = true → ∀ n ∈ p, Vl.nameL n.data.toList = true := fun p hp => (Sc.pathOk_facts hp).2.2.1
  have knil : ∀ p : List ByteArray, p.length = 0 → ∀ n ∈ p, Vl.nameL n.data.toList = true := fun p hp => by
    rw [List.length_eq_zero_iff.1 hp]
    intro n hn
    cases hn
  unfold Sc.okT at h
  split at h
  · simp only [Bool.and_eq_true, decide_eq_true_eq] at h; exact knil _ h.2
  · rw [Bool.and_eq_true] at h; exact key _ h.2
  · rw [Bool.and_eq_true] at h; exact key _ h.2
  · rw [Bool.and_eq_true] at h; exact key _ h.2
  · simp only [Bool.and_eq_true, decide_eq_true_eq] at h; exact knil _ h.2
  · simp only [Bool.and_eq_true, decide_eq_true_eq] at h; exact knil _ h.2
  · cases h
set_option maxRecDepth 100000 in
set_option maxHeartbeats 2000000 in
theorem refWord_any (p : Option Addr) (c : Nat) (path : List ByteArray) (w : World) (hP : Wp.At Wp.mkT w p path) (h4 : path.length ≤ 4) (hn : ∀ n ∈ path, Vl.nameL n.data.toList = true) :
    Calls Tryz.prog 58 #[.slice p path.length c] w fun e w' => e = .returned (.string (Wp.B (Sc.joinP path))) ∧ w' = w := by
  have HP := Lib.hid hP
  have HJl := Lib.hid (Sc.join_take_len path hn)
  have HJt := Lib.hid (Sc.join_take path)
  obtain ⟨m, hm⟩ : ∃ m, m = path.length := ⟨_, rfl⟩
  have HM := Lib.hid hm
  rw [← hm] at h4 ⊢
  have HTkp := Lib.hid (show path.take m = path by rw [hm, List.take_length])
  have HNz := Lib.hid (fun (j : Nat) (h : j < path.length) => (show path[j].size ≤ 32 by
    have h2 := hn _ (List.getElem_mem h)
    unfold Vl.nameL at h2
    simp only [Bool.and_eq_true, decide_eq_true_eq] at h2
    rw [Wp.size_len]; exact h2.1.1))
  clear hP hn hm
  go_enter Tryz.func58, Tryz.ntmps58
  go_wp2_with fail
  go_loopw [3, 4, 5, 8] (fun t3 _ _ t8 wr => ∃ j : Nat, j ≤ m ∧ t8 = .int .i64 j ∧ t3 = .string (Wp.B (Sc.joinP (path.take j))) ∧ wr = w) (fun _ _ _ t8 _ => m - (intOf t8).toNat)
  case atStart => exact ⟨0, Nat.zero_le _, rfl, rfl, rfl⟩
  case round =>
    obtain ⟨j, hj, rfl, rfl, rfl⟩ := hrel
    by_cases hjm : j < m
    · have hjl : j < path.length := by rw [← HM.out]; exact hjm
      have hjk : (Wp.B (Sc.joinP (path.take j))).size ≤ 132 := by
        rw [Wp.B_size]
        have := HJl.out j (by omega)
        omega
      obtain ⟨pb, po, rfl, hcell⟩ := HP.out.get j hjl
      rw [show Wp.mkT path[j] = Value.string path[j] from rfl] at hcell
      have hxs := HNz.out j hjl
      have hjt := HJt.out j hjl
      by_cases h0 : j = 0
      · rw [if_pos h0] at hjt
        have HE := Lib.hid (show Wp.B (Sc.joinP (path.take j)) ++ path[j] = Wp.B (Sc.joinP (path.take (j + 1))) by subst h0; rw [hjt, Wp.B_append]; simp [Sc.joinP])
        generalize path[j] = x at *
        generalize Wp.B (Sc.joinP (path.take j)) = jk at *
        have hk00 : ¬ (0 : Int) < (j : Int) := by omega
        clear hjt h0
        go_wp2_with fail
        exact ⟨⟨j + 1, by omega, by go_num, by rw [HE.out], trivial⟩, by simp [intOf]; omega⟩
      · rw [if_neg h0] at hjt
        have HE := Lib.hid (show (Wp.B (Sc.joinP (path.take j)) ++ (⟨#[46]⟩ : ByteArray)) ++ path[j] = Wp.B (Sc.joinP (path.take (j + 1))) by
          rw [hjt, show (⟨#[46]⟩ : ByteArray) = Wp.B [46] from rfl, Wp.B_append, Wp.B_data, Wp.B_append, List.append_assoc]; rfl)
        generalize path[j] = x at *
        generalize Wp.B (Sc.joinP (path.take j)) = jk at *
        have hk00 : (0 : Int) < (j : Int) := by omega
        clear hjt h0
        go_wp2_with fail
        exact ⟨⟨j + 1, by omega, by go_num, by rw [HE.out], trivial⟩, by simp [intOf]; omega⟩
    · obtain rfl : j = m := by omega
      rw [HTkp.out]
      go_wp2_with fail
      go_ret
      exact ⟨rfl, rfl⟩
set_option maxRecDepth 100000 in
set_option maxHeartbeats 2000000 in
theorem refCheck11_any (l : List Nd.N) (q : Option Addr) (c : Nat) (w : World) (hn : l.length ≤ 140737488351232) (hA : Nd.Row w q l) (hps : ∀ t ∈ Nd.toksL l, t.path.length ≤ 3000000) :
    Calls Tryz.prog 26 #[.slice q l.length c] w fun e w' => e = .returned (.int .i64 (Nd.chk l)) ∧ Below w.heap.size w w' := by
  have CR := Lib.hid (refRight_any 8 l q c w w (by omega) hn hA (Below.refl _ _))
  have HG := Lib.hid (Nd.rgt_good (l := l))
  have HF : Hid ((Nd.okLR 8 l && decide (Nd.cntL l ≤ 256)) = false → Nd.chk l = 2) := Lib.hid (fun h => by
    unfold Nd.chk
    rw [if_neg]
    intro hg
    rw [Nd.good_right hg] at h
    cases h)
  have HT : Hid ((Nd.okLR 8 l && decide (Nd.cntL l ≤ 256)) = true → Nd.chk l = Sc.chkTs (Nd.toksL l)) := Lib.hid (fun h => by
    unfold Nd.chk Sc.chkTs
    rw [Nd.right_good h])
  have CT : Hid ((Nd.okLR 8 l && decide (Nd.cntL l ≤ 256)) = true → (Nd.toksL l).length ≤ 1000 ∧ ∀ W, Below w.heap.size w W → Calls Tryz.prog 54 #[.slice q l.length c, .int .i64 (8 : Nat)] W (Nd.TkPost (Nd.toksL l) W)) := Lib.hid (fun h => ⟨(Nd.right_len h).2, fun W hb => refTokens_any 8 l q c w W (by omega) (Nd.right_len h).1 hn hA hb (Nd.right_len h).2 hps⟩)
  generalize Nd.chk l = R at *
  generalize Nd.rgt 8 l = G at *
  obtain ⟨a, b⟩ := G
  generalize (Nd.okLR 8 l && decide (Nd.cntL l ≤ 256)) = ok at *
  obtain rfl : b = ok := HG.out
  generalize Nd.toksL l = tl at *
  clear hA hps hn HG
  generalize l.length = n at *
  go_enter Tryz.func26, Tryz.ntmps26
  go_wp2_with fail
  refine CR.out.mono ?_
  rintro e w1 ⟨rfl, hb⟩
  have B1 := Lib.hid hb
  clear hb CR
  cases b with
  | false =>
    have hR := HF.out rfl
    subst hR
    go_wp2_with fail
    go_ret
    exact ⟨rfl, B1.out⟩
  | true =>
    have hR := HT.out rfl
    obtain ⟨hl, hc⟩ := CT.out rfl
    have C2 := Lib.hid (hc w1 B1.out)
    have HL := Lib.hid hl
    clear hc hl CT HT HF
    go_wp2_with fail
    refine C2.out.mono ?_
    rintro e w2 ⟨v, rfl, hO, hb⟩
    obtain ⟨p2, c2, rfl, -, hA2⟩ := hO.at
    have B2 := Lib.hid (B1.out.trans (hb.mono B1.out.size))
    have hc3 := refCheck10_any tl p2 c2 w2 hA2 (by have := HL.out; omega)
    rw [← hR] at hc3
    have C3 := Lib.hid hc3
    have hz : R = 0 ∨ R = 2 := by rw [hR]; unfold Sc.chkTs; split <;> simp
    generalize tl.length = m at *
    clear hO hb hA2 C2 B1 hc3 hR
    go_wp2_with fail
    refine C3.out.mono ?_
    rintro e w3 ⟨rfl, hb⟩
    have B3 := Lib.hid (B2.out.trans (hb.mono B2.out.size))
    clear hb C3 B2
    rcases hz with rfl | rfl
    · go_wp2_with fail
      go_ret
      exact ⟨rfl, B3.out⟩
    · go_wp2_with fail
      go_ret
      exact ⟨rfl, B3.out⟩
/-- What the document's Tokens hands back. -/
def Nd.T11Post (R : List Sc.T × Int) (w : World) (e : Ending) (w' : World) : Prop := ∃ p c, e = .returned (.tuple #[.slice p R.1.length c, .int .i64 R.2]) ∧ Sc.At w' p R.1 ∧ Below w.heap.size w w'
set_option maxRecDepth 100000 in
set_option maxHeartbeats 2000000 in
theorem refTokens11_any (l : List Nd.N) (q : Option Addr) (c : Nat) (w : World) (hn : l.length ≤ 140737488351232) (hA : Nd.Row w q l) (hps : ∀ t ∈ Nd.toksL l, t.path.length ≤ 3000000) :
    Calls Tryz.prog 18 #[.slice q l.length c] w (Nd.T11Post (Nd.toksR l) w) := by
  have CC := Lib.hid (refCheck11_any l q c w hn hA hps)
  have HB : Hid (Nd.good l = false → Nd.chk l = 2 ∧ Nd.toksR l = ([], 2)) := Lib.hid (fun h => by
    unfold Nd.chk Nd.toksR
    rw [h]
    exact ⟨rfl, rfl⟩)
  have HT : Hid (Nd.good l = true → (Nd.chk l = 0 ∧ Nd.toksR l = (Nd.toksL l, 0)) ∧ ∀ W, Below w.heap.size w W → Calls Tryz.prog 54 #[.slice q l.length c, .int .i64 (8 : Nat)] W (Nd.TkPost (Nd.toksL l) W)) := Lib.hid (fun h => ⟨by
    unfold Nd.chk Nd.toksR
    rw [h]
    exact ⟨rfl, rfl⟩, fun W hb => refTokens_any 8 l q c w W (by omega) (Nd.right_len (Nd.good_right h)).1 hn hA hb (Nd.right_len (Nd.good_right h)).2 hps⟩)
  generalize Nd.toksR l = R at *
  generalize Nd.chk l = z at *
  generalize Nd.toksL l = tl at *
  generalize Nd.good l = g at *
  clear hA hps hn
  generalize l.length = n at *
  go_enter Tryz.func18, Tryz.ntmps18
  go_wp2_with fail
  refine CC.out.mono ?_
  rintro e w1 ⟨rfl, hb⟩
  have B1 := Lib.hid hb
  clear hb CC
  cases g with
  | false =>
    obtain ⟨rfl, rfl⟩ := HB.out rfl
    go_wp2_with fail
    go_ret2
    exact ⟨none, 0, rfl, Sc.At.nil _ _, B1.out⟩
  | true =>
    obtain ⟨⟨rfl, rfl⟩, hc⟩ := HT.out rfl
    have C2 := Lib.hid (hc w1 B1.out)
    clear hc HT HB
    go_wp2_with fail
    refine C2.out.mono ?_
    rintro e w2 ⟨v, rfl, hO, hb⟩
    obtain ⟨p2, c2, rfl, -, hA2⟩ := hO.at
    have B2 := Lib.hid (B1.out.trans (hb.mono B1.out.size))
    have HA2 := Lib.hid hA2
    clear hO hb hA2 C2 B1
    go_wp2_with fail
    go_ret2
    exact ⟨p2, c2, rfl, HA2.out, B2.out⟩
set_option maxRecDepth 100000 in
set_option maxHeartbeats 2000000 in
theorem refWrite11_any (l : List Nd.N) (q : Option Addr) (c : Nat) (w : World) (hn : l.length ≤ 140737488351232) (hA : Nd.Row w q l) (hps : ∀ t ∈ Nd.toksL l, t.path.length ≤ 3000000) (hts : ∀ t ∈ Nd.toksL l, t.text.size ≤ 1048576) :
    Calls Tryz.prog 20 #[.slice q l.length c] w fun e w' => e = .returned (.tuple #[.string (Wp.B (Nd.writeN l).1), .int .i64 (Nd.writeN l).2]) ∧ Below w.heap.size w w' := by
  have CC := Lib.hid (refTokens11_any l q c w hn hA hps)
  have HF := Lib.hid (Nd.toksR_facts l).1
  have HW : Hid (Nd.writeN l = if (Nd.toksR l).2 = 0 then Sc.writeR (Nd.toksR l).1 else ([], 2)) := Lib.hid (by
    unfold Nd.writeN Nd.toksR
    cases Nd.good l <;> rfl)
  have HZ : Hid ((Nd.toksR l).2 = 0 ∨ (Nd.toksR l).2 = 2) := Lib.hid (by unfold Nd.toksR; split <;> simp)
  have HX : Hid (∀ t ∈ (Nd.toksR l).1, t.text.size ≤ 1048576) := Lib.hid (fun t ht => by
    unfold Nd.toksR at ht
    split at ht
    · exact hts t ht
    · simp at ht)
  generalize Nd.toksR l = R at *
  generalize Nd.writeN l = X at *
  obtain ⟨tl, z⟩ := R
  obtain ⟨x1, x2⟩ := X
  simp only at HF HW HZ HX
  clear hA hps hn hts
  generalize l.length = n at *
  go_enter Tryz.func20, Tryz.ntmps20
  go_wp2_with fail
  refine CC.out.mono ?_
  rintro e w1 ⟨p1, c1, rfl, hA1, hb⟩
  have B1 := Lib.hid hb
  have hA1 : Sc.At w1 p1 tl := hA1
  have hc2 := refWrite10_any tl p1 c1 w1 hA1 (by have := HF.out; omega) HX.out
  clear hb CC hA1
  generalize tl.length = m at *
  rcases HZ.out with rfl | rfl
  · have hX := HW.out
    rw [if_pos rfl] at hX
    rw [← hX] at hc2
    have C2 := Lib.hid hc2
    clear HW HZ hX hc2
    go_wp2_with fail
    refine C2.out.mono ?_
    rintro e w2 ⟨rfl, hb⟩
    have B2 := Lib.hid (B1.out.trans (hb.mono B1.out.size))
    clear hb C2 B1
    go_wp2_with fail
    go_ret2
    exact ⟨rfl, B2.out⟩
  · have hX := HW.out
    rw [if_neg (by decide)] at hX
    cases hX
    clear HW HZ hc2
    go_wp2_with fail
    go_ret2
    exact ⟨rfl, B1.out⟩
set_option maxRecDepth 100000 in
set_option maxHeartbeats 2000000 in
theorem refPaths11_any (l : List Nd.N) (q : Option Addr) (c : Nat) (w : World) (hn : l.length ≤ 140737488351232) (hA : Nd.Row w q l) (hps : ∀ t ∈ Nd.toksL l, t.path.length ≤ 3000000) :
    Calls Tryz.prog 22 #[.slice q l.length c] w (Nd.PathsPost (Nd.pathsR l) w) := by
  have C := Lib.hid (refTokens11_any l q c w hn hA hps)
  have HF := Lib.hid (Nd.toksR_facts l)
  rw [Nd.pathsR_eq]
  generalize Nd.toksR l = R at *
  obtain ⟨tl, tc⟩ := R
  simp only at HF ⊢
  clear hA hps hn
  generalize l.length = n0 at *
  obtain ⟨ws, hws⟩ : ∃ ws, ws = Nd.wordsT tl := ⟨_, rfl⟩
  rw [← hws]
  have Hws := Lib.hid hws
  clear hws
  obtain ⟨i0, hi, hz0, hz1, hz2⟩ := Vl.infoText
  go_enter Tryz.func22, Tryz.ntmps22
  go_wp2_with fail
  refine C.out.mono ?_
  rintro e w1 ⟨p1, c1, rfl, hA1, hb⟩
  have HB := Lib.hid hb
  have HA1 := Lib.hid (show Sc.At w1 p1 tl from hA1)
  clear hb C hA1
  obtain ⟨n, hnn⟩ : ∃ n, n = tl.length := ⟨_, rfl⟩
  have Hn := Lib.hid hnn
  have hn1 : n ≤ 1000 := by have := HF.out.1; omega
  first
    | rw [show ((tl, tc) : List Sc.T × Int).1.length = n from hnn.symm]
    | rw [← hnn]
  clear hnn
  go_wp2_with fail
  go_loopw [6, 8, 16] (fun v6 _ t wr => ∃ k : Nat, k ≤ n ∧ t = .int .i64 k ∧ Hid (wr.ownsRow w1.heap.size 9 1 v6 (Nd.wordsT (tl.take k)).length ((Nd.wordsT (tl.take k)).map Wp.mkT)) ∧ Hid (Below w1.heap.size w1 wr)) (fun _ _ t _ => n - (intOf t).toNat)
  case atStart => exact ⟨0, Nat.zero_le _, rfl, Lib.hid (World.ownsRow_nil _ _ _ _), Lib.hid (Below.refl _ _)⟩
  case round =>
    obtain ⟨k, hk, rfl, HO, HB1⟩ := hrel
    by_cases hlt : k < n
    · have hkl : k < tl.length := by rw [← Hn.out]; exact hlt
      obtain ⟨b, off, c0, c1', c2, hpe, ⟨e0, e1, e2⟩, y, hy, pn, cn, hv, hft, hpt⟩ := (HA1.out.below HB1.out) k hkl
      obtain rfl : y = tl[k] := (Option.some.inj ((List.getElem?_eq_getElem hkl).symm.trans hy)).symm
      simp only [Value.agg.injEq, Array.mk.injEq, List.cons.injEq, and_true] at hv
      obtain ⟨rfl, rfl, rfl⟩ := hv
      subst hpe
      obtain ⟨⟨-, hcn⟩, -, -, -⟩ := hft
      obtain ⟨hp4, hp5⟩ := Nd.path4 (HF.out.2 _ (List.getElem_mem hkl))
      have hpn := Nd.path_names (HF.out.2 _ (List.getElem_mem hkl))
      have Hsn := Lib.hid (Nd.words_snoc tl k hkl)
      have Hwl := Lib.hid (Nd.words_len tl k)
      clear hy
      generalize tl[k].kind = kd at *
      generalize tl[k].text = tx at *
      generalize tl[k].path = ph at *
      have HX := Lib.hid ((Below.refl wr.heap.size wr).alloc (Nat.le_refl _) (.cells #[.int .u8 (kd : Nat), .string tx, .slice pn ph.length cn] 46))
      have HV := Lib.hid (Vl.new wr (.cells #[.int .u8 (kd : Nat), .string tx, .slice pn ph.length cn] 46))
      have HJ := Lib.hid (fun W (h : Below wr.heap.size wr W) => refWord_any pn cn ph W (hpt.below h) hp4 hpn)
      generalize Nd.wordsT (tl.take k) = wk at *
      obtain ⟨k0, k1, k2⟩ := Sc.three_of HV.out
      clear hpt hpn
      by_cases hz : ph.length = 0
      · have hq2 : ¬ (0 : Int) < (ph.length : Int) := by omega
        have Hsn2 := Lib.hid (show Nd.wordsT (tl.take (k + 1)) = wk by rw [Hsn.out, if_neg (by simpa using hz), List.append_nil])
        have HO2 := Lib.hid (HO.out.alloc (.cells #[.int .u8 (kd : Nat), .string tx, .slice pn ph.length cn] 46))
        have HB2 := Lib.hid (HB1.out.alloc HB1.out.size (.cells #[.int .u8 (kd : Nat), .string tx, .slice pn ph.length cn] 46))
        clear Hsn HJ hz
        go_wp2_with fail
        exact ⟨⟨k + 1, by omega, by go_num, Lib.hid (by rw [Hsn2.out]; exact HO2.out), HB2⟩, by simp [intOf]; omega⟩
      · have hq2 : (0 : Int) < (ph.length : Int) := by omega
        have Hsn2 := Lib.hid (show Nd.wordsT (tl.take (k + 1)) = wk ++ [Wp.B (Sc.joinP ph)] by rw [Hsn.out, if_pos hz])
        have HJ2 := Lib.hid (HJ.out _ HX.out)
        clear Hsn hz HJ
        generalize Wp.B (Sc.joinP ph) = wd at *
        go_wp2_with fail
        refine HJ2.out.mono ?_
        rintro e w3 ⟨rfl, rfl⟩
        clear HJ2 k0 k1 k2 e0 e1 e2
        obtain ⟨w3, hw3⟩ : ∃ w3, w3 = wr.alloc (.cells #[.int .u8 (kd : Nat), .string tx, .slice pn ph.length cn] 46) := ⟨_, rfl⟩
        have HY3 := Lib.hid HX.out
        rw [← hw3] at HY3 ⊢
        clear hw3
        have HO3 := Lib.hid ((ownsRow_below HO.out HY3.out).alloc (.cells #[.string wd] 9))
        have HB3 := Lib.hid ((HB1.out.trans (HY3.out.mono HB1.out.size)).alloc (Nat.le_trans HB1.out.size HY3.out.size) (.cells #[.string wd] 9))
        have Hnew := Lib.hid (Vl.one_of (Vl.new w3 (.cells #[.string wd] 9)))
        have Hq := Lib.hid (show ∀ j q, ([.string wd] : List Value)[j]? = some q → (w3.alloc (.cells #[.string wd] 9)).cell? ((⟨w3.heap.size, 0, none⟩ : Addr).add j) = some q from fun j q hq => by
          match j, hq with
          | 0, hq => cases hq; exact Hnew.out.1
          | j + 1, hq => simp at hq)
        have Hlk := Lib.hid (show wk.length + 1 ≤ maxLen by have := Hwl.out; have := Hn.out; unfold maxLen; omega)
        have Hlk2 := Lib.hid (show (wk.length + 1) * 16 ≤ 140737488355328 by have := Hwl.out; have := Hn.out; omega)
        clear HO HB1 HX
        go_wp2_with (at_builtin; refine Vl.listApp _ rfl _ _ 35 rfl w1.heap.size 9 i0 _ 1 16 Tryz.underlying35 hi hz0 hz1 hz2 rfl (by decide) _ wk.length _ rfl HO3.out ⟨w3.heap.size, 0, none⟩ 1 1 [.string wd] rfl rfl Hq.out (by intro q hq; simp at hq; subst hq; rfl) Hlk.out Hlk2.out HB3.out.size ?_)
        intro v' w4 hown hgrow _
        have HB4 := Lib.hid (below_grown5 HB3.out HO3.out (Nat.le_refl _) hgrow)
        have HOw := Lib.hid hown
        clear hown hgrow HO3 HB3 Hnew Hq
        go_wp2_with fail
        exact ⟨⟨k + 1, by omega, by go_num, Lib.hid (by rw [Hsn2.out, List.length_append, List.map_append]; exact HOw.out), HB4⟩, by simp [intOf]; omega⟩
    · obtain rfl : k = n := by omega
      have HO1 := Lib.hid (show wr.ownsRow w1.heap.size 9 1 _ ws.length (ws.map Wp.mkT) by have := HO.out; rwa [Hn.out, List.take_length, ← Hws.out] at this)
      go_wp2_with fail
      go_ret2
      refine ⟨_, rfl, ?_, HB.out.trans (HB1.out.mono HB.out.size)⟩
      exact ⟨HO1.out.1, HO1.out.2.imp id fun ⟨g, cap, cur, a, b, rest⟩ => ⟨g, cap, cur, a, Nat.le_trans HB.out.size b, rest⟩⟩
end Go.Proofs.YteajjlilpikdeaaGreatDoor
