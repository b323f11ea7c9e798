
/-
  The walk of tree's put: the tokens of nodes that are shaped, put behind those that there are. Condition: there are few.
-/
import Derived.Test.YteiccjakaabfnaaGreatDoorZ20
namespace Go.Proofs.YteiccjakaabfnaaGreatDoor
open Go.RowKit

/-- What put hands back. -/
def Nd.PutPost (w0 : World) (B : Nat) (v : Value) (W : World) (out : List Sc.T) (e : Ending) (w' : World) : Prop := ∃ v', e = .returned v' ∧ Nd.TRow w0 B w' v' out ∧ Nd.Grew W v w' v'
set_option maxRecDepth 100000 in
/-- Of no nodes. -/
theorem put_nil (q : Option Addr) (c : Nat) (w0 : World) (B : Nat) (w : World) (v : Value) (acc : List Sc.T) (hT : Nd.TRow w0 B w v acc) :
    Calls Tryz.prog 114 #[v, .slice q ([] : List Nd.N).length c] w (Nd.PutPost w0 B v w (acc ++ Nd.toksL [])) := by
  rw [Nd.toksL_nil, List.append_nil]
  have HT := Lib.hid hT
  clear hT
  show Calls Tryz.prog 114 #[v, .slice q 0 c] w _
  go_enter Tryz.func114, Tryz.ntmps114
  go_wp2_with fail
  go_loopw [0, 6, 9] (fun v1 _ t wr => v1 = v ∧ t = .int .i64 0 ∧ wr = w) (fun _ _ _ _ => 0)
  case atStart => exact ⟨rfl, rfl, rfl⟩
  case round =>
    obtain ⟨rfl, rfl, rfl⟩ := hrel
    go_wp2_with fail
    go_ret
    exact ⟨_, rfl, HT.out, Nd.Grew.refl _ _⟩
set_option maxRecDepth 100000 in
set_option maxHeartbeats 4000000 in
theorem put_step (d : Nat) (l : List Nd.N) (q : Option Addr) (c : Nat) (w0 : World) (B : Nat) (w : World) (v : Value) (acc : List Sc.T) (hok : ∀ n ∈ l, Nd.okL d n.kids = true ∧ Nd.okL d n.els = true) (hn : l.length ≤ 140737488351232) (hA : Nd.Row w0 q l) (hB0 : w0.heap.size ≤ B) (hB : Below w0.heap.size w0 w) (hBw : B ≤ w.heap.size)
    (hT : Nd.TRow w0 B w v acc) (hlen : acc.length + (Nd.toksL l).length ≤ 1000)
    (ih : ∀ (l' : List Nd.N) (q' : Option Addr) (c' : Nat) (W : World) (u : Value) (acc' : List Sc.T), Nd.okL d l' = true → l'.length ≤ 140737488351232 → Nd.Row w0 q' l' → Below w0.heap.size w0 W → B ≤ W.heap.size → Nd.TRow w0 B W u acc' → acc'.length + (Nd.toksL l').length ≤ 1000 → Calls Tryz.prog 114 #[u, .slice q' l'.length c'] W (Nd.PutPost w0 B u W (acc' ++ Nd.toksL l'))) :
    Calls Tryz.prog 114 #[v, .slice q l.length c] w (Nd.PutPost w0 B v w (acc ++ Nd.toksL l)) := by
  have HOk := Lib.hid hok
  have HA := Lib.hid hA
  have HT0 := Lib.hid hT
  have HB := Lib.hid hB
  have Hlen := Lib.hid hlen
  have Hih := Lib.hid ih
  obtain ⟨n, hnl⟩ : ∃ n, n = l.length := ⟨_, rfl⟩
  rw [← hnl] at hn ⊢
  have HN := Lib.hid hnl
  obtain ⟨out, hout⟩ : ∃ out, out = acc ++ Nd.toksL l := ⟨_, rfl⟩
  rw [← hout]
  have HOut := Lib.hid hout
  clear hok hA hT hB hlen ih hnl hout
  go_enter Tryz.func114, Tryz.ntmps114
  go_wp2_with fail
  go_loopw [0, 6, 9] (fun v1 _ t wr => ∃ k : Nat, k ≤ n ∧ t = .int .i64 k ∧ Hid (Nd.TRow w0 B wr v1 (acc ++ Nd.toksL (l.take k))) ∧ Hid (Nd.Grew w v wr v1)) (fun _ _ t _ => n - (intOf t).toNat)
  case atStart => exact ⟨0, Nat.zero_le _, rfl, Lib.hid (by rw [List.take_zero, Nd.toksL_nil, List.append_nil]; exact HT0.out), Lib.hid (Nd.Grew.refl _ _)⟩
  case round =>
    obtain ⟨k, hk, rfl, HT, HG⟩ := hrel
    by_cases hlt : k < n
    · have hkl : k < l.length := by rw [← HN.out]; exact hlt
      have hBr := HG.out.below HT0.out hB0 HB.out
      have HBr := Lib.hid hBr
      obtain ⟨b, off, pp, cp, pk, ck, pe, ce, rfl, h5, hf, hp, hrk, hre⟩ := HA.out.get k hkl
      obtain ⟨e0, e1, e2, e3, e4⟩ := h5.below hBr
      have htk := Nd.tok_of hf hp
      have Htk := Lib.hid htk
      have hsn := Nd.toks_snoc l k hkl
      have htl := Nd.toks_take l (k + 1)
      rw [hsn, List.length_append] at htl
      have hok := HOk.out l[k] (List.getElem_mem hkl)
      obtain ⟨x, hx⟩ : ∃ x, x = l[k] := ⟨_, rfl⟩
      rw [← hx] at e0 e1 e2 e3 e4 Htk hsn htl hok hf hrk hre
      rw [Nd.N.toks_eq] at hsn htl
      obtain ⟨-, -, -, f4, f5, -, -, -, -⟩ := hf
      have Hsn := Lib.hid hsn
      have Htl := Lib.hid htl
      have C1 := Lib.hid (fun W u acc' h1 h2 h3 h4 => Hih.out x.kids pk ck W u acc' hok.1 f4 hrk h1 h2 h3 h4)
      have C2 := Lib.hid (fun W u acc' h1 h2 h3 h4 => Hih.out x.els pe ce W u acc' hok.2 f5 hre h1 h2 h3 h4)
      have hwr := HG.out.1.size
      have HX1 := Lib.hid ((Below.refl wr.heap.size wr).alloc (Nat.le_refl _) (.cells #[.int .u8 (x.kind : Nat), .string x.text, .slice pp x.path.length cp, .slice pk x.kids.length ck, .slice pe x.els.length ce] 37))
      have HV := Lib.hid (Vl.new wr (.cells #[.int .u8 (x.kind : Nat), .string x.text, .slice pp x.path.length cp, .slice pk x.kids.length ck, .slice pe x.els.length ce] 37))
      clear hBr hsn htl hx htk hok hp h5 hrk hre
      obtain ⟨v0, v1', v2', v3', v4'⟩ := Vl.five_of HV.out
      have HT2 := Lib.hid ((HT.out.below HX1.out).below ((Below.refl _ _).alloc (Nat.le_refl _) (.cells #[.int .u8 (x.kind : Nat), .string x.text, .slice pp x.path.length cp] 110)))
      have HX2 := Lib.hid ((Below.refl _ _).alloc (Nat.le_refl _) (.cells #[.int .u8 (x.kind : Nat), .string x.text, .slice pp x.path.length cp] 110) : Below (wr.alloc (.cells #[.int .u8 (x.kind : Nat), .string x.text, .slice pp x.path.length cp, .slice pk x.kids.length ck, .slice pe x.els.length ce] 37)).heap.size (wr.alloc (.cells #[.int .u8 (x.kind : Nat), .string x.text, .slice pp x.path.length cp, .slice pk x.kids.length ck, .slice pe x.els.length ce] 37)) _)
      have HV2 := Lib.hid (Vl.newAt (wr.alloc (.cells #[.int .u8 (x.kind : Nat), .string x.text, .slice pp x.path.length cp, .slice pk x.kids.length ck, .slice pe x.els.length ce] 37)) (.cells #[.int .u8 (x.kind : Nat), .string x.text, .slice pp x.path.length cp] 110) (wr.heap.size + 1) (by rw [World.size_alloc]))
      have HVb := Lib.hid ((Vl.past (wr.alloc (.cells #[.int .u8 (x.kind : Nat), .string x.text, .slice pp x.path.length cp, .slice pk x.kids.length ck, .slice pe x.els.length ce] 37)) (.cells #[.int .u8 (x.kind : Nat), .string x.text, .slice pp x.path.length cp] 110) wr.heap.size (by rw [World.size_alloc]; omega)).trans HV.out)
      have Hac := Lib.hid (show acc.length + ((Nd.toksL (l.take k)).length + _) ≤ 1000 from Nat.le_trans (Nat.add_le_add_left Htl.out _) Hlen.out)
      generalize hH : Nd.toksL (l.take k) = tk at *
      have Hne := Lib.hid (fun (j : Nat) (e : _ = some j) => (HT.out.lt j e).2)
      go_wp2_with (at_builtin; refine Nd.tokApp rfl _ _ rfl w0 B _ _ (wr.heap.size + 1) _ _ _ ⟨x.kind, x.text, x.path⟩ rfl rfl HT2.out HV2.out Htk.out ?t3 ?t4 ?_)
      case t3 => have := Hac.out; rw [List.length_append]; omega
      case t4 => simp only [World.size_alloc]; omega
      intro v2 w2 hT2 hg2
      have hbx := hg2.box HVb.out (fun e => by have := Hne.out _ e; omega)
      have HG2 := Lib.hid ((HG.out.trans ((Nd.Grew.of _ HX1.out).trans (Nd.Grew.of _ HX2.out))).trans hg2)
      have HTw2 := Lib.hid hT2
      have Hbx2 := Lib.hid hbx
      clear hT2 hg2 hbx v0 v1' v2' v3' v4' e0 e1 e2 e3 e4 HT2 HX1 HX2 HV HV2 HVb Hne
      obtain ⟨v0, v1', v2', v3', v4'⟩ := Vl.five_of Hbx2.out.1
      go_wp2_with fail
      refine (ndOpens_any _ _).mono ?_
      rintro e w2 ⟨rfl, rfl⟩
      cases hop : Nd.opens x.kind with
      | false =>
        have Hsn2 := Lib.hid (show Nd.toksL (l.take (k + 1)) = tk ++ [⟨x.kind, x.text, x.path⟩] by rw [Hsn.out, hop]; rfl)
        clear hop
        go_wp2_with fail
        exact ⟨⟨k + 1, by omega, by go_num, Lib.hid (by rw [Hsn2.out]; have := HTw2.out; (try simp only [List.append_assoc] at this); (try simp only [List.append_assoc]); exact this), HG2⟩, by simp [intOf]; omega⟩
      | true =>
        have hsn := Hsn.out
        have hac := Hac.out
        rw [hop, if_pos rfl] at hsn hac
        have Hsn2 := Lib.hid hsn
        have Hac2 := Lib.hid hac
        clear hop hsn hac Hsn Hac Htl
        generalize hne : x.els.length = ne at *
        have HNe := Lib.hid hne
        clear hne
        generalize x.kids.length = nk at *
        clear v0 v1' v2' v3' v4'
        have HCw3 := Lib.hid (C1.out w2 _ _ (HG2.out.below HT0.out hB0 HB.out) (by have := HG2.out.1.size; omega) HTw2.out (by have := Hac2.out; simp only [List.length_append, List.length_cons, List.length_nil] at this ⊢; omega))
        obtain ⟨v0, v1', v2', v3', v4'⟩ := Vl.five_of Hbx2.out.1
        go_wp2_with fail
        refine HCw3.out.mono ?_
        rintro e w3 ⟨v3, rfl, hTw3, hgw3⟩
        have Hbxw3 := Lib.hid (hgw3.box Hbx2.out.1 Hbx2.out.2)
        have HGw3 := Lib.hid (HG2.out.trans hgw3)
        have HTww3 := Lib.hid hTw3
        clear hTw3 hgw3 HCw3 v0 v1' v2' v3' v4'
        obtain ⟨v0, v1', v2', v3', v4'⟩ := Vl.five_of Hbxw3.out.1
        by_cases hz : ne = 0
        · have hz2 : ¬ (0 : Int) < (ne : Int) := by omega
          have Hsn3 := Lib.hid (show Nd.toksL (l.take (k + 1)) = tk ++ ⟨x.kind, x.text, x.path⟩ :: (Nd.toksL x.kids ++ [Nd.tEnd]) by
            rw [Hsn2.out, show x.els.isEmpty = true from List.isEmpty_iff.2 (List.length_eq_zero_iff.1 (HNe.out.trans hz))]; rfl)
          have Hac3 := Lib.hid (show acc.length + (tk.length + (1 + ((Nd.toksL x.kids).length + 1))) ≤ 1000 by have := Hac2.out; simp only [List.length_append, List.length_cons, List.length_nil] at this; omega)
          clear hz
          have HAw4 := Lib.hid ((Below.refl _ _).alloc (Nat.le_refl _) (.cells #[.int .u8 6, .string ⟨#[]⟩, .slice none 0 0] 110) : Below w3.heap.size w3 _)
          have HTw4 := Lib.hid (HTww3.out.below HAw4.out)
          have HVw4 := Lib.hid (Vl.new w3 (.cells #[.int .u8 6, .string ⟨#[]⟩, .slice none 0 0] 110))
          have HWw4 := Lib.hid (Vl.past w3 (.cells #[.int .u8 6, .string ⟨#[]⟩, .slice none 0 0] 110) wr.heap.size (Array.getElem?_eq_some_iff.1 Hbxw3.out.1).1 |>.trans Hbxw3.out.1)
          go_wp2_with (at_builtin; refine Nd.tokApp rfl _ _ rfl w0 B _ _ w3.heap.size _ _ _ Nd.tEnd rfl rfl HTw4.out HVw4.out (Nd.endAt _) ?w4t3 ?w4t4 ?_)
          case w4t3 => (have := Hac3.out; simp only [List.length_append, List.length_cons, List.length_nil]; omega)
          case w4t4 => rw [World.size_alloc]; have := HGw3.out.1.size; omega
          intro v4 w4 hTw4 hgw4
          have Hbxw4 := Lib.hid (hgw4.box HWw4.out Hbxw3.out.2)
          have HGw4 := Lib.hid ((HGw3.out.trans (Nd.Grew.of _ HAw4.out)).trans hgw4)
          have HTww4 := Lib.hid hTw4
          clear hTw4 hgw4 HAw4 HTw4 HVw4 HWw4
          go_wp2_with fail
          exact ⟨⟨k + 1, by omega, by go_num, Lib.hid (by rw [Hsn3.out]; have := HTww4.out; (try simp only [List.append_assoc, List.cons_append, List.nil_append] at this); (try simp only [List.append_assoc, List.cons_append, List.nil_append]); exact this), HGw4⟩, by simp [intOf]; omega⟩
        · have hz2 : (0 : Int) < (ne : Int) := by omega
          have Hsn3 := Lib.hid (show Nd.toksL (l.take (k + 1)) = tk ++ ⟨x.kind, x.text, x.path⟩ :: (Nd.toksL x.kids ++ (Nd.tElse :: (Nd.toksL x.els ++ [Nd.tEnd]))) by
            rw [Hsn2.out, show x.els.isEmpty = false from by cases hel : x.els with | nil => exact absurd (by rw [← HNe.out, hel]; rfl) hz | cons a b => rfl]; rfl)
          have Hac3 := Lib.hid (show acc.length + (tk.length + (1 + ((Nd.toksL x.kids).length + (1 + ((Nd.toksL x.els).length + 1))))) ≤ 1000 by
            have := Hac2.out
            rw [show x.els.isEmpty = false from by cases hel : x.els with | nil => exact absurd (by rw [← HNe.out, hel]; rfl) hz | cons a b => rfl] at this
            simp only [Bool.false_eq_true, if_false, List.length_append, List.length_cons, List.length_nil] at this
            omega)
          clear hz
          have HAw4 := Lib.hid ((Below.refl _ _).alloc (Nat.le_refl _) (.cells #[.int .u8 4, .string ⟨#[]⟩, .slice none 0 0] 110) : Below w3.heap.size w3 _)
          have HTw4 := Lib.hid (HTww3.out.below HAw4.out)
          have HVw4 := Lib.hid (Vl.new w3 (.cells #[.int .u8 4, .string ⟨#[]⟩, .slice none 0 0] 110))
          have HWw4 := Lib.hid (Vl.past w3 (.cells #[.int .u8 4, .string ⟨#[]⟩, .slice none 0 0] 110) wr.heap.size (Array.getElem?_eq_some_iff.1 Hbxw3.out.1).1 |>.trans Hbxw3.out.1)
          go_wp2_with (at_builtin; refine Nd.tokApp rfl _ _ rfl w0 B _ _ w3.heap.size _ _ _ Nd.tElse rfl rfl HTw4.out HVw4.out (Nd.elseAt _) ?w4t3 ?w4t4 ?_)
          case w4t3 => (have := Hac3.out; simp only [List.length_append, List.length_cons, List.length_nil]; omega)
          case w4t4 => rw [World.size_alloc]; have := HGw3.out.1.size; omega
          intro v4 w4 hTw4 hgw4
          have Hbxw4 := Lib.hid (hgw4.box HWw4.out Hbxw3.out.2)
          have HGw4 := Lib.hid ((HGw3.out.trans (Nd.Grew.of _ HAw4.out)).trans hgw4)
          have HTww4 := Lib.hid hTw4
          clear hTw4 hgw4 HAw4 HTw4 HVw4 HWw4
          clear v0 v1' v2' v3' v4'
          have HCw5 := Lib.hid (C2.out w4 _ _ (HGw4.out.below HT0.out hB0 HB.out) (by have := HGw4.out.1.size; omega) HTww4.out (by have := Hac3.out; simp only [List.length_append, List.length_cons, List.length_nil]; omega))
          obtain ⟨v0, v1', v2', v3', v4'⟩ := Vl.five_of Hbxw4.out.1
          go_wp2_with fail
          refine HCw5.out.mono ?_
          rintro e w5 ⟨v5, rfl, hTw5, hgw5⟩
          have Hbxw5 := Lib.hid (hgw5.box Hbxw4.out.1 Hbxw4.out.2)
          have HGw5 := Lib.hid (HGw4.out.trans hgw5)
          have HTww5 := Lib.hid hTw5
          clear hTw5 hgw5 HCw5 v0 v1' v2' v3' v4'
          obtain ⟨v0, v1', v2', v3', v4'⟩ := Vl.five_of Hbxw5.out.1
          have HAw6 := Lib.hid ((Below.refl _ _).alloc (Nat.le_refl _) (.cells #[.int .u8 6, .string ⟨#[]⟩, .slice none 0 0] 110) : Below w5.heap.size w5 _)
          have HTw6 := Lib.hid (HTww5.out.below HAw6.out)
          have HVw6 := Lib.hid (Vl.new w5 (.cells #[.int .u8 6, .string ⟨#[]⟩, .slice none 0 0] 110))
          have HWw6 := Lib.hid (Vl.past w5 (.cells #[.int .u8 6, .string ⟨#[]⟩, .slice none 0 0] 110) wr.heap.size (Array.getElem?_eq_some_iff.1 Hbxw5.out.1).1 |>.trans Hbxw5.out.1)
          go_wp2_with (at_builtin; refine Nd.tokApp rfl _ _ rfl w0 B _ _ w5.heap.size _ _ _ Nd.tEnd rfl rfl HTw6.out HVw6.out (Nd.endAt _) ?w6t3 ?w6t4 ?_)
          case w6t3 => (have := Hac3.out; simp only [List.length_append, List.length_cons, List.length_nil]; omega)
          case w6t4 => rw [World.size_alloc]; have := HGw5.out.1.size; omega
          intro v6 w6 hTw6 hgw6
          have Hbxw6 := Lib.hid (hgw6.box HWw6.out Hbxw5.out.2)
          have HGw6 := Lib.hid ((HGw5.out.trans (Nd.Grew.of _ HAw6.out)).trans hgw6)
          have HTww6 := Lib.hid hTw6
          clear hTw6 hgw6 HAw6 HTw6 HVw6 HWw6
          go_wp2_with fail
          exact ⟨⟨k + 1, by omega, by go_num, Lib.hid (by rw [Hsn3.out]; have := HTww6.out; (try simp only [List.append_assoc, List.cons_append, List.nil_append] at this); (try simp only [List.append_assoc, List.cons_append, List.nil_append]); exact this), HGw6⟩, by simp [intOf]; omega⟩
    · obtain rfl : k = n := by omega
      have HO1 := Lib.hid (show Nd.TRow w0 B wr _ out by have := HT.out; rwa [HN.out, List.take_length, ← HOut.out] at this)
      go_wp2_with fail
      go_ret
      exact ⟨_, rfl, HO1.out, HG.out⟩
theorem put_any : ∀ (d : Nat) (l : List Nd.N) (q : Option Addr) (c : Nat) (w0 : World) (B : Nat) (w : World) (v : Value) (acc : List Sc.T), Nd.okL d l = true → l.length ≤ 140737488351232 → Nd.Row w0 q l → w0.heap.size ≤ B → Below w0.heap.size w0 w → B ≤ w.heap.size →
    Nd.TRow w0 B w v acc → acc.length + (Nd.toksL l).length ≤ 1000 → Calls Tryz.prog 114 #[v, .slice q l.length c] w (Nd.PutPost w0 B v w (acc ++ Nd.toksL l))
  | 0, l, q, c, w0, B, w, v, acc, hd, hn, hA, hB0, hB, hBw, hT, hl => by
    rw [Nd.okL, List.isEmpty_iff] at hd
    subst hd
    exact put_step 0 [] q c w0 B w v acc (fun n h => by cases h) hn hA hB0 hB hBw hT hl (fun l' q' c' W u acc' h1 h2 h3 h4 h5 h6 h7 => by
      rw [Nd.okL, List.isEmpty_iff] at h1
      subst h1
      exact put_nil q' c' w0 B W u acc' h6)
  | d + 1, l, q, c, w0, B, w, v, acc, hd, hn, hA, hB0, hB, hBw, hT, hl => by
    rw [Nd.okL, List.all_eq_true] at hd
    refine put_step d l q c w0 B w v acc (fun n h => ?_) hn hA hB0 hB hBw hT hl (fun l' q' c' W u acc' h1 h2 h3 h4 h5 h6 h7 => put_any d l' q' c' w0 B W u acc' h1 h2 h3 hB0 h4 h5 h6 h7)
    have := hd n h
    rw [Bool.and_eq_true, Bool.and_eq_true] at this
    exact this.2
end Go.Proofs.YteiccjakaabfnaaGreatDoor
