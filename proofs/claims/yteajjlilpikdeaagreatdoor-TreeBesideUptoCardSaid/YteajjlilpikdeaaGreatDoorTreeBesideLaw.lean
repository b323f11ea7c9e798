
/-
  The walk of TreeBeside: whatever the nodes, the law answers true. Conditions: the nodes and their texts are of a size that the walks hold; the words' table and the errors lie as they are laid, the search's limit is set.
-/
import Derived.Test.YteajjlilpikdeaaGreatDoorNdLives
import Derived.Test.YteajjlilpikdeaaGreatDoorNdB
namespace Go.Proofs.YteajjlilpikdeaaGreatDoor
open Go.RowKit

theorem Nd.mid_path {W : World} {b : Nat} (h : W.heap[b]? = some (.cells #[.string ⟨#[120]⟩] 9 (0, 0))) : Wp.At Wp.mkT W (some ⟨b, 0, none⟩) [⟨#[120]⟩] := Or.inr ⟨b, 0, rfl, fun i hi => by
  have e : i = 0 := by simpa using hi
  subst e
  rw [Lib.cell_of_heap h]
  rfl⟩
theorem Nd.mid_at {W : World} {b : Nat} (h : W.heap[b]? = some (.cells #[.string ⟨#[120]⟩] 9 (0, 0))) : Nd.At W (.agg #[.int .u8 2, .string ⟨#[]⟩, .slice (some ⟨b, 0, none⟩) 1 1, .slice none 0 0, .slice none 0 0]) Nd.mid := by
  unfold Nd.mid
  rw [Nd.At]
  refine ⟨some ⟨b, 0, none⟩, 1, none, 0, none, 0, rfl, ⟨by decide, by decide, by decide, by decide, by decide, fun s hs => ?_, by decide, by decide, by decide⟩, Nd.mid_path h, by rw [Nd.RowF]; trivial, by rw [Nd.RowF]; trivial⟩
  obtain rfl := List.mem_singleton.1 hs
  decide
theorem Nd.mid_tok {W : World} {b : Nat} (h : W.heap[b]? = some (.cells #[.string ⟨#[120]⟩] 9 (0, 0))) : Sc.Tok W (.agg #[.int .u8 2, .string ⟨#[]⟩, .slice (some ⟨b, 0, none⟩) 1 1]) Nd.midT := by
  refine ⟨some ⟨b, 0, none⟩, 1, rfl, ⟨⟨by decide, by decide⟩, by decide, by decide, fun s hs => ?_⟩, Nd.mid_path h⟩
  obtain rfl := List.mem_singleton.1 hs
  decide
set_option maxRecDepth 100000 in
set_option maxHeartbeats 4000000 in
theorem treeBeside_law (pa pb : Option Addr) (ca cb : Nat) (la lb : List Nd.N) (w : World) (ea eb : Addr) (hA : Nd.Row w pa la) (hB : Nd.Row w pb lb) (hla : la.length ≤ 1048576) (hlb : lb.length ≤ 1048576) (hta : ∀ t ∈ Nd.toksL la, t.text.size ≤ 4000000000) (htb : ∀ t ∈ Nd.toksL lb, t.text.size ≤ 4000000000) (hT : Sc.Laid w) (hM : Sc.MaxLen w) (hE : Nd.Errs w ea eb) :
    Calls Tryz.prog 5 #[.slice pa la.length ca, .slice pb lb.length cb] w fun e w' => e = .returned (.bool true) ∧ Below w.heap.size w w' := by
  have CL := Lib.hid (lives11_any w ea eb hT hM hE)
  have CA : Hid (∀ W, Below w.heap.size w W → Calls Tryz.prog 17 #[.slice pa la.length ca] W (Nd.TokensPost (Nd.toksR la) W)) := Lib.hid (fun W hb => ndTokens_any la pa ca W (by omega) (hA.below hb) hta (hT.below hb) (hM.below hb))
  have CB : Hid (∀ W, Below w.heap.size w W → Calls Tryz.prog 17 #[.slice pb lb.length cb] W (Nd.TokensPost (Nd.toksR lb) W)) := Lib.hid (fun W hb => ndTokens_any lb pb cb W (by omega) (hB.below hb) htb (hT.below hb) (hM.below hb))
  have CU : Hid (∀ W q d, Below w.heap.size w W → Nd.Row W q (la ++ Nd.mid :: lb) → Calls Tryz.prog 17 #[.slice q (la ++ Nd.mid :: lb).length d] W (Nd.TokensPost (Nd.toksR (la ++ Nd.mid :: lb)) W)) := Lib.hid (fun W q d hb hq => ndTokens_any (la ++ Nd.mid :: lb) q d W (by simp; omega) hq (by
    rw [Nd.toks_beside]
    intro t ht
    rcases List.mem_append.1 ht with ht | ht
    · exact hta t ht
    · rcases List.mem_cons.1 ht with rfl | ht
      · exact Nat.zero_le _
      · exact htb t ht) (hT.below hb) (hM.below hb))
  have HX1 : Hid ((Nd.toksR la).2 ≠ 0 → (Nd.toksR (la ++ Nd.mid :: lb)).2 ≠ 0) := Lib.hid (fun h => Nd.beside_bad h)
  have HX2 : Hid ((Nd.toksR (la ++ Nd.mid :: lb)).2 ≠ 0 → (Nd.toksR (la ++ Nd.mid :: lb)).1 = []) := Lib.hid (fun h => Nd.toksR_none h)
  have HX3 : Hid ((Nd.toksR la).2 = 0 → (Nd.toksR lb).2 = 0 → (Nd.toksR (la ++ Nd.mid :: lb)).2 = 0 → (Nd.toksR (la ++ Nd.mid :: lb)).1 = (Nd.toksR la).1 ++ Nd.midT :: (Nd.toksR lb).1) := Lib.hid (fun h1 h2 h3 => Nd.toksR_mid h1 h2 h3)
  have HLa := Lib.hid (Nd.toksR_facts la).1
  have HLb := Lib.hid (Nd.toksR_facts lb).1
  have HLu := Lib.hid (Nd.toksR_facts (la ++ Nd.mid :: lb)).1
  have Hna := Lib.hid hla
  have Hnb := Lib.hid hlb
  have Hnu : Hid (([] ++ la ++ [Nd.mid] ++ lb).length = (la ++ Nd.mid :: lb).length) := Lib.hid (by simp)
  have Heu : Hid ([] ++ la ++ [Nd.mid] ++ lb = la ++ Nd.mid :: lb) := Lib.hid (by simp)
  obtain ⟨nm, hnm⟩ : ∃ nm, nm = (la ++ Nd.mid :: lb).length := ⟨_, rfl⟩
  rw [← hnm] at Hnu CU
  clear hnm
  generalize Nd.toksR la = TA at *
  generalize Nd.toksR lb = TB at *
  generalize Nd.toksR (la ++ Nd.mid :: lb) = TU at *
  obtain ⟨ta, za⟩ := TA
  obtain ⟨tb, zb⟩ := TB
  obtain ⟨tu, zu⟩ := TU
  simp only at HX1 HX2 HX3 HLa HLb HLu
  have HA := Lib.hid hA
  have HB := Lib.hid hB
  clear hT hM hE hta htb hA hB
  go_enter Tryz.func5, Tryz.ntmps5
  go_wp2_with fail
  refine CL.out.mono ?_
  rintro e w1 ⟨rfl, hb⟩
  have B1 := Lib.hid hb
  clear hb CL
  go_wp2_with fail
  have hbox := Vl.newAt (w1.alloc (.cells #[.string ⟨#[120]⟩] 9)) (.cells #[.int .u8 2, .string ⟨#[]⟩, .slice (some ⟨w1.heap.size, 0, none⟩) 1 1, .slice none 0 0, .slice none 0 0] 44) (w1.heap.size + 1) (by rw [World.size_alloc])
  have hrow := (Vl.past (w1.alloc (.cells #[.string ⟨#[120]⟩] 9)) (.cells #[.int .u8 2, .string ⟨#[]⟩, .slice (some ⟨w1.heap.size, 0, none⟩) 1 1, .slice none 0 0, .slice none 0 0] 44) w1.heap.size (by rw [World.size_alloc]; omega)).trans (Vl.new w1 (.cells #[.string ⟨#[120]⟩] 9))
  have hbz := (((Below.refl w1.heap.size w1).alloc (Nat.le_refl _) (.cells #[.string ⟨#[120]⟩] 9)).alloc (by rw [World.size_alloc]; omega) (.cells #[.int .u8 2, .string ⟨#[]⟩, .slice (some ⟨w1.heap.size, 0, none⟩) 1 1, .slice none 0 0, .slice none 0 0] 44))
  obtain ⟨W0, hW0⟩ : ∃ W0, W0 = (w1.alloc (.cells #[.string ⟨#[120]⟩] 9)).alloc (.cells #[.int .u8 2, .string ⟨#[]⟩, .slice (some ⟨w1.heap.size, 0, none⟩) 1 1, .slice none 0 0, .slice none 0 0] 44) := ⟨_, rfl⟩
  rw [← hW0] at hbox hrow hbz ⊢
  clear hW0
  have B2 := Lib.hid (B1.out.trans (hbz.mono B1.out.size))
  have HA0 := Lib.hid (HA.out.below B2.out)
  have HB0 := Lib.hid (HB.out.below B2.out)
  generalize hxb : w1.heap.size = xb at *
  have HMid : Hid (Nd.At W0 (.agg #[.int .u8 2, .string ⟨#[]⟩, .slice (some ⟨xb, 0, none⟩) 1 1, .slice none 0 0, .slice none 0 0]) Nd.mid) := Lib.hid (Nd.mid_at hrow)
  have hlt : xb + 1 < W0.heap.size := (Array.getElem?_eq_some_iff.1 hbox).1
  have HK := Lib.hid (fun (W : World) (hW : Below W0.heap.size W0 W) => Vl.five_of ((hW.block (xb + 1) hlt).trans hbox))
  have H1 : Hid (([] ++ la).length ≤ 100000000) := Lib.hid (by rw [List.nil_append]; have := Hna.out; omega)
  have H2 : Hid (([] ++ la ++ [Nd.mid]).length ≤ 100000000) := Lib.hid (by rw [List.nil_append, List.length_append, List.length_singleton]; have := Hna.out; omega)
  have H3 : Hid (lb.length ≤ 100000000) := Lib.hid (by have := Hnb.out; omega)
  have H4 : Hid ([Nd.mid].length ≤ 100000000) := Lib.hid (by simp)
  have H5 : Hid (la.length ≤ 100000000) := Lib.hid (by have := Hna.out; omega)
  obtain ⟨k0, k1, k2, k3, k4⟩ := HK.out W0 (Below.refl _ _)
  clear hbox hrow hbz hxb B1 HA HB
  go_region_held3 (fun w' => w'.cell? ⟨xb + 1, 0, none⟩ = some (.int .u8 2) ∧ w'.cell? ⟨xb + 1, 1, none⟩ = some (.string ⟨#[]⟩) ∧ w'.cell? ⟨xb + 1, 2, none⟩ = some (.slice (some ⟨xb, 0, none⟩) 1 1) ∧ w'.cell? ⟨xb + 1, 3, none⟩ = some (.slice none 0 0) ∧ w'.cell? ⟨xb + 1, 4, none⟩ = some (.slice none 0 0))
    (first | (with_reducible exact HK.out _ ec) | (with_reducible exact HK.out _ eb) | (with_reducible exact HK.out _ ea) | (with_reducible exact HK.out _ (ea.alloc ea.size _)) | (with_reducible exact HK.out _ (Below.refl _ W0).drew) | (go_keep; done))
    (first
    | (refine Nd.stepF rfl _ _ rfl W0 ([] ++ la ++ [Nd.mid]) lb vb _ _ _ rfl rfl hob eb (Nd.RowW.of HB0.out eb) rfl H2.out H3.out ?_; intro vc wc hoc ec hgc)
    | (refine Nd.stepF rfl _ _ rfl W0 ([] ++ la) [Nd.mid] va _ _ _ rfl rfl hoa ea hB rfl H1.out H4.out ?_; intro vb wb hob eb hgb)
    | (refine Nd.stepF rfl _ _ rfl W0 ([] ++ la) [Nd.mid] va _ _ _ rfl rfl (hoa.alloc _) (ea.alloc ea.size _) (Nd.RowW.one (Vl.new wa (.cells #[.int .u8 2, .string ⟨#[]⟩, .slice (some ⟨xb, 0, none⟩) 1 1, .slice none 0 0, .slice none 0 0] 44)) HMid.out) rfl H1.out H4.out ?_; intro vb wb hob eb hgb)
    | (refine Nd.stepF rfl _ _ rfl W0 [] la (.slice (some ⟨W0.heap.size, 0, none⟩) 0 0) _ _ _ rfl rfl (Nd.a1 W0) (Nd.a2 W0 (.cells #[] 44)) (Nd.RowW.of HA0.out (Nd.a2 W0 (.cells #[] 44))) rfl (Nat.zero_le _) H5.out ?_; intro va wa hoa ea hga)
    | (refine Nd.stepF rfl _ _ rfl W0 [] la (.slice (some ⟨W0.heap.size, 0, none⟩) 0 0) _ _ _ rfl rfl (Nd.b1 W0 (.cells #[.int .u8 2, .string ⟨#[]⟩, .slice (some ⟨xb, 0, none⟩) 1 1, .slice none 0 0, .slice none 0 0] 44)) (Nd.b2 W0 (.cells #[] 44) (.cells #[.int .u8 2, .string ⟨#[]⟩, .slice (some ⟨xb, 0, none⟩) 1 1, .slice none 0 0, .slice none 0 0] 44)) (Nd.RowW.of HA0.out (Nd.b2 W0 (.cells #[] 44) (.cells #[.int .u8 2, .string ⟨#[]⟩, .slice (some ⟨xb, 0, none⟩) 1 1, .slice none 0 0, .slice none 0 0] 44))) rfl (Nat.zero_le _) H5.out ?_; intro va wa hoa ea hga; have hB := (Nd.RowW.one (W := ((W0.alloc (.cells #[] 44)).alloc (.cells #[.int .u8 2, .string ⟨#[]⟩, .slice (some ⟨xb, 0, none⟩) 1 1, .slice none 0 0, .slice none 0 0] 44)).drew) (Vl.newAt (W0.alloc (.cells #[] 44)) (.cells #[.int .u8 2, .string ⟨#[]⟩, .slice (some ⟨xb, 0, none⟩) 1 1, .slice none 0 0, .slice none 0 0] 44) (W0.heap.size + 1) (by rw [World.size_alloc])) HMid.out).grownBy hga (fun b off h => by cases h; simp [Value.ownBlock]))
    | (refine Nd.stepF rfl _ _ rfl W0 [] la (.slice (some ⟨W0.heap.size + 1, 0, none⟩) 0 0) _ _ _ rfl rfl (Nd.c1 W0 (.cells #[.int .u8 2, .string ⟨#[]⟩, .slice (some ⟨xb, 0, none⟩) 1 1, .slice none 0 0, .slice none 0 0] 44)) (Nd.b2 W0 (.cells #[.int .u8 2, .string ⟨#[]⟩, .slice (some ⟨xb, 0, none⟩) 1 1, .slice none 0 0, .slice none 0 0] 44) (.cells #[] 44)) (Nd.RowW.of HA0.out (Nd.b2 W0 (.cells #[.int .u8 2, .string ⟨#[]⟩, .slice (some ⟨xb, 0, none⟩) 1 1, .slice none 0 0, .slice none 0 0] 44) (.cells #[] 44))) rfl (Nat.zero_le _) H5.out ?_; intro va wa hoa ea hga; have hB := (Nd.RowW.one (W := ((W0.alloc (.cells #[.int .u8 2, .string ⟨#[]⟩, .slice (some ⟨xb, 0, none⟩) 1 1, .slice none 0 0, .slice none 0 0] 44)).alloc (.cells #[] 44)).drew) ((Vl.past (W0.alloc (.cells #[.int .u8 2, .string ⟨#[]⟩, .slice (some ⟨xb, 0, none⟩) 1 1, .slice none 0 0, .slice none 0 0] 44)) (.cells #[] 44) W0.heap.size (by rw [World.size_alloc]; omega)).trans (Vl.new W0 (.cells #[.int .u8 2, .string ⟨#[]⟩, .slice (some ⟨xb, 0, none⟩) 1 1, .slice none 0 0, .slice none 0 0] 44))) HMid.out).grownBy hga (fun b off h => by cases h; simp [Value.ownBlock])))
  all_goals
    obtain ⟨pu, cu, hvu, hru⟩ := hoc.at ec
    rw [Hnu.out] at hvu
    rw [Heu.out] at hru
    subst hvu
    have HRU := Lib.hid hru
    have B3 := Lib.hid (B2.out.trans (ec.mono B2.out.size))
    clear hru hoc ec
    go_wp2_with fail
    refine (CA.out _ B3.out).mono ?_
    rintro e w5 ⟨p5, c5, rfl, hA5, hc5, hb⟩
    have B5 := Lib.hid (B3.out.trans (hb.mono B3.out.size))
    have HRU5 := Lib.hid (HRU.out.below hb)
    have HS5 := Lib.hid (show Sc.At w5 p5 ta from hA5)
    clear hb HRU B3 hA5 hc5 CA
    go_wp2_with fail
    refine (CB.out _ B5.out).mono ?_
    rintro e w6 ⟨p6, c6, rfl, hA6, hc6, hb⟩
    have B6 := Lib.hid (B5.out.trans (hb.mono B5.out.size))
    have HRU6 := Lib.hid (HRU5.out.below hb)
    have HS6 := Lib.hid (HS5.out.below hb)
    have HT6 := Lib.hid (show Sc.At w6 p6 tb from hA6)
    clear hb HRU5 B5 hA6 hc6 CB HS5
    go_wp2_with fail
    refine (CU.out _ pu cu B6.out HRU6.out).mono ?_
    rintro e w7 ⟨p7, c7, rfl, hA7, hc7, hb⟩
    have B7 := Lib.hid (B6.out.trans (hb.mono B6.out.size))
    have HS7 := Lib.hid (HS6.out.below hb)
    have HT7 := Lib.hid (HT6.out.below hb)
    have HU7 := Lib.hid (show Sc.At w7 p7 tu from hA7)
    clear hb HRU6 B6 hA7 hc7 CU HS6 HT6
    by_cases hza : za = 0
    · subst hza
      by_cases hzu : zu = 0
      · subst hzu
        by_cases hzb : zb = 0
        · subst hzb
          have HTu := Lib.hid (HX3.out rfl rfl rfl)
          clear HX1 HX2 HX3
          obtain ⟨na, hna⟩ : ∃ n, n = ta.length := ⟨_, rfl⟩
          obtain ⟨nb, hnb⟩ : ∃ n, n = tb.length := ⟨_, rfl⟩
          obtain ⟨nu, hnu⟩ : ∃ n, n = tu.length := ⟨_, rfl⟩
          have Ga := Lib.hid hna
          have Gb := Lib.hid hnb
          have Gu := Lib.hid hnu
          have L1 : Hid (([] ++ ta).length ≤ 100000000) := Lib.hid (by have := HLa.out; rw [List.nil_append]; omega)
          have L2 : Hid (([] ++ ta ++ [Nd.midT]).length ≤ 100000000) := Lib.hid (by have := HLa.out; rw [List.nil_append, List.length_append, List.length_singleton]; omega)
          have L3 : Hid (tb.length ≤ 100000000) := Lib.hid (by have := HLb.out; omega)
          have L5 : Hid (ta.length ≤ 100000000) := Lib.hid (by have := HLa.out; omega)
          rw [← hna, ← hnb, ← hnu]
          clear hna hnb hnu
          have W1a := Lib.hid ((Below.refl w7.heap.size w7).alloc (Nat.le_refl _) (.cells #[] 46))
          have W1o := Lib.hid (Sc.made (Sc.Tok w7) w7)
          have W1r := Lib.hid (Sc.RowP.of (Pr := Sc.Tok w7) HS7.out W1a.out (fun _ _ h => h))
          have hsh : Sc.Shaped (Sc.Tok w7) := fun u y h => by
            obtain ⟨k, t, pn, nn, cn, e⟩ := h.shape
            exact ⟨(k : Int), t, pn, nn, cn, e⟩
          have Hsh := Lib.hid hsh
          clear hsh
          go_wp2_with (at_builtin; refine Sc.listP rfl _ _ rfl (Sc.Tok w7) Hsh.out w7.heap.size [] ta (.slice (some ⟨w7.heap.size, 0, none⟩) 0 0) _ _ _ rfl rfl W1o.out W1a.out.size W1r.out Ga.out (Nat.zero_le _) L5.out ?_)
          intro v2 W2 hO2 hg2 ha2
          have B8 := Lib.hid (W1a.out.grown hg2 W1a.out.size (fun k hk => (W1o.out.lt k hk).1))
          have HO2 := Lib.hid hO2
          have hl2 := Lib.hid hO2.lt
          clear hg2 ha2 hO2 W1a W1o W1r
          have P3 := Lib.hid (((Below.refl W2.heap.size W2).alloc (Nat.le_refl _) (.cells #[.string ⟨#[120]⟩] 9)).alloc (by rw [World.size_alloc]; omega) (.cells #[.int .u8 2, .string ⟨#[]⟩, .slice (some ⟨W2.heap.size, 0, none⟩) 1 1] 46))
          have X3 := Lib.hid ((Vl.past (W2.alloc (.cells #[.string ⟨#[120]⟩] 9)) (.cells #[.int .u8 2, .string ⟨#[]⟩, .slice (some ⟨W2.heap.size, 0, none⟩) 1 1] 46) W2.heap.size (by rw [World.size_alloc]; omega)).trans (Vl.new W2 (.cells #[.string ⟨#[120]⟩] 9)))
          have Y3 := Lib.hid (Vl.newAt (W2.alloc (.cells #[.string ⟨#[120]⟩] 9)) (.cells #[.int .u8 2, .string ⟨#[]⟩, .slice (some ⟨W2.heap.size, 0, none⟩) 1 1] 46) (W2.heap.size + 1) (by rw [World.size_alloc]))
          obtain ⟨Pr, hPr⟩ : ∃ Pr : Value → Sc.T → Prop, Pr = fun u y => Sc.Tok w7 u y ∨ (u = .agg #[.int .u8 2, .string ⟨#[]⟩, .slice (some ⟨W2.heap.size, 0, none⟩) 1 1] ∧ y = Nd.midT) := ⟨_, rfl⟩
          have Hs2 : Hid (Sc.Shaped Pr) := Lib.hid (by
            rw [hPr]
            rintro u y (h | ⟨rfl, rfl⟩)
            · exact Hsh.out u y h
            · exact ⟨2, _, _, _, _, rfl⟩)
          have Hin : Hid (∀ u y, Sc.Tok w7 u y → Pr u y) := Lib.hid (fun u y h => by rw [hPr]; exact Or.inl h)
          have Hmi : Hid (Pr (.agg #[.int .u8 2, .string ⟨#[]⟩, .slice (some ⟨W2.heap.size, 0, none⟩) 1 1]) Nd.midT) := Lib.hid (by rw [hPr]; exact Or.inr ⟨rfl, rfl⟩)
          have Hout : Hid (∀ u y W, Pr u y → Below w7.heap.size w7 W → W.heap[W2.heap.size]? = some (.cells #[.string ⟨#[120]⟩] 9) → Sc.Tok W u y) := Lib.hid (fun u y W h hb hx => by
            rw [hPr] at h
            rcases h with h | ⟨rfl, rfl⟩
            · exact h.below hb
            · exact Nd.mid_tok hx)
          clear hPr
          have O3 := Lib.hid ((HO2.out.imp Hin.out).below P3.out)
          have R3 := Lib.hid (Sc.RowP.one Y3.out Hmi.out)
          have B3 := Lib.hid (B8.out.trans (P3.out.mono B8.out.size))
          clear Y3
          go_wp2_with (at_builtin; refine Sc.listP rfl _ _ rfl Pr Hs2.out w7.heap.size ([] ++ ta) [Nd.midT] v2 _ _ _ rfl rfl O3.out B3.out.size R3.out rfl L1.out (by simp) ?_)
          intro v4 W4 hO4 hg4 ha4
          have hz3 : W2.heap.size < ((W2.alloc (.cells #[.string ⟨#[120]⟩] 9)).alloc (.cells #[.int .u8 2, .string ⟨#[]⟩, .slice (some ⟨W2.heap.size, 0, none⟩) 1 1] 46)).heap.size := (Array.getElem?_eq_some_iff.1 X3.out).1
          have X4 := Lib.hid ((hg4.block W2.heap.size hz3 (fun e => Nat.lt_irrefl _ (hl2.out _ e.symm).2)).trans X3.out)
          have B4 := Lib.hid (B3.out.grown hg4 B3.out.size (fun k hk => (O3.out.lt k hk).1))
          have N4 : Hid (∀ j, v4.ownBlock = some j → j ≠ W2.heap.size) := Lib.hid (fun j e => ha4.elim (fun h => by rw [h] at e; have := (hl2.out j e).2; omega) (fun h => by rw [h] at e; cases e; omega))
          have O4 := Lib.hid hO4
          have R4 := Lib.hid (Sc.RowP.of (Pr := Pr) HT7.out B4.out Hin.out)
          clear hO4 hg4 ha4 hz3 O3 R3 B3 X3 P3 HO2 hl2 B8
          go_wp2_with (at_builtin; refine Sc.listP rfl _ _ rfl Pr Hs2.out w7.heap.size ([] ++ ta ++ [Nd.midT]) tb v4 _ _ _ rfl rfl O4.out B4.out.size R4.out Gb.out L2.out L3.out ?_)
          intro v5 W5 hO5 hg5 ha5
          have X5 := (hg5.block W2.heap.size (Array.getElem?_eq_some_iff.1 X4.out).1 (fun e => N4.out _ e.symm rfl)).trans X4.out
          have b5 := B4.out.grown hg5 B4.out.size (fun k hk => (O4.out.lt k hk).1)
          obtain ⟨p9, c9, hv9, hA9⟩ := (hO5.as (l2 := tu) (by rw [HTu.out]; try simp)).at (fun u y h => Hout.out u y W5 h b5 X5)
          rw [← Gu.out] at hv9
          subst hv9
          have CS := refSame_any tu p7 p9 c7 c9 W5 (by have := HLu.out; omega) (HU7.out.below b5) hA9
          rw [← Gu.out] at CS
          have CS := Lib.hid CS
          have B9 := Lib.hid (B7.out.trans (b5.mono B7.out.size))
          clear X5 b5 hA9 hO5 hg5 ha5 X4 B4 N4 O4 R4
          go_wp2_with fail
          refine CS.out.mono ?_
          rintro e W6 ⟨rfl, hb⟩
          have B10 := Lib.hid (B9.out.trans (hb.mono B9.out.size))
          clear hb CS B9
          go_wp2_with fail
          go_ret
          exact ⟨rfl, B10.out⟩
        · have q1 : (zb != 0) = true := by rw [bne_iff_ne]; exact hzb
          clear HX1 HX2 HX3 hzb
          go_wp2_with fail
          go_ret
          exact ⟨rfl, B7.out⟩
      · have q1 : (zu != 0) = true := by rw [bne_iff_ne]; exact hzu
        obtain rfl : tu = [] := HX2.out hzu
        clear HX1 HX2 HX3 hzu
        by_cases hzb : zb = 0
        · subst hzb
          go_wp2_with fail
          go_ret
          exact ⟨rfl, B7.out⟩
        · have q2 : (zb != 0) = true := by rw [bne_iff_ne]; exact hzb
          clear hzb
          go_wp2_with fail
          go_ret
          exact ⟨rfl, B7.out⟩
    · have q0 : (za != 0) = true := by rw [bne_iff_ne]; exact hza
      have hzu := HX1.out hza
      have q1 : (zu != 0) = true := by rw [bne_iff_ne]; exact hzu
      obtain rfl : tu = [] := HX2.out hzu
      clear HX1 HX2 HX3 hza hzu
      go_wp2_with fail
      go_ret
      exact ⟨rfl, B7.out⟩
end Go.Proofs.YteajjlilpikdeaaGreatDoor
