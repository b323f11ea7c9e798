/-
  The walk of VetMore: whatever the nodes and names, the law answers true. Conditions: the nodes and their texts are of a size that the walks hold; the words' table and the errors lie as they are laid, the search's limit is set.
-/
import Derived.Test.YteajjlilpikdeaaGreatDoorVetWithinLaw
namespace Go.Proofs.YteajjlilpikdeaaGreatDoor
open Go.RowKit Go.Shelf

/-- What VetMore asks. -/
theorem Vt.more (l : List Nd.N) (a b : List ByteArray) : (Nd.chk l = 2 ∧ Vt.onlyR l a = 2) ∨ (Nd.chk l = 0 ∧ Vt.onlyR l (Vt.rootsR l) = 0 ∧ ((Vt.onlyR l a = 13) ∨ (Vt.onlyR l a = 0 ∧ Vt.onlyR l (a ++ b) = 0)) ∧ ((Vt.onlyR l [] = 0 ∧ (Vt.rootsR l).length = 0) ∨ (Vt.onlyR l [] = 13 ∧ (Vt.rootsR l).length ≠ 0))) := by
  cases hg : Nd.good l with
  | false => exact Or.inl ⟨(Nd.chk_good).2 hg, by unfold Vt.onlyR; rw [hg]; rfl⟩
  | true =>
    refine Or.inr ⟨(Nd.chk_good).1 hg, ((Vt.only_zero hg _).1).2 fun x hx => hx, ?_, ?_⟩
    · rcases (Vt.only_zero hg a).2 with h | h
      · exact Or.inr ⟨h, ((Vt.only_zero hg _).1).2 fun x hx => List.mem_append_left _ (((Vt.only_zero hg a).1).1 h x hx)⟩
      · exact Or.inl h
    · have h1 := (Vt.only_zero hg []).1
      cases hr : Vt.rootsR l with
      | nil => exact Or.inl ⟨h1.2 (by rw [hr]; intro x hx; cases hx), rfl⟩
      | cons y r =>
        refine Or.inr ⟨?_, by simp⟩
        rcases (Vt.only_zero hg []).2 with h | h
        · have := h1.1 h y (by rw [hr]; exact List.mem_cons_self ..)
          cases this
        · exact h
set_option maxRecDepth 100000 in
set_option maxHeartbeats 4000000 in
theorem vetMore_law (p : Option Addr) (c : Nat) (l : List Nd.N) (pa pb : Option Addr) (ca cb : Nat) (A B : List ByteArray) (w : World) (a b : Addr) (hA : Nd.Row w p l) (hl : l.length ≤ 1048576) (hts : ∀ t ∈ Nd.toksL l, t.text.size ≤ 4000000000)
    (hNa : Wp.At Wp.mkT w pa A) (hNb : Wp.At Wp.mkT w pb B) (hla : A.length ≤ 1048576) (hlb : B.length ≤ 1048576) (hT : Sc.Laid w) (hM : Sc.MaxLen w) (hE : Nd.Errs w a b) :
    Calls Tryz.prog 7 #[.slice p l.length c, .slice pa A.length ca, .slice pb B.length cb] w fun e w' => e = .returned (.bool true) ∧ Below w.heap.size w w' := by
  have CL := Lib.hid (lives12_any w a b hT hM hE)
  have C1 := Lib.hid (fun W (h : Below w.heap.size w W) => vtRoots_any l p c W (by omega) (hA.below h) hts (hT.below h) (hM.below h))
  have C2 := Lib.hid (fun W names pn cn (h : Below w.heap.size w W) (hN : Wp.At Wp.mkT W pn names) (hnn : names.length ≤ 140737488351232) => vtOnly_any l p c names pn cn W (by omega) (hA.below h) hts (hT.below h) (hM.below h) hN hnn)
  have HZ := Lib.hid (Vt.more l A B)
  have hR := Vt.rootsR_len l
  have HNa := Lib.hid hNa
  have HNb := Lib.hid hNb
  clear hts hT hM hE hA hNa hNb
  obtain ⟨n, hn⟩ : ∃ n, n = l.length := ⟨_, rfl⟩
  rw [← hn] at C1 C2 hl ⊢
  clear hn
  obtain ⟨na, hna⟩ : ∃ n, n = A.length := ⟨_, rfl⟩
  obtain ⟨nb, hnb⟩ : ∃ n, n = B.length := ⟨_, rfl⟩
  have HLa := Lib.hid hna
  have HLb := Lib.hid hnb
  rw [← hna] at hla ⊢
  rw [← hnb] at hlb ⊢
  clear hna hnb
  go_enter Tryz.func7, Tryz.ntmps7
  go_wp2_with fail
  refine CL.out.mono ?_
  rintro e w1 ⟨rfl, b1⟩
  have B1 := Lib.hid b1
  clear b1 CL
  go_wp2_with fail
  refine (C1.out _ B1.out).mono ?_
  rintro e w2 ⟨pr, cr, rfl, -, har, b2⟩
  have B2 := Lib.hid (B1.out.trans (b2.mono B1.out.size))
  have HR := Lib.hid har
  clear b2 har C1 B1
  have HA2 := Lib.hid (HNa.out.below B2.out)
  have CA := Lib.hid (C2.out w2 A pa ca B2.out HA2.out (by rw [← HLa.out]; omega))
  rw [← HLa.out] at CA
  rcases HZ.out with ⟨h1, h2⟩ | ⟨h1, h2, h3, h4⟩
  · rw [h1]
    rw [h2] at CA
    clear HZ h1 h2 C2
    go_wp2_with fail
    refine CA.out.mono ?_
    rintro e w3 ⟨rfl, b3⟩
    have B3 := Lib.hid (B2.out.trans (b3.mono B2.out.size))
    clear b3 CA
    go_wp2_with fail
    go_ret
    exact ⟨rfl, B3.out⟩
  · rw [h1]
    have H2 := Lib.hid h2
    have H3 := Lib.hid h3
    have H4 := Lib.hid h4
    clear HZ h1 h2 h3 h4 CA
    generalize Vt.rootsR l = R at *
    obtain ⟨m, hm⟩ : ∃ m, m = R.length := ⟨_, rfl⟩
    have HM := Lib.hid hm
    rw [← hm] at hR H4 ⊢
    clear hm
    have HB2 := Lib.hid (HNb.out.below B2.out)
    have hbe := Lib.hid ((Below.refl w2.heap.size w2).alloc (Nat.le_refl _) (.cells #[] 9))
    go_wp2_with (at_builtin; go_loud (refine Vt.listW (mk := Wp.mkT) rfl _ _ _ rfl (fun _ => rfl) Vt.tyTexts [] A (.slice (some ⟨w2.heap.size, 0, none⟩) 0 0) _ _ _ w2.heap.size rfl rfl (World.ownsRow_made w2 #[] 0 (Nat.le_refl _) (Nat.zero_le _) rfl) (HA2.out.below hbe.out) HLa.out (by simp) (by have := HLa.out; omega) hbe.out.size ?_))
    intro va wa hoa hga
    have ha : Below w2.heap.size w2 wa := Ow.grown hbe.out (World.ownsRow_made w2 #[] 0 (Nat.le_refl _) (Nat.zero_le _) rfl) hga hbe.out.size
    have Hoa := Lib.hid hoa
    have Ha := Lib.hid ha
    clear hoa hga ha
    go_wp2_with (at_builtin; go_loud (refine Vt.listW (mk := Wp.mkT) rfl _ _ _ rfl (fun _ => rfl) Vt.tyTexts A B va _ _ _ w2.heap.size rfl rfl Hoa.out (HB2.out.below Ha.out) HLb.out (by have := HLa.out; omega) (by have := HLb.out; omega) Ha.out.size ?_))
    intro vb wb hob hgb
    have hb := Ow.grown Ha.out Hoa.out hgb Ha.out.size
    have hob2 : wb.ownsRow w2.heap.size 9 1 vb (A ++ B).length ((A ++ B).map Wp.mkT) := by rw [List.length_append, List.map_append]; simpa using hob
    obtain ⟨pv, cv, rfl, hav⟩ := owns_at (mk := Wp.mkT) hob2
    have HAV := Lib.hid hav
    have HA3 := Lib.hid (HA2.out.below hb)
    have HR := Lib.hid (HR.out.below hb)
    have B8 := Lib.hid (B2.out.trans (hb.mono B2.out.size))
    clear hob hob2 hgb hb hav Hoa Ha hbe HA2 HB2
    obtain ⟨k, hk⟩ : ∃ k, k = (A ++ B).length := ⟨_, rfl⟩
    have HK := Lib.hid hk
    rw [← hk]
    clear hk
    have CO1 := Lib.hid (C2.out wb R pr cr B8.out HR.out (by have := HM.out; omega))
    rw [H2.out, ← HM.out] at CO1
    go_wp2_with fail
    refine CO1.out.mono ?_
    rintro e w4 ⟨rfl, b4⟩
    have HAV := Lib.hid (HAV.out.below b4)
    have HA4 := Lib.hid (HA3.out.below b4)
    have B9 := Lib.hid (B8.out.trans (b4.mono B8.out.size))
    clear b4 CO1 B8 HA3 HR
    have CO2 := Lib.hid (C2.out w4 A pa ca B9.out HA4.out (by have := HLa.out; omega))
    rw [← HLa.out] at CO2
    rcases H3.out with h13 | ⟨h0, hb0⟩
    · rw [h13] at CO2
      clear H3 h13
      go_wp2_with fail
      refine CO2.out.mono ?_
      rintro e w5 ⟨rfl, b5⟩
      have B10 := Lib.hid (B9.out.trans (b5.mono B9.out.size))
      clear b5 CO2 B9
      have CO4 := Lib.hid (C2.out w5 [] none 0 B10.out (Or.inl rfl) (Nat.zero_le _))
      clear C2 HLa HLb HM HK
      rcases H4.out with ⟨h, hm⟩ | ⟨h, hm⟩
      · rw [h] at CO4
        clear H4
        subst hm
        go_wp2_with fail
        refine CO4.out.mono ?_
        rintro e w7 ⟨rfl, b7⟩
        have B12 := Lib.hid (B10.out.trans (b7.mono B10.out.size))
        clear b7 CO4
        go_wp2_with fail
        go_ret
        exact ⟨rfl, B12.out⟩
      · rw [h] at CO4
        clear H4
        have hmz : ((m : Int) == 0) = false := by rw [beq_eq_false_iff_ne]; omega
        have hmn : ¬ (m : Int) = 0 := by omega
        go_wp2_with fail
        refine CO4.out.mono ?_
        rintro e w7 ⟨rfl, b7⟩
        have B12 := Lib.hid (B10.out.trans (b7.mono B10.out.size))
        clear b7 CO4
        go_wp2_with fail
        go_ret
        exact ⟨rfl, B12.out⟩
    · rw [h0] at CO2
      have H0 := Lib.hid hb0
      clear H3 h0 hb0
      go_wp2_with fail
      refine CO2.out.mono ?_
      rintro e w5 ⟨rfl, b5⟩
      have B10 := Lib.hid (B9.out.trans (b5.mono B9.out.size))
      have HAV := Lib.hid (HAV.out.below b5)
      clear b5 CO2 B9
      have CO3 := Lib.hid (C2.out w5 (A ++ B) pv cv B10.out HAV.out (by rw [List.length_append]; have := HLa.out; have := HLb.out; omega))
      rw [H0.out, ← HK.out] at CO3
      go_wp2_with fail
      refine CO3.out.mono ?_
      rintro e w6 ⟨rfl, b6⟩
      have B11 := Lib.hid (B10.out.trans (b6.mono B10.out.size))
      clear b6 CO3 B10 HAV H0
      have CO4 := Lib.hid (C2.out w6 [] none 0 B11.out (Or.inl rfl) (Nat.zero_le _))
      clear C2 HLa HLb HM HK
      rcases H4.out with ⟨h, hm⟩ | ⟨h, hm⟩
      · rw [h] at CO4
        clear H4
        subst hm
        go_wp2_with fail
        refine CO4.out.mono ?_
        rintro e w7 ⟨rfl, b7⟩
        have B12 := Lib.hid (B11.out.trans (b7.mono B11.out.size))
        clear b7 CO4
        go_wp2_with fail
        go_ret
        exact ⟨rfl, B12.out⟩
      · rw [h] at CO4
        clear H4
        have hmz : ((m : Int) == 0) = false := by rw [beq_eq_false_iff_ne]; omega
        have hmn : ¬ (m : Int) = 0 := by omega
        go_wp2_with fail
        refine CO4.out.mono ?_
        rintro e w7 ⟨rfl, b7⟩
        have B12 := Lib.hid (B11.out.trans (b7.mono B11.out.size))
        clear b7 CO4
        go_wp2_with fail
        go_ret
        exact ⟨rfl, B12.out⟩
end Go.Proofs.YteajjlilpikdeaaGreatDoor
