
/-
  The walk of the document's answer for vet: put, which puts a text among texts that rise. Condition: the list is of a size that the walk holds.
-/
import Derived.Test.YteiccjakaabfnaaGreatDoorZ45
namespace Go.Proofs.YteiccjakaabfnaaGreatDoor
open Go.RowKit

/-- A text among texts that rise. -/
def Rv.ins : List ByteArray → ByteArray → List ByteArray
  | [], s => [s]
  | a :: l, s => if Vl.ltB a s then a :: Rv.ins l s else if a = s then a :: l else s :: a :: l
theorem Rv.ins_at : ∀ (l : List ByteArray) (s : ByteArray) (k : Nat), k ≤ l.length → (∀ j (h : j < l.length), j < k → Vl.ltB l[j] s = true) → (∀ h : k < l.length, Vl.ltB l[k] s = false) →
    Rv.ins l s = if h : k < l.length then (if l[k] = s then l else l.take k ++ [s] ++ l.drop k) else l.take k ++ [s] ++ l.drop k
  | [], s, k, hk, _, _ => by
    obtain rfl : k = 0 := by simpa using hk
    rfl
  | a :: l, s, 0, hk, _, h2 => by
    have h := h2 (by simp)
    have h : Vl.ltB a s = false := h
    rw [Rv.ins, h, dif_pos (by simp)]
    simp
  | a :: l, s, k + 1, hk, h1, h2 => by
    have ha : Vl.ltB a s = true := h1 0 (by simp) (by omega)
    rw [Rv.ins, ha, if_pos rfl, Rv.ins_at l s k (by simpa using hk) (fun j h hj => h1 (j + 1) (by simpa using h) (by omega)) (fun h => h2 (by simpa using h))]
    by_cases hlt : k < l.length
    · rw [dif_pos hlt, dif_pos (by simpa using hlt)]
      simp only [List.getElem_cons_succ, List.take_succ_cons, List.drop_succ_cons]
      split <;> rfl
    · rw [dif_neg hlt, dif_neg (by simpa using hlt)]
      rfl
theorem Rv.take {w : World} {p : Option Addr} {l : List ByteArray} (h : Wp.At Wp.mkT w p l) (k : Nat) : Wp.At Wp.mkT w p (l.take k) := by
  rcases h with rfl | ⟨b, off, hp, hc⟩
  · exact Or.inl (by simp)
  · refine Or.inr ⟨b, off, hp, fun i hi => ?_⟩
    rw [List.length_take] at hi
    rw [List.getElem_take]
    exact hc i (by omega)
theorem Rv.drop {w : World} {b c : Nat} {l : List ByteArray} (h : Wp.At Wp.mkT w (some ⟨b, 0, none⟩) l) (i : Nat) (hc : l.length ≤ c) : Wp.At Wp.mkT w (if c = i then some ⟨b, 0, none⟩ else some ⟨b, i, none⟩) (l.drop i) := by
  by_cases e : c = i
  · rw [if_pos e]
    exact Or.inl (List.drop_eq_nil_of_le (by omega))
  · rw [if_neg e]
    rcases h with rfl | ⟨b', off', hp, hc⟩
    · exact Or.inl (by simp)
    · cases hp
      refine Or.inr ⟨b, i, rfl, fun k hk => ?_⟩
      rw [List.length_drop] at hk
      have := hc (i + k) (by omega)
      rw [Nat.zero_add] at this
      rw [List.getElem_drop]
      exact this
/-- A slice of texts that is nil, or lies at a block's beginning. -/
def Rv.Sl (W : World) (p : Option Addr) (c : Nat) (l : List ByteArray) : Prop := (p = none ∧ c = 0 ∧ l = []) ∨ ∃ b, p = some ⟨b, 0, none⟩ ∧ l.length ≤ c ∧ Wp.At Wp.mkT W p l
theorem Rv.Sl.below {W W' : World} {p : Option Addr} {c : Nat} {l : List ByteArray} (h : Rv.Sl W p c l) (hb : Below W.heap.size W W') : Rv.Sl W' p c l := by
  rcases h with h | ⟨b, h1, h2, h3⟩
  · exact Or.inl h
  · exact Or.inr ⟨b, h1, h2, h3.below hb⟩
theorem Rv.Sl.at {W : World} {p : Option Addr} {c : Nat} {l : List ByteArray} (h : Rv.Sl W p c l) : Wp.At Wp.mkT W p l := by
  rcases h with ⟨_, _, h⟩ | ⟨_, _, _, h⟩
  · exact Or.inl h
  · exact h
theorem Rv.Sl.of {W : World} {B : Nat} {v : Value} {l : List ByteArray} (h : W.ownsRow B 9 1 v l.length (l.map Wp.mkT)) : ∃ p c, v = .slice p l.length c ∧ Rv.Sl W p c l := by
  obtain ⟨p, c, hv, ha⟩ := owns_at (mk := Wp.mkT) h
  refine ⟨p, c, hv, ?_⟩
  rcases h.2 with ⟨h1, h2⟩ | ⟨g, cap, cur, h1, _, _, h4, _⟩
  · rw [h1] at hv
    simp only [Value.slice.injEq] at hv
    exact Or.inl ⟨hv.1.symm, hv.2.2.symm, List.length_eq_zero_iff.1 h2⟩
  · rw [h1] at hv
    cases hv
    exact Or.inr ⟨g, rfl, h4, ha⟩
def Rv.PutPost (R : List ByteArray) (w : World) (e : Ending) (w' : World) : Prop := ∃ p c, e = .returned (.slice p R.length c) ∧ Rv.Sl w' p c R ∧ Below w.heap.size w w'
set_option maxRecDepth 100000 in
set_option maxHeartbeats 4000000 in
theorem refPut_some (l : List ByteArray) (s : ByteArray) (b0 c : Nat) (w : World) (hl : l.length ≤ 1000000) (hc : l.length ≤ c) (hA : Wp.At Wp.mkT w (some ⟨b0, 0, none⟩) l) :
    Calls Tryz.prog 98 #[.slice (some ⟨b0, 0, none⟩) l.length c, .string s] w (Rv.PutPost (Rv.ins l s) w) := by
  have HA := Lib.hid hA
  have HI := Lib.hid (Rv.ins_at l s)
  obtain ⟨R, hR⟩ : ∃ R, R = Rv.ins l s := ⟨_, rfl⟩
  rw [← hR] at HI ⊢
  clear hR
  obtain ⟨n, hn⟩ : ∃ n, n = l.length := ⟨_, rfl⟩
  have Hn := Lib.hid hn
  rw [← hn] at hl hc ⊢
  clear hA hn
  have hci : (n : Int) ≤ (c : Int) := by omega
  go_enter Tryz.func98, Tryz.ntmps98
  go_wp2_with fail
  go_loopw [5] (fun t wr => ∃ k : Nat, k ≤ n ∧ t = .int .i64 k ∧ Hid (∀ j (h : j < l.length), j < k → Vl.ltB l[j] s = true) ∧ wr = w) (fun t _ => n - (intOf t).toNat)
  case atStart => exact ⟨0, Nat.zero_le _, rfl, Lib.hid (fun j _ h => absurd h (Nat.not_lt_zero _)), rfl⟩
  case round =>
    obtain ⟨k, hk, rfl, HK, rfl⟩ := hrel
    by_cases hlt : k < n
    · have hkl : k < l.length := by rw [← Hn.out]; exact hlt
      obtain ⟨b, off, hbo, hcell⟩ := HA.out.get k hkl
      cases hbo
      rw [Nat.zero_add] at hcell
      rw [show Wp.mkT l[k] = .string l[k] from rfl] at hcell
      have hki : (k : Int) < (n : Int) := by omega
      cases hb : Vl.ltB l[k] s with
      | true =>
        have HK2 := Lib.hid (show ∀ j (h : j < l.length), j < k + 1 → Vl.ltB l[j] s = true from fun j h hj => by
          by_cases e : j < k
          · exact HK.out j h e
          · obtain rfl : j = k := by omega
            exact hb)
        replace hb : Op.bytesLess l[k].toList s.toList = true := hb
        generalize l[k] = x at *
        clear HK hkl
        go_wp2_with fail
        exact ⟨⟨k + 1, by omega, by go_num, HK2, trivial⟩, by simp [intOf]; omega⟩
      | false =>
        have HR := Lib.hid (HI.out k (by omega) HK.out (fun _ => hb))
        replace hb : Op.bytesLess l[k].toList s.toList = false := hb
        have HRe := HR.out
        rw [dif_pos hkl] at HRe
        by_cases hxs : l[k] = s
        · rw [if_pos hxs] at HRe
          subst HRe
          rw [hxs] at hcell hb
          clear HK HR HI hxs hkl
          go_wp2_with fail
          go_ret
          refine ⟨_, c, ?_, Or.inr ⟨_, rfl, by rw [← Hn.out]; exact hc, HA.out⟩, Below.refl _ _⟩
          rw [← Hn.out]
          rfl
        · rw [if_neg hxs] at HRe
          have q1 := Tg.ba_ne hxs
          have q2 := Tg.ba_nel hxs
          have HRf := Lib.hid HRe
          generalize l[k] = x at *
          clear HK HR HI hkl hxs HRe
          have hk0 : (0 : Int) ≤ (k : Int) := by omega
          have hkn : (k : Int) ≤ (n : Int) := by omega
          have hkc : (k : Int) ≤ (c : Int) := by omega
          go_wp2_with fail
          go_region_law (first
            | (refine Ow.step (mk := Wp.mkT) rfl _ _ _ rfl (fun _ => rfl) Vt.tyTexts ([] ++ l.take k ++ [s]) (l.drop k) vb _ _ _ wr.heap.size rfl rfl hob ((Rv.drop (c := c) HA.out k (by rw [← Hn.out]; omega)).below eb) (by rw [List.length_drop, ← Hn.out] <;> omega) (by rw [List.nil_append, List.length_append, List.length_take, ← Hn.out, List.length_singleton]; omega) (by rw [List.length_drop, ← Hn.out]; omega) eb.size ?_; intro vc wc3 hoc hgc; have ec := Ow.grown eb hob hgc eb.size)
            | (refine Ow.step (mk := Wp.mkT) rfl _ _ _ rfl (fun _ => rfl) Vt.tyTexts ([] ++ l.take k) [s] va _ _ _ wr.heap.size rfl rfl (hoa) (Ow.one hB) rfl (by rw [List.nil_append, List.length_take, ← Hn.out]; omega) (by simp) (ea).size ?_; intro vb wb hob hgb; have eb := Ow.grown (ea) (hoa) hgb (ea).size)
            | (refine Ow.step (mk := Wp.mkT) rfl _ _ _ rfl (fun _ => rfl) Vt.tyTexts ([] ++ l.take k) [s] va _ _ _ wr.heap.size rfl rfl (hoa.alloc _) (Ow.one (Ow.n3 wa 9 _)) rfl (by rw [List.nil_append, List.length_take, ← Hn.out]; omega) (by simp) (ea.alloc ea.size _).size ?_; intro vb wb hob hgb; have eb := Ow.grown (ea.alloc ea.size _) (hoa.alloc _) hgb (ea.alloc ea.size _).size)
            | (refine Ow.step (mk := Wp.mkT) rfl _ _ _ rfl (fun _ => rfl) Vt.tyTexts [] (l.take k) (.slice (some ⟨wr.heap.size, 0, none⟩) 0 0) _ _ _ wr.heap.size rfl rfl (Ow.a1 wr 9) ((Rv.take HA.out k).below (Ow.a2 wr (.cells #[] 9))) (by rw [List.length_take, ← Hn.out]; omega) (by simp) (by rw [List.length_take, ← Hn.out]; omega) (Ow.a2 wr (.cells #[] 9)).size ?_; intro va wa hoa hga; have ea := Ow.grown (Ow.a2 wr (.cells #[] 9)) (Ow.a1 wr 9) hga (Ow.a2 wr (.cells #[] 9)).size)
            | (refine Ow.step (mk := Wp.mkT) rfl _ _ _ rfl (fun _ => rfl) Vt.tyTexts [] (l.take k) (.slice (some ⟨wr.heap.size, 0, none⟩) 0 0) _ _ _ wr.heap.size rfl rfl (Ow.b1 wr 9 (.cells #[.string s] 9)) ((Rv.take HA.out k).below (Ow.b2 wr (.cells #[] 9) (.cells #[.string s] 9))) (by rw [List.length_take, ← Hn.out]; omega) (by simp) (by rw [List.length_take, ← Hn.out]; omega) (Ow.b2 wr (.cells #[] 9) (.cells #[.string s] 9)).size ?_; intro va wa hoa hga; have ea := Ow.grown (Ow.b2 wr (.cells #[] 9) (.cells #[.string s] 9)) (Ow.b1 wr 9 (.cells #[.string s] 9)) hga (Ow.b2 wr (.cells #[] 9) (.cells #[.string s] 9)).size; have hB := hga.cell (Ow.b3 wr 9 (.cells #[] 9) (.string s)) (by simp [Value.ownBlock]))
            | (refine Ow.step (mk := Wp.mkT) rfl _ _ _ rfl (fun _ => rfl) Vt.tyTexts [] (l.take k) (.slice (some ⟨wr.heap.size + 1, 0, none⟩) 0 0) _ _ _ wr.heap.size rfl rfl (Ow.c1 wr 9 (.cells #[.string s] 9)) ((Rv.take HA.out k).below (Ow.b2 wr (.cells #[.string s] 9) (.cells #[] 9))) (by rw [List.length_take, ← Hn.out]; omega) (by simp) (by rw [List.length_take, ← Hn.out]; omega) (Ow.b2 wr (.cells #[.string s] 9) (.cells #[] 9)).size ?_; intro va wa hoa hga; have ea := Ow.grown (Ow.b2 wr (.cells #[.string s] 9) (.cells #[] 9)) (Ow.c1 wr 9 (.cells #[.string s] 9)) hga (Ow.b2 wr (.cells #[.string s] 9) (.cells #[] 9)).size; have hB := hga.cell (Ow.c3 wr 9 (.cells #[] 9) (.string s)) (by simp [Value.ownBlock])))
          all_goals
            obtain ⟨pv, cv, hv, hav⟩ := Rv.Sl.of hoc
            have e1 : [] ++ l.take k ++ [s] ++ l.drop k = R := by rw [HRf.out, List.nil_append]
            rw [e1] at hv hav
            subst hv
            have EC := Lib.hid ec
            clear hoc hob hoa ec eb ea
            go_wp2_with fail
            all_goals
              go_ret
              exact ⟨_, _, rfl, hav, EC.out⟩
    · obtain rfl : k = n := by omega
      have HR := HI.out k (by rw [← Hn.out]; exact Nat.le_refl _) HK.out (fun h => absurd h (by rw [← Hn.out]; omega))
      rw [dif_neg (by rw [← Hn.out]; omega)] at HR
      have HRf := Lib.hid HR
      clear HK HI HR
      have hk0 : (0 : Int) ≤ (k : Int) := by omega
      go_wp2_with fail
      go_region_law (first
        | (refine Ow.step (mk := Wp.mkT) rfl _ _ _ rfl (fun _ => rfl) Vt.tyTexts ([] ++ l.take k ++ [s]) (l.drop k) vb _ _ _ wr.heap.size rfl rfl hob ((Rv.drop (c := c) HA.out k (by rw [← Hn.out]; omega)).below eb) (by rw [List.length_drop, ← Hn.out] <;> omega) (by rw [List.nil_append, List.length_append, List.length_take, ← Hn.out, List.length_singleton]; omega) (by rw [List.length_drop, ← Hn.out]; omega) eb.size ?_; intro vc wc3 hoc hgc; have ec := Ow.grown eb hob hgc eb.size)
        | (refine Ow.step (mk := Wp.mkT) rfl _ _ _ rfl (fun _ => rfl) Vt.tyTexts ([] ++ l.take k) [s] va _ _ _ wr.heap.size rfl rfl (hoa) (Ow.one hB) rfl (by rw [List.nil_append, List.length_take, ← Hn.out]; omega) (by simp) (ea).size ?_; intro vb wb hob hgb; have eb := Ow.grown (ea) (hoa) hgb (ea).size)
        | (refine Ow.step (mk := Wp.mkT) rfl _ _ _ rfl (fun _ => rfl) Vt.tyTexts ([] ++ l.take k) [s] va _ _ _ wr.heap.size rfl rfl (hoa.alloc _) (Ow.one (Ow.n3 wa 9 _)) rfl (by rw [List.nil_append, List.length_take, ← Hn.out]; omega) (by simp) (ea.alloc ea.size _).size ?_; intro vb wb hob hgb; have eb := Ow.grown (ea.alloc ea.size _) (hoa.alloc _) hgb (ea.alloc ea.size _).size)
        | (refine Ow.step (mk := Wp.mkT) rfl _ _ _ rfl (fun _ => rfl) Vt.tyTexts [] (l.take k) (.slice (some ⟨wr.heap.size, 0, none⟩) 0 0) _ _ _ wr.heap.size rfl rfl (Ow.a1 wr 9) ((Rv.take HA.out k).below (Ow.a2 wr (.cells #[] 9))) (by rw [List.length_take, ← Hn.out]; omega) (by simp) (by rw [List.length_take, ← Hn.out]; omega) (Ow.a2 wr (.cells #[] 9)).size ?_; intro va wa hoa hga; have ea := Ow.grown (Ow.a2 wr (.cells #[] 9)) (Ow.a1 wr 9) hga (Ow.a2 wr (.cells #[] 9)).size)
        | (refine Ow.step (mk := Wp.mkT) rfl _ _ _ rfl (fun _ => rfl) Vt.tyTexts [] (l.take k) (.slice (some ⟨wr.heap.size, 0, none⟩) 0 0) _ _ _ wr.heap.size rfl rfl (Ow.b1 wr 9 (.cells #[.string s] 9)) ((Rv.take HA.out k).below (Ow.b2 wr (.cells #[] 9) (.cells #[.string s] 9))) (by rw [List.length_take, ← Hn.out]; omega) (by simp) (by rw [List.length_take, ← Hn.out]; omega) (Ow.b2 wr (.cells #[] 9) (.cells #[.string s] 9)).size ?_; intro va wa hoa hga; have ea := Ow.grown (Ow.b2 wr (.cells #[] 9) (.cells #[.string s] 9)) (Ow.b1 wr 9 (.cells #[.string s] 9)) hga (Ow.b2 wr (.cells #[] 9) (.cells #[.string s] 9)).size; have hB := hga.cell (Ow.b3 wr 9 (.cells #[] 9) (.string s)) (by simp [Value.ownBlock]))
        | (refine Ow.step (mk := Wp.mkT) rfl _ _ _ rfl (fun _ => rfl) Vt.tyTexts [] (l.take k) (.slice (some ⟨wr.heap.size + 1, 0, none⟩) 0 0) _ _ _ wr.heap.size rfl rfl (Ow.c1 wr 9 (.cells #[.string s] 9)) ((Rv.take HA.out k).below (Ow.b2 wr (.cells #[.string s] 9) (.cells #[] 9))) (by rw [List.length_take, ← Hn.out]; omega) (by simp) (by rw [List.length_take, ← Hn.out]; omega) (Ow.b2 wr (.cells #[.string s] 9) (.cells #[] 9)).size ?_; intro va wa hoa hga; have ea := Ow.grown (Ow.b2 wr (.cells #[.string s] 9) (.cells #[] 9)) (Ow.c1 wr 9 (.cells #[.string s] 9)) hga (Ow.b2 wr (.cells #[.string s] 9) (.cells #[] 9)).size; have hB := hga.cell (Ow.c3 wr 9 (.cells #[] 9) (.string s)) (by simp [Value.ownBlock])))
      all_goals
        obtain ⟨pv, cv, hv, hav⟩ := Rv.Sl.of hoc
        have e1 : [] ++ l.take k ++ [s] ++ l.drop k = R := by rw [HRf.out, List.nil_append]
        rw [e1] at hv hav
        subst hv
        have EC := Lib.hid ec
        clear hoc hob hoa ec eb ea
        go_wp2_with fail
        all_goals
          go_ret
          exact ⟨_, _, rfl, hav, EC.out⟩
set_option maxRecDepth 100000 in
set_option maxHeartbeats 4000000 in
theorem refPut_nil (s : ByteArray) (w : World) :
    Calls Tryz.prog 98 #[.slice none 0 0, .string s] w (Rv.PutPost [s] w) := by
  obtain ⟨l, hl⟩ : ∃ l : List ByteArray, l = [] := ⟨_, rfl⟩
  have HA := Lib.hid (show Wp.At Wp.mkT w none l from Or.inl hl)
  have HL := Lib.hid hl
  have Hn := Lib.hid (show 0 = l.length by rw [hl]; rfl)
  obtain ⟨k, hk⟩ : ∃ k : Nat, k = 0 := ⟨_, rfl⟩
  have HK := Lib.hid hk
  obtain ⟨wr, hwr⟩ : ∃ wr, wr = w := ⟨_, rfl⟩
  rw [← hwr]
  clear hl hk hwr
  go_enter Tryz.func98, Tryz.ntmps98
  go_wp2_with fail
  refine wp_loop_rounds 1 ?_
  rw [rounds_succ]
  go_wp2_with fail
  go_region_law (first
    | (refine Ow.step (mk := Wp.mkT) rfl _ _ _ rfl (fun _ => rfl) Vt.tyTexts ([] ++ [s]) [] vb _ _ _ wr.heap.size rfl rfl hob (Or.inl rfl) rfl (by simp) (by simp) eb.size ?_; intro vc wc3 hoc hgc; have ec := Ow.grown eb hob hgc eb.size)
    | (refine Ow.step (mk := Wp.mkT) rfl _ _ _ rfl (fun _ => rfl) Vt.tyTexts [] [s] (.slice (some ⟨wr.heap.size, 0, none⟩) 0 0) _ _ _ wr.heap.size rfl rfl (Ow.b1 wr 9 (.cells #[.string s] 9)) (Ow.one (Ow.b3 wr 9 (.cells #[] 9) (.string s))) rfl (by simp) (by simp) (Ow.b2 wr (.cells #[] 9) (.cells #[.string s] 9)).size ?_; intro vb wb hob hgb; have eb := Ow.grown (Ow.b2 wr (.cells #[] 9) (.cells #[.string s] 9)) (Ow.b1 wr 9 (.cells #[.string s] 9)) hgb (Ow.b2 wr (.cells #[] 9) (.cells #[.string s] 9)).size)
    | (refine Ow.step (mk := Wp.mkT) rfl _ _ _ rfl (fun _ => rfl) Vt.tyTexts [] [s] (.slice (some ⟨wr.heap.size + 1, 0, none⟩) 0 0) _ _ _ wr.heap.size rfl rfl (Ow.c1 wr 9 (.cells #[.string s] 9)) (Ow.one (Ow.c3 wr 9 (.cells #[] 9) (.string s))) rfl (by simp) (by simp) (Ow.b2 wr (.cells #[.string s] 9) (.cells #[] 9)).size ?_; intro vb wb hob hgb; have eb := Ow.grown (Ow.b2 wr (.cells #[.string s] 9) (.cells #[] 9)) (Ow.c1 wr 9 (.cells #[.string s] 9)) hgb (Ow.b2 wr (.cells #[.string s] 9) (.cells #[] 9)).size))
  all_goals
    obtain ⟨pv, cv, hv, hav⟩ := Rv.Sl.of (l := [s]) hoc
    subst hv
    have EC := Lib.hid ec
    clear hoc ec hob eb
    go_wp2_with fail
    all_goals
      go_ret
      exact ⟨_, _, rfl, hav, EC.out⟩
theorem refPut_any (l : List ByteArray) (s : ByteArray) (p : Option Addr) (c : Nat) (w : World) (hl : l.length ≤ 1000000) (h : Rv.Sl w p c l) :
    Calls Tryz.prog 98 #[.slice p l.length c, .string s] w (Rv.PutPost (Rv.ins l s) w) := by
  rcases h with ⟨rfl, rfl, rfl⟩ | ⟨b, rfl, h2, h3⟩
  · exact refPut_nil s w
  · exact refPut_some l s b c w hl h2 h3
end Go.Proofs.YteiccjakaabfnaaGreatDoor
