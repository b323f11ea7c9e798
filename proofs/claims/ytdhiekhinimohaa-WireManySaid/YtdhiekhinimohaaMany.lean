/-
  The law WireMany: a list that was put is got, and what was behind it stays; what is got has its bytes. Conditions: the numbers fit 64 bits, each text takes at most 2^47 bytes.
-/
import Derived.Test.YtdhiekhinimohaaListsLaw
namespace Go.Proofs.Ytdhiekhinimohaa
open Go.RowKit

theorem Wp.list_len {α : Type} (f : α → List UInt8) (l : List α) (c : Nat) (hl : l.length ≤ 1024) (h : ∀ x ∈ l, (f x).length ≤ c) : (Wp.B (Wp.listB f l)).size ≤ 9 + 1024 * c := by
  have h1 := Wp.flat_len f c l h
  have h2 := Wp.numB_len l.length
  have h4 : l.length * c ≤ 1024 * c := Nat.mul_le_mul_right _ hl
  rw [Wp.B_size, Wp.listB, List.length_append]
  omega
theorem Wp.longs_no (l : List ByteArray) (h : Wp.longs l = false) : l.length ≤ 1024 ∧ ∀ x ∈ l, x.size ≤ 4096 := by
  unfold Wp.longs at h
  rw [Bool.or_eq_false_iff] at h
  refine ⟨by simpa using h.1, fun x hx => ?_⟩
  have := h.2
  rw [List.any_eq_false] at this
  have := this x hx
  simpa using this
theorem Wp.longs_of (l : List ByteArray) (h1 : l.length ≤ 1024) (h2 : ∀ x ∈ l, x.size ≤ 4096) : Wp.longs l = false := by
  unfold Wp.longs
  rw [Bool.or_eq_false_iff]
  refine ⟨by simpa using h1, ?_⟩
  rw [List.any_eq_false]
  intro x hx
  have := h2 x hx
  simpa using this
theorem Wp.textBs_len (l : List ByteArray) (h : ∀ x ∈ l, x.size ≤ 4096) : ∀ x ∈ l, (Wp.textBs x).length ≤ 4105 := by
  intro x hx
  have h5 := Wp.textB_len x.data.toList
  rw [← Wp.size_len] at h5
  have := h x hx
  unfold Wp.textBs
  omega

set_option maxHeartbeats 4000000 in
theorem many_any (pl : Option Addr) (cl : Nat) (l : List Int) (pm : Option Addr) (cm : Nat) (m : List ByteArray) (s : ByteArray) (hll : l.length ≤ 140737488351232) (hlm : m.length ≤ 140737488351232)
    (hl : ∀ x ∈ l, Wp.I64 x) (hm : ∀ x ∈ m, x.size ≤ 140737488351232) (hs : s.size ≤ 140737488351232) (w : World) (al : Wp.At Wp.mkN w pl l) (am : Wp.At Wp.mkT w pm m) :
    Calls Try.prog 6 #[.slice pl l.length cl, .slice pm m.length cm, .string s] w fun e w' => e = .returned (.bool true) ∧ Below w.heap.size w w' := by
  have c1 := fun w h => nums_any pl cl l w (by omega) h hl
  have c3 := fun w h => texts_any pm cm m w (by omega) h (fun x h => by have := hm x h; omega)
  have c5 := fun w => gettexts_any s w (by omega)
  have hT : (Wp.getList Wp.getT s.data.toList).1.length ≤ 1024 := Wp.got_len _ _
  rcases hTe : Wp.getList Wp.getT s.data.toList with ⟨T, r, er⟩
  have hrl := Wp.got_rest s T r er hTe
  rw [hTe] at c5 hT
  simp only [] at c5 hT
  have Al := Lib.hid al
  have Am := Lib.hid am
  have s1 := fun p1 p2 c1 c2 w h1 h2 => same_nums p1 p2 c1 c2 l w (by omega) h1 h2
  have s2 := fun p1 p2 c1 c2 w h1 h2 => same_texts p1 p2 c1 c2 m w (by omega) h1 h2
  have S1 := Lib.hid s1
  have S2 := Lib.hid s2
  have C5 := Lib.hid c5
  clear c5 al am s1 s2
  by_cases hA : 1024 < l.length
  · have c1' : ∀ w, Wp.At Wp.mkN w pl l → Calls Try.prog 17 #[.slice pl l.length cl] w fun e w' => e = .returned (.tuple #[.string ⟨#[]⟩, .int .i64 12]) ∧ Below w.heap.size w w' := fun w h => by
      have h2 := c1 w h
      rw [show Wp.numsR l = ([], 12) from if_pos hA] at h2
      exact h2
    have C1 := Lib.hid c1'
    clear c1 c1'
    cases hB : Wp.longs m with
    | true =>
      have c3' : ∀ w, Wp.At Wp.mkT w pm m → Calls Try.prog 21 #[.slice pm m.length cm] w fun e w' => e = .returned (.tuple #[.string ⟨#[]⟩, .int .i64 12]) ∧ Below w.heap.size w w' := fun w h => by
        have h2 := c3 w h
        rw [show Wp.textsR m = ([], 12) by unfold Wp.textsR; rw [hB]; rfl] at h2
        exact h2
      have C3 := Lib.hid c3'
      clear c3 c3' hB
      by_cases he : er = 0
      · subst he
        obtain ⟨hE, hT1, hT2⟩ := Wp.getList_ok Wp.getT Wp.textBs (fun x => x.size ≤ 4096) (fun s x r h => Wp.getT_ok s x r h) _ _ _ hTe
        have c6 : ∀ p c w, Wp.At Wp.mkT w p T → Calls Try.prog 21 #[.slice p T.length c] w fun e w' => e = .returned (.tuple #[.string (Wp.B (Wp.listB Wp.textBs T)), .int .i64 0]) ∧ Below w.heap.size w w' := fun p c w h => by
          have h2 := texts_any p c T w (by omega) h (fun x h => by have := hT2 x h; omega)
          rw [show Wp.textsR T = (Wp.listB Wp.textBs T, 0) by unfold Wp.textsR; rw [Wp.longs_of T hT1 hT2]; rfl] at h2
          exact h2
        have C6 := Lib.hid c6
        have z6 := Wp.list_len Wp.textBs T 4105 hT1 (Wp.textBs_len T hT2)
        have HE := Lib.hid (show Wp.B (Wp.listB Wp.textBs T) ++ Wp.B r = s by rw [Wp.B_append, Wp.B_data, hE, Wp.B_of])
        clear c6 hE hTe hT2 hl hm
        go_enter Try.func6, Try.ntmps6
        go_wp2_with fail
        refine (lists_any _).mono ?_
        rintro e w1 ⟨rfl, b1⟩
        have a1 := b1
        go_wp2_with fail
        refine (C1.out _ (Al.out.below a1)).mono ?_
        rintro e w2 ⟨rfl, b2⟩
        have a2 := below_then a1 b2 a1.size
        go_wp2_with fail
        refine (C3.out _ (Am.out.below a2)).mono ?_
        rintro e w5 ⟨rfl, b5⟩
        have a5 := below_then a2 b5 a2.size
        go_wp2_with fail
        refine (C5.out _).mono ?_
        rintro e w8 ⟨p8, k8, rfl, h8, b8⟩
        have H8 := Lib.hid h8
        clear h8
        have a8 := below_then a5 b8 a5.size
        go_wp2_with fail
        refine (C6.out _ _ _ H8.out).mono ?_
        rintro e w9 ⟨rfl, b9⟩
        have a9 := below_then a8 b9 a8.size
        go_wp2_with fail
        go_ret
        refine ⟨?_, a9⟩
        show Ending.returned (.bool ((Wp.B (Wp.listB Wp.textBs T) ++ Wp.B r).toList == s.toList)) = _
        rw [HE.out]
        simp
      · obtain ⟨rfl, rfl⟩ := Wp.getList_bad _ _ _ _ _ hTe he
        have hb1 : (er != 0) = true := by rw [bne_iff_ne]; exact he
        have hb2 : (er == 0) = false := by rw [beq_eq_false_iff_ne]; exact he
        have he0 : (Wp.B []).toList.isEmpty = true := by rw [Lib.toList_data]; rfl
        have he1 : (Wp.B []).toList = [] := by rw [Lib.toList_data]; rfl
        clear hTe he hl hm
        go_enter Try.func6, Try.ntmps6
        go_wp2_with fail
        refine (lists_any _).mono ?_
        rintro e w1 ⟨rfl, b1⟩
        have a1 := b1
        go_wp2_with fail
        refine (C1.out _ (Al.out.below a1)).mono ?_
        rintro e w2 ⟨rfl, b2⟩
        have a2 := below_then a1 b2 a1.size
        go_wp2_with fail
        refine (C3.out _ (Am.out.below a2)).mono ?_
        rintro e w5 ⟨rfl, b5⟩
        have a5 := below_then a2 b5 a2.size
        go_wp2_with fail
        refine (C5.out _).mono ?_
        rintro e w8 ⟨p8, k8, rfl, h8, b8⟩
        have H8 := Lib.hid h8
        clear h8
        have a8 := below_then a5 b8 a5.size
        go_wp2_with fail
        go_ret
        exact ⟨rfl, a8⟩
    | false =>
      obtain ⟨hB1, hB2⟩ := Wp.longs_no m hB
      have c3' : ∀ w, Wp.At Wp.mkT w pm m → Calls Try.prog 21 #[.slice pm m.length cm] w fun e w' => e = .returned (.tuple #[.string (Wp.B (Wp.listB Wp.textBs m)), .int .i64 0]) ∧ Below w.heap.size w w' := fun w h => by
        have h2 := c3 w h
        rw [show Wp.textsR m = (Wp.listB Wp.textBs m, 0) by unfold Wp.textsR; rw [hB]; rfl] at h2
        exact h2
      have C3 := Lib.hid c3'
      have zB := Wp.list_len Wp.textBs m 4105 hB1 (Wp.textBs_len m hB2)
      have c4 : ∀ w, Calls Try.prog 23 #[.string (Wp.B (Wp.listB Wp.textBs m) ++ s)] w fun e w' => ∃ p c, e = .returned (.tuple #[.slice p m.length c, .string s, .int .i64 0]) ∧ Wp.At Wp.mkT w' p m ∧ Below w.heap.size w w' := fun w => by
        have h2 := gettexts_any (Wp.B (Wp.listB Wp.textBs m) ++ s) w (by rw [ByteArray.size_append]; omega)
        rw [Wp.data_append, Wp.B_data, Wp.getList_put Wp.getT Wp.textBs m _ hB1 (fun x h s => Wp.getT_put x s (hB2 x h))] at h2
        simp only [Wp.B_of] at h2
        exact h2
      have C4 := Lib.hid c4
      clear c3 c3' c4 hB hB2
      by_cases he : er = 0
      · subst he
        obtain ⟨hE, hT1, hT2⟩ := Wp.getList_ok Wp.getT Wp.textBs (fun x => x.size ≤ 4096) (fun s x r h => Wp.getT_ok s x r h) _ _ _ hTe
        have c6 : ∀ p c w, Wp.At Wp.mkT w p T → Calls Try.prog 21 #[.slice p T.length c] w fun e w' => e = .returned (.tuple #[.string (Wp.B (Wp.listB Wp.textBs T)), .int .i64 0]) ∧ Below w.heap.size w w' := fun p c w h => by
          have h2 := texts_any p c T w (by omega) h (fun x h => by have := hT2 x h; omega)
          rw [show Wp.textsR T = (Wp.listB Wp.textBs T, 0) by unfold Wp.textsR; rw [Wp.longs_of T hT1 hT2]; rfl] at h2
          exact h2
        have C6 := Lib.hid c6
        have z6 := Wp.list_len Wp.textBs T 4105 hT1 (Wp.textBs_len T hT2)
        have HE := Lib.hid (show Wp.B (Wp.listB Wp.textBs T) ++ Wp.B r = s by rw [Wp.B_append, Wp.B_data, hE, Wp.B_of])
        clear c6 hE hTe hT2 hl hm
        go_enter Try.func6, Try.ntmps6
        go_wp2_with fail
        refine (lists_any _).mono ?_
        rintro e w1 ⟨rfl, b1⟩
        have a1 := b1
        go_wp2_with fail
        refine (C1.out _ (Al.out.below a1)).mono ?_
        rintro e w2 ⟨rfl, b2⟩
        have a2 := below_then a1 b2 a1.size
        go_wp2_with fail
        refine (C3.out _ (Am.out.below a2)).mono ?_
        rintro e w5 ⟨rfl, b5⟩
        have a5 := below_then a2 b5 a2.size
        go_wp2_with fail
        refine (C4.out _).mono ?_
        rintro e w6 ⟨p6, k6, rfl, h6, b6⟩
        have H6 := Lib.hid h6
        clear h6
        have a6 := below_then a5 b6 a5.size
        go_wp2_with fail
        refine (S2.out _ _ _ _ _ H6.out (Am.out.below a6)).mono ?_
        rintro e w7 ⟨rfl, b7⟩
        have a7 := below_then a6 b7 a6.size
        go_wp2_with fail
        refine (C5.out _).mono ?_
        rintro e w8 ⟨p8, k8, rfl, h8, b8⟩
        have H8 := Lib.hid h8
        clear h8
        have a8 := below_then a7 b8 a7.size
        go_wp2_with fail
        refine (C6.out _ _ _ H8.out).mono ?_
        rintro e w9 ⟨rfl, b9⟩
        have a9 := below_then a8 b9 a8.size
        go_wp2_with fail
        go_ret
        refine ⟨?_, a9⟩
        show Ending.returned (.bool ((Wp.B (Wp.listB Wp.textBs T) ++ Wp.B r).toList == s.toList)) = _
        rw [HE.out]
        simp
      · obtain ⟨rfl, rfl⟩ := Wp.getList_bad _ _ _ _ _ hTe he
        have hb1 : (er != 0) = true := by rw [bne_iff_ne]; exact he
        have hb2 : (er == 0) = false := by rw [beq_eq_false_iff_ne]; exact he
        have he0 : (Wp.B []).toList.isEmpty = true := by rw [Lib.toList_data]; rfl
        have he1 : (Wp.B []).toList = [] := by rw [Lib.toList_data]; rfl
        clear hTe he hl hm
        go_enter Try.func6, Try.ntmps6
        go_wp2_with fail
        refine (lists_any _).mono ?_
        rintro e w1 ⟨rfl, b1⟩
        have a1 := b1
        go_wp2_with fail
        refine (C1.out _ (Al.out.below a1)).mono ?_
        rintro e w2 ⟨rfl, b2⟩
        have a2 := below_then a1 b2 a1.size
        go_wp2_with fail
        refine (C3.out _ (Am.out.below a2)).mono ?_
        rintro e w5 ⟨rfl, b5⟩
        have a5 := below_then a2 b5 a2.size
        go_wp2_with fail
        refine (C4.out _).mono ?_
        rintro e w6 ⟨p6, k6, rfl, h6, b6⟩
        have H6 := Lib.hid h6
        clear h6
        have a6 := below_then a5 b6 a5.size
        go_wp2_with fail
        refine (S2.out _ _ _ _ _ H6.out (Am.out.below a6)).mono ?_
        rintro e w7 ⟨rfl, b7⟩
        have a7 := below_then a6 b7 a6.size
        go_wp2_with fail
        refine (C5.out _).mono ?_
        rintro e w8 ⟨p8, k8, rfl, h8, b8⟩
        have H8 := Lib.hid h8
        clear h8
        have a8 := below_then a7 b8 a7.size
        go_wp2_with fail
        go_ret
        exact ⟨rfl, a8⟩
  · have hA2 : l.length ≤ 1024 := by omega
    have c1' : ∀ w, Wp.At Wp.mkN w pl l → Calls Try.prog 17 #[.slice pl l.length cl] w fun e w' => e = .returned (.tuple #[.string (Wp.B (Wp.listB Wp.numB l)), .int .i64 0]) ∧ Below w.heap.size w w' := fun w h => by
      have h2 := c1 w h
      rw [show Wp.numsR l = (Wp.listB Wp.numB l, 0) from if_neg hA] at h2
      exact h2
    have C1 := Lib.hid c1'
    have zA := Wp.list_len Wp.numB l 9 hA2 (fun x _ => Wp.numB_len x)
    have c2 : ∀ w, Calls Try.prog 19 #[.string (Wp.B (Wp.listB Wp.numB l) ++ s)] w fun e w' => ∃ p c, e = .returned (.tuple #[.slice p l.length c, .string s, .int .i64 0]) ∧ Wp.At Wp.mkN w' p l ∧ Below w.heap.size w w' := fun w => by
      have h2 := getnums_any (Wp.B (Wp.listB Wp.numB l) ++ s) w (by rw [ByteArray.size_append]; omega)
      rw [Wp.data_append, Wp.B_data, Wp.getList_put Wp.getNum Wp.numB l _ hA2 (fun x h s => Wp.getNum_numB x (hl x h) s)] at h2
      simp only [Wp.B_of] at h2
      exact h2
    have C2 := Lib.hid c2
    clear c1 c1' c2
    cases hB : Wp.longs m with
    | true =>
      have c3' : ∀ w, Wp.At Wp.mkT w pm m → Calls Try.prog 21 #[.slice pm m.length cm] w fun e w' => e = .returned (.tuple #[.string ⟨#[]⟩, .int .i64 12]) ∧ Below w.heap.size w w' := fun w h => by
        have h2 := c3 w h
        rw [show Wp.textsR m = ([], 12) by unfold Wp.textsR; rw [hB]; rfl] at h2
        exact h2
      have C3 := Lib.hid c3'
      clear c3 c3' hB
      by_cases he : er = 0
      · subst he
        obtain ⟨hE, hT1, hT2⟩ := Wp.getList_ok Wp.getT Wp.textBs (fun x => x.size ≤ 4096) (fun s x r h => Wp.getT_ok s x r h) _ _ _ hTe
        have c6 : ∀ p c w, Wp.At Wp.mkT w p T → Calls Try.prog 21 #[.slice p T.length c] w fun e w' => e = .returned (.tuple #[.string (Wp.B (Wp.listB Wp.textBs T)), .int .i64 0]) ∧ Below w.heap.size w w' := fun p c w h => by
          have h2 := texts_any p c T w (by omega) h (fun x h => by have := hT2 x h; omega)
          rw [show Wp.textsR T = (Wp.listB Wp.textBs T, 0) by unfold Wp.textsR; rw [Wp.longs_of T hT1 hT2]; rfl] at h2
          exact h2
        have C6 := Lib.hid c6
        have z6 := Wp.list_len Wp.textBs T 4105 hT1 (Wp.textBs_len T hT2)
        have HE := Lib.hid (show Wp.B (Wp.listB Wp.textBs T) ++ Wp.B r = s by rw [Wp.B_append, Wp.B_data, hE, Wp.B_of])
        clear c6 hE hTe hT2 hl hm
        go_enter Try.func6, Try.ntmps6
        go_wp2_with fail
        refine (lists_any _).mono ?_
        rintro e w1 ⟨rfl, b1⟩
        have a1 := b1
        go_wp2_with fail
        refine (C1.out _ (Al.out.below a1)).mono ?_
        rintro e w2 ⟨rfl, b2⟩
        have a2 := below_then a1 b2 a1.size
        go_wp2_with fail
        refine (C2.out _).mono ?_
        rintro e w3 ⟨p3, k3, rfl, h3, b3⟩
        have H3 := Lib.hid h3
        clear h3
        have a3 := below_then a2 b3 a2.size
        go_wp2_with fail
        refine (S1.out _ _ _ _ _ H3.out (Al.out.below a3)).mono ?_
        rintro e w4 ⟨rfl, b4⟩
        have a4 := below_then a3 b4 a3.size
        go_wp2_with fail
        refine (C3.out _ (Am.out.below a4)).mono ?_
        rintro e w5 ⟨rfl, b5⟩
        have a5 := below_then a4 b5 a4.size
        go_wp2_with fail
        refine (C5.out _).mono ?_
        rintro e w8 ⟨p8, k8, rfl, h8, b8⟩
        have H8 := Lib.hid h8
        clear h8
        have a8 := below_then a5 b8 a5.size
        go_wp2_with fail
        refine (C6.out _ _ _ H8.out).mono ?_
        rintro e w9 ⟨rfl, b9⟩
        have a9 := below_then a8 b9 a8.size
        go_wp2_with fail
        go_ret
        refine ⟨?_, a9⟩
        show Ending.returned (.bool ((Wp.B (Wp.listB Wp.textBs T) ++ Wp.B r).toList == s.toList)) = _
        rw [HE.out]
        simp
      · obtain ⟨rfl, rfl⟩ := Wp.getList_bad _ _ _ _ _ hTe he
        have hb1 : (er != 0) = true := by rw [bne_iff_ne]; exact he
        have hb2 : (er == 0) = false := by rw [beq_eq_false_iff_ne]; exact he
        have he0 : (Wp.B []).toList.isEmpty = true := by rw [Lib.toList_data]; rfl
        have he1 : (Wp.B []).toList = [] := by rw [Lib.toList_data]; rfl
        clear hTe he hl hm
        go_enter Try.func6, Try.ntmps6
        go_wp2_with fail
        refine (lists_any _).mono ?_
        rintro e w1 ⟨rfl, b1⟩
        have a1 := b1
        go_wp2_with fail
        refine (C1.out _ (Al.out.below a1)).mono ?_
        rintro e w2 ⟨rfl, b2⟩
        have a2 := below_then a1 b2 a1.size
        go_wp2_with fail
        refine (C2.out _).mono ?_
        rintro e w3 ⟨p3, k3, rfl, h3, b3⟩
        have H3 := Lib.hid h3
        clear h3
        have a3 := below_then a2 b3 a2.size
        go_wp2_with fail
        refine (S1.out _ _ _ _ _ H3.out (Al.out.below a3)).mono ?_
        rintro e w4 ⟨rfl, b4⟩
        have a4 := below_then a3 b4 a3.size
        go_wp2_with fail
        refine (C3.out _ (Am.out.below a4)).mono ?_
        rintro e w5 ⟨rfl, b5⟩
        have a5 := below_then a4 b5 a4.size
        go_wp2_with fail
        refine (C5.out _).mono ?_
        rintro e w8 ⟨p8, k8, rfl, h8, b8⟩
        have H8 := Lib.hid h8
        clear h8
        have a8 := below_then a5 b8 a5.size
        go_wp2_with fail
        go_ret
        exact ⟨rfl, a8⟩
    | false =>
      obtain ⟨hB1, hB2⟩ := Wp.longs_no m hB
      have c3' : ∀ w, Wp.At Wp.mkT w pm m → Calls Try.prog 21 #[.slice pm m.length cm] w fun e w' => e = .returned (.tuple #[.string (Wp.B (Wp.listB Wp.textBs m)), .int .i64 0]) ∧ Below w.heap.size w w' := fun w h => by
        have h2 := c3 w h
        rw [show Wp.textsR m = (Wp.listB Wp.textBs m, 0) by unfold Wp.textsR; rw [hB]; rfl] at h2
        exact h2
      have C3 := Lib.hid c3'
      have zB := Wp.list_len Wp.textBs m 4105 hB1 (Wp.textBs_len m hB2)
      have c4 : ∀ w, Calls Try.prog 23 #[.string (Wp.B (Wp.listB Wp.textBs m) ++ s)] w fun e w' => ∃ p c, e = .returned (.tuple #[.slice p m.length c, .string s, .int .i64 0]) ∧ Wp.At Wp.mkT w' p m ∧ Below w.heap.size w w' := fun w => by
        have h2 := gettexts_any (Wp.B (Wp.listB Wp.textBs m) ++ s) w (by rw [ByteArray.size_append]; omega)
        rw [Wp.data_append, Wp.B_data, Wp.getList_put Wp.getT Wp.textBs m _ hB1 (fun x h s => Wp.getT_put x s (hB2 x h))] at h2
        simp only [Wp.B_of] at h2
        exact h2
      have C4 := Lib.hid c4
      clear c3 c3' c4 hB hB2
      by_cases he : er = 0
      · subst he
        obtain ⟨hE, hT1, hT2⟩ := Wp.getList_ok Wp.getT Wp.textBs (fun x => x.size ≤ 4096) (fun s x r h => Wp.getT_ok s x r h) _ _ _ hTe
        have c6 : ∀ p c w, Wp.At Wp.mkT w p T → Calls Try.prog 21 #[.slice p T.length c] w fun e w' => e = .returned (.tuple #[.string (Wp.B (Wp.listB Wp.textBs T)), .int .i64 0]) ∧ Below w.heap.size w w' := fun p c w h => by
          have h2 := texts_any p c T w (by omega) h (fun x h => by have := hT2 x h; omega)
          rw [show Wp.textsR T = (Wp.listB Wp.textBs T, 0) by unfold Wp.textsR; rw [Wp.longs_of T hT1 hT2]; rfl] at h2
          exact h2
        have C6 := Lib.hid c6
        have z6 := Wp.list_len Wp.textBs T 4105 hT1 (Wp.textBs_len T hT2)
        have HE := Lib.hid (show Wp.B (Wp.listB Wp.textBs T) ++ Wp.B r = s by rw [Wp.B_append, Wp.B_data, hE, Wp.B_of])
        clear c6 hE hTe hT2 hl hm
        go_enter Try.func6, Try.ntmps6
        go_wp2_with fail
        refine (lists_any _).mono ?_
        rintro e w1 ⟨rfl, b1⟩
        have a1 := b1
        go_wp2_with fail
        refine (C1.out _ (Al.out.below a1)).mono ?_
        rintro e w2 ⟨rfl, b2⟩
        have a2 := below_then a1 b2 a1.size
        go_wp2_with fail
        refine (C2.out _).mono ?_
        rintro e w3 ⟨p3, k3, rfl, h3, b3⟩
        have H3 := Lib.hid h3
        clear h3
        have a3 := below_then a2 b3 a2.size
        go_wp2_with fail
        refine (S1.out _ _ _ _ _ H3.out (Al.out.below a3)).mono ?_
        rintro e w4 ⟨rfl, b4⟩
        have a4 := below_then a3 b4 a3.size
        go_wp2_with fail
        refine (C3.out _ (Am.out.below a4)).mono ?_
        rintro e w5 ⟨rfl, b5⟩
        have a5 := below_then a4 b5 a4.size
        go_wp2_with fail
        refine (C4.out _).mono ?_
        rintro e w6 ⟨p6, k6, rfl, h6, b6⟩
        have H6 := Lib.hid h6
        clear h6
        have a6 := below_then a5 b6 a5.size
        go_wp2_with fail
        refine (S2.out _ _ _ _ _ H6.out (Am.out.below a6)).mono ?_
        rintro e w7 ⟨rfl, b7⟩
        have a7 := below_then a6 b7 a6.size
        go_wp2_with fail
        refine (C5.out _).mono ?_
        rintro e w8 ⟨p8, k8, rfl, h8, b8⟩
        have H8 := Lib.hid h8
        clear h8
        have a8 := below_then a7 b8 a7.size
        go_wp2_with fail
        refine (C6.out _ _ _ H8.out).mono ?_
        rintro e w9 ⟨rfl, b9⟩
        have a9 := below_then a8 b9 a8.size
        go_wp2_with fail
        go_ret
        refine ⟨?_, a9⟩
        show Ending.returned (.bool ((Wp.B (Wp.listB Wp.textBs T) ++ Wp.B r).toList == s.toList)) = _
        rw [HE.out]
        simp
      · obtain ⟨rfl, rfl⟩ := Wp.getList_bad _ _ _ _ _ hTe he
        have hb1 : (er != 0) = true := by rw [bne_iff_ne]; exact he
        have hb2 : (er == 0) = false := by rw [beq_eq_false_iff_ne]; exact he
        have he0 : (Wp.B []).toList.isEmpty = true := by rw [Lib.toList_data]; rfl
        have he1 : (Wp.B []).toList = [] := by rw [Lib.toList_data]; rfl
        clear hTe he hl hm
        go_enter Try.func6, Try.ntmps6
        go_wp2_with fail
        refine (lists_any _).mono ?_
        rintro e w1 ⟨rfl, b1⟩
        have a1 := b1
        go_wp2_with fail
        refine (C1.out _ (Al.out.below a1)).mono ?_
        rintro e w2 ⟨rfl, b2⟩
        have a2 := below_then a1 b2 a1.size
        go_wp2_with fail
        refine (C2.out _).mono ?_
        rintro e w3 ⟨p3, k3, rfl, h3, b3⟩
        have H3 := Lib.hid h3
        clear h3
        have a3 := below_then a2 b3 a2.size
        go_wp2_with fail
        refine (S1.out _ _ _ _ _ H3.out (Al.out.below a3)).mono ?_
        rintro e w4 ⟨rfl, b4⟩
        have a4 := below_then a3 b4 a3.size
        go_wp2_with fail
        refine (C3.out _ (Am.out.below a4)).mono ?_
        rintro e w5 ⟨rfl, b5⟩
        have a5 := below_then a4 b5 a4.size
        go_wp2_with fail
        refine (C4.out _).mono ?_
        rintro e w6 ⟨p6, k6, rfl, h6, b6⟩
        have H6 := Lib.hid h6
        clear h6
        have a6 := below_then a5 b6 a5.size
        go_wp2_with fail
        refine (S2.out _ _ _ _ _ H6.out (Am.out.below a6)).mono ?_
        rintro e w7 ⟨rfl, b7⟩
        have a7 := below_then a6 b7 a6.size
        go_wp2_with fail
        refine (C5.out _).mono ?_
        rintro e w8 ⟨p8, k8, rfl, h8, b8⟩
        have H8 := Lib.hid h8
        clear h8
        have a8 := below_then a7 b8 a7.size
        go_wp2_with fail
        go_ret
        exact ⟨rfl, a8⟩
end Go.Proofs.Ytdhiekhinimohaa
