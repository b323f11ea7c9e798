/-
  The law TopFramed: lists that are framed, one behind the other, are told next as they were; the sum of all frames is that of them in pieces. Conditions: the table reads as it is laid, the numbers fit 64 bits, each text takes at most 2^47 bytes.
-/
import Derived.Test.YtdhiekhinimohaaDoorLives
import Derived.Test.YtdhiekhinimohaaDoorSumBack
import Derived.Test.YtdhiekhinimohaaDoorWrap
import Derived.Test.YtdhiekhinimohaaDoorPlainFour
namespace Go.Proofs.YtdhiekhinimohaaDoor
open Go.RowKit

set_option maxHeartbeats 1000000 in
/-- Two slices that read as one list are the same. -/
theorem topTexts_any (p1 p2 : Option Addr) (c1 c2 : Nat) (l : List ByteArray) (w : World) (hm : l.length ≤ 9223372036854775807) (h1 : Wp.At Wp.mkT w p1 l) (h2 : Wp.At Wp.mkT w p2 l) :
    Calls Tryd.prog 25 #[.slice p1 l.length c1, .slice p2 l.length c2] w fun e w' => e = .returned (.bool true) ∧ Below w.heap.size w w' := by
  have H1 := Lib.hid h1
  have H2 := Lib.hid h2
  obtain ⟨n, hn⟩ : ∃ n, n = l.length := ⟨_, rfl⟩
  have Hn := Lib.hid hn
  rw [← hn] at hm ⊢
  clear h1 h2 hn
  go_enter Tryd.func25, Tryd.ntmps25
  go_wp2_with fail
  go_loopw [5, 13] (fun _ t wr => ∃ k : Nat, k ≤ n ∧ t = .int .i64 k ∧ Below w.heap.size w wr) (fun _ t _ => n - (intOf t).toNat)
  case atStart => exact ⟨0, Nat.zero_le _, rfl, Below.refl _ _⟩
  case round =>
    obtain ⟨k, hk, rfl, hB⟩ := hrel
    by_cases hlt : k < n
    · have hkl : k < l.length := by rw [← Hn.out]; exact hlt
      obtain ⟨b1, o1, rfl, hc1⟩ := (H1.out.below hB).get k hkl
      obtain ⟨b2, o2, rfl, hc2⟩ := (H2.out.below hB).get k hkl
      obtain ⟨x, hx⟩ : ∃ x, x = l[k] := ⟨_, rfl⟩
      rw [← hx] at hc1 hc2
      simp only [Wp.mkT] at hc1 hc2
      have hlt2 : (k : Int) < (n : Int) := by omega
      have hk0 : (0 : Int) ≤ (k : Int) := by omega
      clear hx hkl
      go_wp2_with fail
      go_quiet (fail)
      go_wp2_with fail
      refine ⟨⟨k + 1, by omega, by go_num, below_drewN hB _⟩, by simp [intOf]; omega⟩
    · obtain rfl : k = n := by omega
      go_wp2_with fail
      go_ret
      exact ⟨rfl, hB⟩

set_option maxHeartbeats 400000 in
theorem begins_any (w : World) : Calls Tryd.prog 20 #[] w fun e w' => e = .returned (.bool true) ∧ Below w.heap.size w w' := by
  have c1 : ∀ w, Calls Tryd.prog 26 #[.int .i64 300] w fun e w' => e = .returned (.string ⟨#[2, 1, 44]⟩) ∧ Below w.heap.size w w' := fun w => by
    have h := num_any 300 w (by omega) (by omega)
    rw [show Wp.numB 300 = [2, 1, 44] by decide +kernel] at h
    exact h
  have c2 : ∀ w, Calls Tryd.prog 33 #[.string ⟨#[2, 1, 44, 120]⟩] w fun e w' => e = .returned (.tuple #[.int .i64 300, .string ⟨#[120]⟩, .int .i64 0]) ∧ Below w.heap.size w w' := fun w => by
    have h := getNum_any ⟨#[2, 1, 44, 120]⟩ w (by decide)
    rw [show Wp.gn ⟨#[2, 1, 44, 120]⟩ = (300, [120], 0) by decide +kernel] at h
    exact h
  go_enter Tryd.func20, Tryd.ntmps20
  go_wp2_with fail
  refine (c1 _).mono ?_
  rintro e w1 ⟨rfl, b1⟩
  go_wp2_with fail
  refine (c2 _).mono ?_
  rintro e w2 ⟨rfl, b2⟩
  go_wp2_with fail
  go_ret
  exact ⟨rfl, below_then b1 b2 b1.size⟩

/-- The four calls ahead of the test, whatever they answer. -/
structure Sp.Heads (pa : Option Addr) (ca : Nat) (a : List ByteArray) (pb : Option Addr) (cb : Nat) (b : List Int) (S T FS GS : ByteArray) (e1 e2 e3 e4 : Int) : Prop where
  h1 : ∀ w, Wp.At Wp.mkT w pa a → Calls Tryd.prog 21 #[.slice pa a.length ca] w fun e w' => e = .returned (.tuple #[.string S, .int .i64 e1]) ∧ Below w.heap.size w w'
  h2 : ∀ w, Wp.At Wp.mkN w pb b → Calls Tryd.prog 22 #[.slice pb b.length cb] w fun e w' => e = .returned (.tuple #[.string T, .int .i64 e2]) ∧ Below w.heap.size w w'
  h3 : ∀ w, Sp.Laid w → Calls Tryd.prog 9 #[.string S] w fun e w' => e = .returned (.tuple #[.string FS, .int .i64 e3]) ∧ Below w.heap.size w w'
  h4 : ∀ w, Sp.Laid w → Calls Tryd.prog 9 #[.string T] w fun e w' => e = .returned (.tuple #[.string GS, .int .i64 e4]) ∧ Below w.heap.size w w'

set_option maxHeartbeats 2000000 in
theorem framed_no (pa : Option Addr) (ca : Nat) (a : List ByteArray) (pb : Option Addr) (cb : Nat) (b : List Int) (more : ByteArray) (S T FS GS : ByteArray) (e1 e2 e3 e4 : Int) (HH : Sp.Heads pa ca a pb cb b S T FS GS e1 e2 e3 e4)
    (hno : e1 ≠ 0 ∨ e2 ≠ 0 ∨ e3 ≠ 0 ∨ e4 ≠ 0) (w : World) (hL : Sp.Laid w) (aa : Wp.At Wp.mkT w pa a) (ab : Wp.At Wp.mkN w pb b) :
    Calls Tryd.prog 8 #[.slice pa a.length ca, .slice pb b.length cb, .string more] w fun e w' => e = .returned (.bool true) ∧ Below w.heap.size w w' := by
  have HL := Lib.hid hL
  have Aa := Lib.hid aa
  have Ab := Lib.hid ab
  have Hno := Lib.hid hno
  clear hL aa ab hno
  by_cases c1 : e1 = 0
  · by_cases c2 : e2 = 0
    · by_cases c3 : e3 = 0
      · have c4 : e4 ≠ 0 := by have := Hno.out; omega
        have q4 : (e4 != 0) = true := by rw [bne_iff_ne]; exact c4
        subst c1 c2 c3
        clear c4 Hno
        go_enter Tryd.func8, Tryd.ntmps8
        go_wp2_with fail
        refine (begins_any _).mono ?_
        rintro e w1 ⟨rfl, b1⟩
        have a1 := b1
        go_wp2_with fail
        refine (HH.h1 _ (Aa.out.below a1)).mono ?_
        rintro e w2 ⟨rfl, b2⟩
        have a2 := below_then a1 b2 a1.size
        go_wp2_with fail
        refine (HH.h2 _ (Ab.out.below a2)).mono ?_
        rintro e w3 ⟨rfl, b3⟩
        have a3 := below_then a2 b3 a2.size
        go_wp2_with fail
        refine (HH.h3 _ (HL.out.below a3)).mono ?_
        rintro e w4 ⟨rfl, b4⟩
        have a4 := below_then a3 b4 a3.size
        go_wp2_with fail
        refine (HH.h4 _ (HL.out.below a4)).mono ?_
        rintro e w5 ⟨rfl, b5⟩
        have a5 := below_then a4 b5 a4.size
        go_wp2_with fail
        go_ret
        exact ⟨rfl, a5⟩
      · have q3 : (e3 != 0) = true := by rw [bne_iff_ne]; exact c3
        subst c1 c2
        clear c3 Hno
        go_enter Tryd.func8, Tryd.ntmps8
        go_wp2_with fail
        refine (begins_any _).mono ?_
        rintro e w1 ⟨rfl, b1⟩
        have a1 := b1
        go_wp2_with fail
        refine (HH.h1 _ (Aa.out.below a1)).mono ?_
        rintro e w2 ⟨rfl, b2⟩
        have a2 := below_then a1 b2 a1.size
        go_wp2_with fail
        refine (HH.h2 _ (Ab.out.below a2)).mono ?_
        rintro e w3 ⟨rfl, b3⟩
        have a3 := below_then a2 b3 a2.size
        go_wp2_with fail
        refine (HH.h3 _ (HL.out.below a3)).mono ?_
        rintro e w4 ⟨rfl, b4⟩
        have a4 := below_then a3 b4 a3.size
        go_wp2_with fail
        refine (HH.h4 _ (HL.out.below a4)).mono ?_
        rintro e w5 ⟨rfl, b5⟩
        have a5 := below_then a4 b5 a4.size
        go_wp2_with fail
        go_ret
        exact ⟨rfl, a5⟩
    · have q2 : (e2 != 0) = true := by rw [bne_iff_ne]; exact c2
      subst c1
      clear c2 Hno
      go_enter Tryd.func8, Tryd.ntmps8
      go_wp2_with fail
      refine (begins_any _).mono ?_
      rintro e w1 ⟨rfl, b1⟩
      have a1 := b1
      go_wp2_with fail
      refine (HH.h1 _ (Aa.out.below a1)).mono ?_
      rintro e w2 ⟨rfl, b2⟩
      have a2 := below_then a1 b2 a1.size
      go_wp2_with fail
      refine (HH.h2 _ (Ab.out.below a2)).mono ?_
      rintro e w3 ⟨rfl, b3⟩
      have a3 := below_then a2 b3 a2.size
      go_wp2_with fail
      refine (HH.h3 _ (HL.out.below a3)).mono ?_
      rintro e w4 ⟨rfl, b4⟩
      have a4 := below_then a3 b4 a3.size
      go_wp2_with fail
      refine (HH.h4 _ (HL.out.below a4)).mono ?_
      rintro e w5 ⟨rfl, b5⟩
      have a5 := below_then a4 b5 a4.size
      go_wp2_with fail
      go_ret
      exact ⟨rfl, a5⟩
  · have q1 : (e1 != 0) = true := by rw [bne_iff_ne]; exact c1
    clear c1 Hno
    go_enter Tryd.func8, Tryd.ntmps8
    go_wp2_with fail
    refine (begins_any _).mono ?_
    rintro e w1 ⟨rfl, b1⟩
    have a1 := b1
    go_wp2_with fail
    refine (HH.h1 _ (Aa.out.below a1)).mono ?_
    rintro e w2 ⟨rfl, b2⟩
    have a2 := below_then a1 b2 a1.size
    go_wp2_with fail
    refine (HH.h2 _ (Ab.out.below a2)).mono ?_
    rintro e w3 ⟨rfl, b3⟩
    have a3 := below_then a2 b3 a2.size
    go_wp2_with fail
    refine (HH.h3 _ (HL.out.below a3)).mono ?_
    rintro e w4 ⟨rfl, b4⟩
    have a4 := below_then a3 b4 a3.size
    go_wp2_with fail
    refine (HH.h4 _ (HL.out.below a4)).mono ?_
    rintro e w5 ⟨rfl, b5⟩
    have a5 := below_then a4 b5 a4.size
    go_wp2_with fail
    go_ret
    exact ⟨rfl, a5⟩

set_option maxHeartbeats 4000000 in
theorem framed_yes (pa : Option Addr) (ca : Nat) (a : List ByteArray) (pb : Option Addr) (cb : Nat) (b : List Int) (more : ByteArray) (S T FS GS : ByteArray) (HH : Sp.Heads pa ca a pb cb b S T FS GS 0 0 0 0)
    (hm : more.size ≤ 140737488351232) (hF : FS.size ≤ 32781) (hG : GS.size ≤ 32781) (hla : a.length ≤ 1024) (hlb : b.length ≤ 1024)
    (c5 : ∀ w, Sp.Laid w → Calls Tryd.prog 11 #[.string (FS ++ GS ++ more)] w fun e w' => e = .returned (.tuple #[.string S, .string (GS ++ more), .int .i64 0]) ∧ Below w.heap.size w w')
    (c6 : ∀ w, Sp.Laid w → Calls Tryd.prog 11 #[.string (GS ++ more)] w fun e w' => e = .returned (.tuple #[.string T, .string more, .int .i64 0]) ∧ Below w.heap.size w w')
    (c7 : ∀ w, Calls Tryd.prog 23 #[.string S] w fun e w' => ∃ p c, e = .returned (.tuple #[.slice p a.length c, .string ⟨#[]⟩, .int .i64 0]) ∧ Wp.At Wp.mkT w' p a ∧ Below w.heap.size w w')
    (c8 : ∀ w, Calls Tryd.prog 24 #[.string T] w fun e w' => ∃ p c, e = .returned (.tuple #[.slice p b.length c, .string ⟨#[]⟩, .int .i64 0]) ∧ Wp.At Wp.mkN w' p b ∧ Below w.heap.size w w')
    (w : World) (hL : Sp.Laid w) (aa : Wp.At Wp.mkT w pa a) (ab : Wp.At Wp.mkN w pb b) :
    Calls Tryd.prog 8 #[.slice pa a.length ca, .slice pb b.length cb, .string more] w fun e w' => e = .returned (.bool true) ∧ Below w.heap.size w w' := by
  have HL := Lib.hid hL
  have Aa := Lib.hid aa
  have Ab := Lib.hid ab
  have C5 := Lib.hid c5
  have C6 := Lib.hid c6
  have C7 := Lib.hid c7
  have C8 := Lib.hid c8
  have s2 := fun p1 p2 c1 c2 w h1 h2 => topTexts_any p1 p2 c1 c2 a w (by omega) h1 h2
  have S2 := Lib.hid s2
  have d1 : ∀ (p : Option Addr) w, Sp.Laid w → Wp.At Wp.mkT w p [FS, GS, more] → Calls Tryd.prog 18 #[.slice p 3 3] w fun e w' => e = .returned (.int .u32 (Sp.on 0 (FS.data.toList ++ (GS.data.toList ++ more.data.toList)) : Nat)) ∧ w = w' := fun p w hL hA => by
    have h := fold_any p 3 [FS, GS, more] w hL (by simp) hA (by intro x hx; simp at hx; rcases hx with rfl | rfl | rfl <;> omega)
    rw [show Wp.flat Sp.bytes [FS, GS, more] = FS.data.toList ++ (GS.data.toList ++ more.data.toList) by simp [Wp.flat, Sp.bytes]] at h
    exact h
  have A1 := Lib.hid (show ∀ w : World, Wp.At Wp.mkT (w.alloc (.cells #[.string FS, .string GS, .string more] 9)) (some ⟨w.heap.size, 0, none⟩) [FS, GS, more] from fun w => Wp.at_newT Wp.mkT w [FS, GS, more] _)
  have d2 := fun w hL => of_any FS w hL (by omega)
  have d3 : ∀ w, Sp.Laid w → Calls Tryd.prog 16 #[.int .u32 (Sp.on 0 FS.data.toList : Nat), .string (GS ++ more)] w fun e w' => e = .returned (.int .u32 (Sp.on 0 (FS.data.toList ++ (GS.data.toList ++ more.data.toList)) : Nat)) ∧ w = w' := fun w hL => by
    have h := on_any (Sp.on 0 FS.data.toList) (GS ++ more) w hL (Sp.on_lt _ _) (by rw [ByteArray.size_append]; omega)
    rw [Sp.on_append _ _ _ (by omega), Wp.data_append] at h
    exact h
  generalize Sp.on 0 (FS.data.toList ++ (GS.data.toList ++ more.data.toList)) = x1 at *
  generalize Sp.on 0 FS.data.toList = x2 at *
  have D1 := Lib.hid d1
  have D2 := Lib.hid d2
  have D3 := Lib.hid d3
  clear hL aa ab c5 c6 c7 c8 s2 d1 d2 d3
  go_enter Tryd.func8, Tryd.ntmps8
  go_wp2_with fail
  refine (begins_any _).mono ?_
  rintro e w1 ⟨rfl, b1⟩
  have a1 := b1
  go_wp2_with fail
  refine (HH.h1 _ (Aa.out.below a1)).mono ?_
  rintro e w2 ⟨rfl, b2⟩
  have a2 := below_then a1 b2 a1.size
  go_wp2_with fail
  refine (HH.h2 _ (Ab.out.below a2)).mono ?_
  rintro e w3 ⟨rfl, b3⟩
  have a3 := below_then a2 b3 a2.size
  go_wp2_with fail
  refine (HH.h3 _ (HL.out.below a3)).mono ?_
  rintro e w4 ⟨rfl, b4⟩
  have a4 := below_then a3 b4 a3.size
  go_wp2_with fail
  refine (HH.h4 _ (HL.out.below a4)).mono ?_
  rintro e w5 ⟨rfl, b5⟩
  have a5 := below_then a4 b5 a4.size
  go_wp2_with fail
  have HL5 := Lib.hid (HL.out.below a5)
  refine (C5.out _ HL5.out).mono ?_
  rintro e w6 ⟨rfl, b6⟩
  have a6 := below_then a5 b6 a5.size
  go_wp2_with fail
  refine (C6.out _ (HL.out.below a6)).mono ?_
  rintro e w7 ⟨rfl, b7⟩
  have a7 := below_then a6 b7 a6.size
  go_wp2_with fail
  refine (C7.out _).mono ?_
  rintro e w8 ⟨p8, k8, rfl, h8, b8⟩
  have H8 := Lib.hid h8
  clear h8
  have a8 := below_then a7 b8 a7.size
  go_wp2_with fail
  refine (C8.out _).mono ?_
  rintro e w9 ⟨p9, k9, rfl, h9, b9⟩
  have H9 := Lib.hid h9
  clear h9
  have a9 := below_then a8 b9 a8.size
  go_wp2_with fail
  refine (S2.out _ _ _ _ _ (H8.out.below b9) (Aa.out.below a9)).mono ?_
  rintro e w10 ⟨rfl, b10⟩
  have a10 := below_then a9 b10 a9.size
  have X9 := Lib.hid (H9.out.below b10)
  have Xb := Lib.hid (Ab.out.below a10)
  go_wp2_with fail
  go_loopw [27, 134] (fun _ t wr => ∃ k : Nat, k ≤ b.length ∧ t = .int .i64 k ∧ Below w10.heap.size w10 wr) (fun _ t _ => b.length - (intOf t).toNat)
  case atStart => exact ⟨0, Nat.zero_le _, rfl, Below.refl _ _⟩
  case round =>
    obtain ⟨k, hk, rfl, hB⟩ := hrel
    by_cases hlt : k < b.length
    · obtain ⟨bk1, o1, rfl, hc1⟩ := (X9.out.below hB).get k hlt
      obtain ⟨bk2, o2, rfl, hc2⟩ := (Xb.out.below hB).get k hlt
      obtain ⟨x, hx⟩ : ∃ x, x = b[k] := ⟨_, rfl⟩
      rw [← hx] at hc1 hc2
      simp only [Wp.mkN] at hc1 hc2
      have hlt2 : (k : Int) < (b.length : Int) := by omega
      have hk0 : (0 : Int) ≤ (k : Int) := by omega
      clear hx
      go_wp2_with fail
      go_quiet (fail)
      go_wp2_with fail
      refine ⟨⟨k + 1, by omega, by go_num, below_drewN hB _⟩, by simp [intOf]; omega⟩
    · obtain rfl : k = b.length := by omega
      have a11 := a10.trans (hB.mono a10.size)
      have HL11 := Lib.hid (HL.out.below a11)
      have hb2 := (Below.refl wr.heap.size wr).alloc (Nat.le_refl _) (.cells #[.string FS, .string GS, .string more] 9)
      have HL12 := Lib.hid (HL11.out.below hb2)
      go_wp2_with fail
      refine (D1.out _ _ HL12.out (A1.out _)).mono ?_
      rintro e w12 ⟨rfl, rfl⟩
      go_wp2_with fail
      refine (D2.out _ HL12.out).mono ?_
      rintro e w13 ⟨rfl, rfl⟩
      go_wp2_with fail
      refine (D3.out _ HL12.out).mono ?_
      rintro e w14 ⟨rfl, rfl⟩
      go_wp2_with fail
      go_ret
      exact ⟨rfl, a11.alloc a11.size _⟩
end Go.Proofs.YtdhiekhinimohaaDoor
