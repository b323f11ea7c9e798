/-
  The law ScanBack: whatever the tokens and the text, it hands back true. Conditions: the tokens' texts and the text are of a size that the walks hold; the words' table reads as it is laid, the search's limit is set.
-/
import Derived.Test.YtpcoabcgaihmkaaDoorScLives
import Derived.Test.YtpcoabcgaihmkaaDoorScSameW
namespace Go.Proofs.YtpcoabcgaihmkaaDoor
open Go.RowKit Go.Shelf

namespace Sc
theorem write_toks {l : List T} (h : (writeR l).2 = 0) : toksR (writeR l).1 = (l, 0) := by
  unfold writeR at h ⊢
  by_cases h1 : okTs l = true
  · rw [if_pos h1] at h ⊢
    by_cases h2 : 1024 < (srcs l).length
    · rw [if_pos h2] at h; exact absurd h (by decide)
    · rw [if_neg h2]
      unfold toksR
      show (if 1024 < (srcs l).length then _ else _) = _
      rw [if_neg h2]
      dsimp only
      rw [toks_write l h1 _ (Nat.lt_succ_self _)]
  · rw [if_neg h1] at h; exact absurd h (by decide)
theorem write_why (l : List T) : (writeR l).2 = 0 ∨ (writeR l).2 = 2 ∨ (writeR l).2 = 12 := by
  unfold writeR
  split
  · split
    · exact Or.inr (Or.inr rfl)
    · exact Or.inl rfl
  · exact Or.inr (Or.inl rfl)
theorem write_len (l : List T) : (writeR l).1.length ≤ 1024 := by
  unfold writeR
  split
  · split
    · exact Nat.zero_le _
    · show (srcs l).length ≤ 1024; omega
  · exact Nat.zero_le _
theorem src_len {t : T} (h : okT t = true) : 1 ≤ (srcT t).length ∧ t.text.size ≤ (srcT t).length := by
  by_cases h1 : t.kind = 1
  · obtain ⟨-, h2, -⟩ := okT_text h h1
    unfold srcT
    rw [if_pos h1, Wp.size_len]
    exact ⟨by cases e : t.text.data.toList with | nil => exact absurd e h2 | cons a b => simp, Nat.le_refl _⟩
  · obtain ⟨h2, -⟩ := okT_tag h h1
    have h3 : t.text.size = 0 := by rw [h2]; rfl
    unfold srcT
    rw [if_neg h1]
    exact ⟨by simp [oo], by omega⟩
theorem srcs_lens : ∀ {l : List T}, l.all okT = true → l.length ≤ (srcs l).length ∧ ∀ t ∈ l, t.text.size ≤ (srcs l).length
  | [], _ => ⟨Nat.le_refl _, by simp⟩
  | a :: r, h => by
    rw [List.all_cons, Bool.and_eq_true] at h
    obtain ⟨i1, i2⟩ := srcs_lens h.2
    obtain ⟨j1, j2⟩ := src_len h.1
    have e : (srcs (a :: r)).length = (srcT a).length + (srcs r).length := by simp [srcs]
    refine ⟨by rw [e, List.length_cons]; omega, fun t ht => ?_⟩
    rcases List.mem_cons.1 ht with rfl | ht
    · omega
    · have := i2 t ht; omega
theorem toks_cases (s : List UInt8) : (toksR s).1 = [] ∧ ((toksR s).2 = 7 ∨ (toksR s).2 = 12) ∨ (toksR s).2 = 0 ∧ chkTs (toksR s).1 = 0 ∧ writeR (toksR s).1 = (srcs (toksR s).1, 0) ∧ (srcs (toksR s).1).length ≤ s.length ∧ (srcs (toksR s).1).length ≤ 1024 ∧ toksR (srcs (toksR s).1) = ((toksR s).1, 0) ∧ (toksR s).1.length ≤ 1024 ∧ ∀ t ∈ (toksR s).1, t.text.size ≤ 4000000000 := by
  by_cases hl : 1024 < s.length
  · left; unfold toksR; rw [if_pos hl]; exact ⟨rfl, Or.inr rfl⟩
  · cases hp : toksP (s.length + 1) s with
    | none => left; unfold toksR; rw [if_neg hl, hp]; exact ⟨rfl, Or.inl rfl⟩
    | some r =>
      right
      obtain ⟨h1, h2⟩ := toks_ok _ _ _ hp
      have e : toksR s = (r, 0) := by unfold toksR; rw [if_neg hl, hp]
      rw [e]
      show (0 : Int) = 0 ∧ chkTs r = 0 ∧ writeR r = (srcs r, 0) ∧ (srcs r).length ≤ s.length ∧ (srcs r).length ≤ 1024 ∧ toksR (srcs r) = (r, 0) ∧ r.length ≤ 1024 ∧ ∀ t ∈ r, t.text.size ≤ 4000000000
      have hw : writeR r = (srcs r, 0) := by unfold writeR; rw [if_pos h1, if_neg (by omega)]
      have h3 : r.all okT = true := by unfold okTs at h1; rw [Bool.and_eq_true] at h1; exact h1.1
      obtain ⟨l1, l2⟩ := srcs_lens h3
      refine ⟨rfl, by unfold chkTs; rw [if_pos h1], hw, h2, by omega, ?_, by omega, fun t ht => by have := l2 t ht; omega⟩
      have := write_toks (l := r) (by rw [hw])
      rw [hw] at this
      exact this
end Sc
set_option maxRecDepth 100000 in
set_option maxHeartbeats 4000000 in
theorem scanBack_law (p : Option Addr) (c : Nat) (l : List Sc.T) (s : ByteArray) (w : World) (hA : Sc.At w p l) (hl : l.length ≤ 140737488351232) (hts : ∀ t ∈ l, t.text.size ≤ 4000000000) (hs : s.size ≤ 900000000000000) (hT : Sc.Laid w) (hM : Sc.MaxLen w) :
    Calls Tryd.prog 5 #[.slice p l.length c, .string s] w fun e w' => e = .returned (.bool true) ∧ Below w.heap.size w w' := by
  have HLv := Lib.hid (lives10_any w hT hM)
  have HW1 : Hid (∀ W, Below w.heap.size w W → Calls Tryd.prog 15 #[.slice p l.length c] W fun e w' => e = .returned (.tuple #[.string (Wp.B (Sc.writeR l).1), .int .i64 (Sc.writeR l).2]) ∧ Below W.heap.size W w') := Lib.hid (fun W h => scWrite_any l p c W (hA.below h) hl hts (hT.below h) (hM.below h))
  have HT1 : Hid (∀ W, Below w.heap.size w W → Calls Tryd.prog 8 #[.string (Wp.B (Sc.writeR l).1)] W (Sc.ToksPost (Sc.toksR (Sc.writeR l).1) W)) := Lib.hid (fun W h => by
    have := scTokens_any (Wp.B (Sc.writeR l).1) W (by rw [Wp.B_size]; have := Sc.write_len l; omega) (hT.below h) (hM.below h)
    rw [Wp.B_data] at this
    exact this)
  have HSm : Hid (∀ W q d, Below w.heap.size w W → Sc.At W q l → Calls Tryd.prog 13 #[.slice q l.length d, .slice p l.length c] W fun e w' => e = .returned (.bool true) ∧ Below W.heap.size W w') := Lib.hid (fun W q d h hq => refSame_any l q p d c W hl hq (hA.below h))
  have HT2 : Hid (∀ W, Below w.heap.size w W → Calls Tryd.prog 8 #[.string s] W (Sc.ToksPost (Sc.toksR s.data.toList) W)) := Lib.hid (fun W h => scTokens_any s W hs (hT.below h) (hM.below h))
  have hC := Sc.toks_cases s.data.toList
  have hWT := @Sc.write_toks l
  have hWY := Sc.write_why l
  rw [← Wp.size_len] at hC
  have HTb := Lib.hid (fun (W : World) (h : Below w.heap.size w W) => hT.below h)
  have HMb := Lib.hid (fun (W : World) (h : Below w.heap.size w W) => hM.below h)
  generalize Sc.toksR s.data.toList = R at *
  generalize Sc.writeR l = Q at *
  obtain ⟨u, why⟩ := Q
  obtain ⟨m, ok⟩ := R
  obtain ⟨n, hn⟩ : ∃ n, n = l.length := ⟨_, rfl⟩
  rw [← hn] at hl HW1 HSm ⊢
  have HN := Lib.hid hn
  have HWT := Lib.hid hWT
  have HC := Lib.hid hC
  clear hA hts hT hM hn hWT hC
  change why = 0 ∨ why = 2 ∨ why = 12 at hWY
  go_enter Tryd.func5, Tryd.ntmps5
  go_wp2_with fail
  refine HLv.out.mono ?_
  rintro e w1 ⟨rfl, b1⟩
  have B1 := Lib.hid b1
  clear b1 HLv
  go_wp2_with fail
  refine (HW1.out _ B1.out).mono ?_
  rintro e w2 ⟨rfl, b2⟩
  have B2 := Lib.hid (B1.out.trans (b2.mono B1.out.size))
  clear b2 HW1 B1
  rcases hWY with rfl | rfl | rfl
  · have hq := HWT.out rfl
    change Sc.toksR u = (l, 0) at hq
    have HT1' : Hid (∀ W, Below w.heap.size w W → Calls Tryd.prog 8 #[.string (Wp.B u)] W (Sc.ToksPost (l, 0) W)) := Lib.hid (fun W h => by
      have := HT1.out W h
      rw [hq] at this
      exact this)
    clear HT1 hq
    go_wp2_with fail
    refine (HT1'.out _ B2.out).mono ?_
    rintro e w3 ⟨v3, rfl, hO3, b3⟩
    have B3 := Lib.hid (B2.out.trans (b3.mono B2.out.size))
    obtain ⟨p3, c3, hv3, -, hA3⟩ := hO3.at
    obtain rfl : v3 = .slice p3 n c3 := by rw [HN.out]; exact hv3
    have HA3 := Lib.hid hA3
    have HT1 := HT1'
    clear b3 hO3 hv3 hA3 B2 HT1'
    go_wp2_with fail
    refine (HSm.out _ p3 c3 B3.out HA3.out).mono ?_
    rintro e w4 ⟨rfl, b4⟩
    have B4 := Lib.hid (B3.out.trans (b4.mono B3.out.size))
    clear b4 HA3 B3
    clear HT1 HSm HWT
    go_wp2_with fail
    refine (HT2.out _ B4.out).mono ?_
    rintro e w5 ⟨v5, rfl, hO5, b5⟩
    have B5 := Lib.hid (B4.out.trans (b5.mono B4.out.size))
    obtain ⟨p5, c5, hv5, -, hA5⟩ := hO5.at
    obtain rfl : v5 = .slice p5 m.length c5 := hv5
    have HA5 := Lib.hid hA5
    clear b5 hO5 hA5 HT2
    rcases HC.out with ⟨hm, hok⟩ | ⟨hok, g1, g2, g3, g4, g5, g6, g7⟩
    · change m = [] at hm
      subst hm
      change ok = 7 ∨ ok = 12 at hok
      clear HC HA5
      rcases hok with rfl | rfl
      · go_wp2_with fail
        go_ret
        exact ⟨rfl, B5.out⟩
      · go_wp2_with fail
        go_ret
        exact ⟨rfl, B5.out⟩
    · change ok = 0 at hok
      subst hok
      change Sc.chkTs m = 0 at g1
      change Sc.writeR m = (Sc.srcs m, 0) at g2
      change (Sc.srcs m).length ≤ s.size at g3
      change (Sc.srcs m).length ≤ 1024 at g4
      change Sc.toksR (Sc.srcs m) = (m, 0) at g5
      change m.length ≤ 1024 at g6
      change ∀ t ∈ m, t.text.size ≤ 4000000000 at g7
      clear HC
      have HW2 := Lib.hid (show Calls Tryd.prog 15 #[.slice p5 m.length c5] w5 fun e w' => e = .returned (.tuple #[.string (Wp.B (Sc.srcs m)), .int .i64 0]) ∧ Below w5.heap.size w5 w' by
        have := scWrite_any m p5 c5 w5 HA5.out (by omega) g7 (HTb.out _ B5.out) (HMb.out _ B5.out)
        rw [g2] at this
        exact this)
      have HT3 : Hid (∀ W, Below w.heap.size w W → Calls Tryd.prog 8 #[.string (Wp.B (Sc.srcs m))] W (Sc.ToksPost (m, 0) W)) := Lib.hid (fun W h => by
        have := scTokens_any (Wp.B (Sc.srcs m)) W (by rw [Wp.B_size]; omega) (HTb.out _ h) (HMb.out _ h)
        rw [Wp.B_data, g5] at this
        exact this)
      have HCk : Hid (∀ W, Below w.heap.size w W → Sc.At W p5 m → Calls Tryd.prog 17 #[.slice p5 m.length c5] W fun e w' => e = .returned (.int .i64 0) ∧ Below W.heap.size W w') := Lib.hid (fun W h hq => by
        have := scCheck_any m p5 c5 W hq (by omega) g7 (HTb.out _ h) (HMb.out _ h)
        rw [g1] at this
        exact this)
      have HS2 : Hid (∀ W q d, Sc.At W q m → Sc.At W p5 m → Calls Tryd.prog 13 #[.slice q m.length d, .slice p5 m.length c5] W fun e w' => e = .returned (.bool true) ∧ Below W.heap.size W w') := Lib.hid (fun W q d h1 h2 => refSame_any m q p5 d c5 W (by omega) h1 h2)
      have hsz : (Wp.B (Sc.srcs m)).size ≤ s.size := by rw [Wp.B_size]; exact g3
      have hsz2 : (Wp.B (Sc.srcs m)).size ≤ 1024 := by rw [Wp.B_size]; exact g4
      obtain ⟨k, hk⟩ : ∃ k, k = m.length := ⟨_, rfl⟩
      have HK := Lib.hid hk
      rw [← hk] at g6 HW2 HCk HS2 ⊢
      generalize Wp.B (Sc.srcs m) = um at *
      have hsi : (um.size : Int) ≤ (s.size : Int) := by omega
      clear g1 g2 g3 g4 g5 g7 hk
      go_wp2_with fail
      refine HW2.out.mono ?_
      rintro e w6 ⟨rfl, b6⟩
      have B6 := Lib.hid (B5.out.trans (b6.mono B5.out.size))
      have HA6 := Lib.hid (HA5.out.below b6)
      clear b6 HW2 B5 HA5
      go_wp2_with fail
      refine (HT3.out _ B6.out).mono ?_
      rintro e w7 ⟨v7, rfl, hO7, b7⟩
      have B7 := Lib.hid (B6.out.trans (b7.mono B6.out.size))
      have HA7 := Lib.hid (HA6.out.below b7)
      obtain ⟨p7, c7, hv7, -, hA7⟩ := hO7.at
      obtain rfl : v7 = .slice p7 k c7 := by rw [HK.out]; exact hv7
      have HB7 := Lib.hid hA7
      clear b7 hO7 hv7 hA7 HT3 HA6 B6
      go_wp2_with fail
      refine (HCk.out _ B7.out HA7.out).mono ?_
      rintro e w8 ⟨rfl, b8⟩
      have B8 := Lib.hid (B7.out.trans (b8.mono B7.out.size))
      have HA8 := Lib.hid (HA7.out.below b8)
      have HB8 := Lib.hid (HB7.out.below b8)
      clear b8 HCk HA7 HB7 B7
      go_wp2_with fail
      refine (HS2.out _ p7 c7 HB8.out HA8.out).mono ?_
      rintro e w9 ⟨rfl, b9⟩
      have B9 := Lib.hid (B8.out.trans (b9.mono B8.out.size))
      clear b9 HS2 HA8 HB8 B8
      go_wp2_with fail
      go_ret
      exact ⟨rfl, B9.out⟩
  · clear HT1 HSm HWT
    go_wp2_with fail
    refine (HT2.out _ B2.out).mono ?_
    rintro e w5 ⟨v5, rfl, hO5, b5⟩
    have B5 := Lib.hid (B2.out.trans (b5.mono B2.out.size))
    obtain ⟨p5, c5, hv5, -, hA5⟩ := hO5.at
    obtain rfl : v5 = .slice p5 m.length c5 := hv5
    have HA5 := Lib.hid hA5
    clear b5 hO5 hA5 HT2
    rcases HC.out with ⟨hm, hok⟩ | ⟨hok, g1, g2, g3, g4, g5, g6, g7⟩
    · change m = [] at hm
      subst hm
      change ok = 7 ∨ ok = 12 at hok
      clear HC HA5
      rcases hok with rfl | rfl
      · go_wp2_with fail
        go_ret
        exact ⟨rfl, B5.out⟩
      · go_wp2_with fail
        go_ret
        exact ⟨rfl, B5.out⟩
    · change ok = 0 at hok
      subst hok
      change Sc.chkTs m = 0 at g1
      change Sc.writeR m = (Sc.srcs m, 0) at g2
      change (Sc.srcs m).length ≤ s.size at g3
      change (Sc.srcs m).length ≤ 1024 at g4
      change Sc.toksR (Sc.srcs m) = (m, 0) at g5
      change m.length ≤ 1024 at g6
      change ∀ t ∈ m, t.text.size ≤ 4000000000 at g7
      clear HC
      have HW2 := Lib.hid (show Calls Tryd.prog 15 #[.slice p5 m.length c5] w5 fun e w' => e = .returned (.tuple #[.string (Wp.B (Sc.srcs m)), .int .i64 0]) ∧ Below w5.heap.size w5 w' by
        have := scWrite_any m p5 c5 w5 HA5.out (by omega) g7 (HTb.out _ B5.out) (HMb.out _ B5.out)
        rw [g2] at this
        exact this)
      have HT3 : Hid (∀ W, Below w.heap.size w W → Calls Tryd.prog 8 #[.string (Wp.B (Sc.srcs m))] W (Sc.ToksPost (m, 0) W)) := Lib.hid (fun W h => by
        have := scTokens_any (Wp.B (Sc.srcs m)) W (by rw [Wp.B_size]; omega) (HTb.out _ h) (HMb.out _ h)
        rw [Wp.B_data, g5] at this
        exact this)
      have HCk : Hid (∀ W, Below w.heap.size w W → Sc.At W p5 m → Calls Tryd.prog 17 #[.slice p5 m.length c5] W fun e w' => e = .returned (.int .i64 0) ∧ Below W.heap.size W w') := Lib.hid (fun W h hq => by
        have := scCheck_any m p5 c5 W hq (by omega) g7 (HTb.out _ h) (HMb.out _ h)
        rw [g1] at this
        exact this)
      have HS2 : Hid (∀ W q d, Sc.At W q m → Sc.At W p5 m → Calls Tryd.prog 13 #[.slice q m.length d, .slice p5 m.length c5] W fun e w' => e = .returned (.bool true) ∧ Below W.heap.size W w') := Lib.hid (fun W q d h1 h2 => refSame_any m q p5 d c5 W (by omega) h1 h2)
      have hsz : (Wp.B (Sc.srcs m)).size ≤ s.size := by rw [Wp.B_size]; exact g3
      have hsz2 : (Wp.B (Sc.srcs m)).size ≤ 1024 := by rw [Wp.B_size]; exact g4
      obtain ⟨k, hk⟩ : ∃ k, k = m.length := ⟨_, rfl⟩
      have HK := Lib.hid hk
      rw [← hk] at g6 HW2 HCk HS2 ⊢
      generalize Wp.B (Sc.srcs m) = um at *
      have hsi : (um.size : Int) ≤ (s.size : Int) := by omega
      clear g1 g2 g3 g4 g5 g7 hk
      go_wp2_with fail
      refine HW2.out.mono ?_
      rintro e w6 ⟨rfl, b6⟩
      have B6 := Lib.hid (B5.out.trans (b6.mono B5.out.size))
      have HA6 := Lib.hid (HA5.out.below b6)
      clear b6 HW2 B5 HA5
      go_wp2_with fail
      refine (HT3.out _ B6.out).mono ?_
      rintro e w7 ⟨v7, rfl, hO7, b7⟩
      have B7 := Lib.hid (B6.out.trans (b7.mono B6.out.size))
      have HA7 := Lib.hid (HA6.out.below b7)
      obtain ⟨p7, c7, hv7, -, hA7⟩ := hO7.at
      obtain rfl : v7 = .slice p7 k c7 := by rw [HK.out]; exact hv7
      have HB7 := Lib.hid hA7
      clear b7 hO7 hv7 hA7 HT3 HA6 B6
      go_wp2_with fail
      refine (HCk.out _ B7.out HA7.out).mono ?_
      rintro e w8 ⟨rfl, b8⟩
      have B8 := Lib.hid (B7.out.trans (b8.mono B7.out.size))
      have HA8 := Lib.hid (HA7.out.below b8)
      have HB8 := Lib.hid (HB7.out.below b8)
      clear b8 HCk HA7 HB7 B7
      go_wp2_with fail
      refine (HS2.out _ p7 c7 HB8.out HA8.out).mono ?_
      rintro e w9 ⟨rfl, b9⟩
      have B9 := Lib.hid (B8.out.trans (b9.mono B8.out.size))
      clear b9 HS2 HA8 HB8 B8
      go_wp2_with fail
      go_ret
      exact ⟨rfl, B9.out⟩
  · clear HT1 HSm HWT
    go_wp2_with fail
    refine (HT2.out _ B2.out).mono ?_
    rintro e w5 ⟨v5, rfl, hO5, b5⟩
    have B5 := Lib.hid (B2.out.trans (b5.mono B2.out.size))
    obtain ⟨p5, c5, hv5, -, hA5⟩ := hO5.at
    obtain rfl : v5 = .slice p5 m.length c5 := hv5
    have HA5 := Lib.hid hA5
    clear b5 hO5 hA5 HT2
    rcases HC.out with ⟨hm, hok⟩ | ⟨hok, g1, g2, g3, g4, g5, g6, g7⟩
    · change m = [] at hm
      subst hm
      change ok = 7 ∨ ok = 12 at hok
      clear HC HA5
      rcases hok with rfl | rfl
      · go_wp2_with fail
        go_ret
        exact ⟨rfl, B5.out⟩
      · go_wp2_with fail
        go_ret
        exact ⟨rfl, B5.out⟩
    · change ok = 0 at hok
      subst hok
      change Sc.chkTs m = 0 at g1
      change Sc.writeR m = (Sc.srcs m, 0) at g2
      change (Sc.srcs m).length ≤ s.size at g3
      change (Sc.srcs m).length ≤ 1024 at g4
      change Sc.toksR (Sc.srcs m) = (m, 0) at g5
      change m.length ≤ 1024 at g6
      change ∀ t ∈ m, t.text.size ≤ 4000000000 at g7
      clear HC
      have HW2 := Lib.hid (show Calls Tryd.prog 15 #[.slice p5 m.length c5] w5 fun e w' => e = .returned (.tuple #[.string (Wp.B (Sc.srcs m)), .int .i64 0]) ∧ Below w5.heap.size w5 w' by
        have := scWrite_any m p5 c5 w5 HA5.out (by omega) g7 (HTb.out _ B5.out) (HMb.out _ B5.out)
        rw [g2] at this
        exact this)
      have HT3 : Hid (∀ W, Below w.heap.size w W → Calls Tryd.prog 8 #[.string (Wp.B (Sc.srcs m))] W (Sc.ToksPost (m, 0) W)) := Lib.hid (fun W h => by
        have := scTokens_any (Wp.B (Sc.srcs m)) W (by rw [Wp.B_size]; omega) (HTb.out _ h) (HMb.out _ h)
        rw [Wp.B_data, g5] at this
        exact this)
      have HCk : Hid (∀ W, Below w.heap.size w W → Sc.At W p5 m → Calls Tryd.prog 17 #[.slice p5 m.length c5] W fun e w' => e = .returned (.int .i64 0) ∧ Below W.heap.size W w') := Lib.hid (fun W h hq => by
        have := scCheck_any m p5 c5 W hq (by omega) g7 (HTb.out _ h) (HMb.out _ h)
        rw [g1] at this
        exact this)
      have HS2 : Hid (∀ W q d, Sc.At W q m → Sc.At W p5 m → Calls Tryd.prog 13 #[.slice q m.length d, .slice p5 m.length c5] W fun e w' => e = .returned (.bool true) ∧ Below W.heap.size W w') := Lib.hid (fun W q d h1 h2 => refSame_any m q p5 d c5 W (by omega) h1 h2)
      have hsz : (Wp.B (Sc.srcs m)).size ≤ s.size := by rw [Wp.B_size]; exact g3
      have hsz2 : (Wp.B (Sc.srcs m)).size ≤ 1024 := by rw [Wp.B_size]; exact g4
      obtain ⟨k, hk⟩ : ∃ k, k = m.length := ⟨_, rfl⟩
      have HK := Lib.hid hk
      rw [← hk] at g6 HW2 HCk HS2 ⊢
      generalize Wp.B (Sc.srcs m) = um at *
      have hsi : (um.size : Int) ≤ (s.size : Int) := by omega
      clear g1 g2 g3 g4 g5 g7 hk
      go_wp2_with fail
      refine HW2.out.mono ?_
      rintro e w6 ⟨rfl, b6⟩
      have B6 := Lib.hid (B5.out.trans (b6.mono B5.out.size))
      have HA6 := Lib.hid (HA5.out.below b6)
      clear b6 HW2 B5 HA5
      go_wp2_with fail
      refine (HT3.out _ B6.out).mono ?_
      rintro e w7 ⟨v7, rfl, hO7, b7⟩
      have B7 := Lib.hid (B6.out.trans (b7.mono B6.out.size))
      have HA7 := Lib.hid (HA6.out.below b7)
      obtain ⟨p7, c7, hv7, -, hA7⟩ := hO7.at
      obtain rfl : v7 = .slice p7 k c7 := by rw [HK.out]; exact hv7
      have HB7 := Lib.hid hA7
      clear b7 hO7 hv7 hA7 HT3 HA6 B6
      go_wp2_with fail
      refine (HCk.out _ B7.out HA7.out).mono ?_
      rintro e w8 ⟨rfl, b8⟩
      have B8 := Lib.hid (B7.out.trans (b8.mono B7.out.size))
      have HA8 := Lib.hid (HA7.out.below b8)
      have HB8 := Lib.hid (HB7.out.below b8)
      clear b8 HCk HA7 HB7 B7
      go_wp2_with fail
      refine (HS2.out _ p7 c7 HB8.out HA8.out).mono ?_
      rintro e w9 ⟨rfl, b9⟩
      have B9 := Lib.hid (B8.out.trans (b9.mono B8.out.size))
      clear b9 HS2 HA8 HB8 B8
      go_wp2_with fail
      go_ret
      exact ⟨rfl, B9.out⟩
end Go.Proofs.YtpcoabcgaihmkaaDoor
