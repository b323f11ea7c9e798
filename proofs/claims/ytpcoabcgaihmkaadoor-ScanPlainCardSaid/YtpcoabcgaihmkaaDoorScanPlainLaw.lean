/-
  The law ScanPlain: whatever the text, it hands back true. Conditions: a text of a size that a machine holds; the words' table reads as it is laid, the search's limit is set.
-/
import Derived.Test.YtpcoabcgaihmkaaDoorScLives
namespace Go.Proofs.YtpcoabcgaihmkaaDoor
open Go.RowKit Go.Shelf

theorem Sc.occ_oo (s : ByteArray) (h : ∀ j (h1 : j + 1 < s.size), ¬ (s[j].toNat = 123 ∧ s[j + 1].toNat = 123)) : ∀ j, j ≤ s.data.toList.length → Lib.occAt s.data.toList Sc.oo j = false := by
  intro j hj
  cases hc : Lib.occAt s.data.toList Sc.oo j with
  | false => rfl
  | true =>
    exfalso
    unfold Lib.occAt at hc
    obtain ⟨r, hr⟩ := List.isPrefixOf_iff_prefix.1 hc
    have hlen := congrArg List.length hr
    rw [List.length_drop, List.length_append] at hlen
    have h2 : Sc.oo.length = 2 := rfl
    have hsz := Wp.size_len s
    have hj1 : j + 1 < s.size := by omega
    refine h j hj1 ⟨?_, ?_⟩
    · have e : (s.data.toList.drop j)[0]? = some 123 := by rw [← hr]; rfl
      rw [List.getElem?_drop, Nat.add_zero, List.getElem?_eq_getElem (by omega)] at e
      rw [← Wp.getElem_data s j (by omega), Option.some.inj e]
      rfl
    · have e : (s.data.toList.drop j)[1]? = some 123 := by rw [← hr]; rfl
      rw [List.getElem?_drop, List.getElem?_eq_getElem (by omega)] at e
      rw [← Wp.getElem_data s (j + 1) hj1, Option.some.inj e]
      rfl
theorem Sc.plain_toks {l : List UInt8} (h : ∀ j, j ≤ l.length → Lib.occAt l Sc.oo j = false) : Sc.toksR l = if 1024 < l.length then ([], 12) else (Sc.pre l, 0) := by
  unfold Sc.toksR
  rw [show Sc.toksP (l.length + 1) l = some (Sc.pre l) by
    unfold Sc.toksP
    rw [Sc.cut_none h]
    rfl]
set_option maxRecDepth 100000 in
set_option maxHeartbeats 2000000 in
theorem scanPlain_law (s : ByteArray) (w : World) (hs : s.size ≤ 140737488351232) (hT : Sc.Laid w) (hM : Sc.MaxLen w) :
    Calls Tryd.prog 6 #[.string s] w fun e w' => e = .returned (.bool true) ∧ Below w.heap.size w w' := by
  have HLv := Lib.hid (lives10_any w hT hM)
  have HTk : Hid (∀ W, Below w.heap.size w W → Calls Tryd.prog 8 #[.string s] W (Sc.ToksPost (Sc.toksR s.data.toList) W)) := Lib.hid (fun W h => scTokens_any s W (by omega) (hT.below h) (hM.below h))
  have HPl := Lib.hid (fun h => Sc.plain_toks (Sc.occ_oo s h))
  have HZ := Lib.hid (Wp.size_len s)
  have HE := Lib.hid (Sc.empty_b s)
  clear hT hM
  go_enter Tryd.func6, Tryd.ntmps6
  go_wp2_with fail
  refine HLv.out.mono ?_
  rintro e w1 ⟨rfl, b1⟩
  have B1 := Lib.hid b1
  clear b1 HLv
  go_wp2_with fail
  go_loop [3] (fun t => ∃ k : Nat, k ≤ s.size ∧ t = .int .i64 k ∧ Hid (∀ j (_ : j < k) (h1 : j + 1 < s.size), ¬ (s[j].toNat = 123 ∧ s[j + 1].toNat = 123))) (fun t => s.size - (intOf t).toNat)
  case atStart => exact ⟨0, Nat.zero_le _, rfl, Lib.hid (fun j h => absurd h (Nat.not_lt_zero j))⟩
  case round =>
    obtain ⟨k, hk, rfl, HN⟩ := hrel
    by_cases hlt : k + 1 < s.size
    · have hlt0 : k < s.size := by omega
      by_cases h1 : s[k].toNat = 123
      · have e1 : ((s[k].toNat : Int) == 123) = true := by rw [h1]; rfl
        by_cases h2 : s[k + 1].toNat = 123
        · have e2 : ((s[k + 1].toNat : Int) == 123) = true := by rw [h2]; rfl
          clear h1 h2
          go_wp2_with fail
          go_ret
          exact ⟨rfl, B1.out⟩
        · have e2 : ((s[k + 1].toNat : Int) == 123) = false := beq_eq_false_iff_ne.2 (by omega)
          have HN2 := Lib.hid (show ∀ j (_ : j < k + 1) (h1 : j + 1 < s.size), ¬ (s[j].toNat = 123 ∧ s[j + 1].toNat = 123) from fun j hj hj1 hc => by
            by_cases h : j < k
            · exact HN.out j h hj1 hc
            · obtain rfl : j = k := by omega
              exact h2 hc.2)
          clear h1 h2
          go_wp2_with fail
          exact ⟨⟨k + 1, by omega, by go_num, HN2⟩, by simp [intOf]; omega⟩
      · have e1 : ((s[k].toNat : Int) == 123) = false := beq_eq_false_iff_ne.2 (by omega)
        have HN2 := Lib.hid (show ∀ j (_ : j < k + 1) (h1 : j + 1 < s.size), ¬ (s[j].toNat = 123 ∧ s[j + 1].toNat = 123) from fun j hj hj1 hc => by
          by_cases h : j < k
          · exact HN.out j h hj1 hc
          · obtain rfl : j = k := by omega
            exact h1 hc.1)
        clear h1
        go_wp2_with fail
        exact ⟨⟨k + 1, by omega, by go_num, HN2⟩, by simp [intOf]; omega⟩
    · have hR := HPl.out (fun j hj1 => HN.out j (by omega) hj1)
      have HC := Lib.hid (HTk.out _ B1.out)
      rw [hR] at HC
      clear hR HPl HTk HN
      have hzl := HZ.out
      by_cases hlong : 1024 < s.size
      · rw [if_pos (by omega)] at HC
        clear hzl
        go_wp2_with fail
        refine HC.out.mono ?_
        rintro e w2 ⟨v, rfl, -, b2⟩
        have B2 := Lib.hid (B1.out.trans (b2.mono B1.out.size))
        clear b2 HC
        go_wp2_with fail
        go_ret
        exact ⟨rfl, B2.out⟩
      · rw [if_neg (by omega)] at HC
        by_cases h0 : s.size = 0
        · have hnil : s.data.toList = [] := List.length_eq_zero_iff.1 (by omega)
          rw [hnil] at HC
          have q := HE.out.1
          rw [decide_eq_true h0] at q
          clear hzl hnil h0
          go_wp2_with fail
          refine HC.out.mono ?_
          rintro e w2 ⟨v, rfl, hO, b2⟩
          have B2 := Lib.hid (B1.out.trans (b2.mono B1.out.size))
          obtain ⟨p, c, hv, -, -⟩ := hO.at
          obtain rfl : v = .slice p 0 c := hv
          clear b2 HC hO
          go_wp2_with fail
          go_ret
          exact ⟨rfl, B2.out⟩
        · have hne : s.data.toList ≠ [] := fun h => h0 (by rw [h] at hzl; exact hzl)
          rw [show Sc.pre s.data.toList = [⟨1, s, []⟩] by unfold Sc.pre; rw [if_neg hne, Wp.B_of]] at HC
          have q := HE.out.1
          rw [decide_eq_false h0] at q
          clear hzl hne h0
          go_wp2_with fail
          refine HC.out.mono ?_
          rintro e w2 ⟨v, rfl, hO, b2⟩
          have B2 := Lib.hid (B1.out.trans (b2.mono B1.out.size))
          obtain ⟨p, c, hv, -, hA⟩ := hO.at
          obtain rfl : v = .slice p 1 c := hv
          obtain ⟨b, off, a0, a1, a2, rfl, ⟨x0, x1, -⟩, y0, hy0, pn0, cn0, he0, -⟩ := hA 0 (by show 0 < 1; omega)
          cases hy0
          cases he0
          have q0 : w2.cell? ⟨b, off, none⟩ = some (.int .u8 1) := x0
          have q1 : w2.cell? ⟨b, off + 1, none⟩ = some (.string s) := x1
          clear b2 HC hO hA x0 x1
          go_wp2_with fail
          go_ret
          exact ⟨rfl, B2.out⟩
end Go.Proofs.YtpcoabcgaihmkaaDoor
