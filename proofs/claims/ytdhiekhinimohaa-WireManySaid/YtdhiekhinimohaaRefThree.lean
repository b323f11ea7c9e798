/-
  The walks of the document's own answers for lists (bellmanref01: Nums, Texts): each hands back what Wp's plain functions say. Conditions: numbers fit 64 bits, texts take at most 2^48 bytes.
-/
import Derived.Test.YtdhiekhinimohaaWrap
namespace Go.Proofs.Ytdhiekhinimohaa
open Go.RowKit

set_option maxHeartbeats 1000000 in
theorem rnums_any (p : Option Addr) (c : Nat) (l : List Int) (w : World) (hm : l.length ≤ 9223372036854775807) (hl : Wp.At Wp.mkN w p l) (hx : ∀ x ∈ l, Wp.I64 x) :
    Calls Try.prog 18 #[.slice p l.length c] w fun e w' => e = .returned (.tuple #[.string (Wp.B (Wp.numsR l).1), .int .i64 (Wp.numsR l).2]) ∧ Below w.heap.size w w' := by
  by_cases h : 1024 < l.length
  · rw [show Wp.numsR l = ([], 12) from if_pos h]
    generalize l.length = n at *
    clear hl
    go_enter Try.func18, Try.ntmps18
    go_wp2_with fail
    go_ret2
    exact ⟨rfl, Below.refl _ _⟩
  · have hR : Wp.numsR l = (Wp.listB Wp.numB l, 0) := if_neg h
    have hfl : ∀ k, k ≤ l.length → (Wp.B (Wp.numB l.length ++ Wp.flat Wp.numB (l.take k))).size ≤ 9 + 1024 * 9 := by
      intro k hk
      have h1 := Wp.flat_len Wp.numB 9 (l.take k) (fun x _ => Wp.numB_len x)
      have h2 := Wp.numB_len l.length
      have h3 : (l.take k).length ≤ 1024 := by rw [List.length_take]; omega
      have h4 : (l.take k).length * 9 ≤ 1024 * 9 := Nat.mul_le_mul_right _ h3
      rw [Wp.B_size, List.length_append]
      omega
    have H1 := Lib.hid hl
    have HR := Lib.hid hR
    have Hx := Lib.hid hx
    have Hfl := Lib.hid hfl
    obtain ⟨n, hn⟩ : ∃ n, n = l.length := ⟨_, rfl⟩
    have Hn := Lib.hid hn
    rw [← hn] at hm h Hfl ⊢
    clear hl hn hx hR hfl
    go_enter Try.func18, Try.ntmps18
    go_wp2_with fail
    refine (rnum_any _ _ (by omega) (by omega)).mono ?_
    rintro e w1 ⟨rfl, hb⟩
    go_wp2_with fail
    go_loopw [4, 6, 15] (fun t4 _ t wr => ∃ k : Nat, k ≤ n ∧ t = .int .i64 k ∧ t4 = .string (Wp.B (Wp.numB n ++ Wp.flat Wp.numB (l.take k))) ∧ Below w.heap.size w wr) (fun _ _ t _ => n - (intOf t).toNat)
    case atStart => exact ⟨0, Nat.zero_le _, rfl, by rw [List.take_zero]; simp [Wp.flat], hb⟩
    case round =>
      obtain ⟨k, hk, rfl, rfl, hB⟩ := hrel
      by_cases hlt : k < n
      · have hkl : k < l.length := by rw [← Hn.out]; exact hlt
        obtain ⟨b1, o1, rfl, hc1⟩ := (H1.out.below hB).get k hkl
        have hi64 := Hx.out l[k] (List.getElem_mem _)
        have hsn := Wp.flat_snoc Wp.numB l k hkl
        obtain ⟨x, hx⟩ : ∃ x, x = l[k] := ⟨_, rfl⟩
        rw [← hx] at hc1 hi64 hsn
        simp only [Wp.mkN] at hc1
        have i1 := hi64.1
        have i2 := hi64.2
        have hz := Hfl.out k hk
        have hz9 := Wp.numB_len x
        rw [← Wp.B_size] at hz9
        have hst : Wp.B (Wp.numB n ++ Wp.flat Wp.numB (l.take k)) ++ Wp.B (Wp.numB x) = Wp.B (Wp.numB n ++ Wp.flat Wp.numB (l.take (k + 1))) := by
          rw [Wp.B_append, Wp.B_data, hsn, List.append_assoc]
        have Hst := Lib.hid hst
        clear hx hkl hsn hst hi64
        obtain ⟨S, hS⟩ : ∃ S, S = Wp.B (Wp.numB n ++ Wp.flat Wp.numB (l.take k)) := ⟨_, rfl⟩
        rw [← hS] at Hst hz ⊢
        clear hS
        go_wp2_with fail
        refine (rnum_any _ _ i1 i2).mono ?_
        rintro e w2 ⟨rfl, hb2⟩
        go_wp2_with fail
        refine ⟨⟨k + 1, by omega, by go_num, by rw [Hst.out], hB.trans (hb2.mono hB.size)⟩, by simp [intOf]; omega⟩
      · obtain rfl : k = n := by omega
        go_wp2_with fail
        go_ret2
        refine ⟨?_, hB⟩
        rw [HR.out]
        rw [show Wp.listB Wp.numB l = Wp.numB k ++ Wp.flat Wp.numB (l.take k) by rw [Hn.out, List.take_length]; rfl]
        rfl

set_option maxHeartbeats 1000000 in
theorem rtexts_any (p : Option Addr) (c : Nat) (l : List ByteArray) (w : World) (hm : l.length ≤ 9223372036854775807) (hl : Wp.At Wp.mkT w p l) (hx : ∀ x ∈ l, x.size ≤ 281474976710656) :
    Calls Try.prog 22 #[.slice p l.length c] w fun e w' => e = .returned (.tuple #[.string (Wp.B (Wp.textsR l).1), .int .i64 (Wp.textsR l).2]) ∧ Below w.heap.size w w' := by
  by_cases h : 1024 < l.length
  · rw [show Wp.textsR l = ([], 12) from if_pos (by simp [Wp.longs, h])]
    generalize l.length = n at *
    clear hl
    go_enter Try.func22, Try.ntmps22
    go_wp2_with fail
    go_ret2
    exact ⟨rfl, Below.refl _ _⟩
  · have hR : Wp.textsR l = if (l.any fun x => decide (4096 < x.size)) then ([], 12) else (Wp.listB Wp.textBs l, 0) := by
      unfold Wp.textsR Wp.longs
      rw [show decide (1024 < l.length) = false by simpa using h, Bool.false_or]
    have hfl : ∀ k, k ≤ l.length → (∀ j (h : j < l.length), j < k → l[j].size ≤ 4096) → (Wp.B (Wp.numB l.length ++ Wp.flat Wp.textBs (l.take k))).size ≤ 9 + 1024 * 4105 := by
      intro k hk hg
      have h1 := Wp.flat_len Wp.textBs 4105 (l.take k) (fun x hx => by
        obtain ⟨j, hj, rfl⟩ := List.getElem_of_mem hx
        rw [List.length_take] at hj
        rw [List.getElem_take]
        have := hg j (by omega) (by omega)
        have h5 := Wp.textB_len l[j].data.toList
        rw [← Wp.size_len] at h5
        unfold Wp.textBs
        omega)
      have h2 := Wp.numB_len l.length
      have h3 : (l.take k).length ≤ 1024 := by rw [List.length_take]; omega
      have h4 : (l.take k).length * 4105 ≤ 1024 * 4105 := Nat.mul_le_mul_right _ h3
      rw [Wp.B_size, List.length_append]
      omega
    have H1 := Lib.hid hl
    have HR := Lib.hid hR
    have Hx := Lib.hid hx
    have Hfl := Lib.hid hfl
    obtain ⟨n, hn⟩ : ∃ n, n = l.length := ⟨_, rfl⟩
    have Hn := Lib.hid hn
    rw [← hn] at hm h ⊢
    clear hl hn hx hR hfl
    go_enter Try.func22, Try.ntmps22
    go_wp2_with fail
    refine (rnum_any _ _ (by omega) (by omega)).mono ?_
    rintro e w1 ⟨rfl, hb⟩
    go_wp2_with fail
    go_loopw [4, 6, 7, 8, 17] (fun t4 _ _ _ t wr => ∃ k : Nat, k ≤ n ∧ t = .int .i64 k ∧ t4 = .string (Wp.B (Wp.numB n ++ Wp.flat Wp.textBs (l.take k))) ∧ (∀ j (h : j < l.length), j < k → l[j].size ≤ 4096) ∧ Below w.heap.size w wr) (fun _ _ _ _ t _ => n - (intOf t).toNat)
    case atStart => exact ⟨0, Nat.zero_le _, rfl, by rw [List.take_zero]; simp [Wp.flat], fun j _ h => absurd h (Nat.not_lt_zero _), hb⟩
    case round =>
      obtain ⟨k, hk, rfl, rfl, hgood, hB⟩ := hrel
      have Hgood := Lib.hid hgood
      clear hgood
      by_cases hlt : k < n
      · have hkl : k < l.length := by rw [← Hn.out]; exact hlt
        obtain ⟨b1, o1, rfl, hc1⟩ := (H1.out.below hB).get k hkl
        have hsx := Hx.out l[k] (List.getElem_mem _)
        have hsn := Wp.flat_snoc Wp.textBs l k hkl
        have hgood2 := fun (h : l[k].size ≤ 4096) => (fun j (hj : j < l.length) (h2 : j < k + 1) => (if e : j = k then by subst e; exact h else Hgood.out j hj (by omega)) : ∀ j (hj : j < l.length), j < k + 1 → l[j].size ≤ 4096)
        have Hgood2 := Lib.hid hgood2
        have hbad : 4096 < l[k].size → Wp.textsR l = ([], 12) := fun h => by
          rw [HR.out, if_pos]
          rw [List.any_eq_true]
          exact ⟨l[k], List.getElem_mem _, by simpa using h⟩
        have Hbad := Lib.hid hbad
        obtain ⟨x, hx⟩ : ∃ x, x = l[k] := ⟨_, rfl⟩
        rw [← hx] at hc1 hsx hsn Hgood2 Hbad
        simp only [Wp.mkT] at hc1
        have hz := Hfl.out k (by rw [← Hn.out]; exact hk) Hgood.out
        rw [← Hn.out] at hz
        have hcall := fun w => rtext_any x w hsx
        have htb := Wp.textB_len x.data.toList
        rw [← Wp.size_len, ← Wp.B_size] at htb
        have hst : Wp.B (Wp.numB n ++ Wp.flat Wp.textBs (l.take k)) ++ Wp.B (Wp.textB x.data.toList) = Wp.B (Wp.numB n ++ Wp.flat Wp.textBs (l.take (k + 1))) := by
          rw [Wp.B_append, Wp.B_data, hsn, List.append_assoc]; rfl
        have Hst := Lib.hid hst
        clear hx hkl hsn hst hgood2 hbad
        obtain ⟨S, hS⟩ : ∃ S, S = Wp.B (Wp.numB n ++ Wp.flat Wp.textBs (l.take k)) := ⟨_, rfl⟩
        rw [← hS] at Hst hz ⊢
        clear hS
        by_cases hlong : 4096 < x.size
        · rw [if_pos hlong] at hcall
          go_wp2_with fail
          refine (hcall _).mono ?_
          rintro e w2 ⟨rfl, hb2⟩
          go_wp2_with fail
          go_ret2
          refine ⟨?_, hB.trans (hb2.mono hB.size)⟩
          rw [Hbad.out hlong]
          rfl
        · rw [if_neg hlong] at hcall
          go_wp2_with fail
          refine (hcall _).mono ?_
          rintro e w2 ⟨rfl, hb2⟩
          go_wp2_with fail
          refine ⟨⟨k + 1, by omega, by go_num, by rw [Hst.out], Hgood2.out (by omega), hB.trans (hb2.mono hB.size)⟩, by simp [intOf]; omega⟩
      · obtain rfl : k = n := by omega
        go_wp2_with fail
        go_ret2
        refine ⟨?_, hB⟩
        rw [HR.out, if_neg (by
          rw [List.any_eq_true]
          rintro ⟨x, hx, hl⟩
          obtain ⟨j, hj, rfl⟩ := List.getElem_of_mem hx
          have := Hgood.out j hj (by rw [← Hn.out] at hj; exact hj)
          simp at hl
          omega)]
        rw [show Wp.listB Wp.textBs l = Wp.numB k ++ Wp.flat Wp.textBs (l.take k) by rw [Hn.out, List.take_length]; rfl]
        rfl
end Go.Proofs.Ytdhiekhinimohaa
