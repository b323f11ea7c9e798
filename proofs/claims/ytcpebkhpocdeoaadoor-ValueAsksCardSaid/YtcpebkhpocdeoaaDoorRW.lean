/-
  The walks of the document's own big, Digits and Show (bellmanref09). Conditions: a number fits 64 bits; a value's texts and lists are of a size that a machine holds.
  The walk of the document's own Show (bellmanref09). Condition: a value's texts and lists are of a size that a machine holds.
-/
import Derived.Test.YtcpebkhpocdeoaaDoorRV
import Derived.Test.YtcpebkhpocdeoaaDoorWireNum
import Derived.Lib.ItoaMem
namespace Go.Proofs.YtcpebkhpocdeoaaDoor
open Go.RowKit

theorem Vl.conv_one (w : World) (x : Int) (b : UInt8) (h : x = b.toNat) :
    (convert 60 9 (.slice (some ⟨w.heap.size, 0, none⟩) 1 1)).run Tryd.prog (w.alloc (.cells #[.int .u8 x] 5)) = .ok (.string (Wp.B [b])) (w.alloc (.cells #[.int .u8 x] 5)) := by
  have := bytes_conv w [b] #[.int .u8 x] 5 (fun j hj => by
    have : j = 0 := by simp at hj; omega
    subst this
    rw [h]; rfl) 1
  exact this
theorem Vl.dec_len : ∀ (k n : Nat), n < 10 ^ (k + 1) → (Lib.decDigits n).length ≤ k + 1
  | 0, n, h => by rw [Lib.decDigits, dif_pos (by omega)]; simp
  | k + 1, n, h => by
    rw [Lib.decDigits]
    split
    · simp
    · have := Vl.dec_len k (n / 10) (by rw [Nat.pow_succ] at h; omega)
      rw [List.length_append, List.length_singleton]
      omega
theorem Vl.dec_big {n : Nat} (h : ¬ n < 10) : Lib.decDigits n = Lib.decDigits (n / 10) ++ [UInt8.ofNat (48 + n % 10)] := by rw [Lib.decDigits, dif_neg h]
theorem Vl.dec_small {n : Nat} (h : n < 10) : Lib.decDigits n = [UInt8.ofNat (48 + n)] := by rw [Lib.decDigits, dif_pos h]
set_option maxRecDepth 100000 in
theorem refBig_step (n : Nat) (w : World) (hn : n < 18446744073709551616)
    (hih : ∀ W, Calls Tryd.prog 52 #[.int .u64 ((n : Int) / 10)] W fun e w' => e = .returned (.string (Wp.B (Lib.decDigits (n / 10)))) ∧ Below W.heap.size W w') :
    Calls Tryd.prog 52 #[.int .u64 (n : Nat)] w fun e w' => e = .returned (.string (Wp.B (Lib.decDigits n))) ∧ Below w.heap.size w w' := by
  have hcv := fun W => Vl.conv_one W (48 + (n : Int) % 10) (UInt8.ofNat (48 + n % 10)) (by simp only [UInt8.toNat_ofNat']; omega)
  have s1 : (Wp.B [UInt8.ofNat (48 + n % 10)]).size ≤ 1 := by rw [Wp.B_size]; simp
  have s2 : (Wp.B (Lib.decDigits (n / 10))).size ≤ 20 := by rw [Wp.B_size]; exact Vl.dec_len 19 _ (by omega)
  have HB := Lib.hid ((Below.refl w.heap.size w).alloc (Nat.le_refl _) (.cells #[.int .u8 (48 + (n : Int) % 10)] 5))
  have ih := Lib.hid hih
  clear hih
  by_cases h : n < 10
  · have HD := Lib.hid (show Wp.B [UInt8.ofNat (48 + n % 10)] = Wp.B (Lib.decDigits n) by rw [Vl.dec_small h, Nat.mod_eq_of_lt h])
    rw [← HD.out]
    clear s2
    generalize Wp.B [UInt8.ofNat (48 + n % 10)] = dg at *
    go_enter Tryd.func52, Tryd.ntmps52
    go_wp2_with fail
    go_ret
    exact ⟨rfl, HB.out⟩
  · have HD := Lib.hid (show Wp.B (Lib.decDigits (n / 10)) ++ Wp.B [UInt8.ofNat (48 + n % 10)] = Wp.B (Lib.decDigits n) by rw [Vl.dec_big h, Wp.B_append, Wp.B_data])
    rw [← HD.out]
    generalize Wp.B [UInt8.ofNat (48 + n % 10)] = dg at *
    generalize Wp.B (Lib.decDigits (n / 10)) = dq at *
    go_enter Tryd.func52, Tryd.ntmps52
    go_wp2_with fail
    refine (ih.out _).mono ?_
    rintro e w1 ⟨rfl, hb⟩
    have HB1 := Lib.hid (HB.out.trans (hb.mono HB.out.size))
    clear hb
    go_wp2_with fail
    go_ret
    exact ⟨rfl, HB1.out⟩
theorem refBig_any (n : Nat) : ∀ (w : World) (z : Int), n < 18446744073709551616 → z = (n : Int) →
    Calls Tryd.prog 52 #[.int .u64 z] w fun e w' => e = .returned (.string (Wp.B (Lib.decDigits n))) ∧ Below w.heap.size w w' := by
  induction n using Nat.strongRecOn with
  | ind n ih =>
    intro w z hn hz
    subst hz
    by_cases h : n < 10
    · by_cases h0 : n = 0
      · subst h0
        have s1 : (Wp.B [UInt8.ofNat (48 + 0 % 10)]).size ≤ 1 := by rw [Wp.B_size]; simp
        have hcv := fun W => Vl.conv_one W 48 (UInt8.ofNat (48 + 0 % 10)) (by simp only [UInt8.toNat_ofNat']; omega)
        have HB := Lib.hid ((Below.refl w.heap.size w).alloc (Nat.le_refl _) (.cells #[.int .u8 48] 5))
        have HD := Lib.hid (show Wp.B [UInt8.ofNat (48 + 0 % 10)] = Wp.B (Lib.decDigits 0) by rw [Vl.dec_small (by omega)])
        rw [← HD.out]
        generalize Wp.B [UInt8.ofNat (48 + 0 % 10)] = dg at *
        go_enter Tryd.func52, Tryd.ntmps52
        go_wp2_with fail
        go_ret
        exact ⟨rfl, HB.out⟩
      · exact refBig_step n w hn (fun W => ih (n / 10) (by omega) W _ (by omega) (by omega))
    · exact refBig_step n w hn (fun W => ih (n / 10) (by omega) W _ (by omega) (by omega))
set_option maxRecDepth 100000 in
theorem refDigits_any (n : Int) (w : World) (h1 : -9223372036854775808 ≤ n) (h2 : n ≤ 9223372036854775807) :
    Calls Tryd.prog 31 #[.int .i64 n] w fun e w' => e = .returned (.string (Wp.B (Lib.itoa n))) ∧ Below w.heap.size w w' := by
  have HC := Lib.hid (fun W z (hz : z = ((n.natAbs : Nat) : Int)) => refBig_any n.natAbs W z (by omega) hz)
  have s2 : (Wp.B (Lib.decDigits n.natAbs)).size ≤ 20 := by rw [Wp.B_size]; exact Vl.dec_len 19 _ (by omega)
  by_cases h : n < 0
  · have HD := Lib.hid (show (⟨#[45]⟩ : ByteArray) ++ Wp.B (Lib.decDigits n.natAbs) = Wp.B (Lib.itoa n) by
      unfold Lib.itoa
      rw [if_pos h, show (45 :: Lib.decDigits n.natAbs) = [45] ++ Lib.decDigits n.natAbs from rfl, show (⟨#[45]⟩ : ByteArray) = Wp.B [45] from rfl, Wp.B_append, Wp.B_data])
    have HZ := Lib.hid (show -(n + 1) + 1 = ((n.natAbs : Nat) : Int) by omega)
    rw [← HD.out]
    generalize Wp.B (Lib.decDigits n.natAbs) = dq at *
    have hs45 : (⟨#[45]⟩ : ByteArray).size = 1 := rfl
    go_enter Tryd.func31, Tryd.ntmps31
    go_wp2_with fail
    refine (HC.out _ _ HZ.out).mono ?_
    rintro e w1 ⟨rfl, hb⟩
    have HB1 := Lib.hid hb
    clear hb
    go_wp2_with fail
    go_ret
    exact ⟨rfl, HB1.out⟩
  · have HD := Lib.hid (show Wp.B (Lib.decDigits n.natAbs) = Wp.B (Lib.itoa n) by
      unfold Lib.itoa
      rw [if_neg h, show n.toNat = n.natAbs by omega])
    have HZ := Lib.hid (show n = ((n.natAbs : Nat) : Int) by omega)
    rw [← HD.out]
    generalize Wp.B (Lib.decDigits n.natAbs) = dq at *
    go_enter Tryd.func31, Tryd.ntmps31
    go_wp2_with fail
    refine (HC.out _ _ HZ.out).mono ?_
    rintro e w1 ⟨rfl, hb⟩
    have HB1 := Lib.hid hb
    clear hb
    go_wp2_with fail
    go_ret
    exact ⟨rfl, HB1.out⟩
end Go.Proofs.YtcpebkhpocdeoaaDoor
namespace Go.Proofs.YtcpebkhpocdeoaaDoor
open Go.RowKit

set_option maxRecDepth 100000 in
set_option maxHeartbeats 1000000 in
theorem refShow_any (d : Nat) (x : Vl.V) (v : Value) (w : World) (hA : Vl.At d w v x) :
    Calls Tryd.prog 11 #[v] w fun e w' => e = .returned (.tuple #[.string (Vl.showR x).1, .int .i64 (Vl.showR x).2]) ∧ Below w.heap.size w w' := by
  have hshape : ∃ pi ci pn cn, v = .agg #[.int .u8 (x.kind : Nat), .string x.text, .int .i64 x.num, .slice pi x.items.length ci, .slice pn x.names.length cn] ∧ Wp.I64 x.num ∧ x.items.length ≤ 140737488351232 := by
    cases d with
    | zero => exact hA.elim
    | succ d =>
      obtain ⟨pi, ci, pn, cn, e, hf, _⟩ := hA
      exact ⟨pi, ci, pn, cn, e, hf.2.2.1, hf.2.2.2.1⟩
  obtain ⟨pi, ci, pn, cn, rfl, ⟨hi1, hi2⟩, hil⟩ := hshape
  have hB := (Below.refl w.heap.size w).alloc (Nat.le_refl _) (.cells #[.int .u8 (x.kind : Nat), .string x.text, .int .i64 x.num, .slice pi x.items.length ci, .slice pn x.names.length cn] 26)
  have HB := Lib.hid hB
  have HX := Lib.hid (Vl.new w (.cells #[.int .u8 (x.kind : Nat), .string x.text, .int .i64 x.num, .slice pi x.items.length ci, .slice pn x.names.length cn] 26))
  have HC := Lib.hid (refCheck_any d x _ _ (hA.below hB))
  have hc : Vl.chk x = if Vl.good x then 0 else 2 := rfl
  rw [hc] at HC
  obtain ⟨T, hT⟩ : ∃ T, T = Vl.showR x := ⟨_, rfl⟩
  rw [← hT]
  have Hbad := Lib.hid (fun (h : Vl.good x = false) => (show T = (⟨#[]⟩, 2) by rw [hT]; unfold Vl.showR; rw [h]; rfl))
  have Hok := Lib.hid (fun (h : Vl.good x = true) => (show T = (Vl.textL x.kind x.text x.num x.items.length, 0) by rw [hT]; unfold Vl.showR; rw [h]; rfl))
  have Hlf := Lib.hid (fun (h : Vl.good x = true) (h3 : x.kind = 3) => (show x.num = 0 ∨ x.num = 1 by
    have hl := Vl.good_leaf h
    rw [h3] at hl
    change ((decide (x.num = 0) || decide (x.num = 1)) && _) = true at hl
    rw [Bool.and_eq_true, Bool.or_eq_true, decide_eq_true_eq, decide_eq_true_eq] at hl
    exact hl.1))
  clear hA hB hc hT
  generalize Vl.good x = g at *
  generalize x.items.length = ni at *
  generalize x.names.length = nn at *
  generalize x.kind = k at *
  generalize x.text = t at *
  generalize x.num = i at *
  have HDi := Lib.hid (fun W => refDigits_any i W hi1 hi2)
  have HDn := Lib.hid (fun W => refDigits_any (ni : Int) W (by omega) (by omega))
  cases g with
  | false =>
    obtain rfl := Hbad.out rfl
    clear Hbad Hok Hlf
    go_enter Tryd.func11, Tryd.ntmps11
    go_wp2_with fail
    refine HC.out.mono ?_
    rintro e w1 ⟨rfl, hb⟩
    have HB1 := Lib.hid (HB.out.trans (hb.mono HB.out.size))
    clear hb HX
    go_wp2_with fail
    go_ret2
    exact ⟨rfl, HB1.out⟩
  | true =>
    have HTe := Lib.hid (Hok.out rfl)
    have Hlf3 := Lib.hid (Hlf.out rfl)
    clear Hbad Hok Hlf
    go_enter Tryd.func11, Tryd.ntmps11
    go_wp2_with fail
    refine HC.out.mono ?_
    rintro e w1 ⟨rfl, hb⟩
    have HB1 := Lib.hid (HB.out.trans (hb.mono HB.out.size))
    have hx1 := (hb.block w.heap.size (Array.getElem?_eq_some_iff.1 HX.out).1).trans HX.out
    obtain ⟨m0, m1, m2, m3, m4⟩ := Vl.five_of hx1
    clear hb HX HC hx1
    by_cases h1 : k = 1
    · subst h1
      have hE : Vl.textL 1 t i ni = t := rfl
      have e : T = (t, 0) := by rw [HTe.out, hE]
      subst e
      clear hE HTe
      go_wp2_with fail
      go_ret2
      exact ⟨rfl, HB1.out⟩
    · have e1 : ((k : Int) == 1) = false := beq_eq_false_iff_ne.2 (by omega)
      by_cases h2 : k = 2
      · subst h2
        have hE : Vl.textL 2 t i ni = Wp.B (Lib.itoa i) := rfl
        have e : T = (Wp.B (Lib.itoa i), 0) := by rw [HTe.out, hE]
        subst e
        clear hE HTe
        go_wp2_with fail
        refine (HDi.out _).mono ?_
        rintro e w2 ⟨rfl, hb2⟩
        have HB2 := Lib.hid (HB1.out.trans (hb2.mono HB1.out.size))
        clear hb2
        go_wp2_with fail
        go_ret2
        exact ⟨rfl, HB2.out⟩
      · have e2 : ((k : Int) == 2) = false := beq_eq_false_iff_ne.2 (by omega)
        by_cases h3 : k = 3
        · subst h3
          rcases Hlf3.out rfl with h0 | h0
          · have hE : Vl.textL 3 t i ni = ⟨#[110, 111]⟩ := by rw [h0]; rfl
            have e : T = (⟨#[110, 111]⟩, 0) := by rw [HTe.out, hE]
            subst e
            clear hE HTe
            have hne : (i == 1) = false := beq_eq_false_iff_ne.2 (by omega)
            clear HDi
            go_wp2_with fail
            go_ret2
            exact ⟨rfl, HB1.out⟩
          · have hE : Vl.textL 3 t i ni = ⟨#[121, 101, 115]⟩ := by rw [h0]; rfl
            have e : T = (⟨#[121, 101, 115]⟩, 0) := by rw [HTe.out, hE]
            subst e
            clear hE HTe
            have hne : (i == 1) = true := by rw [h0]; rfl
            clear HDi
            go_wp2_with fail
            go_ret2
            exact ⟨rfl, HB1.out⟩
        · have e3 : ((k : Int) == 3) = false := beq_eq_false_iff_ne.2 (by omega)
          have hE : Vl.textL k t i ni = Wp.B (Lib.itoa (ni : Int)) := by unfold Vl.textL; rw [if_neg h1, if_neg h2, if_neg h3]
          have e : T = (Wp.B (Lib.itoa (ni : Int)), 0) := by rw [HTe.out, hE]
          subst e
          clear hE HTe
          go_wp2_with fail
          refine (HDn.out _).mono ?_
          rintro e w2 ⟨rfl, hb2⟩
          have HB2 := Lib.hid (HB1.out.trans (hb2.mono HB1.out.size))
          clear hb2
          go_wp2_with fail
          go_ret2
          exact ⟨rfl, HB2.out⟩
end Go.Proofs.YtcpebkhpocdeoaaDoor
