
/-
  The walks of the document's own Is, plain, email and push of layer 13. No condition.
-/
import Derived.Test.YtlhmbmnjajbbaaaDoorEsPlain
import Derived.Test.YtlhmbmnjajbbaaaDoorProg
import Derived.WalkKit
import Derived.Lib.Hide
import Derived.Lib.Strings
import Derived.Lib.ConvBytes
import Derived.Deep.QuietTactic
import Derived.BigQuiet
namespace Go.Proofs.YtlhmbmnjajbbaaaDoor
open Go.RowKit

theorem Es.newObj (w : World) (o : Obj) : (w.alloc o).heap[w.heap.size]? = some o := by
  show (w.heap.push _)[w.heap.size]? = _
  simp
theorem Es.below_drews {B : Nat} {w w' : World} (h : Below B w w') : ∀ n, Below B w (w'.drewN n) := fun _ => ⟨h.os, h.tape, h.output, h.size, h.block⟩
theorem Es.conv_one (w : World) (x : Int) (b : UInt8) (h : x = b.toNat) :
    (convert 38 9 (.slice (some ⟨w.heap.size, 0, none⟩) 1 1)).run Tryd.prog (w.alloc (.cells #[.int .u8 x] 5)) = .ok (.string (Wp.B [b])) (w.alloc (.cells #[.int .u8 x] 5)) := by
  refine run_convert_bytes_back _ 38 9 5 _ 1 [b] Tryd.underlying38 Tryd.underlying5 Tryd.underlying9 ?_
  intro j hj
  have : j = 0 := by simp at hj; omega
  subst this
  have e : (⟨w.heap.size, 0, none⟩ : Addr).add (0 : Nat) = ⟨w.heap.size, 0, none⟩ := by simp [Addr.add]
  rw [h, e, World.cell?_alloc_at _ _ _ _ rfl]
  rfl
set_option maxRecDepth 100000 in
theorem esRefPlain_any (b : UInt8) (w : World) :
    Calls Tryd.prog 25 #[.int .u8 b.toNat] w fun e w' => e = .returned (.bool (Es.plainB b)) ∧ w' = w := by
  have hb := b.toNat_lt
  rw [show Es.plainB b = (decide (32 ≤ b.toNat) && decide (b.toNat ≤ 126)) from rfl]
  generalize b.toNat = n at *
  go_enter Tryd.func25, Tryd.ntmps25
  go_wp2
  · go_ret
    rename_i h
    refine ⟨?_, rfl⟩
    rw [show decide (32 ≤ n) = true from decide_eq_true (by omega), Bool.true_and]
    show Ending.returned (Value.bool _) = _
    congr 2
    exact decide_eq_decide.2 (by omega)
  · go_ret
    rename_i h
    refine ⟨?_, rfl⟩
    rw [show decide (32 ≤ n) = false from decide_eq_false (by omega), Bool.false_and]
    rfl
set_option maxRecDepth 100000 in
theorem esRefIs_any (c : Nat) (w : World) :
    Calls Tryd.prog 22 #[.int .u8 c] w fun e w' => e = .returned (.bool (decide (c = 1) || decide (c = 2) || decide (c = 3))) ∧ w' = w := by
  by_cases h1 : c = 1
  · subst h1
    go_enter Tryd.func22, Tryd.ntmps22
    go_wp2_with fail
    go_ret
    exact ⟨rfl, rfl⟩
  by_cases h2 : c = 2
  · subst h2
    go_enter Tryd.func22, Tryd.ntmps22
    go_wp2_with fail
    go_ret
    exact ⟨rfl, rfl⟩
  by_cases h3 : c = 3
  · subst h3
    go_enter Tryd.func22, Tryd.ntmps22
    go_wp2_with fail
    go_ret
    exact ⟨rfl, rfl⟩
  have e1 : ((c : Int) == 1) = false := beq_eq_false_iff_ne.2 (by omega)
  have e2 : ((c : Int) == 2) = false := beq_eq_false_iff_ne.2 (by omega)
  have e3 : ((c : Int) == 3) = false := beq_eq_false_iff_ne.2 (by omega)
  rw [decide_eq_false h1, decide_eq_false h2, decide_eq_false h3]
  go_enter Tryd.func22, Tryd.ntmps22
  go_wp2_with fail
  go_ret
  exact ⟨rfl, rfl⟩
/-- A byte that is one of the few. -/
theorem Es.low_cases (n : Nat) (h : n < 32 ∨ n = 127) : n = 0 ∨ n = 1 ∨ n = 2 ∨ n = 3 ∨ n = 4 ∨ n = 5 ∨ n = 6 ∨ n = 7 ∨ n = 8 ∨ n = 9 ∨ n = 10 ∨ n = 11 ∨ n = 12 ∨ n = 13 ∨ n = 14 ∨ n = 15 ∨ n = 16 ∨ n = 17 ∨ n = 18 ∨ n = 19 ∨ n = 20 ∨ n = 21 ∨ n = 22 ∨ n = 23 ∨ n = 24 ∨ n = 25 ∨ n = 26 ∨ n = 27 ∨ n = 28 ∨ n = 29 ∨ n = 30 ∨ n = 31 ∨ n = 127 := by omega
set_option maxRecDepth 100000 in
theorem esRefMail_any (b : UInt8) (w : World) :
    Calls Tryd.prog 24 #[.int .u8 b.toNat] w fun e w' => e = .returned (.string (Wp.B (Es.code true b))) ∧ Below w.heap.size w w' := by
  have hb := b.toNat_lt
  rw [show Es.code true b = Es.mailN b.toNat from rfl]
  generalize b.toNat = n at *
  by_cases h1 : n = 38
  · subst h1
    go_enter Tryd.func24, Tryd.ntmps24
    go_wp2_with fail
    go_ret
    exact ⟨rfl, Below.refl _ _⟩
  by_cases h2 : n = 60
  · subst h2
    go_enter Tryd.func24, Tryd.ntmps24
    go_wp2_with fail
    go_ret
    exact ⟨rfl, Below.refl _ _⟩
  by_cases h3 : n = 62
  · subst h3
    go_enter Tryd.func24, Tryd.ntmps24
    go_wp2_with fail
    go_ret
    exact ⟨rfl, Below.refl _ _⟩
  by_cases h4 : n = 34
  · subst h4
    go_enter Tryd.func24, Tryd.ntmps24
    go_wp2_with fail
    go_ret
    exact ⟨rfl, Below.refl _ _⟩
  by_cases h5 : n = 39
  · subst h5
    go_enter Tryd.func24, Tryd.ntmps24
    go_wp2_with fail
    go_ret
    exact ⟨rfl, Below.refl _ _⟩
  have e : Es.mailN n = [UInt8.ofNat n] := by simp [Es.mailN, Es.nameN, h1, h2, h3, h4, h5]
  have e1 : ((n : Int) == 38) = false := beq_eq_false_iff_ne.2 (by omega)
  have e2 : ((n : Int) == 60) = false := beq_eq_false_iff_ne.2 (by omega)
  have e3 : ((n : Int) == 62) = false := beq_eq_false_iff_ne.2 (by omega)
  have e4 : ((n : Int) == 34) = false := beq_eq_false_iff_ne.2 (by omega)
  have e5 : ((n : Int) == 39) = false := beq_eq_false_iff_ne.2 (by omega)
  rw [e]
  clear e h1 h2 h3 h4 h5
  have hcv := fun W => Es.conv_one W (n : Int) (UInt8.ofNat n) (by rw [UInt8.toNat_ofNat_of_lt' (by show n < 256; exact hb)])
  have HB0 := Lib.hid ((Below.refl w.heap.size w).alloc (Nat.le_refl _) (.cells #[.int .u8 n] 5))
  generalize Wp.B [UInt8.ofNat n] = bb at *
  go_enter Tryd.func24, Tryd.ntmps24
  go_wp2_with fail
  go_ret
  exact ⟨rfl, HB0.out⟩
theorem Es.hex_cut : ∀ k, k < 16 → (⟨#[48, 49, 50, 51, 52, 53, 54, 55, 56, 57, 97, 98, 99, 100, 101, 102]⟩ : ByteArray).extract k (k + 1) = Wp.B [Es.hexB k] := by decide
theorem Es.hex_slice (z : Int) (k : Nat) (hz : z = k) (hk : k < 16) (W : World) : (Instr.sliceAt 9 (.string ⟨#[48, 49, 50, 51, 52, 53, 54, 55, 56, 57, 97, 98, 99, 100, 101, 102]⟩) (some (.int .u8 z)) (some (.int .u8 (z + 1))) none).run Tryd.prog W = .ok (.string (Wp.B [Es.hexB k])) W := by
  subst hz
  rw [run_sliceAt_string (h := Tryd.underlying9), run_slice_string (h := Tryd.underlying9) (h0 := by omega) (h1 := by omega) (h2 := by show _ ≤ (16 : Int); omega)]
  rw [show ((k : Int)).toNat = k by omega, show ((k : Int) + 1).toNat = k + 1 by omega, Es.hex_cut k hk]
set_option maxRecDepth 100000 in
theorem esRefPush_any (b : UInt8) (w : World) :
    Calls Tryd.prog 23 #[.int .u8 b.toNat] w fun e w' => e = .returned (.string (Wp.B (Es.code false b))) ∧ Below w.heap.size w w' := by
  have hb := b.toNat_lt
  rw [show Es.code false b = Es.pushN b.toNat from rfl]
  generalize b.toNat = n at *
  by_cases h1 : n = 10
  · subst h1
    go_enter Tryd.func23, Tryd.ntmps23
    go_wp2_with fail
    go_ret
    exact ⟨rfl, Below.refl _ _⟩
  by_cases h2 : n = 9
  · subst h2
    go_enter Tryd.func23, Tryd.ntmps23
    go_wp2_with fail
    go_ret
    exact ⟨rfl, Below.refl _ _⟩
  by_cases h3 : n = 34
  · subst h3
    go_enter Tryd.func23, Tryd.ntmps23
    go_wp2_with fail
    go_ret
    exact ⟨rfl, Below.refl _ _⟩
  by_cases h4 : n = 92
  · subst h4
    go_enter Tryd.func23, Tryd.ntmps23
    go_wp2_with fail
    go_ret
    exact ⟨rfl, Below.refl _ _⟩
  have e1 : ((n : Int) == 10) = false := beq_eq_false_iff_ne.2 (by omega)
  have e2 : ((n : Int) == 9) = false := beq_eq_false_iff_ne.2 (by omega)
  have e3 : ((n : Int) == 34) = false := beq_eq_false_iff_ne.2 (by omega)
  have e4 : ((n : Int) == 92) = false := beq_eq_false_iff_ne.2 (by omega)
  by_cases h5 : n < 32 ∨ n = 127
  · have HE := Lib.hid (show Wp.B [92, 117, 48, 48] ++ Wp.B [Es.hexB (n / 16)] ++ Wp.B [Es.hexB (n % 16)] = Wp.B (Es.pushN n) by
      rw [Es.pushN, if_neg h1, if_neg h2, if_pos h5]; rfl)
    rw [← HE.out]
    have hs1 := fun W => Es.hex_slice ((n : Int) / 16) (n / 16) (by omega) (by omega) W
    have hs2 := fun W => Es.hex_slice ((n : Int) % 16) (n % 16) (by omega) (by omega) W
    have s1 : (Wp.B [Es.hexB (n / 16)]).size ≤ 1 := by rw [Wp.B_size]; simp
    have s2 : (Wp.B [Es.hexB (n % 16)]).size ≤ 1 := by rw [Wp.B_size]; simp
    generalize Wp.B [Es.hexB (n / 16)] = x1 at *
    generalize Wp.B [Es.hexB (n % 16)] = x2 at *
    go_enter Tryd.func23, Tryd.ntmps23
    rcases h5 with h5 | h5
    · go_wp2_with fail
      go_quiet (fail)
      go_wp2_with fail
      go_ret
      exact ⟨rfl, Es.below_drews (Below.refl _ _) _⟩
    · have e5 : ((n : Int) == 127) = true := by rw [h5]; rfl
      have h6 : ¬ n < 32 := by omega
      clear h5
      go_wp2_with fail
      go_quiet (fail)
      go_wp2_with fail
      go_ret
      exact ⟨rfl, Es.below_drews (Below.refl _ _) _⟩
  have e5 : ((n : Int) == 127) = false := beq_eq_false_iff_ne.2 (by omega)
  have h6 : ¬ n < 32 := by omega
  have e : Es.pushN n = [UInt8.ofNat n] := by
    rw [Es.pushN, if_neg h1, if_neg h2, if_neg h5, if_neg (by omega)]
  rw [e]
  clear e h1 h2 h3 h4 h5
  have hcv := fun W => Es.conv_one W (n : Int) (UInt8.ofNat n) (by rw [UInt8.toNat_ofNat_of_lt' (by show n < 256; exact hb)])
  have HB0 := Lib.hid ((Below.refl w.heap.size w).alloc (Nat.le_refl _) (.cells #[.int .u8 n] 5))
  generalize Wp.B [UInt8.ofNat n] = bb at *
  go_enter Tryd.func23, Tryd.ntmps23
  go_wp2_with fail
  go_ret
  exact ⟨rfl, HB0.out⟩
end Go.Proofs.YtlhmbmnjajbbaaaDoor
