
/-
  The walk of strconv.ParseUint at a text of two bytes, base 16, 8 bits, as esc calls it. Condition: the library's ErrSyntax is an error of some kind.
-/
import Derived.Test.YtlhmbmnjajbbaaaDoorEsPlain
import Derived.Test.YtlhmbmnjajbbaaaDoorShelf
import Derived.Lib.ConvBytes
import Derived.Lib.Hide
import Derived.WalkKit
import Derived.Deep.CutRange
import Derived.Deep.Cut
namespace Go.Proofs.YtlhmbmnjajbbaaaDoor
open Go.RowKit

/-- The library's ErrSyntax is an error. -/
def Es.Syn (w : World) : Prop := ∃ te pe, w.cell? ⟨1, 0, none⟩ = some (.iface te pe)
def Es.orN (n : Nat) : Nat := n ||| 32
theorem Es.or_bits : ∀ n : Nat, n < 256 → bits .or .u8 (n : Int) 32 = ((Es.orN n : Nat) : Int) := by decide +kernel
theorem Es.orN_95 : ∀ n : Nat, n < 256 → Es.orN n ≤ 122 → n ≠ 95 := by decide +kernel
theorem Es.orN_lt : ∀ n, n < 256 → Es.orN n < 256 := by decide +kernel
theorem Es.hexV_dig (n : Nat) (h : n < 256) (h1 : 48 ≤ n) (h2 : n ≤ 57) : Es.hexV (UInt8.ofNat n) = some (n - 48) := by
  unfold Es.hexV
  rw [UInt8.toNat_ofNat_of_lt' (by show n < 256; exact h), if_pos ⟨h1, h2⟩]
theorem Es.hexV_let : ∀ n, n < 256 → ¬ (48 ≤ n ∧ n ≤ 57) → 97 ≤ Es.orN n → Es.orN n ≤ 102 → Es.hexV (UInt8.ofNat n) = some (Es.orN n - 87) := by decide +kernel
theorem Es.hexV_bad : ∀ n, n < 256 → ¬ (48 ≤ n ∧ n ≤ 57) → ¬ (97 ≤ Es.orN n ∧ Es.orN n ≤ 102) → Es.hexV (UInt8.ofNat n) = none := by decide +kernel
theorem Es.lower_any (n : Nat) (h : n < 256) (w : World) : Calls Tryd.prog 44 #[.int .u8 (n : Int)] w fun e w' => e = .returned (.int .u8 (Es.orN n : Nat)) ∧ w' = w := by
  rw [← Es.or_bits n h]
  exact Tryd.internal_strconv_lower _ w
def Es.errV (a b : Option Nat) : Value := match a, b with
  | some _, some _ => .nilIface
  | _, _ => .iface 64 (.int .i64 2)
def Es.num2 (a b : Option Nat) : Nat := match a, b with
  | some x, some y => 16 * x + y
  | _, _ => 0
theorem Es.num2_some (x y : Nat) : Es.num2 (some x) (some y) = 16 * x + y := rfl
theorem Es.errV_some (x y : Nat) : Es.errV (some x) (some y) = .nilIface := rfl
theorem Es.byteNil {w : World} {e : TypeId} {s : ByteArray} : Below w.heap.size w (Lib.bytesWorld w e s) :=
  ⟨rfl, rfl, rfl, by rw [Lib.bytesWorld_size]; omega, fun k hk => Lib.bytesWorld_at_old w e s k hk⟩
set_option maxRecDepth 100000 in
set_option maxHeartbeats 2000000 in
theorem esParseIn_any (x y : Nat) (w : World) (hx : x < 256) (hy : y < 256) :
    Calls Tryd.prog 42 #[.string (Wp.B [UInt8.ofNat x, UInt8.ofNat y]), .int .i64 16, .int .i64 8] w fun e w' => e = .returned (.tuple #[.int .u64 (Es.num2 (Es.hexV (UInt8.ofNat x)) (Es.hexV (UInt8.ofNat y)) : Nat), Es.errV (Es.hexV (UInt8.ofNat x)) (Es.hexV (UInt8.ofNat y))]) ∧ Below w.heap.size w w' := by
  have HD := Lib.hid (Es.hexV_dig)
  have HLe := Lib.hid (Es.hexV_let)
  have HBd := Lib.hid (Es.hexV_bad)
  have HLo := Lib.hid (Es.lower_any)
  have HOl := Lib.hid (Es.orN_lt)
  have hconv := Lib.run_convert_string_bytes (P := Tryd.prog) w 9 38 5 (Wp.B [UInt8.ofNat x, UInt8.ofNat y]) Tryd.underlying9 Tryd.underlying38 Tryd.underlying5
  have HB := Lib.hid (@Es.byteNil w 5 (Wp.B [UInt8.ofNat x, UInt8.ofNat y]))
  have hc0 := Lib.bytesWorld_cell w 5 (Wp.B [UInt8.ofNat x, UInt8.ofNat y]) 0 (by rw [Wp.B_size]; simp)
  have hc1 := Lib.bytesWorld_cell w 5 (Wp.B [UInt8.ofNat x, UInt8.ofNat y]) 1 (by rw [Wp.B_size]; simp)
  have hsz : (Wp.B [UInt8.ofNat x, UInt8.ofNat y]).size = 2 := by rw [Wp.B_size]; rfl
  have hne : ((Wp.B [UInt8.ofNat x, UInt8.ofNat y]).toList == []) = false := by rw [Lib.toList_data]; rfl
  rw [Wp.B_data] at hc0 hc1
  have hd0 : ([UInt8.ofNat x, UInt8.ofNat y].getD 0 0).toNat = x := UInt8.toNat_ofNat_of_lt' (by show x < 256; exact hx)
  have hd1 : ([UInt8.ofNat x, UInt8.ofNat y].getD 1 0).toNat = y := UInt8.toNat_ofNat_of_lt' (by show y < 256; exact hy)
  rw [hd0] at hc0
  rw [hd1] at hc1
  rw [hsz] at hconv
  clear hd0 hd1
  have HX := Lib.hid (rfl : Es.hexV (UInt8.ofNat x) = Es.hexV (UInt8.ofNat x))
  have HY := Lib.hid (rfl : Es.hexV (UInt8.ofNat y) = Es.hexV (UInt8.ofNat y))
  obtain ⟨vx, hvx⟩ : ∃ v, v = Es.hexV (UInt8.ofNat x) := ⟨_, rfl⟩
  obtain ⟨vy, hvy⟩ : ∃ v, v = Es.hexV (UInt8.ofNat y) := ⟨_, rfl⟩
  rw [← hvx, ← hvy]
  have HVx := Lib.hid hvx
  have HVy := Lib.hid hvy
  clear hvx hvy HX HY
  generalize Lib.bytesWorld w 5 (Wp.B [UInt8.ofNat x, UInt8.ofNat y]) = W2 at *
  generalize Wp.B [UInt8.ofNat x, UInt8.ofNat y] = s at *
  generalize grownCap w 2 0 5 = cap at *
  obtain ⟨R, hR⟩ : ∃ R : Value, R = .tuple #[.int .u64 (Es.num2 vx vy : Nat), Es.errV vx vy] := ⟨_, rfl⟩
  rw [← hR]
  have HR := Lib.hid hR
  clear hR
  go_enter Tryd.func42, Tryd.ntmps42
  go_wp2_with fail
  go_loop [12, 13, 101] (fun t12 t13 t => t12 = .bool false ∧ ∃ k a : Nat, t13 = .int .u64 a ∧ t = .int .i64 k ∧ ((k = 0 ∧ a = 0) ∨ (k = 1 ∧ vx = some a ∧ a < 16) ∨ (k = 2 ∧ a < 256 ∧ R = .tuple #[.int .u64 (a : Nat), .nilIface]))) (fun _ _ t => 2 - (intOf t).toNat)
  case atStart => exact ⟨rfl, 0, 0, rfl, rfl, Or.inl ⟨rfl, rfl⟩⟩
  case round =>
    obtain ⟨rfl, k, a, rfl, rfl, hor⟩ := hrel
    rcases hor with ⟨rfl, rfl⟩ | ⟨rfl, hva, ha⟩ | ⟨rfl, ha, hRR⟩
    · clear hc1
      by_cases hdg : 48 ≤ x ∧ x ≤ 57
      · have hgood := Lib.hid (HVx.out.trans (HD.out x hx hdg.1 hdg.2))
        obtain ⟨hd1, hd2⟩ := hdg
        have h95 : ((x : Int) == 95) = false := beq_eq_false_iff_ne.2 (by omega)
        go_wp2_with fail
        refine ⟨⟨rfl, 1, x - 48, ?_, ?_, Or.inr (Or.inl ⟨rfl, hgood.out, ?_⟩)⟩, ?_⟩
        · go_num
        · go_num
        · omega
        · simp [intOf]
      · have hl := HOl.out x hx
        have hlo := HLo.out x hx
        have hg := fun h1 h2 => HVx.out.trans (HLe.out x hx hdg h1 h2)
        have hbd := fun h1 => HVx.out.trans (HBd.out x hx hdg h1)
        have h5 := Es.orN_95 x hx
        have hdg2 : ¬ 48 ≤ x ∨ (48 ≤ x ∧ ¬ x ≤ 57) := by omega
        have HLO := Lib.hid hlo
        clear hlo hdg
        generalize Es.orN x = m at *
        by_cases h2 : m ≤ 122
        · have h95 : ((x : Int) == 95) = false := beq_eq_false_iff_ne.2 (by have := h5 h2; omega)
          clear h5
          rcases hdg2 with hdg | ⟨hdg0, hdg⟩
          all_goals
            by_cases h1 : 97 ≤ m
            · by_cases h3 : m ≤ 102
              · have hgood := Lib.hid (hg h1 h3)
                clear hg hbd
                go_wp2_with fail
                refine (HLO.out _).mono ?_
                rintro e w1 ⟨rfl, hw1⟩
                rw [hw1]
                clear hw1 w1
                go_wp2_with fail
                refine (HLO.out _).mono ?_
                rintro e w1 ⟨rfl, hw1⟩
                rw [hw1]
                clear hw1 w1
                go_wp2_with fail
                refine (HLO.out _).mono ?_
                rintro e w1 ⟨rfl, hw1⟩
                rw [hw1]
                clear hw1 w1
                go_wp2_with fail
                refine ⟨⟨rfl, 1, m - 87, ?_, ?_, Or.inr (Or.inl ⟨rfl, hgood.out, ?_⟩)⟩, ?_⟩
                · go_num
                · go_num
                · omega
                · simp [intOf]
              · have Hbad := Lib.hid (hbd (by omega))
                clear hg hbd
                go_wp2_with fail
                refine (HLO.out _).mono ?_
                rintro e w1 ⟨rfl, hw1⟩
                rw [hw1]
                clear hw1 w1
                go_wp2_with fail
                refine (HLO.out _).mono ?_
                rintro e w1 ⟨rfl, hw1⟩
                rw [hw1]
                clear hw1 w1
                go_wp2_with fail
                refine (HLO.out _).mono ?_
                rintro e w1 ⟨rfl, hw1⟩
                rw [hw1]
                clear hw1 w1
                go_wp2_with fail
                go_ret2
                exact ⟨by rw [HR.out, Hbad.out]; rfl, HB.out⟩
            · have Hbad := Lib.hid (hbd (by omega))
              clear hg hbd
              go_wp2_with fail
              refine (HLO.out _).mono ?_
              rintro e w1 ⟨rfl, hw1⟩
              rw [hw1]
              clear hw1 w1
              go_wp2_with fail
              go_ret2
              exact ⟨by rw [HR.out, Hbad.out]; rfl, HB.out⟩
        · have Hbad := Lib.hid (hbd (by omega))
          have h1 : 97 ≤ m := by omega
          clear hg hbd h5
          have h95 : ((x : Int) == 95) = true ∨ ((x : Int) == 95) = false := by cases ((x : Int) == 95) <;> simp
          rcases hdg2 with hdg | ⟨hdg0, hdg⟩
          all_goals
            rcases h95 with h95 | h95
            all_goals
              go_wp2_with fail
              refine (HLO.out _).mono ?_
              rintro e w1 ⟨rfl, hw1⟩
              rw [hw1]
              clear hw1 w1
              go_wp2_with fail
              refine (HLO.out _).mono ?_
              rintro e w1 ⟨rfl, hw1⟩
              rw [hw1]
              clear hw1 w1
              go_wp2_with fail
              go_ret2
              exact ⟨by rw [HR.out, Hbad.out]; rfl, HB.out⟩
    · have Hva := Lib.hid hva
      have Ha := Lib.hid ha
      clear hva hc0 ha
      by_cases hdg : 48 ≤ y ∧ y ≤ 57
      · have hgood := Lib.hid (HVy.out.trans (HD.out y hy hdg.1 hdg.2))
        obtain ⟨hd1, hd2⟩ := hdg
        have h95 : ((y : Int) == 95) = false := beq_eq_false_iff_ne.2 (by omega)
        go_upto_region 48 with fail
        have hcut0 : ¬ (1152921504606846976 : Int) ≤ (a : Int) := by have := Ha.out; omega
        generalize hcu : (1152921504606846976 : Int) = cut at *
        have Hcu := Lib.hid hcu
        clear hcu
        go_upto_region 50 with fail
        have hcu2 := Hcu.out
        subst hcu2
        clear Hcu hcut0
        have hw1 : IntKind.u64.wrap ((a : Int) * 16) = (a : Int) * 16 := by have := Ha.out; simp [IntKind.wrap, IntKind.bits, IntKind.signed]; omega
        have hw2 : IntKind.u64.wrap ((a : Int) * 16 + ((y : Int) - 48)) = (a : Int) * 16 + ((y : Int) - 48) := by have := Ha.out; simp [IntKind.wrap, IntKind.bits, IntKind.signed]; omega
        have hq1 : ¬ (a : Int) * 16 + ((y : Int) - 48) < (a : Int) * 16 := by omega
        have hq2 : ¬ (255 : Int) < (a : Int) * 16 + ((y : Int) - 48) := by have := Ha.out; omega
        go_wp2_with fail
        have ha := Ha.out
        refine ⟨⟨rfl, 2, 16 * a + (y - 48), ?_, ?_, Or.inr (Or.inr ⟨rfl, ?_, ?_⟩)⟩, ?_⟩
        · go_num
        · go_num
        · omega
        · rw [HR.out, Hva.out, hgood.out, Es.num2_some, Es.errV_some]
        · simp [intOf]
      · have hl := HOl.out y hy
        have hlo := HLo.out y hy
        have hg := fun h1 h2 => HVy.out.trans (HLe.out y hy hdg h1 h2)
        have hbd := fun h1 => HVy.out.trans (HBd.out y hy hdg h1)
        have h5 := Es.orN_95 y hy
        have hdg2 : ¬ 48 ≤ y ∨ (48 ≤ y ∧ ¬ y ≤ 57) := by omega
        have HLO := Lib.hid hlo
        clear hlo hdg
        generalize Es.orN y = m at *
        by_cases h2 : m ≤ 122
        · have h95 : ((y : Int) == 95) = false := beq_eq_false_iff_ne.2 (by have := h5 h2; omega)
          clear h5
          rcases hdg2 with hdg | ⟨hdg0, hdg⟩
          all_goals
            by_cases h1 : 97 ≤ m
            · by_cases h3 : m ≤ 102
              · have hgood := Lib.hid (hg h1 h3)
                clear hg hbd
                go_wp2_with fail
                refine (HLO.out _).mono ?_
                rintro e w1 ⟨rfl, hw1⟩
                rw [hw1]
                clear hw1 w1
                go_wp2_with fail
                refine (HLO.out _).mono ?_
                rintro e w1 ⟨rfl, hw1⟩
                rw [hw1]
                clear hw1 w1
                go_wp2_with fail
                refine (HLO.out _).mono ?_
                rintro e w1 ⟨rfl, hw1⟩
                rw [hw1]
                clear hw1 w1
                go_upto_region 48 with fail
                have hcut0 : ¬ (1152921504606846976 : Int) ≤ (a : Int) := by have := Ha.out; omega
                generalize hcu : (1152921504606846976 : Int) = cut at *
                have Hcu := Lib.hid hcu
                clear hcu
                go_upto_region 50 with fail
                have hcu2 := Hcu.out
                subst hcu2
                clear Hcu hcut0
                have hw1 : IntKind.u64.wrap ((a : Int) * 16) = (a : Int) * 16 := by have := Ha.out; simp [IntKind.wrap, IntKind.bits, IntKind.signed]; omega
                have hw2 : IntKind.u64.wrap ((a : Int) * 16 + ((m : Int) - 97 + 10)) = (a : Int) * 16 + ((m : Int) - 97 + 10) := by have := Ha.out; simp [IntKind.wrap, IntKind.bits, IntKind.signed]; omega
                have hq1 : ¬ (a : Int) * 16 + ((m : Int) - 97 + 10) < (a : Int) * 16 := by omega
                have hq2 : ¬ (255 : Int) < (a : Int) * 16 + ((m : Int) - 97 + 10) := by have := Ha.out; omega
                go_wp2_with fail
                have ha := Ha.out
                refine ⟨⟨rfl, 2, 16 * a + (m - 87), ?_, ?_, Or.inr (Or.inr ⟨rfl, ?_, ?_⟩)⟩, ?_⟩
                · go_num
                · go_num
                · omega
                · rw [HR.out, Hva.out, hgood.out, Es.num2_some, Es.errV_some]
                · simp [intOf]
              · have Hbad := Lib.hid (hbd (by omega))
                clear hg hbd
                go_wp2_with fail
                refine (HLO.out _).mono ?_
                rintro e w1 ⟨rfl, hw1⟩
                rw [hw1]
                clear hw1 w1
                go_wp2_with fail
                refine (HLO.out _).mono ?_
                rintro e w1 ⟨rfl, hw1⟩
                rw [hw1]
                clear hw1 w1
                go_wp2_with fail
                refine (HLO.out _).mono ?_
                rintro e w1 ⟨rfl, hw1⟩
                rw [hw1]
                clear hw1 w1
                go_wp2_with fail
                go_ret2
                exact ⟨by rw [HR.out, Hva.out, Hbad.out]; rfl, HB.out⟩
            · have Hbad := Lib.hid (hbd (by omega))
              clear hg hbd
              go_wp2_with fail
              refine (HLO.out _).mono ?_
              rintro e w1 ⟨rfl, hw1⟩
              rw [hw1]
              clear hw1 w1
              go_wp2_with fail
              go_ret2
              exact ⟨by rw [HR.out, Hva.out, Hbad.out]; rfl, HB.out⟩
        · have Hbad := Lib.hid (hbd (by omega))
          have h1 : 97 ≤ m := by omega
          clear hg hbd h5
          have h95 : ((y : Int) == 95) = true ∨ ((y : Int) == 95) = false := by cases ((y : Int) == 95) <;> simp
          rcases hdg2 with hdg | ⟨hdg0, hdg⟩
          all_goals
            rcases h95 with h95 | h95
            all_goals
              go_wp2_with fail
              refine (HLO.out _).mono ?_
              rintro e w1 ⟨rfl, hw1⟩
              rw [hw1]
              clear hw1 w1
              go_wp2_with fail
              refine (HLO.out _).mono ?_
              rintro e w1 ⟨rfl, hw1⟩
              rw [hw1]
              clear hw1 w1
              go_wp2_with fail
              go_ret2
              exact ⟨by rw [HR.out, Hva.out, Hbad.out]; rfl, HB.out⟩
    · subst hRR
      go_wp2_with fail
      go_ret2
      exact ⟨rfl, HB.out⟩
end Go.Proofs.YtlhmbmnjajbbaaaDoor
