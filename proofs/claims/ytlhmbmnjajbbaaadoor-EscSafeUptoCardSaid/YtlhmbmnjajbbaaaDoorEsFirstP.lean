
/-
  The walks of strconv.ParseUint (two bytes, base 16, 8 bits) and of esc's firstOfPush. Condition: the library's ErrSyntax is an error.
-/
import Derived.Test.YtlhmbmnjajbbaaaDoorEsParse
import Derived.Test.YtlhmbmnjajbbaaaDoorEsUnd
namespace Go.Proofs.YtlhmbmnjajbbaaaDoor
open Go.RowKit

theorem Es.Syn.below {w w' : World} (h : Es.Syn w) (hb : Below w.heap.size w w') : Es.Syn w' := by
  obtain ⟨te, pe, h⟩ := h
  refine ⟨te, pe, ?_⟩
  have hlt : 1 < w.heap.size := by
    rcases Nat.lt_or_ge 1 w.heap.size with h2 | h2
    · exact h2
    · rw [World.cell?, Array.getElem?_eq_none h2] at h
      cases h
  rw [← h]
  unfold World.cell?
  rw [hb.block _ hlt]
theorem Es.hex2_num (x y : UInt8) : Es.hex2 x y = Es.num2 (Es.hexV x) (Es.hexV y) := by
  unfold Es.hex2 Es.num2
  cases Es.hexV x <;> cases Es.hexV y <;> rfl
theorem Es.hexV_lt : ∀ n : Nat, n < 256 → ∀ v ∈ Es.hexV (UInt8.ofNat n), v < 16 := by decide +kernel
theorem Es.hex2_lt (x y : UInt8) : Es.hex2 x y < 256 := by
  have hx := Es.hexV_lt x.toNat x.toNat_lt
  have hy := Es.hexV_lt y.toNat y.toNat_lt
  rw [UInt8.ofNat_toNat] at hx hy
  rw [Es.hex2_num]
  cases h1 : Es.hexV x with
  | none => show Es.num2 none _ < 256; exact (by decide : 0 < 256)
  | some a =>
    cases h2 : Es.hexV y with
    | none => show Es.num2 (some a) none < 256; exact (by decide : 0 < 256)
    | some b =>
      have := hx a h1
      have := hy b h2
      show 16 * a + b < 256
      omega
set_option maxRecDepth 100000 in
theorem esParse_any (x y : UInt8) (w : World) (hS : Es.Syn w) :
    Calls Tryd.prog 39 #[.string (Wp.B [x, y]), .int .i64 16, .int .i64 8] w fun e w' => ∃ er, e = .returned (.tuple #[.int .u64 (Es.hex2 x y : Nat), er]) ∧ Below w.heap.size w w' := by
  have HC := Lib.hid (esParseIn_any x.toNat y.toNat w x.toNat_lt y.toNat_lt)
  rw [UInt8.ofNat_toNat, UInt8.ofNat_toNat, ← Es.hex2_num] at HC
  have HT := Lib.hid (fun W (h : Below w.heap.size w W) => show Calls Tryd.prog 43 #[.string ⟨#[80, 97, 114, 115, 101, 85, 105, 110, 116]⟩, .string (Wp.B [x, y]), .int .i64 16, .int .i64 8, .iface 64 (.int .i64 2)] W (fun e w' => ∃ er, e = .returned er ∧ Below W.heap.size W w') from by
    obtain ⟨te, pe, hv⟩ := hS.below h
    refine (Tryd.strconv_toError_syntax ⟨#[80, 97, 114, 115, 101, 85, 105, 110, 116]⟩ (Wp.B [x, y]) 16 8 _ W (by rw [Wp.B_size]; simp) hv (Or.inr ⟨te, pe, rfl⟩)).mono ?_
    rintro e w' ⟨N, rfl, -, -, hb⟩
    exact ⟨_, rfl, hb⟩)
  have hev : Es.errV (Es.hexV x) (Es.hexV y) = .nilIface ∨ Es.errV (Es.hexV x) (Es.hexV y) = .iface 64 (.int .i64 2) := by
    unfold Es.errV
    cases Es.hexV x <;> cases Es.hexV y <;> simp
  generalize Es.errV (Es.hexV x) (Es.hexV y) = ev at *
  generalize Es.hex2 x y = z at *
  generalize Wp.B [x, y] = s at *
  rcases hev with rfl | rfl
  · go_enter Tryd.func39, Tryd.ntmps39
    go_wp2_with fail
    refine HC.out.mono ?_
    rintro e w1 ⟨rfl, hb⟩
    go_wp2_with fail
    go_ret2
    exact ⟨_, rfl, hb⟩
  · go_enter Tryd.func39, Tryd.ntmps39
    go_wp2_with fail
    refine HC.out.mono ?_
    rintro e w1 ⟨rfl, hb⟩
    have HB := Lib.hid hb
    have HT2 := Lib.hid (HT.out _ hb)
    clear hb
    go_wp2_with fail
    refine HT2.out.mono ?_
    rintro e w2 ⟨er, rfl, hb2⟩
    go_wp2_with fail
    go_ret2
    exact ⟨_, rfl, HB.out.trans (hb2.mono HB.out.size)⟩
theorem Es.get0 (a : UInt8) (l : List UInt8) (h : 0 < (Wp.B (a :: l)).size) : (Wp.B (a :: l))[0]'h = a := rfl
theorem Es.get1 (a b : UInt8) (l : List UInt8) (h : 1 < (Wp.B (a :: b :: l)).size) : (Wp.B (a :: b :: l))[1]'h = b := rfl
theorem Es.firstP_one (a : UInt8) (l : List UInt8) (h : a ≠ 92 ∨ l = []) : Es.firstP (a :: l) = (a, 1) := by
  cases l with
  | nil => rfl
  | cons b l =>
    rcases h with h | h
    · show (if a ≠ 92 then (a, 1) else _) = _
      rw [if_pos h]
    · cases h
theorem Es.firstP_two (b : UInt8) (l : List UInt8) (h1 : b ≠ 110) (h2 : b ≠ 116) (h : ¬ (Lib.hasPrefix (92 :: b :: l) [92, 117, 48, 48] = true ∧ 6 ≤ (92 :: b :: l).length)) : Es.firstP (92 :: b :: l) = (b, 2) := by
  unfold Es.firstP
  dsimp only
  rw [if_neg (by simp), if_neg h1, if_neg h2]
  split
  · exact absurd ⟨by simp [Lib.hasPrefix, List.isPrefixOf], by simp⟩ h
  · rfl
theorem Es.firstP_hex (r : List UInt8) (h : Lib.hasPrefix r [92, 117, 48, 48] = true) (h6 : 6 ≤ r.length) : ∃ x y t, r = 92 :: 117 :: 48 :: 48 :: x :: y :: t := by
  obtain ⟨t, rfl⟩ := List.isPrefixOf_iff_prefix.1 h
  match t, h6 with
  | [], h6 => simp at h6
  | [x], h6 => simp at h6
  | x :: y :: t, _ => exact ⟨x, y, t, rfl⟩
set_option maxRecDepth 100000 in
set_option maxHeartbeats 1000000 in
theorem esFirstP_any (r : List UInt8) (w : World) (hr : r ≠ []) (hl : r.length ≤ 16777216) (hS : Es.Syn w) :
    Calls Tryd.prog 34 #[.string (Wp.B r)] w fun e w' => e = .returned (.tuple #[.int .u8 ((Es.firstP r).1.toNat : Nat), .int .i64 ((Es.firstP r).2 : Nat)]) ∧ Below w.heap.size w w' := by
  have hsz : (Wp.B r).size = r.length := Wp.B_size r
  cases r with
  | nil => exact absurd rfl hr
  | cons a l =>
    have hp0 : 0 < (Wp.B (a :: l)).size := by rw [hsz]; simp
    have hg0 : (Wp.B (a :: l))[0]'hp0 = a := Es.get0 a l hp0
    by_cases ha : a = 92
    · cases l with
      | nil =>
        rw [Es.firstP_one a [] (Or.inr rfl)]
        have hs1 : (Wp.B [a]).size = 1 := by rw [hsz]; rfl
        have e1 : (((Wp.B [a])[0]'hp0).toNat : Int) = 92 := by rw [hg0, ha]; rfl
        have e2 : ((((Wp.B [a])[0]'hp0).toNat : Int) != 92) = false := by rw [e1]; rfl
        have Hg0 := Lib.hid hg0
        clear hsz hg0 e1 ha hS
        generalize Wp.B [a] = s at *
        go_enter Tryd.func34, Tryd.ntmps34
        go_wp2_with fail
        go_ret2
        exact ⟨by rw [← Hg0.out]; rfl, Below.refl _ _⟩
      | cons b l =>
        subst ha
        have hp1 : 1 < (Wp.B (92 :: b :: l)).size := by rw [hsz]; simp
        have hs1 : ¬ (Wp.B (92 :: b :: l)).size = 1 := by omega
        have hs1b : (((Wp.B (92 :: b :: l)).size : Int) == 1) = false := beq_eq_false_iff_ne.2 (by omega)
        have hg1 : (Wp.B (92 :: b :: l))[1]'hp1 = b := Es.get1 92 b l hp1
        have e2 : ((((Wp.B (92 :: b :: l))[0]'hp0).toNat : Int) != 92) = false := by rw [hg0]; rfl
        have Hg1 := Lib.hid hg1
        by_cases h110 : b = 110
        · subst h110
          have e3 : ((((Wp.B (92 :: 110 :: l))[1]'hp1).toNat : Int) == 110) = true := by rw [hg1]; rfl
          rw [show Es.firstP (92 :: 110 :: l) = (10, 2) from rfl]
          clear hg0 hg1 hsz Hg1 hS
          generalize Wp.B (92 :: 110 :: l) = s at *
          go_enter Tryd.func34, Tryd.ntmps34
          go_wp2_with fail
          go_ret2
          exact ⟨rfl, Below.refl _ _⟩
        have e3 : ((((Wp.B (92 :: b :: l))[1]'hp1).toNat : Int) == 110) = false := by
          rw [hg1, beq_eq_false_iff_ne]
          intro h
          exact h110 (UInt8.toNat_inj.1 (by have : b.toNat = 110 := by omega
                                            rw [this]; rfl))
        by_cases h116 : b = 116
        · subst h116
          have e4 : ((((Wp.B (92 :: 116 :: l))[1]'hp1).toNat : Int) == 116) = true := by rw [hg1]; rfl
          rw [show Es.firstP (92 :: 116 :: l) = (9, 2) from rfl]
          clear hg0 hg1 hsz Hg1 hS h110
          generalize Wp.B (92 :: 116 :: l) = s at *
          go_enter Tryd.func34, Tryd.ntmps34
          go_wp2_with fail
          go_ret2
          exact ⟨rfl, Below.refl _ _⟩
        have e4 : ((((Wp.B (92 :: b :: l))[1]'hp1).toNat : Int) == 116) = false := by
          rw [hg1, beq_eq_false_iff_ne]
          intro h
          exact h116 (UInt8.toNat_inj.1 (by have : b.toNat = 116 := by omega
                                            rw [this]; rfl))
        have HP := Lib.hid (fun W => Tryd.strings_HasPrefix (Wp.B (92 :: b :: l)) ⟨#[92, 117, 48, 48]⟩ W)
        rw [Wp.B_data, show (⟨#[92, 117, 48, 48]⟩ : ByteArray).data.toList = [92, 117, 48, 48] from rfl] at HP
        by_cases hh : Lib.hasPrefix (92 :: b :: l) [92, 117, 48, 48] = true ∧ 6 ≤ (92 :: b :: l).length
        · obtain ⟨x, y, t, ht⟩ := Es.firstP_hex _ hh.1 hh.2
          rw [hh.1] at HP
          have h6 : 6 ≤ (Wp.B (92 :: b :: l)).size := by rw [hsz]; exact hh.2
          have hsl : ∀ W, (Instr.sliceAt 9 (.string (Wp.B (92 :: b :: l))) (some (.int .i64 4)) (some (.int .i64 6)) none).run Tryd.prog W = .ok (.string (Wp.B [x, y])) W := by
            intro W
            rw [run_sliceAt_string (h := Tryd.underlying9), run_slice_string (h := Tryd.underlying9) (h0 := by omega) (h1 := by omega) (h2 := by omega), ht, Wp.extract_B, Wp.B_data]
            rfl
          have HQ := Lib.hid (esParse_any x y w hS)
          have hlt := Es.hex2_lt x y
          rw [show Es.firstP (92 :: b :: l) = (UInt8.ofNat (Es.hex2 x y), 6) by rw [ht]; rfl]
          rw [UInt8.toNat_ofNat_of_lt' (by exact hlt)]
          have hw8 : IntKind.u8.wrap ((Es.hex2 x y : Nat) : Int) = ((Es.hex2 x y : Nat) : Int) := by simp [IntKind.wrap, IntKind.bits, IntKind.signed]; omega
          clear hg0 hg1 hsz Hg1 hS h110 h116 ht hh
          generalize Wp.B (92 :: b :: l) = s at *
          generalize Wp.B [x, y] = xy at *
          generalize Es.hex2 x y = z at *
          go_enter Tryd.func34, Tryd.ntmps34
          go_wp2_with fail
          refine (HP.out _).mono ?_
          rintro e w1 ⟨rfl, hw1⟩
          rw [hw1]
          clear hw1 w1
          go_wp2_with fail
          refine HQ.out.mono ?_
          rintro e w2 ⟨er, rfl, hb2⟩
          go_wp2_with fail
          go_ret2
          exact ⟨rfl, hb2⟩
        · rw [Es.firstP_two b l h110 h116 hh]
          cases hpx : Lib.hasPrefix (92 :: b :: l) [92, 117, 48, 48] with
          | false =>
            rw [hpx] at HP
            clear hg0 hg1 hsz hS h110 h116 hh hpx
            generalize Wp.B (92 :: b :: l) = s at *
            go_enter Tryd.func34, Tryd.ntmps34
            go_wp2_with fail
            refine (HP.out _).mono ?_
            rintro e w1 ⟨rfl, hw1⟩
            rw [hw1]
            clear hw1 w1
            go_wp2_with fail
            go_ret2
            exact ⟨by rw [← Hg1.out]; rfl, Below.refl _ _⟩
          | true =>
            rw [hpx] at HP
            have h6 : ¬ 6 ≤ (Wp.B (92 :: b :: l)).size := by rw [hsz]; exact fun h => hh ⟨hpx, h⟩
            have h6b : (Wp.B (92 :: b :: l)).size < 6 := by omega
            clear hg0 hg1 hsz hS h110 h116 hh hpx
            generalize Wp.B (92 :: b :: l) = s at *
            go_enter Tryd.func34, Tryd.ntmps34
            go_wp2_with fail
            refine (HP.out _).mono ?_
            rintro e w1 ⟨rfl, hw1⟩
            rw [hw1]
            clear hw1 w1
            go_wp2_with fail
            go_ret2
            exact ⟨by rw [← Hg1.out]; rfl, Below.refl _ _⟩
    · rw [Es.firstP_one a l (Or.inl ha)]
      have e2 : ((((Wp.B (a :: l))[0]'hp0).toNat : Int) != 92) = true := by
        rw [hg0, bne_iff_ne]
        intro h
        exact ha (UInt8.toNat_inj.1 (by have : a.toNat = 92 := by omega
                                        rw [this]; rfl))
      have Hg0 := Lib.hid hg0
      clear hsz hg0 ha hS
      generalize Wp.B (a :: l) = s at *
      go_enter Tryd.func34, Tryd.ntmps34
      go_wp2_with fail
      go_ret2
      exact ⟨by rw [← Hg0.out]; rfl, Below.refl _ _⟩
end Go.Proofs.YtlhmbmnjajbbaaaDoor
