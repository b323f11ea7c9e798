/-
  The walk of layer 10's lives. Conditions: the words' table reads as it is laid, the search's limit is set.
-/
import Derived.Test.YtpcoabcgaihmkaaDoorScWriteW
import Derived.Test.YtpcoabcgaihmkaaDoorSameT
import Derived.KernelRfl
import Derived.StillTailTactics
import Derived.BigQuiet
import Derived.Deep.QuietTactic
namespace Go.Proofs.YtpcoabcgaihmkaaDoor
open Go.RowKit Go.Shelf

namespace Sc
def lvT : List UInt8 := [72, 105, 32, 123, 123, 32, 110, 97, 109, 101, 32, 125, 125, 33, 123, 123, 105, 102, 32, 97, 46, 98, 125, 125, 123, 120, 125, 123, 123, 101, 110, 100, 125, 125]
def lvL : List T := [⟨1, ⟨#[72, 105, 32]⟩, []⟩, ⟨2, ⟨#[]⟩, [⟨#[110, 97, 109, 101]⟩]⟩, ⟨1, ⟨#[33]⟩, []⟩, ⟨3, ⟨#[]⟩, [⟨#[97]⟩, ⟨#[98]⟩]⟩, ⟨1, ⟨#[123, 120, 125]⟩, []⟩, ⟨6, ⟨#[]⟩, []⟩]
def lvW : List UInt8 := [72, 105, 32, 123, 123, 110, 97, 109, 101, 125, 125, 33, 123, 123, 105, 102, 32, 97, 46, 98, 125, 125, 123, 120, 125, 123, 123, 101, 110, 100, 125, 125]
set_option maxRecDepth 100000 in
theorem lv1 : toksR lvT = (lvL, 0) := by kernel_rfl
theorem lv2 : writeR lvL = (lvW, 0) := by kernel_rfl
theorem lv3 : pathR [97, 46, 98] = ([⟨#[97]⟩, ⟨#[98]⟩], 0) := by kernel_rfl
theorem lv4 : pathR [105, 102] = ([], 13) := by kernel_rfl
theorem lv5 : toksR [123, 123, 32, 97] = ([], 7) := by kernel_rfl
theorem lv6 : toksR [123, 123, 97, 32, 98, 125, 125] = ([], 7) := by kernel_rfl
theorem lv7 : chkTs lvL = 0 := by kernel_rfl
end Sc
set_option maxRecDepth 100000 in
set_option maxHeartbeats 4000000 in
theorem lives10_any (w : World) (hT : Sc.Laid w) (hM : Sc.MaxLen w) :
    Calls Tryd.prog 12 #[] w fun e w' => e = .returned (.bool true) ∧ Below w.heap.size w w' := by
  have H1 : Hid (∀ W, Below w.heap.size w W → Calls Tryd.prog 8 #[.string ⟨#[72, 105, 32, 123, 123, 32, 110, 97, 109, 101, 32, 125, 125, 33, 123, 123, 105, 102, 32, 97, 46, 98, 125, 125, 123, 120, 125, 123, 123, 101, 110, 100, 125, 125]⟩] W (Sc.ToksPost (Sc.lvL, 0) W)) := Lib.hid (fun W h => by
    have := scTokens_any (Wp.B Sc.lvT) W (by decide) (hT.below h) (hM.below h)
    rw [Wp.B_data, Sc.lv1] at this
    exact this)
  have H2 : Hid (∀ W p c, Below w.heap.size w W → Sc.At W p Sc.lvL → Calls Tryd.prog 15 #[.slice p 6 c] W fun e w' => e = .returned (.tuple #[.string ⟨#[72, 105, 32, 123, 123, 110, 97, 109, 101, 125, 125, 33, 123, 123, 105, 102, 32, 97, 46, 98, 125, 125, 123, 120, 125, 123, 123, 101, 110, 100, 125, 125]⟩, .int .i64 0]) ∧ Below W.heap.size W w') := Lib.hid (fun W p c h hA => by
    have := scWrite_any Sc.lvL p c W hA (by decide) (by decide) (hT.below h) (hM.below h)
    rw [Sc.lv2] at this
    exact this)
  have H3 : Hid (∀ W, Below w.heap.size w W → Calls Tryd.prog 10 #[.string ⟨#[97, 46, 98]⟩] W (Sc.PathPost ([⟨#[97]⟩, ⟨#[98]⟩], 0) W)) := Lib.hid (fun W h => by
    have := scPath_any (Wp.B [97, 46, 98]) W (by decide) (hT.below h) (hM.below h)
    rw [Wp.B_data, Sc.lv3] at this
    exact this)
  have H4 : Hid (∀ W, Below w.heap.size w W → Calls Tryd.prog 10 #[.string ⟨#[105, 102]⟩] W (Sc.PathPost ([], 13) W)) := Lib.hid (fun W h => by
    have := scPath_any (Wp.B [105, 102]) W (by decide) (hT.below h) (hM.below h)
    rw [Wp.B_data, Sc.lv4] at this
    exact this)
  have H5 : Hid (∀ W, Below w.heap.size w W → Calls Tryd.prog 8 #[.string ⟨#[123, 123, 32, 97]⟩] W (Sc.ToksPost ([], 7) W)) := Lib.hid (fun W h => by
    have := scTokens_any (Wp.B [123, 123, 32, 97]) W (by decide) (hT.below h) (hM.below h)
    rw [Wp.B_data, Sc.lv5] at this
    exact this)
  have H6 : Hid (∀ W, Below w.heap.size w W → Calls Tryd.prog 8 #[.string ⟨#[123, 123, 97, 32, 98, 125, 125]⟩] W (Sc.ToksPost ([], 7) W)) := Lib.hid (fun W h => by
    have := scTokens_any (Wp.B [123, 123, 97, 32, 98, 125, 125]) W (by decide) (hT.below h) (hM.below h)
    rw [Wp.B_data, Sc.lv6] at this
    exact this)
  have H7 : Hid (∀ W p c, Below w.heap.size w W → Sc.At W p Sc.lvL → Calls Tryd.prog 17 #[.slice p 6 c] W fun e w' => e = .returned (.int .i64 0) ∧ Below W.heap.size W w') := Lib.hid (fun W p c h hA => by
    have := scCheck_any Sc.lvL p c W hA (by decide) (by decide) (hT.below h) (hM.below h)
    rw [Sc.lv7] at this
    exact this)
  clear hT hM
  go_enter Tryd.func12, Tryd.ntmps12
  go_wp2_with fail
  refine (H1.out _ (Below.refl _ _)).mono ?_
  rintro e w1 ⟨v1, rfl, hO, b1⟩
  obtain ⟨p, c, hv1, -, hAt⟩ := hO.at
  obtain rfl : v1 = .slice p 6 c := hv1
  have HA := Lib.hid hAt
  have B1 := Lib.hid b1
  clear hO hAt b1 H1
  go_wp2_with fail
  refine (H2.out _ p c B1.out HA.out).mono ?_
  rintro e w2 ⟨rfl, b2⟩
  have HA2 := Lib.hid (HA.out.below b2)
  have B2 := Lib.hid (B1.out.trans (b2.mono B1.out.size))
  clear b2 H2 HA B1
  go_wp2_with fail
  refine (H3.out _ B2.out).mono ?_
  rintro e w3 ⟨p3, c3, rfl, -, ho3, b3⟩
  have HA3 := Lib.hid (HA2.out.below b3)
  have B3 := Lib.hid (B2.out.trans (b3.mono B2.out.size))
  have HP3 := Lib.hid (ho3 w3 (fun _ _ _ => rfl))
  clear b3 ho3 H3 HA2 B2
  go_wp2_with fail
  refine (H4.out _ B3.out).mono ?_
  rintro e w4 ⟨p4, c4, rfl, -, -, b4⟩
  have HA4 := Lib.hid (HA3.out.below b4)
  have B4 := Lib.hid (B3.out.trans (b4.mono B3.out.size))
  have HP4 := Lib.hid (HP3.out.below b4)
  clear b4 H4 HA3 B3 HP3
  go_wp2_with fail
  refine (H5.out _ B4.out).mono ?_
  rintro e w5 ⟨v5, rfl, hO5, b5⟩
  have HA5 := Lib.hid (HA4.out.below b5)
  have B5 := Lib.hid (B4.out.trans (b5.mono B4.out.size))
  have HP5 := Lib.hid (HP4.out.below b5)
  clear b5 hO5 H5 HA4 B4 HP4
  go_wp2_with fail
  refine (H6.out _ B5.out).mono ?_
  rintro e w6 ⟨v6, rfl, hO6, b6⟩
  have HA6 := Lib.hid (HA5.out.below b6)
  have B6 := Lib.hid (B5.out.trans (b6.mono B5.out.size))
  have HP6 := Lib.hid (HP5.out.below b6)
  clear b6 hO6 H6 HA5 B5 HP5
  obtain ⟨b, off, a0, a1, a2, rfl, ⟨-, x1, -⟩, y0, hy0, pn0, cn0, he0, -⟩ := HA6.out 0 (by decide)
  obtain ⟨_, _, d0, d1, d2, hp1, ⟨z0, -, -⟩, y1, hy1, pn1, cn1, he1, -⟩ := HA6.out 1 (by decide)
  obtain ⟨_, _, f0, f1, f2, hp3, ⟨z3, -, -⟩, y3, hy3, pn3, cn3, he3, -⟩ := HA6.out 3 (by decide)
  obtain ⟨_, _, g0, g1, g2, hp4, ⟨-, z4, -⟩, y4, hy4, pn4, cn4, he4, -⟩ := HA6.out 4 (by decide)
  obtain ⟨_, _, h0, h1, h2, hp5, ⟨z5, -, -⟩, y5, hy5, pn5, cn5, he5, -⟩ := HA6.out 5 (by decide)
  cases hp1
  cases hp3
  cases hp4
  cases hp5
  cases hy0
  cases hy1
  cases hy3
  cases hy4
  cases hy5
  cases he0
  cases he1
  cases he3
  cases he4
  cases he5
  have q0 : w6.cell? ⟨b, off + 1, none⟩ = some (.string ⟨#[72, 105, 32]⟩) := x1
  have q1 : w6.cell? ⟨b, off + 3, none⟩ = some (.int .u8 2) := z0
  have q3 : w6.cell? ⟨b, off + 9, none⟩ = some (.int .u8 3) := z3
  have q4 : w6.cell? ⟨b, off + 13, none⟩ = some (.string ⟨#[123, 120, 125]⟩) := z4
  have q5 : w6.cell? ⟨b, off + 15, none⟩ = some (.int .u8 6) := z5
  clear x1 z0 z3 z4 z5
  go_wp2_with fail
  have hal := (Below.refl w6.heap.size w6).alloc (Nat.le_refl _) (.cells #[.string ⟨#[97]⟩, .string ⟨#[98]⟩] 9)
  have HB7 := Lib.hid (B6.out.trans (hal.mono B6.out.size))
  have HA7 := Lib.hid (HA6.out.below hal)
  have hq2 : Wp.At Wp.mkT (w6.alloc (.cells #[.string ⟨#[97]⟩, .string ⟨#[98]⟩] 9)) (some ⟨w6.heap.size, 0, none⟩) [⟨#[97]⟩, ⟨#[98]⟩] := Or.inr ⟨w6.heap.size, 0, rfl, fun i hi => by
    rw [World.cell?_alloc_at _ _ _ _ rfl]
    match i, hi with
    | 0, _ => rfl
    | 1, _ => rfl⟩
  refine (same_texts p3 (some ⟨w6.heap.size, 0, none⟩) c3 2 [⟨#[97]⟩, ⟨#[98]⟩] _ (by decide) (HP6.out.below hal) hq2).mono ?_
  rintro e w7 ⟨rfl, b7⟩
  have HA8 := Lib.hid (HA7.out.below b7)
  have HB8 := Lib.hid (HB7.out.trans (b7.mono HB7.out.size))
  clear b7 hal hq2 q0 q1 q3 q4 q5
  go_wp2_with fail
  refine (H7.out _ _ c HB8.out HA8.out).mono ?_
  rintro e w8 ⟨rfl, b8⟩
  have HB9 := Lib.hid (HB8.out.trans (b8.mono HB8.out.size))
  clear b8
  go_wp2_with fail
  go_ret
  exact ⟨rfl, HB9.out⟩
end Go.Proofs.YtpcoabcgaihmkaaDoor
