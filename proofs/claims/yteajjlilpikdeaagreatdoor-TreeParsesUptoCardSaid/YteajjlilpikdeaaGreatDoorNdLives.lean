
/-
  The walk of layer 11's lives. Conditions: the words' table and the errors lie as they are laid, the search's limit is set.
-/
import Derived.Test.YteajjlilpikdeaaGreatDoorNdParseW
import Derived.Test.YteajjlilpikdeaaGreatDoorNdT
import Derived.Test.YteajjlilpikdeaaGreatDoorNdSame
import Derived.KernelRfl
namespace Go.Proofs.YteajjlilpikdeaaGreatDoor
open Go.RowKit Go.Shelf

namespace Nd
def lvT : List UInt8 := [123, 123, 105, 102, 32, 97, 125, 125, 120, 123, 123, 101, 108, 115, 101, 125, 125, 123, 123, 101, 97, 99, 104, 32, 98, 46, 99, 125, 125, 123, 123, 116, 104, 105, 115, 125, 125, 123, 123, 101, 110, 100, 125, 125, 123, 123, 101, 110, 100, 125, 125, 33]
def lvN : List N := [.mk 3 ⟨#[]⟩ [⟨#[97]⟩] [.mk 1 ⟨#[120]⟩ [] [] []] [.mk 5 ⟨#[]⟩ [⟨#[98]⟩, ⟨#[99]⟩] [.mk 2 ⟨#[]⟩ [⟨#[116, 104, 105, 115]⟩] [] []] []], .mk 1 ⟨#[33]⟩ [] [] []]
def lvK : List Sc.T := [⟨3, ⟨#[]⟩, [⟨#[97]⟩]⟩, ⟨1, ⟨#[120]⟩, []⟩, ⟨4, ⟨#[]⟩, []⟩, ⟨5, ⟨#[]⟩, [⟨#[98]⟩, ⟨#[99]⟩]⟩, ⟨2, ⟨#[]⟩, [⟨#[116, 104, 105, 115]⟩]⟩, ⟨6, ⟨#[]⟩, []⟩, ⟨6, ⟨#[]⟩, []⟩, ⟨1, ⟨#[33]⟩, []⟩]
def lvP : List ByteArray := [⟨#[97]⟩, ⟨#[98, 46, 99]⟩, ⟨#[116, 104, 105, 115]⟩]
set_option maxRecDepth 100000 in
theorem lv1 : parseR lvT = (lvN, 0) := by kernel_rfl
set_option maxRecDepth 100000 in
theorem lv2 : toksR lvN = (lvK, 0) := by kernel_rfl
set_option maxRecDepth 100000 in
theorem lv3 : writeN lvN = (lvT, 0) := by kernel_rfl
set_option maxRecDepth 100000 in
theorem lv4 : pathsR lvN = (lvP, 0) := by kernel_rfl
set_option maxRecDepth 100000 in
theorem lv5 : parseR [123, 123, 101, 110, 100, 125, 125] = ([], 7) := by kernel_rfl
set_option maxRecDepth 100000 in
theorem lv6 : parseR [123, 123, 101, 97, 99, 104, 32, 97, 125, 125, 123, 123, 101, 108, 115, 101, 125, 125, 123, 123, 101, 110, 100, 125, 125] = ([], 7) := by kernel_rfl
set_option maxRecDepth 100000 in
theorem lv7 : nodesR lvK = (lvN, 0) := by kernel_rfl
set_option maxRecDepth 100000 in
theorem lv8 : chk lvN = 0 := by kernel_rfl
set_option maxRecDepth 100000 in
theorem lv9 : toksL lvN = lvK := by kernel_rfl
theorem lv10 : ∀ t ∈ lvK, t.text.size ≤ 4000000000 := by
  intro t ht
  simp only [lvK, List.mem_cons, List.not_mem_nil, or_false] at ht
  rcases ht with rfl | rfl | rfl | rfl | rfl | rfl | rfl | rfl <;> decide
end Nd
set_option maxRecDepth 100000 in
set_option maxHeartbeats 4000000 in
theorem lives11_any (w : World) (a b : Addr) (hT : Sc.Laid w) (hM : Sc.MaxLen w) (hE : Nd.Errs w a b) :
    Calls Tryz.prog 15 #[] w fun e w' => e = .returned (.bool true) ∧ Below w.heap.size w w' := by
  have H1 : Hid (∀ W, Below w.heap.size w W → Calls Tryz.prog 11 #[.string ⟨#[123, 123, 105, 102, 32, 97, 125, 125, 120, 123, 123, 101, 108, 115, 101, 125, 125, 123, 123, 101, 97, 99, 104, 32, 98, 46, 99, 125, 125, 123, 123, 116, 104, 105, 115, 125, 125, 123, 123, 101, 110, 100, 125, 125, 123, 123, 101, 110, 100, 125, 125, 33]⟩] W (Nd.TopPost (Nd.lvN, 0) W)) := Lib.hid (fun W h => by
    have := ndParse_any (Wp.B Nd.lvT) W a b (by decide) (hT.below h) (hM.below h) (hE.below h)
    rw [Wp.B_data, Nd.lv1] at this
    exact this)
  have H5 : Hid (∀ W, Below w.heap.size w W → Calls Tryz.prog 11 #[.string ⟨#[123, 123, 101, 110, 100, 125, 125]⟩] W (Nd.TopPost ([], 7) W)) := Lib.hid (fun W h => by
    have := ndParse_any (Wp.B [123, 123, 101, 110, 100, 125, 125]) W a b (by decide) (hT.below h) (hM.below h) (hE.below h)
    rw [Wp.B_data, Nd.lv5] at this
    exact this)
  have H6 : Hid (∀ W, Below w.heap.size w W → Calls Tryz.prog 11 #[.string ⟨#[123, 123, 101, 97, 99, 104, 32, 97, 125, 125, 123, 123, 101, 108, 115, 101, 125, 125, 123, 123, 101, 110, 100, 125, 125]⟩] W (Nd.TopPost ([], 7) W)) := Lib.hid (fun W h => by
    have := ndParse_any (Wp.B [123, 123, 101, 97, 99, 104, 32, 97, 125, 125, 123, 123, 101, 108, 115, 101, 125, 125, 123, 123, 101, 110, 100, 125, 125]) W a b (by decide) (hT.below h) (hM.below h) (hE.below h)
    rw [Wp.B_data, Nd.lv6] at this
    exact this)
  have hts : ∀ t ∈ Nd.toksL Nd.lvN, t.text.size ≤ 4000000000 := by rw [Nd.lv9]; exact Nd.lv10
  have H2 : Hid (∀ W p c, Below w.heap.size w W → Nd.Row W p Nd.lvN → Calls Tryz.prog 17 #[.slice p 2 c] W (Nd.TokensPost (Nd.lvK, 0) W)) := Lib.hid (fun W p c h hA => by
    have := ndTokens_any Nd.lvN p c W (by decide) hA hts (hT.below h) (hM.below h)
    rw [Nd.lv2] at this
    exact this)
  have H3 : Hid (∀ W p c, Below w.heap.size w W → Nd.Row W p Nd.lvN → Calls Tryz.prog 19 #[.slice p 2 c] W fun e w' => e = .returned (.tuple #[.string ⟨#[123, 123, 105, 102, 32, 97, 125, 125, 120, 123, 123, 101, 108, 115, 101, 125, 125, 123, 123, 101, 97, 99, 104, 32, 98, 46, 99, 125, 125, 123, 123, 116, 104, 105, 115, 125, 125, 123, 123, 101, 110, 100, 125, 125, 123, 123, 101, 110, 100, 125, 125, 33]⟩, .int .i64 0]) ∧ Below W.heap.size W w') := Lib.hid (fun W p c h hA => by
    have := ndWrite_any Nd.lvN p c W (by decide) hA hts (hT.below h) (hM.below h)
    rw [Nd.lv3] at this
    exact this)
  have H4 : Hid (∀ W p c, Below w.heap.size w W → Nd.Row W p Nd.lvN → Calls Tryz.prog 21 #[.slice p 2 c] W (Nd.PathsPost (Nd.lvP, 0) W)) := Lib.hid (fun W p c h hA => by
    have := ndPaths_any Nd.lvN p c W (by decide) hA hts (hT.below h) (hM.below h)
    rw [Nd.lv4] at this
    exact this)
  have H7 : Hid (∀ W p c, Below w.heap.size w W → Sc.At W p Nd.lvK → 8 ≤ c → c ≤ 9223372036854775807 → Calls Tryz.prog 13 #[.slice p 8 c] W (Nd.TopPost (Nd.lvN, 0) W)) := Lib.hid (fun W p c h hA h1 h2 => by
    have := ndNodes_any Nd.lvK p c W a b hA (by decide) h1 h2 Nd.lv10 (hT.below h) (hM.below h) (hE.below h)
    rw [Nd.lv7] at this
    exact this)
  have H8 : Hid (∀ W p c, Below w.heap.size w W → Nd.Row W p Nd.lvN → Calls Tryz.prog 25 #[.slice p 2 c] W fun e w' => e = .returned (.int .i64 0) ∧ Below W.heap.size W w') := Lib.hid (fun W p c h hA => by
    have := ndCheck_any Nd.lvN p c W (by decide) hA hts (hT.below h) (hM.below h)
    rw [Nd.lv8] at this
    exact this)
  clear hT hM hE hts
  go_enter Tryz.func15, Tryz.ntmps15
  go_wp2_with fail
  refine (H1.out _ (Below.refl _ _)).mono ?_
  rintro e w1 ⟨v1, rfl, hO, b1⟩
  obtain ⟨p, c, hv1, hc1, hAt⟩ := hO.at
  obtain rfl : v1 = .slice p 2 c := hv1
  have HA := Lib.hid hAt
  have B1 := Lib.hid b1
  clear hO hAt b1 H1
  obtain ⟨bb, off, c0, c1, c2, c3, c4, rfl, ⟨x0, x1, x2, x3, x4⟩, y0, hy0, ha0⟩ := HA.out 0 (by decide)
  obtain ⟨_, _, d0, d1, d2, d3, d4, hp1, ⟨z0, z1, z2, z3, z4⟩, y1, hy1, ha1⟩ := HA.out 1 (by decide)
  cases hp1
  cases hy0
  cases hy1
  rw [Nd.At.eq] at ha0 ha1
  obtain ⟨qp, qc, pk, ck, pe, ce, he0, -, -, -, hre⟩ := ha0
  obtain ⟨_, _, _, _, _, _, he1, -, -, -, -⟩ := ha1
  rw [Nd.row_iff] at hre
  obtain ⟨be, oe, f0, f1, f2, f3, f4, rfl, ⟨g0, g1, g2, g3, g4⟩, y2, hy2, ha2⟩ := hre 0 (by decide)
  cases hy2
  rw [Nd.At.eq] at ha2
  obtain ⟨_, _, _, _, _, _, he2, -, -, -, -⟩ := ha2
  simp only [Value.agg.injEq, Array.mk.injEq, List.cons.injEq, and_true] at he0 he1 he2
  obtain ⟨rfl, rfl, rfl, rfl, rfl⟩ := he0
  obtain ⟨rfl, rfl, rfl, rfl, rfl⟩ := he1
  obtain ⟨rfl, rfl, rfl, rfl, rfl⟩ := he2
  have KC : Hid (∀ W, Below w1.heap.size w1 W → W.cell? ⟨bb, off, none⟩ = some (.int .u8 3) ∧ W.cell? ⟨bb, off + 3, none⟩ = some (.slice pk 1 ck) ∧ W.cell? ⟨bb, off + 4, none⟩ = some (.slice (some ⟨be, oe, none⟩) 1 ce) ∧ W.cell? ⟨bb, off + 6, none⟩ = some (.string ⟨#[33]⟩) ∧ W.cell? ⟨be, oe, none⟩ = some (.int .u8 5)) := Lib.hid (fun W h => ⟨(h.cell (World.block_lt_of_cell? w1 _ x0)).trans x0, (h.cell (World.block_lt_of_cell? w1 _ x3)).trans x3, (h.cell (World.block_lt_of_cell? w1 _ x4)).trans x4, (h.cell (World.block_lt_of_cell? w1 _ z1)).trans z1, (h.cell (World.block_lt_of_cell? w1 _ g0)).trans g0⟩)
  have R1 := Lib.hid (Below.refl w1.heap.size w1)
  clear x0 x1 x2 x3 x4 z0 z1 z2 z3 z4 g0 g1 g2 g3 g4 hre
  obtain ⟨k0, k1, k2, k3, k4⟩ := KC.out _ R1.out
  go_wp2_with fail
  refine (H2.out _ _ c B1.out HA.out).mono ?_
  rintro e w2 ⟨p3, c3, rfl, ha3, ⟨hc3, hc3'⟩, b2⟩
  have HA := Lib.hid (HA.out.below b2)
  have B2 := Lib.hid (B1.out.trans (b2.mono B1.out.size))
  have R2 := Lib.hid (R1.out.trans (b2.mono R1.out.size))
  have HT := Lib.hid (show Sc.At w2 p3 Nd.lvK from ha3)
  have hc3 : 8 ≤ c3 := hc3
  have Hc3 := Lib.hid (And.intro hc3 hc3')
  clear b2 ha3 hc3 hc3' H2 k0 k1 k2 k3 k4
  go_wp2_with fail
  refine (H3.out _ _ c B2.out HA.out).mono ?_
  rintro e w3 ⟨rfl, b3⟩
  have HA := Lib.hid (HA.out.below b3)
  have B3 := Lib.hid (B2.out.trans (b3.mono B2.out.size))
  have R3 := Lib.hid (R2.out.trans (b3.mono R2.out.size))
  have HT := Lib.hid (HT.out.below b3)
  clear b3 H3
  go_wp2_with fail
  refine (H4.out _ _ c B3.out HA.out).mono ?_
  rintro e w4 ⟨v4, rfl, ho4, b4⟩
  have HA := Lib.hid (HA.out.below b4)
  have B4 := Lib.hid (B3.out.trans (b4.mono B3.out.size))
  have R4 := Lib.hid (R3.out.trans (b4.mono R3.out.size))
  have HT := Lib.hid (HT.out.below b4)
  obtain ⟨p5, c5, hv4, hc5, hp5⟩ := Nd.texts_off ho4
  obtain rfl : v4 = .slice p5 3 c5 := hv4
  have HP := Lib.hid (hp5 w4 (fun _ _ _ => rfl))
  clear b4 H4 ho4 hp5
  go_wp2_with fail
  refine (H5.out _ B4.out).mono ?_
  rintro e w5 ⟨v5, rfl, -, b5⟩
  have HA := Lib.hid (HA.out.below b5)
  have B5 := Lib.hid (B4.out.trans (b5.mono B4.out.size))
  have R5 := Lib.hid (R4.out.trans (b5.mono R4.out.size))
  have HT := Lib.hid (HT.out.below b5)
  have HP := Lib.hid (HP.out.below b5)
  clear b5 H5
  go_wp2_with fail
  refine (H6.out _ B5.out).mono ?_
  rintro e w6 ⟨v6, rfl, -, b6⟩
  have HA := Lib.hid (HA.out.below b6)
  have B6 := Lib.hid (B5.out.trans (b6.mono B5.out.size))
  have R6 := Lib.hid (R5.out.trans (b6.mono R5.out.size))
  have HT := Lib.hid (HT.out.below b6)
  have HP := Lib.hid (HP.out.below b6)
  clear b6 H6
  go_wp2_with fail
  refine (H7.out _ p3 c3 B6.out HT.out Hc3.out.1 Hc3.out.2).mono ?_
  rintro e w7 ⟨v7, rfl, hO7, b7⟩
  obtain ⟨p7, c7, hv7, -, hA7⟩ := hO7.at
  obtain rfl : v7 = .slice p7 2 c7 := hv7
  have HN := Lib.hid hA7
  have HA := Lib.hid (HA.out.below b7)
  have HP := Lib.hid (HP.out.below b7)
  have B7 := Lib.hid (B6.out.trans (b7.mono B6.out.size))
  have R7 := Lib.hid (R6.out.trans (b7.mono R6.out.size))
  clear b7 hO7 hA7 H7 HT
  obtain ⟨k0, k1, k2, k3, k4⟩ := KC.out _ R7.out
  go_wp2_with fail
  have hal := (Below.refl w7.heap.size w7).alloc (Nat.le_refl _) (.cells #[.string ⟨#[97]⟩, .string ⟨#[98, 46, 99]⟩, .string ⟨#[116, 104, 105, 115]⟩] 9)
  have hq2 : Wp.At Wp.mkT (w7.alloc (.cells #[.string ⟨#[97]⟩, .string ⟨#[98, 46, 99]⟩, .string ⟨#[116, 104, 105, 115]⟩] 9)) (some ⟨w7.heap.size, 0, none⟩) Nd.lvP := Or.inr ⟨w7.heap.size, 0, rfl, fun i hi => by
    rw [World.cell?_alloc_at _ _ _ _ rfl]
    match i, hi with
    | 0, _ => rfl
    | 1, _ => rfl
    | 2, _ => rfl⟩
  have HA := Lib.hid (HA.out.below hal)
  have HN := Lib.hid (HN.out.below hal)
  have B8 := Lib.hid (B7.out.trans (hal.mono B7.out.size))
  refine (same_texts p5 (some ⟨w7.heap.size, 0, none⟩) c5 3 Nd.lvP _ (by decide) (HP.out.below hal) hq2).mono ?_
  rintro e w8 ⟨rfl, b8⟩
  have HA := Lib.hid (HA.out.below b8)
  have HN := Lib.hid (HN.out.below b8)
  have B9 := Lib.hid (B8.out.trans (b8.mono B8.out.size))
  clear b8 hal hq2 k0 k1 k2 k3 k4
  go_wp2_with fail
  refine (ndSame_any Nd.lvN p7 (some ⟨bb, off, none⟩) c7 c w8 (by decide) HN.out HA.out).mono ?_
  rintro e w9 ⟨rfl, b9⟩
  have HA := Lib.hid (HA.out.below b9)
  have B10 := Lib.hid (B9.out.trans (b9.mono B9.out.size))
  clear b9 HN
  go_wp2_with fail
  refine (H8.out _ _ c B10.out HA.out).mono ?_
  rintro e w10 ⟨rfl, b10⟩
  have B11 := Lib.hid (B10.out.trans (b10.mono B10.out.size))
  clear b10
  go_wp2_with fail
  go_ret
  exact ⟨rfl, B11.out⟩
end Go.Proofs.YteajjlilpikdeaaGreatDoor
