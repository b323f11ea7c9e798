
/-
  The walk of layer 12's lives. Conditions: the words' table and the errors lie as they are laid, the search's limit is set.
-/
import Derived.Test.YteiccjakaabfnaaGreatDoorZ30
import Derived.Test.YteiccjakaabfnaaGreatDoorNdParseW
import Derived.Test.YteiccjakaabfnaaGreatDoorZ34
import Derived.KernelRfl
namespace Go.Proofs.YteiccjakaabfnaaGreatDoor
open Go.RowKit Go.Shelf

namespace Vt
def lvA : List Nd.N := [.mk 5 ⟨#[]⟩ [⟨#[105, 116, 101, 109, 115]⟩] [.mk 2 ⟨#[]⟩ [⟨#[116, 104, 105, 115]⟩, ⟨#[97]⟩] [] [], .mk 2 ⟨#[]⟩ [⟨#[98]⟩] [] [], .mk 1 ⟨#[33]⟩ [] [] []] []]
def lvB : List Nd.N := [.mk 3 ⟨#[]⟩ [⟨#[116, 104, 105, 115]⟩] [] []]
def lvZ : List Nd.N := [.mk 0 ⟨#[]⟩ [] [] []]
def lvR : List ByteArray := [⟨#[98]⟩, ⟨#[105, 116, 101, 109, 115]⟩]
set_option maxRecDepth 100000 in
theorem lv1 : Nd.parseR [123, 123, 101, 97, 99, 104, 32, 105, 116, 101, 109, 115, 125, 125, 123, 123, 116, 104, 105, 115, 46, 97, 125, 125, 123, 123, 98, 125, 125, 33, 123, 123, 101, 110, 100, 125, 125] = (lvA, 0) := by kernel_rfl
set_option maxRecDepth 100000 in
theorem lv2 : Nd.parseR [123, 123, 105, 102, 32, 116, 104, 105, 115, 125, 125, 123, 123, 101, 110, 100, 125, 125] = (lvB, 0) := by kernel_rfl
set_option maxRecDepth 100000 in
theorem lv3 : Nd.good lvA = true ∧ Nd.good lvB = true ∧ Nd.good lvZ = false := ⟨by kernel_rfl, by kernel_rfl, by kernel_rfl⟩
set_option maxRecDepth 100000 in
theorem lv4 : Vt.namesP (Vt.visL 1 false lvA) = [⟨#[105, 116, 101, 109, 115]⟩, ⟨#[98]⟩] := by kernel_rfl
set_option maxRecDepth 100000 in
theorem lv5 : Vt.sortedL [⟨#[105, 116, 101, 109, 115]⟩, ⟨#[98]⟩] = [[98], [105, 116, 101, 109, 115]] := by
  unfold Vt.sortedL
  simp [List.mergeSort, List.MergeSort.Internal.splitInTwo, List.merge]
  decide
set_option maxRecDepth 100000 in
theorem lv6 : Vt.rootsR lvA = lvR := by
  unfold Vt.rootsR
  rw [lv3.1, lv4, lv5]
  kernel_rfl
set_option maxRecDepth 100000 in
theorem lv7 : Nd.cntL lvA = 4 ∧ Vt.dep (Vt.visL 1 false lvA) = 2 ∧ Vt.plen (Vt.visL 1 false lvA) = 1 := ⟨by kernel_rfl, by kernel_rfl, by kernel_rfl⟩
set_option maxRecDepth 100000 in
theorem lv8 : Vt.thisR lvA = 0 ∧ Vt.thisR lvB = 13 := ⟨by kernel_rfl, by kernel_rfl⟩
theorem lv9 : Vt.onlyR lvA [⟨#[105, 116, 101, 109, 115]⟩] = 13 ∧ Vt.onlyR lvA [⟨#[105, 116, 101, 109, 115]⟩, ⟨#[98]⟩, ⟨#[99]⟩] = 0 ∧ Vt.onlyR lvZ [] = 2 := by
  unfold Vt.onlyR
  rw [lv6, lv3.1, lv3.2.2]
  exact ⟨by kernel_rfl, by kernel_rfl, rfl⟩
set_option maxRecDepth 100000 in
theorem lv10 : ∀ t ∈ Nd.toksL lvA, t.text.size ≤ 4000000000 := by
  have h : (Nd.toksL lvA).all (fun t => decide (t.text.size ≤ 4000000000)) = true := by kernel_rfl
  intro t ht
  exact of_decide_eq_true (List.all_eq_true.1 h t ht)
set_option maxRecDepth 100000 in
theorem lv11 : ∀ t ∈ Nd.toksL lvB, t.text.size ≤ 4000000000 := by
  have h : (Nd.toksL lvB).all (fun t => decide (t.text.size ≤ 4000000000)) = true := by kernel_rfl
  intro t ht
  exact of_decide_eq_true (List.all_eq_true.1 h t ht)
set_option maxRecDepth 100000 in
theorem lv12 : ∀ t ∈ Nd.toksL lvZ, t.text.size ≤ 4000000000 := by
  have h : (Nd.toksL lvZ).all (fun t => decide (t.text.size ≤ 4000000000)) = true := by kernel_rfl
  intro t ht
  exact of_decide_eq_true (List.all_eq_true.1 h t ht)
end Vt
theorem Vt.zero_row (W : World) : Nd.Row (W.alloc (.cells #[.int .u8 0, .string ⟨#[]⟩, .slice none 0 0, .slice none 0 0, .slice none 0 0] 37)) (some ⟨W.heap.size, 0, none⟩) Vt.lvZ := by
  intro j hj
  obtain rfl : j = 0 := by have : j < 1 := hj; omega
  have h5 := Vl.new W (.cells #[.int .u8 0, .string ⟨#[]⟩, .slice none 0 0, .slice none 0 0, .slice none 0 0] 37)
  refine ⟨W.heap.size, 0, .int .u8 0, .string ⟨#[]⟩, .slice none 0 0, .slice none 0 0, .slice none 0 0, rfl, ⟨?_, ?_, ?_, ?_, ?_⟩, .mk 0 ⟨#[]⟩ [] [] [], rfl, ?_⟩
  · rw [Lib.cell_of_heap h5]; rfl
  · rw [Lib.cell_of_heap h5]; rfl
  · rw [Lib.cell_of_heap h5]; rfl
  · rw [Lib.cell_of_heap h5]; rfl
  · rw [Lib.cell_of_heap h5]; rfl
  · rw [Nd.At.eq]
    exact ⟨none, 0, none, 0, none, 0, rfl, ⟨by decide, by decide, by decide, by decide, by decide, fun s (h : s ∈ ([] : List ByteArray)) => absurd h List.not_mem_nil, Nat.le_refl _, Nat.le_refl _, Nat.le_refl _⟩, Or.inl rfl, (Nd.row_iff _ _ []).2 (Nd.Row.nil _ _), (Nd.row_iff _ _ []).2 (Nd.Row.nil _ _)⟩
set_option maxRecDepth 100000 in
set_option maxHeartbeats 4000000 in
theorem lives12_any (w : World) (a b : Addr) (hT : Sc.Laid w) (hM : Sc.MaxLen w) (hE : Nd.Errs w a b) :
    Calls Tryz.prog 22 #[] w fun e w' => e = .returned (.bool true) ∧ Below w.heap.size w w' := by
  have H1 : Hid (∀ W, Below w.heap.size w W → Calls Tryz.prog 37 #[.string ⟨#[123, 123, 101, 97, 99, 104, 32, 105, 116, 101, 109, 115, 125, 125, 123, 123, 116, 104, 105, 115, 46, 97, 125, 125, 123, 123, 98, 125, 125, 33, 123, 123, 101, 110, 100, 125, 125]⟩] W (Nd.TopPost (Vt.lvA, 0) W)) := Lib.hid (fun W h => by
    have := ndParse_any (Wp.B [123, 123, 101, 97, 99, 104, 32, 105, 116, 101, 109, 115, 125, 125, 123, 123, 116, 104, 105, 115, 46, 97, 125, 125, 123, 123, 98, 125, 125, 33, 123, 123, 101, 110, 100, 125, 125]) W a b (by decide) (hT.below h) (hM.below h) (hE.below h)
    rw [Wp.B_data, Vt.lv1] at this
    exact this)
  have H2 : Hid (∀ W, Below w.heap.size w W → Calls Tryz.prog 37 #[.string ⟨#[123, 123, 105, 102, 32, 116, 104, 105, 115, 125, 125, 123, 123, 101, 110, 100, 125, 125]⟩] W (Nd.TopPost (Vt.lvB, 0) W)) := Lib.hid (fun W h => by
    have := ndParse_any (Wp.B [123, 123, 105, 102, 32, 116, 104, 105, 115, 125, 125, 123, 123, 101, 110, 100, 125, 125]) W a b (by decide) (hT.below h) (hM.below h) (hE.below h)
    rw [Wp.B_data, Vt.lv2] at this
    exact this)
  have hts : ∀ t ∈ Nd.toksL Vt.lvA, t.text.size ≤ 4000000000 := Vt.lv10
  have htb : ∀ t ∈ Nd.toksL Vt.lvB, t.text.size ≤ 4000000000 := Vt.lv11
  have htz : ∀ t ∈ Nd.toksL Vt.lvZ, t.text.size ≤ 4000000000 := Vt.lv12
  have HR : Hid (∀ W p c, Below w.heap.size w W → Nd.Row W p Vt.lvA → Calls Tryz.prog 14 #[.slice p 1 c] W fun e w' => ∃ p' c', e = .returned (.tuple #[.slice p' 2 c', .int .i64 0]) ∧ Wp.At Wp.mkT w' p' Vt.lvR ∧ Below W.heap.size W w') := Lib.hid (fun W p c h hA => by
    refine (vtRoots_any Vt.lvA p c W (by decide) hA hts (hT.below h) (hM.below h)).mono ?_
    rintro e w' ⟨p', c', h1, _, h2, h3⟩
    rw [Vt.lv6, (Nd.chk_good).1 Vt.lv3.1] at *
    exact ⟨p', c', h1, h2, h3⟩)
  have HC : Hid (∀ W p c, Below w.heap.size w W → Nd.Row W p Vt.lvA → Calls Tryz.prog 18 #[.slice p 1 c] W fun e w' => e = .returned (.tuple #[.int .i64 4, .int .i64 0]) ∧ Below W.heap.size W w') := Lib.hid (fun W p c h hA => by
    have := vtCount_any Vt.lvA p c W (by decide) hA hts (hT.below h) (hM.below h)
    rw [Vt.lv7.1, (Nd.chk_good).1 Vt.lv3.1, Vt.lv3.1] at this
    exact this)
  have HD : Hid (∀ W p c, Below w.heap.size w W → Nd.Row W p Vt.lvA → Calls Tryz.prog 16 #[.slice p 1 c] W fun e w' => e = .returned (.tuple #[.int .i64 2, .int .i64 0]) ∧ Below W.heap.size W w') := Lib.hid (fun W p c h hA => by
    have := vtDepth_any Vt.lvA p c W (by decide) hA hts (hT.below h) (hM.below h)
    rw [Vt.lv7.2.1, (Nd.chk_good).1 Vt.lv3.1, Vt.lv3.1] at this
    exact this)
  have HP : Hid (∀ W p c, Below w.heap.size w W → Nd.Row W p Vt.lvA → Calls Tryz.prog 20 #[.slice p 1 c] W fun e w' => e = .returned (.tuple #[.int .i64 1, .int .i64 0]) ∧ Below W.heap.size W w') := Lib.hid (fun W p c h hA => by
    have := vtPlain_any Vt.lvA p c W (by decide) hA hts (hT.below h) (hM.below h)
    rw [Vt.lv7.2.2, (Nd.chk_good).1 Vt.lv3.1, Vt.lv3.1] at this
    exact this)
  have HT1 : Hid (∀ W p c, Below w.heap.size w W → Nd.Row W p Vt.lvB → Calls Tryz.prog 26 #[.slice p 1 c] W fun e w' => e = .returned (.int .i64 13) ∧ Below W.heap.size W w') := Lib.hid (fun W p c h hA => by
    have := vtThis_any Vt.lvB p c W (by decide) hA htb (hT.below h) (hM.below h)
    rw [Vt.lv8.2] at this
    exact this)
  have HT2 : Hid (∀ W p c, Below w.heap.size w W → Nd.Row W p Vt.lvA → Calls Tryz.prog 26 #[.slice p 1 c] W fun e w' => e = .returned (.int .i64 0) ∧ Below W.heap.size W w') := Lib.hid (fun W p c h hA => by
    have := vtThis_any Vt.lvA p c W (by decide) hA hts (hT.below h) (hM.below h)
    rw [Vt.lv8.1] at this
    exact this)
  have HO1 : Hid (∀ W p c pn, Below w.heap.size w W → Nd.Row W p Vt.lvA → Wp.At Wp.mkT W pn [⟨#[105, 116, 101, 109, 115]⟩] → Calls Tryz.prog 24 #[.slice p 1 c, .slice pn 1 1] W fun e w' => e = .returned (.int .i64 13) ∧ Below W.heap.size W w') := Lib.hid (fun W p c pn h hA hN => by
    have := vtOnly_any Vt.lvA p c [⟨#[105, 116, 101, 109, 115]⟩] pn 1 W (by decide) hA hts (hT.below h) (hM.below h) hN (by decide)
    rw [Vt.lv9.1] at this
    exact this)
  have HO2 : Hid (∀ W p c pn, Below w.heap.size w W → Nd.Row W p Vt.lvA → Wp.At Wp.mkT W pn [⟨#[105, 116, 101, 109, 115]⟩, ⟨#[98]⟩, ⟨#[99]⟩] → Calls Tryz.prog 24 #[.slice p 1 c, .slice pn 3 3] W fun e w' => e = .returned (.int .i64 0) ∧ Below W.heap.size W w') := Lib.hid (fun W p c pn h hA hN => by
    have := vtOnly_any Vt.lvA p c [⟨#[105, 116, 101, 109, 115]⟩, ⟨#[98]⟩, ⟨#[99]⟩] pn 3 W (by decide) hA hts (hT.below h) (hM.below h) hN (by decide)
    rw [Vt.lv9.2.1] at this
    exact this)
  have HO3 : Hid (∀ W p, Below w.heap.size w W → Nd.Row W p Vt.lvZ → Calls Tryz.prog 24 #[.slice p 1 1, .slice none 0 0] W fun e w' => e = .returned (.int .i64 2) ∧ Below W.heap.size W w') := Lib.hid (fun W p h hA => by
    have := vtOnly_any Vt.lvZ p 1 [] none 0 W (by decide) hA htz (hT.below h) (hM.below h) (Or.inl rfl) (by decide)
    rw [Vt.lv9.2.2] at this
    exact this)
  clear hT hM hE hts htb htz
  go_enter Tryz.func22, Tryz.ntmps22
  go_wp2_with fail
  refine (H1.out _ (Below.refl _ _)).mono ?_
  rintro e w1 ⟨v1, rfl, hO, b1⟩
  obtain ⟨p, c, hv1, hc1, hAt⟩ := hO.at
  obtain rfl : v1 = .slice p 1 c := hv1
  have HA := Lib.hid hAt
  have B1 := Lib.hid b1
  clear hO hAt b1 H1
  go_wp2_with fail
  refine (HR.out _ _ c B1.out HA.out).mono ?_
  rintro e w2 ⟨p2, c2, rfl, ha2, b2⟩
  have HN := Lib.hid ha2
  have HA := Lib.hid (HA.out.below b2)
  have B2 := Lib.hid (B1.out.trans (b2.mono B1.out.size))
  clear b2 ha2 HR
  go_wp2_with fail
  refine (HC.out _ _ c B2.out HA.out).mono ?_
  rintro e w3 ⟨rfl, b3⟩
  have HN := Lib.hid (HN.out.below b3)
  have HA := Lib.hid (HA.out.below b3)
  have B3 := Lib.hid (B2.out.trans (b3.mono B2.out.size))
  clear b3 HC
  go_wp2_with fail
  refine (HD.out _ _ c B3.out HA.out).mono ?_
  rintro e w4 ⟨rfl, b4⟩
  have HN := Lib.hid (HN.out.below b4)
  have HA := Lib.hid (HA.out.below b4)
  have B4 := Lib.hid (B3.out.trans (b4.mono B3.out.size))
  clear b4 HD
  go_wp2_with fail
  refine (HP.out _ _ c B4.out HA.out).mono ?_
  rintro e w5 ⟨rfl, b5⟩
  have HN := Lib.hid (HN.out.below b5)
  have HA := Lib.hid (HA.out.below b5)
  have B5 := Lib.hid (B4.out.trans (b5.mono B4.out.size))
  clear b5 HP
  go_wp2_with fail
  refine (H2.out _ B5.out).mono ?_
  rintro e w6 ⟨v6, rfl, hO6, b6⟩
  obtain ⟨p6, c6, hv6, -, hA6⟩ := hO6.at
  obtain rfl : v6 = .slice p6 1 c6 := hv6
  have HM := Lib.hid hA6
  have HN := Lib.hid (HN.out.below b6)
  have HA := Lib.hid (HA.out.below b6)
  have B6 := Lib.hid (B5.out.trans (b6.mono B5.out.size))
  clear b6 H2 hO6 hA6
  go_wp2_with fail
  have hal := (Below.refl w6.heap.size w6).alloc (Nat.le_refl _) (.cells #[.string ⟨#[98]⟩, .string ⟨#[105, 116, 101, 109, 115]⟩] 9)
  have hq2 : Wp.At Wp.mkT (w6.alloc (.cells #[.string ⟨#[98]⟩, .string ⟨#[105, 116, 101, 109, 115]⟩] 9)) (some ⟨w6.heap.size, 0, none⟩) Vt.lvR := Or.inr ⟨w6.heap.size, 0, rfl, fun i hi => by
    rw [World.cell?_alloc_at _ _ _ _ rfl]
    match i, hi with
    | 0, _ => rfl
    | 1, _ => rfl⟩
  have HA := Lib.hid (HA.out.below hal)
  have HM := Lib.hid (HM.out.below hal)
  have B7 := Lib.hid (B6.out.trans (hal.mono B6.out.size))
  refine (same_texts p2 (some ⟨w6.heap.size, 0, none⟩) c2 2 Vt.lvR _ (by decide) (HN.out.below hal) hq2).mono ?_
  rintro e w8 ⟨rfl, b8⟩
  have HA := Lib.hid (HA.out.below b8)
  have HM := Lib.hid (HM.out.below b8)
  have B8 := Lib.hid (B7.out.trans (b8.mono B7.out.size))
  clear b8 hal hq2 HN
  go_wp2_with fail
  refine (HT1.out _ _ c6 B8.out HM.out).mono ?_
  rintro e w9 ⟨rfl, b9⟩
  have HA := Lib.hid (HA.out.below b9)
  have B9 := Lib.hid (B8.out.trans (b9.mono B8.out.size))
  clear b9 HM HT1
  go_wp2_with fail
  refine (HT2.out _ _ c B9.out HA.out).mono ?_
  rintro e w10 ⟨rfl, b10⟩
  have HA := Lib.hid (HA.out.below b10)
  have B10 := Lib.hid (B9.out.trans (b10.mono B9.out.size))
  clear b10 HT2
  go_wp2_with fail
  have hal := (Below.refl w10.heap.size w10).alloc (Nat.le_refl _) (.cells #[.string ⟨#[105, 116, 101, 109, 115]⟩] 9)
  refine (HO1.out _ p c (some ⟨w10.heap.size, 0, none⟩) (B10.out.trans (hal.mono B10.out.size)) (HA.out.below hal) (Or.inr ⟨w10.heap.size, 0, rfl, fun i hi => by
    rw [World.cell?_alloc_at _ _ _ _ rfl]
    match i, hi with
    | 0, _ => rfl⟩)).mono ?_
  rintro e w11 ⟨rfl, b11⟩
  have HA := Lib.hid ((HA.out.below hal).below b11)
  have B11 := Lib.hid ((B10.out.trans (hal.mono B10.out.size)).trans (b11.mono (B10.out.trans (hal.mono B10.out.size)).size))
  clear b11 HO1 hal
  go_wp2_with fail
  have hal := (Below.refl w11.heap.size w11).alloc (Nat.le_refl _) (.cells #[.string ⟨#[105, 116, 101, 109, 115]⟩, .string ⟨#[98]⟩, .string ⟨#[99]⟩] 9)
  refine (HO2.out _ p c (some ⟨w11.heap.size, 0, none⟩) (B11.out.trans (hal.mono B11.out.size)) (HA.out.below hal) (Or.inr ⟨w11.heap.size, 0, rfl, fun i hi => by
    rw [World.cell?_alloc_at _ _ _ _ rfl]
    match i, hi with
    | 0, _ => rfl
    | 1, _ => rfl
    | 2, _ => rfl⟩)).mono ?_
  rintro e w12 ⟨rfl, b12⟩
  have B12 := Lib.hid ((B11.out.trans (hal.mono B11.out.size)).trans (b12.mono (B11.out.trans (hal.mono B11.out.size)).size))
  clear b12 HO2 hal HA
  go_wp2_with fail
  have hal := (Below.refl w12.heap.size w12).alloc (Nat.le_refl _) (.cells #[.int .u8 0, .string ⟨#[]⟩, .slice none 0 0, .slice none 0 0, .slice none 0 0] 37)
  refine (HO3.out _ (some ⟨w12.heap.size, 0, none⟩) (B12.out.trans (hal.mono B12.out.size)) (Vt.zero_row w12)).mono ?_
  rintro e w13 ⟨rfl, b13⟩
  have B13 := Lib.hid ((B12.out.trans (hal.mono B12.out.size)).trans (b13.mono (B12.out.trans (hal.mono B12.out.size)).size))
  clear b13 HO3 hal
  go_wp2_with fail
  go_ret
  exact ⟨rfl, B13.out⟩
end Go.Proofs.YteiccjakaabfnaaGreatDoor
