
/-
  What a device's value reads as; the walks of block's smallest calls (holds, spend) and of Check. Conditions: a device's lists and numbers are of a size that a machine holds.
-/
import Derived.Test.YtpmhgfjnabgilabDoorRows
import Derived.Test.YtpmhgfjnabgilabDoorAt
import Derived.Test.YtpmhgfjnabgilabDoorDev
namespace Go.Proofs.YtpmhgfjnabgilabDoor
open Go.RowKit

/-- The slice of waits whose first cell is at p reads as l: two cells each. -/
def Wp.AtW (w : World) (p : Option Addr) (l : List (Int × ByteArray)) : Prop :=
  l = [] ∨ ∃ b off, p = some ⟨b, off, none⟩ ∧ ∀ i (h : i < l.length), w.cell? ⟨b, off + i * 2, none⟩ = some (.int .i64 l[i].1) ∧ w.cell? ⟨b, off + i * 2 + 1, none⟩ = some (.string l[i].2)
theorem Wp.AtW.below {w w' : World} {p : Option Addr} {l : List (Int × ByteArray)} (h : Wp.AtW w p l) (hb : Below w.heap.size w w') : Wp.AtW w' p l := by
  rcases h with h | ⟨b, off, hp, hc⟩
  · exact Or.inl h
  · exact Or.inr ⟨b, off, hp, fun i hi => ⟨(hb.cell (World.block_lt_of_cell? w _ (hc i hi).1)).trans (hc i hi).1, (hb.cell (World.block_lt_of_cell? w _ (hc i hi).2)).trans (hc i hi).2⟩⟩
theorem Wp.AtW.get {w : World} {p : Option Addr} {l : List (Int × ByteArray)} (h : Wp.AtW w p l) (k : Nat) (hk : k < l.length) :
    ∃ b off, p = some ⟨b, off, none⟩ ∧ w.cell? ⟨b, off + k * 2, none⟩ = some (.int .i64 l[k].1) ∧ w.cell? ⟨b, off + k * 2 + 1, none⟩ = some (.string l[k].2) := by
  rcases h with h | ⟨b, off, hp, hc⟩
  · subst h; simp at hk
  · exact ⟨b, off, hp, hc k hk⟩

/-- The value of a device, its slices at these places. -/
def Wp.devV (pb : Option Addr) (cb : Nat) (pw : Option Addr) (cw : Nat) (d : Wp.Dev) : Value := .agg #[.slice pb d.bl.length cb, .slice pw d.ws.length cw, .int .i64 d.fu, .bool d.dn]
/-- A value reads as a device. -/
def Wp.DevAt (w : World) (v : Value) (d : Wp.Dev) : Prop := ∃ pb cb pw cw, v = Wp.devV pb cb pw cw d ∧ Wp.At Wp.mkT w pb d.bl ∧ Wp.AtW w pw d.ws
theorem Wp.DevAt.below {w w' : World} {v : Value} {d : Wp.Dev} (h : Wp.DevAt w v d) (hb : Below w.heap.size w w') : Wp.DevAt w' v d := by
  obtain ⟨pb, cb, pw, cw, rfl, h1, h2⟩ := h
  exact ⟨pb, cb, pw, cw, rfl, h1.below hb, h2.below hb⟩
theorem Wp.DevAt.zero (w : World) : Wp.DevAt w (.agg #[.slice none 0 0, .slice none 0 0, .int .i64 0, .bool false]) Wp.Dev.zero := ⟨none, 0, none, 0, rfl, Or.inl rfl, Or.inl rfl⟩
theorem below_thenD {w0 w1 w2 : World} (h1 : Below w0.heap.size w0 w1) (h2 : Below w1.heap.size w1 w2) (_ : w0.heap.size ≤ w1.heap.size) : Below w0.heap.size w0 w2 := h1.trans (h2.mono h1.size)

set_option maxHeartbeats 400000 in
/-- holds: is there such a block? -/
theorem holds_any (b1 b2 : Option Addr) (n1 c1 n2 c2 : Nat) (fu : Int) (dn : Bool) (at_ : Int) (w : World) (_hn : n1 ≤ 140737488351232) :
    Calls Tryd.prog 67 #[.agg #[.slice b1 n1 c1, .slice b2 n2 c2, .int .i64 fu, .bool dn], .int .i64 at_] w fun e w' => e = .returned (.bool (decide (0 ≤ at_) && decide (at_ < n1))) ∧ Below w.heap.size w w' := by
  go_enter Tryd.func67, Tryd.ntmps67
  go_wp2_with fail
  · go_ret
    refine ⟨?_, (Below.refl _ _).alloc (Nat.le_refl _) _⟩
    rename_i h
    rw [decide_eq_true h, Bool.true_and]
    rfl
  · go_ret
    refine ⟨?_, (Below.refl _ _).alloc (Nat.le_refl _) _⟩
    rename_i h
    rw [decide_eq_false (show ¬ 0 ≤ at_ by omega), Bool.false_and]
    rfl

set_option maxHeartbeats 2000000 in
/-- Check, at whatever device. -/
theorem check_any (v : Value) (d : Wp.Dev) (w : World) (hv : Wp.DevAt w v d) (hf : d.Fits) :
    Calls Tryd.prog 36 #[v] w fun e w' => e = .returned (.int .i64 d.chk) ∧ Below w.heap.size w w' := by
  obtain ⟨pb, cb, pw, cw, rfl, hb, hw⟩ := hv
  have hfb := hf.bl
  have hfw := hf.ws
  have hfu := hf.fu
  have Hf := Lib.hid hf
  have Hb := Lib.hid hb
  have Hw := Lib.hid hw
  clear hf hb hw
  unfold Wp.devV
  obtain ⟨n, hn⟩ : ∃ n, n = d.bl.length := ⟨_, rfl⟩
  obtain ⟨m, hm⟩ : ∃ m, m = d.ws.length := ⟨_, rfl⟩
  obtain ⟨fu, hfe⟩ : ∃ f, f = d.fu := ⟨_, rfl⟩
  obtain ⟨dn, hdn⟩ : ∃ f, f = d.dn := ⟨_, rfl⟩
  rw [← hn] at hfb
  rw [← hm] at hfw
  rw [← hfe] at hfu
  obtain ⟨hfu1, hfu2⟩ := hfu
  have Hn := Lib.hid hn
  have Hm := Lib.hid hm
  have Hfe := Lib.hid hfe
  rw [← hn, ← hm, ← hfe, ← hdn]
  clear hn hm hfe hdn
  by_cases hbig : n ≤ 4096 ∧ m ≤ 4096 ∧ -1 ≤ fu
  · obtain ⟨h1, h2, h3⟩ := hbig
    have Hbl := Lib.hid (fun k hk h => Wp.Dev.chk_bad (Wp.Dev.bad_of_bl (d := d) k hk h))
    have Hbw := Lib.hid (fun k hk h => Wp.Dev.chk_bad (Wp.Dev.bad_of_ws (d := d) k hk h))
    have Hok := Lib.hid (fun h1 h2 => Wp.Dev.chk_ok (Wp.Dev.ok_of (d := d) (by rw [← Hn.out, ← Hm.out, ← Hfe.out]; exact ⟨by omega, by omega, h3⟩) h1 h2))
    obtain ⟨r, hr⟩ : ∃ r, r = d.chk := ⟨_, rfl⟩
    rw [← hr] at Hbl Hbw Hok ⊢
    clear hr
    have Hbox := Lib.hid (show (w.alloc (.cells #[.slice pb n cb, .slice pw m cw, .int .i64 fu, .bool dn] 38)).cell? ⟨w.heap.size, 1, none⟩ = some (.slice pw m cw) by rw [World.cell?_alloc_at _ _ _ _ rfl]; rfl)
    have Hbox0 := Lib.hid (show (w.alloc (.cells #[.slice pb n cb, .slice pw m cw, .int .i64 fu, .bool dn] 38)).cell? ⟨w.heap.size, 0, none⟩ = some (.slice pb n cb) by rw [World.cell?_alloc_at _ _ _ _ rfl]; rfl)
    have Hbox2 := Lib.hid (show (w.alloc (.cells #[.slice pb n cb, .slice pw m cw, .int .i64 fu, .bool dn] 38)).cell? ⟨w.heap.size, 2, none⟩ = some (.int .i64 fu) by rw [World.cell?_alloc_at _ _ _ _ rfl]; rfl)
    have Hbox3 := Lib.hid (show (w.alloc (.cells #[.slice pb n cb, .slice pw m cw, .int .i64 fu, .bool dn] 38)).cell? ⟨w.heap.size, 3, none⟩ = some (.bool dn) by rw [World.cell?_alloc_at _ _ _ _ rfl]; rfl)
    go_enter Tryd.func36, Tryd.ntmps36
    go_wp2_with fail
    have hsz : (w.alloc (.cells #[.slice pb n cb, .slice pw m cw, .int .i64 fu, .bool dn] 38)).heap.size = w.heap.size + 1 := by simp
    have hbw : Below w.heap.size w (w.alloc (.cells #[.slice pb n cb, .slice pw m cw, .int .i64 fu, .bool dn] 38)) := (Below.refl _ _).alloc (Nat.le_refl _) _
    obtain ⟨w1, hw1⟩ : ∃ w1, w.alloc (.cells #[.slice pb n cb, .slice pw m cw, .int .i64 fu, .bool dn] 38) = w1 := ⟨_, rfl⟩
    rw [hw1] at hsz hbw Hbox Hbox0 Hbox2 Hbox3 ⊢
    clear hw1
    have Hb1 := Lib.hid (Hb.out.below hbw)
    have Hw1 := Lib.hid (Hw.out.below hbw)
    go_loopw [4, 25] (fun _ t wr => ∃ k : Nat, k ≤ n ∧ t = .int .i64 k ∧ (∀ j (hj : j < d.bl.length), j < k → d.bl[j].size = 64) ∧ Below w1.heap.size w1 wr) (fun _ t _ => n - (intOf t).toNat)
    case atStart => exact ⟨0, Nat.zero_le _, rfl, fun j _ h => absurd h (Nat.not_lt_zero _), Below.refl _ _⟩
    case round =>
      obtain ⟨k, hk, rfl, hgood, hB⟩ := hrel
      have Hgood := Lib.hid hgood
      clear hgood
      by_cases hlt : k < n
      · have hkl : k < d.bl.length := by rw [← Hn.out]; exact hlt
        obtain ⟨b, off, rfl, hcell⟩ := (Hb1.out.below hB).get k hkl
        rw [show Wp.mkT d.bl[k] = Value.string d.bl[k] from rfl] at hcell
        have hbad := Hbl.out k hkl
        have hsx := Hf.out.bs d.bl[k] (List.getElem_mem _)
        have hgood2 := fun (h : d.bl[k].size = 64) => (fun j (hj : j < d.bl.length) (h2 : j < k + 1) => (if e : j = k then by subst e; exact h else Hgood.out j hj (by omega)) : ∀ j (hj : j < d.bl.length), j < k + 1 → d.bl[j].size = 64)
        have Hbad := Lib.hid hbad
        have Hgood2 := Lib.hid hgood2
        clear hgood2 hbad
        obtain ⟨x, hxe⟩ : ∃ x, x = d.bl[k] := ⟨_, rfl⟩
        rw [← hxe] at hcell hsx Hgood2 Hbad
        clear hxe hkl
        by_cases hx : x.size = 64
        · go_wp2_with fail
          refine ⟨⟨k + 1, by omega, by go_num, Hgood2.out hx, hB⟩, by simp [intOf]; omega⟩
        · have hx2 : ((x.size : Int) != 64) = true := by rw [bne_iff_ne]; omega
          go_wp2_with fail
          go_ret
          exact ⟨by rw [Hbad.out hx]; rfl, hbw.trans (hB.mono (by omega))⟩
      · obtain rfl : k = n := by omega
        have hc1 := (hB.cell (p := ⟨w.heap.size, 1, none⟩) (by simp; omega)).trans Hbox.out
        have hc0 := Lib.hid ((hB.cell (p := ⟨w.heap.size, 0, none⟩) (by simp; omega)).trans Hbox0.out)
        have hc2 := Lib.hid ((hB.cell (p := ⟨w.heap.size, 2, none⟩) (by simp; omega)).trans Hbox2.out)
        have hc3 := Lib.hid ((hB.cell (p := ⟨w.heap.size, 3, none⟩) (by simp; omega)).trans Hbox3.out)
        have Hw2 := Lib.hid (Hw1.out.below hB)
        have hszr : w.heap.size < wr.heap.size := by have := hB.size; omega
        go_wp2_with fail
        go_loopw [36] (fun t w2 => ∃ j : Nat, j ≤ m ∧ t = .int .i64 j ∧ (∀ i (hi : i < d.ws.length), i < j → 0 ≤ d.ws[i].1 ∧ d.ws[i].1 < (d.bl.length : Int) ∧ d.ws[i].2.size = 64) ∧ Below wr.heap.size wr w2) (fun t _ => m - (intOf t).toNat)
        case atStart => exact ⟨0, Nat.zero_le _, rfl, fun j _ h => absurd h (Nat.not_lt_zero _), Below.refl _ _⟩
        case round =>
          obtain ⟨j, hj, rfl, hgood, hB2⟩ := hrel
          have Hgood3 := Lib.hid hgood
          clear hgood
          by_cases hlt2 : j < m
          · have hjl : j < d.ws.length := by rw [← Hm.out]; exact hlt2
            obtain ⟨b, off, rfl, hcell1, hcell2⟩ := (Hw2.out.below hB2).get j hjl
            have hbad := Hbw.out j hjl
            have hsx := Hf.out.wb d.ws[j] (List.getElem_mem _)
            have hgood2 := fun (h : 0 ≤ d.ws[j].1 ∧ d.ws[j].1 < (d.bl.length : Int) ∧ d.ws[j].2.size = 64) => (fun i (hi : i < d.ws.length) (h2 : i < j + 1) => (if e : i = j then by subst e; exact h else Hgood3.out i hi (by omega)) : ∀ i (hi : i < d.ws.length), i < j + 1 → 0 ≤ d.ws[i].1 ∧ d.ws[i].1 < (d.bl.length : Int) ∧ d.ws[i].2.size = 64)
            rw [← Hn.out] at hbad
            have Hbad := Lib.hid hbad
            have Hgood2 := Lib.hid hgood2
            clear hgood2 hbad
            obtain ⟨x, hxe⟩ : ∃ x, x = d.ws[j] := ⟨_, rfl⟩
            rw [← hxe] at hcell1 hcell2 hsx Hgood2 Hbad
            clear hxe hjl
            obtain ⟨xa, xd⟩ := x
            simp only [] at hcell1 hcell2 hsx
            have hd0 := (hB2.cell (p := ⟨w.heap.size, 0, none⟩) (by simp; omega)).trans hc0.out
            have hd1 := (hB2.cell (p := ⟨w.heap.size, 1, none⟩) (by simp; omega)).trans hc1
            have hd2 := (hB2.cell (p := ⟨w.heap.size, 2, none⟩) (by simp; omega)).trans hc2.out
            have hd3 := (hB2.cell (p := ⟨w.heap.size, 3, none⟩) (by simp; omega)).trans hc3.out
            have hsz2 : w.heap.size < wr.heap.size := by have := hB2.size; omega
            clear hc1
            by_cases hin : 0 ≤ xa ∧ xa < (k : Int)
            · have hb1 : (decide (0 ≤ xa) && decide (xa < (k : Int))) = true := by rw [Bool.and_eq_true]; exact ⟨decide_eq_true hin.1, decide_eq_true hin.2⟩
              go_wp2_with fail
              refine (holds_any _ _ _ _ _ _ _ _ _ _ hfb).mono ?_
              rintro e w3 ⟨rfl, hb3⟩
              rw [hb1]
              have hq := (hb3.cell (p := ⟨wr.heap.size, 1, none⟩) (by simp)).trans (show (wr.alloc (.cells #[.int .i64 xa, .string xd] 86)).cell? ⟨wr.heap.size, 1, none⟩ = some (.string xd) by rw [World.cell?_alloc_at _ _ _ _ rfl]; rfl)
              by_cases hx : xd.size = 64
              · go_wp2_with fail
                refine ⟨⟨j + 1, by omega, by go_num, Hgood2.out ⟨hin.1, by rw [← Hn.out]; exact hin.2, hx⟩, ?_⟩, by simp [intOf]; omega⟩
                exact (hB2.alloc hB2.size _).trans (hb3.mono (by simp; have := hB2.size; omega))
              · have hx2 : ((xd.size : Int) != 64) = true := by rw [bne_iff_ne]; omega
                go_wp2_with fail
                go_ret
                refine ⟨by rw [Hbad.out (fun h => hx h.2.2)]; rfl, ?_⟩
                exact hbw.trans ((hB.trans (((hB2.alloc hB2.size _).trans (hb3.mono (by simp; have := hB2.size; omega))).mono hB.size)).mono (by omega))
            · have hb1 : (decide (0 ≤ xa) && decide (xa < (k : Int))) = false := by
                rw [Bool.and_eq_false_iff]
                by_cases h0 : 0 ≤ xa
                · exact Or.inr (decide_eq_false (fun h => hin ⟨h0, h⟩))
                · exact Or.inl (decide_eq_false h0)
              go_wp2_with fail
              refine (holds_any _ _ _ _ _ _ _ _ _ _ hfb).mono ?_
              rintro e w3 ⟨rfl, hb3⟩
              rw [hb1]
              go_wp2_with fail
              go_ret
              refine ⟨by rw [Hbad.out (fun h => hin ⟨h.1, h.2.1⟩)]; rfl, ?_⟩
              exact hbw.trans ((hB.trans (((hB2.alloc hB2.size _).trans (hb3.mono (by simp; have := hB2.size; omega))).mono hB.size)).mono (by omega))
          · obtain rfl : j = m := by omega
            have hall := Hok.out (fun i hi => Hgood.out i hi (by rw [← Hn.out] at hi; omega)) (fun i hi => Hgood3.out i hi (by rw [← Hm.out] at hi; omega))
            go_wp2_with fail
            go_ret
            refine ⟨by rw [hall]; rfl, ?_⟩
            exact hbw.trans ((hB.trans (hB2.mono hB.size)).mono (by omega))
  · rw [Wp.Dev.chk_bad (Wp.Dev.bad_of_fit (d := d) (by rw [← Hn.out, ← Hm.out, ← Hfe.out]; exact hbig))]
    have hbt : (decide (4096 < (n : Int)) || decide (4096 < (m : Int)) || decide (fu < -1)) = true := by
      by_cases h1 : 4096 < (n : Int)
      · rw [decide_eq_true h1]; rfl
      · by_cases h2 : 4096 < (m : Int)
        · rw [decide_eq_true h2]; simp
        · have h3 : fu < -1 := by omega
          rw [decide_eq_true h3]; simp
    by_cases h1 : 4096 < (n : Int)
    · go_enter Tryd.func36, Tryd.ntmps36
      go_wp2_with fail
      go_ret
      exact ⟨rfl, (Below.refl _ _).alloc (Nat.le_refl _) _⟩
    · by_cases h2 : 4096 < (m : Int)
      · go_enter Tryd.func36, Tryd.ntmps36
        go_wp2_with fail
        go_ret
        exact ⟨rfl, (Below.refl _ _).alloc (Nat.le_refl _) _⟩
      · have h3 : fu < -1 := by omega
        go_enter Tryd.func36, Tryd.ntmps36
        go_wp2_with fail
        go_ret
        exact ⟨rfl, (Below.refl _ _).alloc (Nat.le_refl _) _⟩
end Go.Proofs.YtpmhgfjnabgilabDoor
