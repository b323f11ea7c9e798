/-
  The walk of the document's own Check of a device (bellmanref03). Conditions: a device's lists and numbers are of a size that a machine holds.
-/
import Derived.Test.YtpaleljnkejdgaaDevAt
namespace Go.Proofs.Ytpaleljnkejdgaa
open Go.RowKit

set_option maxHeartbeats 2000000 in
/-- The document's Check, at whatever device. -/
theorem rcheck_any (v : Value) (d : Wp.Dev) (w : World) (hv : Wp.DevAt w v d) (hf : d.Fits) :
    Calls Try.prog 13 #[v] w fun e w' => e = .returned (.int .i64 d.chk) ∧ Below w.heap.size w w' := by
  obtain ⟨pb, cb, pw, cw, rfl, hb, hw⟩ := hv
  have hfb := hf.bl
  have hfw := hf.ws
  have hfu := hf.fu
  have Hf := Lib.hid hf
  have Hb := Lib.hid hb
  have Hw := Lib.hid hw
  clear hf hb hw
  unfold Wp.devV
  obtain ⟨n, hn⟩ : ∃ n, n = d.bl.length := ⟨_, rfl⟩
  obtain ⟨m, hm⟩ : ∃ m, m = d.ws.length := ⟨_, rfl⟩
  obtain ⟨fu, hfe⟩ : ∃ f, f = d.fu := ⟨_, rfl⟩
  obtain ⟨dn, hdn⟩ : ∃ f, f = d.dn := ⟨_, rfl⟩
  rw [← hn] at hfb
  rw [← hm] at hfw
  rw [← hfe] at hfu
  obtain ⟨hfu1, hfu2⟩ := hfu
  have Hn := Lib.hid hn
  have Hm := Lib.hid hm
  have Hfe := Lib.hid hfe
  rw [← hn, ← hm, ← hfe, ← hdn]
  clear hn hm hfe hdn
  by_cases hbig : n ≤ 4096 ∧ m ≤ 4096 ∧ -1 ≤ fu
  · obtain ⟨h1, h2, h3⟩ := hbig
    have Hbl := Lib.hid (fun k hk h => Wp.Dev.chk_bad (Wp.Dev.bad_of_bl (d := d) k hk h))
    have Hbw := Lib.hid (fun k hk h => Wp.Dev.chk_bad (Wp.Dev.bad_of_ws (d := d) k hk h))
    have Hok := Lib.hid (fun h1 h2 => Wp.Dev.chk_ok (Wp.Dev.ok_of (d := d) (by rw [← Hn.out, ← Hm.out, ← Hfe.out]; exact ⟨by omega, by omega, h3⟩) h1 h2))
    obtain ⟨r, hr⟩ : ∃ r, r = d.chk := ⟨_, rfl⟩
    rw [← hr] at Hbl Hbw Hok ⊢
    clear hr
    have Hbox := Lib.hid (show (w.alloc (.cells #[.slice pb n cb, .slice pw m cw, .int .i64 fu, .bool dn] 25)).cell? ⟨w.heap.size, 1, none⟩ = some (.slice pw m cw) by rw [World.cell?_alloc_at _ _ _ _ rfl]; rfl)
    have Hbox0 := Lib.hid (show (w.alloc (.cells #[.slice pb n cb, .slice pw m cw, .int .i64 fu, .bool dn] 25)).cell? ⟨w.heap.size, 0, none⟩ = some (.slice pb n cb) by rw [World.cell?_alloc_at _ _ _ _ rfl]; rfl)
    have Hbox2 := Lib.hid (show (w.alloc (.cells #[.slice pb n cb, .slice pw m cw, .int .i64 fu, .bool dn] 25)).cell? ⟨w.heap.size, 2, none⟩ = some (.int .i64 fu) by rw [World.cell?_alloc_at _ _ _ _ rfl]; rfl)
    have Hbox3 := Lib.hid (show (w.alloc (.cells #[.slice pb n cb, .slice pw m cw, .int .i64 fu, .bool dn] 25)).cell? ⟨w.heap.size, 3, none⟩ = some (.bool dn) by rw [World.cell?_alloc_at _ _ _ _ rfl]; rfl)
    go_enter Try.func13, Try.ntmps13
    go_wp2_with fail
    have hsz : (w.alloc (.cells #[.slice pb n cb, .slice pw m cw, .int .i64 fu, .bool dn] 25)).heap.size = w.heap.size + 1 := by simp
    have hbw : Below w.heap.size w (w.alloc (.cells #[.slice pb n cb, .slice pw m cw, .int .i64 fu, .bool dn] 25)) := (Below.refl _ _).alloc (Nat.le_refl _) _
    obtain ⟨w1, hw1⟩ : ∃ w1, w.alloc (.cells #[.slice pb n cb, .slice pw m cw, .int .i64 fu, .bool dn] 25) = w1 := ⟨_, rfl⟩
    rw [hw1] at hsz hbw Hbox Hbox0 Hbox2 Hbox3 ⊢
    clear hw1
    have Hb1 := Lib.hid (Hb.out.below hbw)
    have Hw1 := Lib.hid (Hw.out.below hbw)
    go_loopw [4, 25] (fun _ t wr => ∃ k : Nat, k ≤ n ∧ t = .int .i64 k ∧ (∀ j (hj : j < d.bl.length), j < k → d.bl[j].size = 64) ∧ Below w1.heap.size w1 wr) (fun _ t _ => n - (intOf t).toNat)
    case atStart => exact ⟨0, Nat.zero_le _, rfl, fun j _ h => absurd h (Nat.not_lt_zero _), Below.refl _ _⟩
    case round =>
      obtain ⟨k, hk, rfl, hgood, hB⟩ := hrel
      have Hgood := Lib.hid hgood
      clear hgood
      by_cases hlt : k < n
      · have hkl : k < d.bl.length := by rw [← Hn.out]; exact hlt
        obtain ⟨b, off, rfl, hcell⟩ := (Hb1.out.below hB).get k hkl
        rw [show Wp.mkT d.bl[k] = Value.string d.bl[k] from rfl] at hcell
        have hbad := Hbl.out k hkl
        have hsx := Hf.out.bs d.bl[k] (List.getElem_mem _)
        have hgood2 := fun (h : d.bl[k].size = 64) => (fun j (hj : j < d.bl.length) (h2 : j < k + 1) => (if e : j = k then by subst e; exact h else Hgood.out j hj (by omega)) : ∀ j (hj : j < d.bl.length), j < k + 1 → d.bl[j].size = 64)
        have Hbad := Lib.hid hbad
        have Hgood2 := Lib.hid hgood2
        clear hgood2 hbad
        obtain ⟨x, hxe⟩ : ∃ x, x = d.bl[k] := ⟨_, rfl⟩
        rw [← hxe] at hcell hsx Hgood2 Hbad
        clear hxe hkl
        by_cases hx : x.size = 64
        · go_wp2_with fail
          refine ⟨⟨k + 1, by omega, by go_num, Hgood2.out hx, hB⟩, by simp [intOf]; omega⟩
        · have hx2 : ((x.size : Int) != 64) = true := by rw [bne_iff_ne]; omega
          go_wp2_with fail
          go_ret
          exact ⟨by rw [Hbad.out hx]; rfl, hbw.trans (hB.mono (by omega))⟩
      · obtain rfl : k = n := by omega
        have hc1 := (hB.cell (p := ⟨w.heap.size, 1, none⟩) (by simp; omega)).trans Hbox.out
        have hc0 := Lib.hid ((hB.cell (p := ⟨w.heap.size, 0, none⟩) (by simp; omega)).trans Hbox0.out)
        have hc2 := Lib.hid ((hB.cell (p := ⟨w.heap.size, 2, none⟩) (by simp; omega)).trans Hbox2.out)
        have hc3 := Lib.hid ((hB.cell (p := ⟨w.heap.size, 3, none⟩) (by simp; omega)).trans Hbox3.out)
        have Hw2 := Lib.hid (Hw1.out.below hB)
        have hszr : w.heap.size < wr.heap.size := by have := hB.size; omega
        go_wp2_with fail
        go_loopw [36] (fun t w2 => ∃ j : Nat, j ≤ m ∧ t = .int .i64 j ∧ (∀ i (hi : i < d.ws.length), i < j → 0 ≤ d.ws[i].1 ∧ d.ws[i].1 < (d.bl.length : Int) ∧ d.ws[i].2.size = 64) ∧ Below wr.heap.size wr w2) (fun t _ => m - (intOf t).toNat)
        case atStart => exact ⟨0, Nat.zero_le _, rfl, fun j _ h => absurd h (Nat.not_lt_zero _), Below.refl _ _⟩
        case round =>
          obtain ⟨j, hj, rfl, hgood, hB2⟩ := hrel
          have Hgood3 := Lib.hid hgood
          clear hgood
          by_cases hlt2 : j < m
          · have hjl : j < d.ws.length := by rw [← Hm.out]; exact hlt2
            obtain ⟨b, off, rfl, hcell1, hcell2⟩ := (Hw2.out.below hB2).get j hjl
            have hbad := Hbw.out j hjl
            have hsx := Hf.out.wb d.ws[j] (List.getElem_mem _)
            have hgood2 := fun (h : 0 ≤ d.ws[j].1 ∧ d.ws[j].1 < (d.bl.length : Int) ∧ d.ws[j].2.size = 64) => (fun i (hi : i < d.ws.length) (h2 : i < j + 1) => (if e : i = j then by subst e; exact h else Hgood3.out i hi (by omega)) : ∀ i (hi : i < d.ws.length), i < j + 1 → 0 ≤ d.ws[i].1 ∧ d.ws[i].1 < (d.bl.length : Int) ∧ d.ws[i].2.size = 64)
            rw [← Hn.out] at hbad
            have Hbad := Lib.hid hbad
            have Hgood2 := Lib.hid hgood2
            clear hgood2 hbad
            obtain ⟨x, hxe⟩ : ∃ x, x = d.ws[j] := ⟨_, rfl⟩
            rw [← hxe] at hcell1 hcell2 hsx Hgood2 Hbad
            clear hxe hjl
            obtain ⟨xa, xd⟩ := x
            simp only [] at hcell1 hcell2 hsx
            have hd0 := (hB2.cell (p := ⟨w.heap.size, 0, none⟩) (by simp; omega)).trans hc0.out
            have hd1 := (hB2.cell (p := ⟨w.heap.size, 1, none⟩) (by simp; omega)).trans hc1
            have hd2 := (hB2.cell (p := ⟨w.heap.size, 2, none⟩) (by simp; omega)).trans hc2.out
            have hd3 := (hB2.cell (p := ⟨w.heap.size, 3, none⟩) (by simp; omega)).trans hc3.out
            have hsz2 : w.heap.size < wr.heap.size := by have := hB2.size; omega
            clear hc1
            have fin := Lib.hid (hbw.trans ((hB.trans ((hB2.alloc hB2.size (.cells #[.int .i64 xa, .string xd] 40)).mono hB.size)).mono (by omega)))
            by_cases h0 : 0 ≤ xa
            · by_cases hin : xa < (k : Int)
              · by_cases hx : xd.size = 64
                · go_wp2_with fail
                  exact ⟨⟨j + 1, by omega, by go_num, Hgood2.out ⟨h0, by rw [← Hn.out]; exact hin, hx⟩, hB2.alloc hB2.size _⟩, by simp [intOf]; omega⟩
                · have hx2 : ((xd.size : Int) != 64) = true := by rw [bne_iff_ne]; omega
                  go_wp2_with fail
                  go_ret
                  exact ⟨by rw [Hbad.out (fun h => hx h.2.2)]; rfl, fin.out⟩
              · have hin2 : (k : Int) ≤ xa := by omega
                go_wp2_with fail
                go_ret
                exact ⟨by rw [Hbad.out (fun h => by have := h.2.1; omega)]; rfl, fin.out⟩
            · have h02 : xa < 0 := by omega
              go_wp2_with fail
              go_ret
              exact ⟨by rw [Hbad.out (fun h => by have := h.1; omega)]; rfl, fin.out⟩
          · obtain rfl : j = m := by omega
            have hall := Hok.out (fun i hi => Hgood.out i hi (by rw [← Hn.out] at hi; omega)) (fun i hi => Hgood3.out i hi (by rw [← Hm.out] at hi; omega))
            go_wp2_with fail
            go_ret
            refine ⟨by rw [hall]; rfl, ?_⟩
            exact hbw.trans ((hB.trans (hB2.mono hB.size)).mono (by omega))
  · rw [Wp.Dev.chk_bad (Wp.Dev.bad_of_fit (d := d) (by rw [← Hn.out, ← Hm.out, ← Hfe.out]; exact hbig))]
    have hbt : (decide (4096 < (n : Int)) || decide (4096 < (m : Int)) || decide (fu < -1)) = true := by
      by_cases h1 : 4096 < (n : Int)
      · rw [decide_eq_true h1]; rfl
      · by_cases h2 : 4096 < (m : Int)
        · rw [decide_eq_true h2]; simp
        · have h3 : fu < -1 := by omega
          rw [decide_eq_true h3]; simp
    by_cases h1 : 4096 < (n : Int)
    · go_enter Try.func13, Try.ntmps13
      go_wp2_with fail
      go_ret
      exact ⟨rfl, (Below.refl _ _).alloc (Nat.le_refl _) _⟩
    · by_cases h2 : 4096 < (m : Int)
      · go_enter Try.func13, Try.ntmps13
        go_wp2_with fail
        go_ret
        exact ⟨rfl, (Below.refl _ _).alloc (Nat.le_refl _) _⟩
      · have h3 : fu < -1 := by omega
        go_enter Try.func13, Try.ntmps13
        go_wp2_with fail
        go_ret
        exact ⟨rfl, (Below.refl _ _).alloc (Nat.le_refl _) _⟩
end Go.Proofs.Ytpaleljnkejdgaa
