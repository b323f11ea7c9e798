/-
  The walk of the law TrailBack: what is appended behind what is used is read behind all that was read, and other blocks have what they had. Conditions: sum's table reads as it is laid; a device's lists and numbers, and a text, are of a size that a machine holds.
-/
import Derived.Test.YtpmhgfjnabgilaaDoorTrLives
import Derived.Test.YtpmhgfjnabgilaaDoorTrBack
namespace Go.Proofs.YtpmhgfjnabgilaaDoor
open Go.RowKit

set_option maxRecDepth 100000 in
set_option maxHeartbeats 1000000 in
/-- Where the region is none. -/
theorem trailBack_none (v : Value) (d : Wp.Dev) (f k o : Int) (r : ByteArray) (w : World) (hL : Sp.Laid w) (hv : Wp.DevAt w v d) (hf : d.Fits) (f1 : Wp.I64 f) (k1 : Wp.I64 k) (h0 : Tr.rchk d f k ≠ 0) :
    Calls Tryd.prog 3 #[v, .int .i64 f, .int .i64 k, .string r, .int .i64 o] w fun e w' => e = .returned (.bool true) ∧ Below w.heap.size w w' := by
  have HLv := Lib.hid (fun W h => trlives_any W (hL.below h))
  obtain ⟨pb, cb, pw, cw, rfl, hv⟩ := devAt_open hv
  have hrd : ∀ W, Below w.heap.size w W → Calls Tryd.prog 16 #[.agg #[.slice pb d.bl.length cb, .slice pw d.ws.length cw, .int .i64 d.fu, .bool d.dn], .int .i64 f, .int .i64 k] W fun e w' => ∃ p c, e = .returned (.tuple #[.slice p 0 c, .int .i64 0, .int .i64 (Tr.rchk d f k)]) ∧ Below W.heap.size W w' := by
    intro W h
    refine (trRead_any _ d f k W (hL.below h) (hv.below h) hf f1 k1).mono ?_
    rintro e w' ⟨vl, l, u, rfl, h2, _, h3, h4⟩
    obtain ⟨rfl, rfl⟩ := h2 h0
    obtain ⟨p, c, rfl, _⟩ := owns_at (mk := Wp.mkT) (l := []) h3
    exact ⟨p, c, rfl, h4⟩
  have hb : (Tr.rchk d f k != 0) = true := by rw [bne_iff_ne]; exact h0
  generalize Tr.rchk d f k = C at *
  have HRd := Lib.hid hrd
  clear hrd h0 hv hf hL
  obtain ⟨bl, ws, fu, dn⟩ := d
  simp only [] at HRd ⊢
  have B0 := Lib.hid ((Below.refl w.heap.size w).alloc (Nat.le_refl _) (.cells #[.slice pb bl.length cb, .slice pw ws.length cw, .int .i64 fu, .bool dn] 25))
  have X0 := Lib.hid (alloc_new w (.cells #[.slice pb bl.length cb, .slice pw ws.length cw, .int .i64 fu, .bool dn] 25))
  generalize bl.length = n at *
  generalize ws.length = m at *
  go_enter Tryd.func3, Tryd.ntmps3
  go_wp2_with fail
  refine (HLv.out _ B0.out).mono ?_
  rintro e w1 ⟨rfl, hb1⟩
  rw [World.size_alloc] at hb1
  have B1 := Lib.hid (B0.out.trans (hb1.mono (by omega)))
  obtain ⟨c0, c1, c2, c3, _, _, _, _⟩ := Wp.four_of ((hb1.block w.heap.size (by omega)).trans X0.out)
  clear hb1
  go_wp2_with fail
  refine (HRd.out _ B1.out).mono ?_
  rintro e w2 ⟨p2, q2, rfl, hb2⟩
  have B2 := Lib.hid (B1.out.trans (hb2.mono B1.out.size))
  clear hb2
  go_wp2_with fail
  go_ret
  exact ⟨rfl, B2.out⟩

theorem Tr.take_pre (l : List ByteArray) (r : ByteArray) (m : List ByteArray) : (l ++ r :: m).take l.length = l := List.take_left' rfl
theorem Tr.get_mid (l : List ByteArray) (r : ByteArray) (m : List ByteArray) (h : l.length < (l ++ r :: m).length) : (l ++ r :: m)[l.length] = r := by
  rw [List.getElem_append_right (Nat.le_refl _)]; simp
set_option maxRecDepth 100000 in
set_option maxHeartbeats 1000000 in
/-- Where the region is one. -/
theorem trailBack_some (v : Value) (d : Wp.Dev) (F K : Nat) (o : Int) (r : ByteArray) (w : World) (hL : Sp.Laid w) (hv : Wp.DevAt w v d) (hf : d.Fits) (hr : r.size ≤ 140737488351232) (ho : Wp.I64 o) (h0 : Tr.rchk d F K = 0) :
    Calls Tryd.prog 3 #[v, .int .i64 F, .int .i64 K, .string r, .int .i64 o] w fun e w' => e = .returned (.bool true) ∧ Below w.heap.size w w' := by
  have HLv := Lib.hid (fun W h => trlives_any W (hL.below h))
  obtain ⟨pb, cb, pw, cw, rfl, hv⟩ := devAt_open hv
  obtain ⟨r1, r2, r3, r4, r5⟩ := Tr.rchk_ok h0
  have hgd : Wp.Good d := ⟨r1, hf.fu.2⟩
  obtain ⟨⟨n1, _, _⟩, _, _⟩ := (Wp.Dev.ok_iff d).1 r1
  have f1 : Wp.I64 F := by unfold Wp.I64; omega
  have k1 : Wp.I64 K := by unfold Wp.I64; omega
  have hrl := Tr.rgn_length h0
  rw [Int.toNat_natCast] at hrl
  have hrd := fun W (h : Below w.heap.size w W) => trRead_any _ d F K W (hL.below h) (hv.below h) hf f1 k1
  have hap := fun W (u : Nat) (hu : u ≤ K) (h : Below w.heap.size w W) => trAppend_any _ d F K u r W (hL.below h) (hv.below h) hf f1 k1 (by unfold Wp.I64; omega) (by omega)
  have hRb := fun W (h : Below w.heap.size w W) => Read_any _ d o W (hv.below h) hf
  have hru := fun l u (h : Tr.Recs (Tr.rgn d F K) l u) => (show u ≤ K ∧ l.length ≤ K by
    have h1 := h.le
    have h2 := (Tr.Part.mk h.small h.blocks h.le : Tr.Part (Tr.rgn d F K) l u).len
    omega)
  have Hrd := Lib.hid hrd
  have Hap := Lib.hid hap
  have Hrb := Lib.hid hRb
  have Hru := Lib.hid hru
  have H0 := Lib.hid h0
  have HG := Lib.hid hgd
  have hFK : F + K ≤ 4096 := by omega
  clear hrd hap hRb hru h0 hgd hrl
  have B0 := Lib.hid ((Below.refl w.heap.size w).alloc (Nat.le_refl _) (.cells #[.slice pb d.bl.length cb, .slice pw d.ws.length cw, .int .i64 d.fu, .bool d.dn] 25))
  have X0 := Lib.hid (alloc_new w (.cells #[.slice pb d.bl.length cb, .slice pw d.ws.length cw, .int .i64 d.fu, .bool d.dn] 25))
  clear hv r1 r2 r3 r4 r5 n1 hf
  generalize hn : d.bl.length = n at *
  generalize hm : d.ws.length = m at *
  generalize hfu : d.fu = fu at *
  generalize hdn : d.dn = dn at *
  clear hn hm hfu hdn
  go_enter Tryd.func3, Tryd.ntmps3
  go_wp2_with fail
  refine (HLv.out _ B0.out).mono ?_
  rintro e w1 ⟨rfl, hb1⟩
  rw [World.size_alloc] at hb1
  have B1 := Lib.hid (B0.out.trans (hb1.mono (by omega)))
  have X1 := Lib.hid ((hb1.block w.heap.size (by omega)).trans X0.out)
  have s1 : w.heap.size < w1.heap.size := by have := hb1.size; rw [World.size_alloc] at this; omega
  obtain ⟨c0, c1, c2, c3, _, _, _, _⟩ := Wp.four_of X1.out
  clear hb1
  go_wp2_with fail
  refine (Hrd.out _ B1.out).mono ?_
  rintro e w2 ⟨v2, l, u, rfl, _, hrs, ho2, hb2⟩
  have hrs := hrs H0.out
  obtain ⟨hu1, hu2⟩ := Hru.out l u hrs
  have Hrs := Lib.hid hrs
  obtain ⟨p2, q2, rfl, ha2⟩ := owns_at ho2
  have hq2 := owns_cap ho2 _ _ rfl
  have A2 := Lib.hid ha2
  rw [H0.out]
  have B2 := Lib.hid (B1.out.trans (hb2.mono B1.out.size))
  have X2 := Lib.hid ((hb2.block w.heap.size s1).trans X1.out)
  have s2 : w.heap.size < w2.heap.size := by have := hb2.size; omega
  clear c0 c1 c2 c3 ho2 hb2 hrs ha2 X1
  obtain ⟨c0, c1, c2, c3, _, _, _, _⟩ := Wp.four_of X2.out
  have hap := Hap.out w2 u hu1 B2.out
  have hno := Tr.app_no (d := d) (f := F) (k := K) (u := u) (r := r)
  have hdo := Tr.app_done (F := F) (K := K) (u := u) (r := r) HG.out
  obtain ⟨⟨e2, n2, no⟩, hE⟩ : ∃ T, T = Tr.app d F K u r := ⟨_, rfl⟩
  rw [← hE] at hap hno hdo
  simp only [] at hap hno hdo
  have Hap2 := Lib.hid hap
  clear hap hE Hap
  by_cases hn0 : no = 0
  · subst hn0
    have HD := Lib.hid (hdo rfl)
    clear hno hdo
    obtain ⟨q1', q2', q3'⟩ := (Wp.Dev.ok_iff e2).1 HD.out.good.ok
    have hnu := HD.out.nu
    have hnl := HD.out.le
    have hrd3 := fun v W (hw : Sp.Laid W) (hd : Wp.DevAt W v e2) => trRead_any v e2 F K W hw hd HD.out.good.fits f1 k1
    have hrc3 := fun m k (h : Tr.Recs (Tr.rgn e2 F K) m k) => HD.out.recs Hrs.out h
    have hrb3 := fun v W (hd : Wp.DevAt W v e2) => Read_any v e2 o W hd HD.out.good.fits
    have hot := HD.out.other o
    have Hrd3 := Lib.hid hrd3
    have Hrc3 := Lib.hid hrc3
    have Hrb3 := Lib.hid hrb3
    have Hot := Lib.hid hot
    have hrl3 := Tr.rgn_length HD.out.chk
    have Hck := Lib.hid HD.out.chk
    have hb4 : ∀ m k, Tr.Recs (Tr.rgn e2 F K) m k → k ≤ 4096 ∧ m.length ≤ 4096 := fun m k h => by
      have h1 := h.le
      have h2 := (Tr.Part.mk h.small h.blocks h.le : Tr.Part (Tr.rgn e2 F K) m k).len
      rw [hrl3, Int.toNat_natCast] at h1
      omega
    have Hb4 := Lib.hid hb4
    clear hrd3 hrc3 hrb3 hot HD hrl3 hb4 q1' q2' q3'
    go_wp2_with fail
    refine Hap2.out.mono ?_
    rintro e w3 ⟨v3, rfl, hd3, hb3⟩
    obtain ⟨pb3, cb3, pw3, cw3, rfl, hd3⟩ := devAt_open hd3
    have hz3 := hb3.alloc hb3.size (.cells #[.slice pb3 e2.bl.length cb3, .slice pw3 e2.ws.length cw3, .int .i64 e2.fu, .bool e2.dn] 25)
    have B3 := Lib.hid (B2.out.trans (hz3.mono B2.out.size))
    have X3 := Lib.hid ((hz3.block w.heap.size s2).trans X2.out)
    have A3 := Lib.hid (A2.out.below hz3)
    have E3 := Lib.hid (alloc_new w3 (.cells #[.slice pb3 e2.bl.length cb3, .slice pw3 e2.ws.length cw3, .int .i64 e2.fu, .bool e2.dn] 25))
    have D3 := Lib.hid (hd3.below ((Below.refl _ _).alloc (Nat.le_refl _) (.cells #[.slice pb3 e2.bl.length cb3, .slice pw3 e2.ws.length cw3, .int .i64 e2.fu, .bool e2.dn] 25)))
    have s3 : w.heap.size < w3.heap.size := by have := hb3.size; omega
    clear hd3 hb3 hz3 c0 c1 c2 c3 X2 A2
    go_wp2_with fail
    refine (Hrd3.out _ _ (hL.below B3.out) D3.out).mono ?_
    rintro e w4 ⟨v4, m4, k4, rfl, _, hrs4, ho4, hb4⟩
    have hrs4 := hrs4 Hck.out
    obtain ⟨m', rfl, hnk⟩ := Hrc3.out m4 k4 hrs4
    obtain ⟨hk4, hm4⟩ := Hb4.out _ _ hrs4
    obtain ⟨p4, q4, rfl, ha4⟩ := owns_at ho4
    have hq4 := owns_cap ho4 _ _ rfl
    rw [Hck.out]
    rw [World.size_alloc] at hb4
    have B4 := Lib.hid (B3.out.trans (hb4.mono (by omega)))
    have X4 := Lib.hid ((hb4.block w.heap.size (by omega)).trans X3.out)
    have E4 := Lib.hid ((hb4.block w3.heap.size (by omega)).trans E3.out)
    have D4 := Lib.hid (D3.out.below (by rw [World.size_alloc]; exact hb4))
    have A4 := Lib.hid (A3.out.below (by rw [World.size_alloc]; exact hb4))
    have s4 : w3.heap.size < w4.heap.size := by have := hb4.size; rw [World.size_alloc] at this; omega
    have hgm := ha4.get l.length (by simp)
    obtain ⟨b4, o4, rfl, hcell4⟩ := hgm
    rw [Tr.get_mid, show Wp.mkT r = Value.string r from rfl] at hcell4
    have hat := Wp.At.take ha4 l.length
    rw [Tr.take_pre] at hat
    have hst := same_texts (some ⟨b4, o4, none⟩) p2 q4 q2 l w4 (by omega) hat A4.out
    have hml : (l ++ r :: m').length = l.length + (m'.length + 1) := by simp
    have Hst := Lib.hid hst
    rw [hml] at hm4 hq4 ⊢
    clear ho4 ha4 hat hst hb4 X3 E3 D3 A3 hml hrs4
    generalize l.length = ll at *
    generalize m'.length = mm at *
    have hz1 : ((ll : Int) + ((mm : Int) + 1)) ≤ 4096 := by omega
    obtain ⟨O1, O2⟩ := ho
    go_wp2_with fail
    refine Hst.out.mono ?_
    rintro e w5 ⟨rfl, hb5⟩
    have hcell5 := (hb5.cell (p := ⟨b4, o4 + ll, none⟩) (World.block_lt_of_cell? w4 _ hcell4)).trans hcell4
    have B5 := Lib.hid (B4.out.trans (hb5.mono B4.out.size))
    have X5 := Lib.hid ((hb5.block w.heap.size (by omega)).trans X4.out)
    have E5 := Lib.hid ((hb5.block w3.heap.size s4).trans E4.out)
    have D5 := Lib.hid (D4.out.below hb5)
    have s5 : w3.heap.size < w5.heap.size := by have := hb5.size; omega
    have s6 : w.heap.size < w5.heap.size := by omega
    clear hb5 hcell4 X4 E4 D4 B4 A4
    have hrd2 := Hrb.out w5 B5.out
    by_cases hin : ((F + u : Nat) : Int) ≤ o ∧ o < (F : Int) + n2
    · obtain ⟨i1, i2⟩ := hin
      rw [hnu] at i2
      have i1' : (F : Int) + (u : Int) ≤ o := by omega
      go_wp2_with fail
      go_ret
      exact ⟨rfl, B5.out⟩
    · have hot := Hot.out hin
      obtain ⟨⟨S, C⟩, hS⟩ : ∃ T, T = d.read o := ⟨_, rfl⟩
      rw [← hS] at hrd2 hot
      simp only [] at hrd2
      clear hS
      rw [hnu] at hin
      by_cases h1 : (F : Int) + (u : Int) ≤ o
      · have h2 : (F : Int) + ((u : Int) + ((Tr.cutB r.data.toList).length : Int)) ≤ o := by omega
        clear hin
        have HR2 := Lib.hid hrd2
        clear hrd2
        obtain ⟨c0, c1, c2, c3, _, _, _, _⟩ := Wp.four_of X5.out
        go_wp2_with fail
        refine HR2.out.mono ?_
        rintro e w6 ⟨rfl, hb6⟩
        have E6 := Lib.hid ((hb6.block w3.heap.size s5).trans E5.out)
        have D6 := Lib.hid (D5.out.below hb6)
        have B6 := Lib.hid (B5.out.trans (hb6.mono B5.out.size))
        have s7 : w3.heap.size < w6.heap.size := by have := hb6.size; omega
        have hr4 := Hrb3.out _ w6 D6.out
        rw [hot] at hr4
        have HR4 := Lib.hid hr4
        clear hb6 hr4 hot c0 c1 c2 c3
        obtain ⟨c0, c1, c2, c3, _, _, _, _⟩ := Wp.four_of E6.out
        go_wp2_with fail
        refine HR4.out.mono ?_
        rintro e w7 ⟨rfl, hb7⟩
        have B7 := Lib.hid (B6.out.trans (hb7.mono B6.out.size))
        clear hb7 c0 c1 c2 c3
        go_wp2_with fail
        go_ret
        exact ⟨by simp, B7.out⟩
      · have h2 : o < (F : Int) + (u : Int) := by omega
        clear hin
        have HR2 := Lib.hid hrd2
        clear hrd2
        obtain ⟨c0, c1, c2, c3, _, _, _, _⟩ := Wp.four_of X5.out
        go_wp2_with fail
        refine HR2.out.mono ?_
        rintro e w6 ⟨rfl, hb6⟩
        have E6 := Lib.hid ((hb6.block w3.heap.size s5).trans E5.out)
        have D6 := Lib.hid (D5.out.below hb6)
        have B6 := Lib.hid (B5.out.trans (hb6.mono B5.out.size))
        have s7 : w3.heap.size < w6.heap.size := by have := hb6.size; omega
        have hr4 := Hrb3.out _ w6 D6.out
        rw [hot] at hr4
        have HR4 := Lib.hid hr4
        clear hb6 hr4 hot c0 c1 c2 c3
        obtain ⟨c0, c1, c2, c3, _, _, _, _⟩ := Wp.four_of E6.out
        go_wp2_with fail
        refine HR4.out.mono ?_
        rintro e w7 ⟨rfl, hb7⟩
        have B7 := Lib.hid (B6.out.trans (hb7.mono B6.out.size))
        clear hb7 c0 c1 c2 c3
        go_wp2_with fail
        go_ret
        exact ⟨by simp, B7.out⟩
  · have hn2 := hno hn0
    subst hn2
    have hb : (no != 0) = true := by rw [bne_iff_ne]; exact hn0
    clear hno hdo hn0
    go_wp2_with fail
    refine Hap2.out.mono ?_
    rintro e w3 ⟨v3, rfl, hd3, hb3⟩
    obtain ⟨pb3, cb3, pw3, cw3, rfl, _⟩ := devAt_open hd3
    have B3 := Lib.hid ((B2.out.trans (hb3.mono B2.out.size)).alloc (by have := hb3.size; have := B2.out.size; omega) (.cells #[.slice pb3 e2.bl.length cb3, .slice pw3 e2.ws.length cw3, .int .i64 e2.fu, .bool e2.dn] 25))
    clear hd3 hb3 c0 c1 c2 c3
    go_wp2_with fail
    go_ret
    exact ⟨rfl, B3.out⟩
theorem trailBack_any (v : Value) (d : Wp.Dev) (f k o : Int) (r : ByteArray) (w : World) (hL : Sp.Laid w) (hv : Wp.DevAt w v d) (hf : d.Fits) (f1 : Wp.I64 f) (k1 : Wp.I64 k) (hr : r.size ≤ 140737488351232) (ho : Wp.I64 o) :
    Calls Tryd.prog 3 #[v, .int .i64 f, .int .i64 k, .string r, .int .i64 o] w fun e w' => e = .returned (.bool true) ∧ Below w.heap.size w w' := by
  by_cases h0 : Tr.rchk d f k = 0
  · obtain ⟨_, _, r3, _, r5⟩ := Tr.rchk_ok h0
    obtain ⟨F, rfl⟩ := Int.eq_ofNat_of_zero_le r3
    obtain ⟨K, rfl⟩ := Int.eq_ofNat_of_zero_le r5
    exact trailBack_some v d F K o r w hL hv hf hr ho h0
  · exact trailBack_none v d f k o r w hL hv hf f1 k1 h0
end Go.Proofs.YtpmhgfjnabgilaaDoor
