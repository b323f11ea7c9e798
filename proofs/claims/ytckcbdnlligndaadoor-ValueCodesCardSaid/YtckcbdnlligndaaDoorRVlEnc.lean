/-
  The walk of the document's own bytes and Encode (bellmanref09.bytes, Encode). Condition: a value's texts and lists are of a size that a machine holds.
-/
import Derived.Test.YtckcbdnlligndaaDoorRV
import Derived.Test.YtckcbdnlligndaaDoorVlEncode
import Derived.Test.YtckcbdnlligndaaDoorRefTwo
import Derived.Test.YtckcbdnlligndaaDoorVlLives
namespace Go.Proofs.YtckcbdnlligndaaDoor
open Go.RowKit

theorem Vl.addB (a b : List UInt8) : Wp.B a ++ Wp.B b = Wp.B (a ++ b) := by rw [Wp.B_append, Wp.B_data]
set_option maxRecDepth 100000 in
set_option maxHeartbeats 2000000 in
theorem refBytes_step (d : Nat) (k : Nat) (t : ByteArray) (i : Int) (is : List Vl.V) (ns : List ByteArray) (pi : Option Addr) (n ci : Nat) (pn : Option Addr) (nn cn : Nat) (w : World) (q1 : k ≤ 255) (q2 : Wp.I64 i) (q4 : n ≤ 140737488351232) (hN : n = is.length) (hNn : nn = ns.length)
    (htx : k = 1 → t.size ≤ 4096) (hmap : k = 5 → nn = n ∧ ∀ s ∈ ns, s.size ≤ 4096) (hkd : k = 1 ∨ k = 2 ∨ k = 3 ∨ k = 4 ∨ k = 5) (hn : Wp.At Wp.mkT w pn ns) (hrow : ∀ W, Below w.heap.size w W → Vl.RowIs W pi n (Vl.G d w is))
    (hih : ∀ y ∈ is, ∀ u W, Vl.At d W u y → Calls Tryd.prog 35 #[u] W fun e w' => e = .returned (.string (Wp.B y.enc)) ∧ Below W.heap.size W w')
    (hyl : ∀ y ∈ is, y.enc.length ≤ 1280000)
    (E : List UInt8) (hE : E = UInt8.ofNat k :: (if k = 1 then Wp.textB t.data.toList else if k = 2 ∨ k = 3 then Wp.numB i else if k = 4 then Wp.numB (n : Int) ++ Vl.encL false is ns else if k = 5 then Wp.numB (n : Int) ++ Vl.encL true is ns else [])) (hEl : E.length ≤ 1280000) :
    Calls Tryd.prog 35 #[.agg #[.int .u8 k, .string t, .int .i64 i, .slice pi n ci, .slice pn nn cn]] w fun e w' => e = .returned (.string (Wp.B E)) ∧ Below w.heap.size w w' := by
  have hcv := conv_one (w.alloc (.cells #[.int .u8 (k : Nat), .string t, .int .i64 i, .slice pi n ci, .slice pn nn cn] 26)) (k : Int) (UInt8.ofNat k) (by rw [UInt8.toNat_ofNat']; omega)
  rw [World.size_alloc] at hcv
  have HE := Lib.hid hE
  have HN := Lib.hid hN
  have HNn := Lib.hid hNn
  have Hn := Lib.hid hn
  have HR := Lib.hid hrow
  have HI := Lib.hid hih
  have Hyl := Lib.hid hyl
  have Hmap := Lib.hid hmap
  have HEl := Lib.hid hEl
  have s1 : (Wp.B [UInt8.ofNat k]).size ≤ 1 := by rw [Wp.B_size]; simp
  have hB1 := ((Below.refl w.heap.size w).alloc (Nat.le_refl _) (.cells #[.int .u8 (k : Nat), .string t, .int .i64 i, .slice pi n ci, .slice pn nn cn] 26)).alloc (by simp) (.cells #[.int .u8 (k : Nat)] 5)
  have HB1 := Lib.hid hB1
  have HX1 := Lib.hid (show ((w.alloc (.cells #[.int .u8 (k : Nat), .string t, .int .i64 i, .slice pi n ci, .slice pn nn cn] 26)).alloc (.cells #[.int .u8 (k : Nat)] 5)).heap[w.heap.size]? = some (.cells #[.int .u8 (k : Nat), .string t, .int .i64 i, .slice pi n ci, .slice pn nn cn] 26 (0, 0)) by rw [Vl.past _ _ _ (by simp)]; exact Vl.new _ _)
  clear hE hN hNn hn hrow hih hyl hmap hEl hB1
  have hnum := Lib.hid (fun (z : Int) (hz : Wp.I64 z) W => rnum_any z W hz.1 hz.2)
  by_cases k1 : k = 1
  · have e1 : ((k : Int) == 1) = true := by rw [k1]; rfl
    obtain ⟨m0, m1, m2, m3, m4⟩ := Vl.five_of HX1.out
    have ht := htx k1
    have hT := Lib.hid (fun W => rtext_any t W (by omega))
    have hc := Lib.hid (show Wp.B [UInt8.ofNat k] ++ Wp.B (Wp.textB t.data.toList) = Wp.B E by rw [Vl.addB, HE.out, if_pos k1]; rfl)
    have hs2 : (Wp.B (Wp.textB t.data.toList)).size ≤ 4105 := by rw [Wp.B_size]; have := Wp.textB_len t.data.toList; rw [← Wp.size_len] at this; omega
    have H4 : ¬ 4096 < t.size := by omega
    generalize Wp.B (Wp.textB t.data.toList) = tb at *
    generalize Wp.B E = EB at *
    generalize Wp.B [UInt8.ofNat k] = kb at *
    clear htx k1
    go_enter Tryd.func35, Tryd.ntmps35
    go_wp2_with fail
    refine (hT.out _).mono ?_
    rintro e w1 ⟨rfl, hb1⟩
    rw [if_neg H4]
    have HB2 := Lib.hid (HB1.out.trans (hb1.mono HB1.out.size))
    clear hb1
    go_wp2_with fail
    go_ret
    exact ⟨by rw [← hc.out]; rfl, HB2.out⟩
  · have e1 : ((k : Int) == 1) = false := beq_eq_false_iff_ne.2 (by omega)
    obtain ⟨m0, m1, m2, m3, m4⟩ := Vl.five_of HX1.out
    by_cases k23 : k = 2 ∨ k = 3
    · have hc := Lib.hid (show Wp.B [UInt8.ofNat k] ++ Wp.B (Wp.numB i) = Wp.B E by rw [Vl.addB, HE.out, if_neg k1, if_pos k23]; rfl)
      have hs2 : (Wp.B (Wp.numB i)).size ≤ 9 := by rw [Wp.B_size]; exact Wp.numB_len i
      have hN1 := Lib.hid (hnum.out i q2)
      generalize Wp.B (Wp.numB i) = tb at *
      generalize Wp.B E = EB at *
      generalize Wp.B [UInt8.ofNat k] = kb at *
      clear hnum
      have e23 : ((k : Int) == 2) = true ∨ (((k : Int) == 2) = false ∧ ((k : Int) == 3) = true) := by
        rcases k23 with h | h
        · left; rw [h]; rfl
        · right; rw [h]; exact ⟨rfl, rfl⟩
      clear k1 k23
      rcases e23 with e2 | ⟨e2, e3⟩
      · go_enter Tryd.func35, Tryd.ntmps35
        go_wp2_with fail
        refine (hN1.out _).mono ?_
        rintro e w1 ⟨rfl, hb1⟩
        have HB2 := Lib.hid (HB1.out.trans (hb1.mono HB1.out.size))
        clear hb1
        go_wp2_with fail
        go_ret
        exact ⟨by rw [← hc.out]; rfl, HB2.out⟩
      · go_enter Tryd.func35, Tryd.ntmps35
        go_wp2_with fail
        refine (hN1.out _).mono ?_
        rintro e w1 ⟨rfl, hb1⟩
        have HB2 := Lib.hid (HB1.out.trans (hb1.mono HB1.out.size))
        clear hb1
        go_wp2_with fail
        go_ret
        exact ⟨by rw [← hc.out]; rfl, HB2.out⟩
    · have e2 : ((k : Int) == 2) = false := beq_eq_false_iff_ne.2 (by omega)
      have e3 : ((k : Int) == 3) = false := beq_eq_false_iff_ne.2 (by omega)
      obtain ⟨b, hb⟩ : ∃ b : Bool, b = decide (k = 5) := ⟨_, rfl⟩
      have HEb := Lib.hid (show E = UInt8.ofNat k :: (Wp.numB (n : Int) ++ Vl.encL b is ns) by
        rw [HE.out, if_neg k1, if_neg k23, hb]
        by_cases h4 : k = 4
        · rw [if_pos h4, decide_eq_false (by omega)]
        · rw [if_neg h4, if_pos (by omega), decide_eq_true (by omega)])
      have hkb : ((k : Int) == 5) = b := by
        rw [hb]
        by_cases h5 : k = 5
        · subst h5; rfl
        · rw [decide_eq_false h5]; exact beq_eq_false_iff_ne.2 (by omega)
      have Hb := Lib.hid hb
      obtain ⟨pre, hpre⟩ : ∃ pre, pre = [UInt8.ofNat k] ++ Wp.numB (n : Int) := ⟨_, rfl⟩
      have hc := Lib.hid (show Wp.B [UInt8.ofNat k] ++ Wp.B (Wp.numB (n : Int)) = Wp.B pre by rw [Vl.addB, hpre])
      have HEp := Lib.hid (show E = pre ++ Vl.encL b is ns by rw [HEb.out, hpre]; rfl)
      have hs2 : (Wp.B (Wp.numB (n : Int))).size ≤ 9 := by rw [Wp.B_size]; exact Wp.numB_len (n : Int)
      have hN1 := Lib.hid (hnum.out (n : Int) ⟨by omega, by omega⟩)
      have HR2 := Lib.hid (fun W (h : Below w.heap.size w W) => HR.out W h)
      have hstep : ∀ kk y, is[kk]? = some y → Vl.encL b (is.take (kk + 1)) ns = Vl.encL b (is.take kk) ns ++ ((if b then Wp.textB (ns.getD kk ⟨#[]⟩).data.toList else []) ++ y.enc) := fun kk y hy => by
        obtain ⟨h, rfl⟩ := List.getElem?_eq_some_iff.1 hy
        exact Vl.encL_take b is ns kk h (fun h5 => by
          have h55 : k = 5 := by rw [hb] at h5; exact of_decide_eq_true h5
          obtain ⟨h6, _⟩ := Hmap.out h55
          rw [← HNn.out, ← HN.out]; exact h6)
      have Hstep := Lib.hid hstep
      have Hle : Hid (∀ kk, (Wp.B (pre ++ Vl.encL b (is.take kk) ns)).size ≤ 1280000) := Lib.hid (fun kk => by
        rw [Wp.B_size, List.length_append]
        have h1 := HEl.out
        rw [HEp.out, List.length_append] at h1
        have h2 := Vl.encL_le b is ns kk
        omega)
      clear hnum hb hstep htx HE HEl HEb hpre
      generalize Wp.B [UInt8.ofNat k] = kb at *
      generalize Wp.B (Wp.numB (n : Int)) = nb at *
      go_enter Tryd.func35, Tryd.ntmps35
      go_wp2_with fail
      refine (hN1.out _).mono ?_
      rintro e w1 ⟨rfl, hb1⟩
      have HB2 := Lib.hid (HB1.out.trans (hb1.mono HB1.out.size))
      have HX2 := Lib.hid (Vl.keepBox HX1.out hb1)
      clear hb1 m0 m1 m2 m3 m4 HB1 HX1
      obtain ⟨m0, m1, m2, m3, m4⟩ := Vl.five_of HX2.out
      go_wp2_with fail
      rw [hc.out]
      go_wp2_with fail
      go_loopw [3, 44] (fun a s wr => ∃ kk : Nat, kk ≤ n ∧ s = .int .i64 kk ∧ a = .string (Wp.B (pre ++ Vl.encL b (is.take kk) ns)) ∧ Hid (Below w1.heap.size w1 wr)) (fun _ s _ => n - (intOf s).toNat)
      case atStart => exact ⟨0, Nat.zero_le _, rfl, by rw [List.take_zero, Vl.encL_nil, List.append_nil], Lib.hid (Below.refl _ _)⟩
      case round =>
        obtain ⟨kk, hkk, rfl, rfl, HB⟩ := hrel
        by_cases hlt : kk < n
        · have hBw := HB2.out.trans (HB.out.mono HB2.out.size)
          obtain ⟨b2, off2, c0, c1, c2, c3, c4, rfl, ⟨e0, e1', e2', e3', e4⟩, y, hy, hAy⟩ := HR2.out _ hBw kk hlt
          obtain ⟨k5, t5, i5, pi5, ni5, ci5, pn5, nn5, cn5, hsh⟩ := hAy.shape
          simp only [Value.agg.injEq, Array.mk.injEq, List.cons.injEq, and_true] at hsh
          obtain ⟨rfl, rfl, rfl, rfl, rfl⟩ := hsh
          have hym := List.mem_of_getElem? hy
          have hst := Hstep.out kk y hy
          have hyle := Hyl.out y hym
          have hx := (HB.out.block w.heap.size (Array.getElem?_eq_some_iff.1 HX2.out).1).trans HX2.out
          have hby := (Below.refl wr.heap.size wr).alloc (Nat.le_refl _) (.cells #[.int .u8 k5, .string t5, .int .i64 i5, .slice pi5 ni5 ci5, .slice pn5 nn5 cn5] 26)
          have HX3 := Lib.hid ((hby.block w.heap.size (Array.getElem?_eq_some_iff.1 hx).1).trans hx)
          have HY3 := Lib.hid (Vl.new wr (.cells #[.int .u8 k5, .string t5, .int .i64 i5, .slice pi5 ni5 ci5, .slice pn5 nn5 cn5] 26))
          have HAy := Lib.hid (fun W (h : Below (wr.alloc (.cells #[.int .u8 k5, .string t5, .int .i64 i5, .slice pi5 ni5 ci5, .slice pn5 nn5 cn5] 26)).heap.size (wr.alloc (.cells #[.int .u8 k5, .string t5, .int .i64 i5, .slice pi5 ni5 ci5, .slice pn5 nn5 cn5] 26)) W) => HI.out y hym _ W (((hAy.below hBw).below hby).below h))
          have HB4 := Lib.hid (HB.out.trans (hby.mono HB.out.size))
          have hle1 := Hle.out kk
          have hyB : (Wp.B y.enc).size ≤ 1280000 := by rw [Wp.B_size]; exact hyle
          have hle2 := Hle.out (kk + 1)
          clear m0 m1 m2 m3 m4
          obtain ⟨m0, m1, m2, m3, m4⟩ := Vl.five_of hx
          obtain ⟨x0, x1, x2, x3, x4⟩ := Vl.five_of HX3.out
          obtain ⟨y0, y1, y2, y3, y4⟩ := Vl.five_of HY3.out
          have hk0 : (0 : Int) ≤ (kk : Int) := by omega
          have hk1 : (kk : Int) < (n : Int) := by omega
          clear hBw hAy hx hby hyle hy
          cases b with
          | true =>
            have hk5 : k = 5 := of_decide_eq_true Hb.out.symm
            obtain ⟨h51, h52⟩ := Hmap.out hk5
            have hkn : kk < ns.length := by rw [← HNn.out, h51]; exact hlt
            obtain ⟨b5, o5, hp5, hcell⟩ := ((Hn.out.below HB2.out).below (HB4.out)).get kk hkn
            rw [show Wp.mkT ns[kk] = Value.string ns[kk] from rfl] at hcell
            have hsz5 := h52 ns[kk] (List.getElem_mem _)
            rw [if_pos rfl, show ns.getD kk ⟨#[]⟩ = ns[kk] by rw [List.getD_eq_getElem?_getD, List.getElem?_eq_getElem hkn]; rfl] at hst
            have hT := Lib.hid (fun W => rtext_any ns[kk] W (by omega))
            generalize ns[kk] = sx at *
            have H4 : ¬ 4096 < sx.size := by omega
            subst hp5
            have hkn2 : (kk : Int) < (nn : Int) := by omega
            have hs5 : (Wp.B (Wp.textB sx.data.toList)).size ≤ 4105 := by rw [Wp.B_size]; have := Wp.textB_len sx.data.toList; rw [← Wp.size_len] at this; omega
            have ha1 := Lib.hid (Vl.addB (pre ++ Vl.encL true (is.take kk) ns) (Wp.textB sx.data.toList))
            have ha2 := Lib.hid (show Wp.B (pre ++ Vl.encL true (is.take kk) ns ++ Wp.textB sx.data.toList) ++ Wp.B y.enc = Wp.B (pre ++ Vl.encL true (is.take (kk + 1)) ns) by
              rw [Vl.addB, hst]; simp only [List.append_assoc])
            have hs6 : (Wp.B (pre ++ Vl.encL true (is.take kk) ns ++ Wp.textB sx.data.toList)).size ≤ 1290000 := by
              rw [Wp.B_size] at hle1 hs5 ⊢
              rw [List.length_append]
              omega
            clear hst h52 hkn hym hk5 h51
            generalize h9 : Wp.B (pre ++ Vl.encL true (is.take (kk + 1)) ns) = s9 at *
            have H9 := Lib.hid h9
            clear h9
            generalize Wp.B (pre ++ Vl.encL true (is.take kk) ns ++ Wp.textB sx.data.toList) = s8 at *
            generalize Wp.B (pre ++ Vl.encL true (is.take kk) ns) = s7 at *
            generalize Wp.B (Wp.textB sx.data.toList) = tb at *
            generalize Wp.B y.enc = yb at *
            go_wp2_with fail
            refine (hT.out _).mono ?_
            rintro e w3 ⟨rfl, hb3⟩
            rw [if_neg H4]
            have HY4 := Vl.keepBox HY3.out hb3
            have HX4 := Vl.keepBox HX3.out hb3
            have HC := Lib.hid (HAy.out w3 hb3)
            have HB5 := Lib.hid (HB4.out.trans (hb3.mono HB4.out.size))
            clear x0 x1 x2 x3 x4 y0 y1 y2 y3 y4 hcell hb3
            obtain ⟨y0, y1, y2, y3, y4⟩ := Vl.five_of HY4
            go_wp2_with fail
            rw [ha1.out]
            go_wp2_with fail
            refine HC.out.mono ?_
            rintro e w4 ⟨rfl, hb4⟩
            have HB6 := Lib.hid (HB5.out.trans (hb4.mono HB5.out.size))
            clear hb4
            go_wp2_with fail
            exact ⟨⟨kk + 1, by omega, by go_num, by rw [ha2.out, ← H9.out], HB6⟩, by simp [intOf]; omega⟩
          | false =>
            rw [show (if (false = true) then Wp.textB (ns.getD kk ⟨#[]⟩).data.toList else []) = [] from rfl, List.nil_append] at hst
            have ha2 := Lib.hid (show Wp.B (pre ++ Vl.encL false (is.take kk) ns) ++ Wp.B y.enc = Wp.B (pre ++ Vl.encL false (is.take (kk + 1)) ns) by
              rw [Vl.addB, hst]; simp only [List.append_assoc])
            have HC := Lib.hid (HAy.out _ (Below.refl _ _))
            clear hst hym
            generalize h9 : Wp.B (pre ++ Vl.encL false (is.take (kk + 1)) ns) = s9 at *
            have H9 := Lib.hid h9
            clear h9
            generalize Wp.B (pre ++ Vl.encL false (is.take kk) ns) = s7 at *
            generalize Wp.B y.enc = yb at *
            go_wp2_with fail
            refine HC.out.mono ?_
            rintro e w4 ⟨rfl, hb4⟩
            have HB6 := Lib.hid (HB4.out.trans (hb4.mono HB4.out.size))
            clear hb4
            go_wp2_with fail
            exact ⟨⟨kk + 1, by omega, by go_num, by rw [ha2.out, ← H9.out], HB6⟩, by simp [intOf]; omega⟩
        · obtain rfl : kk = n := by omega
          have he := HEp.out
          go_wp2_with fail
          go_ret
          refine ⟨?_, HB2.out.trans (HB.out.mono HB2.out.size)⟩
          rw [he, List.take_of_length_le (by rw [HN.out]; exact Nat.le_refl _)]
          rfl
theorem refBytes_any : ∀ (d : Nat) (x : Vl.V) (v : Value) (w : World), Vl.At d w v x → Vl.Okay x → Calls Tryd.prog 35 #[v] w fun e w' => e = .returned (.string (Wp.B x.enc)) ∧ Below w.heap.size w w'
  | 0, _, _, _, h, _ => h.elim
  | d + 1, x, v, w, hA, hO => by
    obtain ⟨pi, ci, pn, cn, rfl, ⟨q1, q2, q3, q4, q5, q6⟩, hn, hi⟩ := hA
    exact refBytes_step d x.kind x.text x.num x.items x.names pi x.items.length ci pn x.names.length cn w q1 q3 q4 rfl rfl hO.text
      (fun h5 => ⟨(hO.map h5).1, fun s hs => by have := Vl.names_small (hO.map h5).2 s hs; omega⟩) hO.kind hn (Vl.rowIs hi)
      (fun y hy u W ha => refBytes_any d y u W ha (hO.item hy)) (fun y hy => (hO.item hy).enc) x.enc x.enc_eq hO.enc
set_option maxRecDepth 100000 in
set_option maxHeartbeats 1000000 in
theorem refEncode_any (d : Nat) (x : Vl.V) (v : Value) (w : World) (hA : Vl.At d w v x) :
    Calls Tryd.prog 11 #[v] w fun e w' => e = .returned (.tuple #[.string (Wp.B (Vl.encR x).1), .int .i64 (Vl.encR x).2]) ∧ Below w.heap.size w w' := by
  have hck := Lib.hid (fun W (h : Below w.heap.size w W) => refCheck_any d x v W (hA.below h))
  have hby := Lib.hid (fun (hg : Vl.good x = true) W (h : Below w.heap.size w W) => refBytes_any d x v W (hA.below h) (Vl.Okay.of hg))
  obtain ⟨k, t, i, pi, ni, ci, pn, nn, cn, rfl⟩ := hA.shape
  obtain ⟨T, hT2⟩ : ∃ T, T = Vl.encR x := ⟨_, rfl⟩
  have HT := Lib.hid (show T = if Vl.good x then (x.enc, 0) else ([], 2) from hT2)
  rw [← hT2]
  rw [show Vl.chk x = if Vl.good x then 0 else 2 from rfl] at hck
  clear hT2 hA
  have Hb := Lib.hid ((Below.refl w.heap.size w).alloc (Nat.le_refl _) (.cells #[.int .u8 k, .string t, .int .i64 i, .slice pi ni ci, .slice pn nn cn] 26))
  have Hx := Lib.hid (Vl.new w (.cells #[.int .u8 k, .string t, .int .i64 i, .slice pi ni ci, .slice pn nn cn] 26))
  go_enter Tryd.func11, Tryd.ntmps11
  go_wp2_with fail
  refine (hck.out _ Hb.out).mono ?_
  rintro e w1 ⟨rfl, hb1⟩
  have hx1 := Vl.keepBox Hx.out hb1
  have HB1 := Lib.hid (Hb.out.trans (hb1.mono Hb.out.size))
  clear hb1
  cases hg : Vl.good x with
  | false =>
    have hTe : T = ([], 2) := by rw [HT.out, hg]; rfl
    subst hTe
    go_wp2_with fail
    go_ret2
    exact ⟨rfl, HB1.out⟩
  | true =>
    have hTe : T = (x.enc, 0) := by rw [HT.out, hg]; rfl
    subst hTe
    have HC := Lib.hid (hby.out hg w1 HB1.out)
    obtain ⟨m0, m1, m2, m3, m4⟩ := Vl.five_of hx1
    clear hx1 hg hck
    go_wp2_with fail
    refine HC.out.mono ?_
    rintro e w2 ⟨rfl, hb2⟩
    have HB2 := Lib.hid (HB1.out.trans (hb2.mono HB1.out.size))
    clear hb2
    go_wp2_with fail
    go_ret2
    exact ⟨rfl, HB2.out⟩
end Go.Proofs.YtckcbdnlligndaaDoor
