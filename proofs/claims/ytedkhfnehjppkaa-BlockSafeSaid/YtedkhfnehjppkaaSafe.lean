/-
  The law BlockSafe: what was synced, and not written since, is there behind any crash, whatever was written elsewhere. Conditions: a device's lists and numbers, the data, and keep, are of a size that a machine holds.
-/
import Derived.Test.YtedkhfnehjppkaaSafePlain
namespace Go.Proofs.Ytedkhfnehjppkaa
open Go.RowKit

set_option maxHeartbeats 1000000 in
/-- The law, where nothing is asked. -/
theorem safe_no (pbd : Option Addr) (cbd : Nat) (pwd : Option Addr) (cwd : Nat) (d g : Wp.Dev) (a r1 r2 : Int) (pm : Option Addr) (cm : Nat) (ws : List (Int × ByteArray)) (pk : Option Addr) (ck : Nat) (keep : List Int) (s : ByteArray) (w : World)
    (KS : Hid (∀ w', Below w.heap.size w w' → Calls Try.prog 11 #[.agg #[.slice pbd d.bl.length cbd, .slice pwd d.ws.length cwd, .int .i64 d.fu, .bool d.dn]] w' fun x w'' => ∃ v', x = .returned (.tuple #[v', .int .i64 r1]) ∧ Wp.DevAt w'' v' g ∧ Below w'.heap.size w' w''))
    (KR : Hid (∀ v w, Wp.DevAt w v g → Calls Try.prog 12 #[v, .int .i64 a] w fun x w' => x = .returned (.tuple #[.string s, .int .i64 r2]) ∧ Below w.heap.size w w'))
    (hno : (r1 != 0) = true ∨ (r2 != 0) = true) :
    Calls Try.prog 4 #[.agg #[.slice pbd d.bl.length cbd, .slice pwd d.ws.length cwd, .int .i64 d.fu, .bool d.dn], .int .i64 a, .slice pm ws.length cm, .slice pk keep.length ck] w fun e w' => e = .returned (.bool true) ∧ Below w.heap.size w w' := by
  obtain ⟨w0, hw0⟩ : ∃ w0, w.alloc (.cells #[.slice pbd d.bl.length cbd, .slice pwd d.ws.length cwd, .int .i64 d.fu, .bool d.dn] 25) = w0 := ⟨_, rfl⟩
  have x0 := alloc_new w (.cells #[.slice pbd d.bl.length cbd, .slice pwd d.ws.length cwd, .int .i64 d.fu, .bool d.dn] 25)
  have B0 := (Below.refl w.heap.size w).alloc (Nat.le_refl _) (.cells #[.slice pbd d.bl.length cbd, .slice pwd d.ws.length cwd, .int .i64 d.fu, .bool d.dn] 25)
  have s0 : (w.alloc (.cells #[.slice pbd d.bl.length cbd, .slice pwd d.ws.length cwd, .int .i64 d.fu, .bool d.dn] 25)).heap.size = w.heap.size + 1 := by rw [World.size_alloc]
  rw [hw0] at x0 B0 s0
  have X0 := Lib.hid x0
  have Hw0 := Lib.hid hw0
  clear x0 hw0
  go_enter Try.func4, Try.ntmps4
  go_wp2_with fail
  rw [Hw0.out]
  refine (blives_any _).mono ?_
  rintro x w1 ⟨rfl, b1⟩
  have X1 := Lib.hid ((b1.block w.heap.size (by omega)).trans X0.out)
  obtain ⟨c0, c1, c2, c3, f0, f1, f2, f3⟩ := Wp.four_of X1.out
  have B1 := B0.trans (b1.mono (by omega))
  have s1 : w.heap.size < w1.heap.size := by have := b1.size; omega
  go_wp2_with fail
  refine (KS.out _ B1).mono ?_
  rintro x w2 ⟨v2, rfl, hd2, b2⟩
  obtain ⟨pbg, cbg, pwg, cwg, rfl, hd2⟩ := devAt_open hd2
  have hx2 := (b2.block w.heap.size s1).trans X1.out
  have B2 := B1.trans (b2.mono B1.size)
  have s2 : w.heap.size < w2.heap.size := Nat.lt_of_lt_of_le s1 b2.size
  clear c0 c1 c2 c3 f0 f1 f2 f3
  obtain ⟨c0, c1, c2, c3, f0, f1, f2, f3⟩ := Wp.four_of hx2
  have X3 := Lib.hid (four_set hx2 (.slice pbg g.bl.length cbg) (.slice pwg g.ws.length cwg) (.int .i64 g.fu) (.bool g.dn))
  have D3 := Lib.hid (devAt_box hd2 hx2 (four_rest w2 w.heap.size (.slice pbg g.bl.length cbg) (.slice pwg g.ws.length cwg) (.int .i64 g.fu) (.bool g.dn)))
  have B3 := four_below B2 (Nat.le_refl _) (.slice pbg g.bl.length cbg) (.slice pwg g.ws.length cwg) (.int .i64 g.fu) (.bool g.dn)
  have s3 : w.heap.size < ((((w2.setCell ⟨w.heap.size, 0, none⟩ (.slice pbg g.bl.length cbg)).setCell ⟨w.heap.size, 1, none⟩ (.slice pwg g.ws.length cwg)).setCell ⟨w.heap.size, 2, none⟩ (.int .i64 g.fu)).setCell ⟨w.heap.size, 3, none⟩ (.bool g.dn)).heap.size := by simp [World.setCell]; omega
  have Hb3 := Lib.hid B3
  have Hs3 := Lib.hid s3
  clear hx2 hd2 B3 s3
  go_wp2_with fail
  refine (KR.out _ _ D3.out).mono ?_
  rintro x w4 ⟨rfl, b4⟩
  have X4 := Lib.hid ((b4.block w.heap.size Hs3.out).trans X3.out)
  have D4 := Lib.hid (D3.out.below b4)
  have B4 := Hb3.out.trans (b4.mono Hb3.out.size)
  have s4 : w.heap.size < w4.heap.size := Nat.lt_of_lt_of_le Hs3.out b4.size
  clear c0 c1 c2 c3 f0 f1 f2 f3 Hb3 Hs3 b4
  rcases hno with h | h
  · go_wp2_with fail
    go_ret
    exact ⟨rfl, B4⟩
  · cases h1 : (r1 != 0) with
    | true =>
      go_wp2_with fail
      go_ret
      exact ⟨rfl, B4⟩
    | false =>
      go_wp2_with fail
      go_ret
      exact ⟨rfl, B4⟩
set_option maxHeartbeats 2000000 in
/-- The law, where it is asked. -/
theorem safe_yes (pbd : Option Addr) (cbd : Nat) (pwd : Option Addr) (cwd : Nat) (d g : Wp.Dev) (a : Int) (pm : Option Addr) (cm : Nat) (ws : List (Int × ByteArray)) (pk : Option Addr) (ck : Nat) (keep : List Int) (s : ByteArray) (w : World)
    (KS : Hid (∀ w', Below w.heap.size w w' → Calls Try.prog 11 #[.agg #[.slice pbd d.bl.length cbd, .slice pwd d.ws.length cwd, .int .i64 d.fu, .bool d.dn]] w' fun x w'' => ∃ v', x = .returned (.tuple #[v', .int .i64 0]) ∧ Wp.DevAt w'' v' g ∧ Below w'.heap.size w' w''))
    (KR : Hid (∀ v w, Wp.DevAt w v g → Calls Try.prog 12 #[v, .int .i64 a] w fun x w' => x = .returned (.tuple #[.string s, .int .i64 0]) ∧ Below w.heap.size w w'))
    (hg : Hid (Wp.Apart g g a)) (hm : Hid (Wp.AtW w pm ws)) (hml : ws.length ≤ 140737488351232) (hmb : Hid (∀ x ∈ ws, x.2.size ≤ 9223372036854775807))
    (KW : Hid (∀ (e : Wp.Dev) (b : Int) (data : ByteArray) v w, Wp.Good e → data.size ≤ 9223372036854775807 → Wp.DevAt w v e → Calls Try.prog 13 #[v, .int .i64 b, .string data] w fun x w' => ∃ v', x = .returned (.tuple #[v', .int .i64 (e.write1 b data).2]) ∧ Wp.DevAt w' v' (e.write1 b data).1 ∧ Below w.heap.size w w'))
    (KC : Hid (∀ (e : Wp.Dev) v w', Below w.heap.size w w' → Wp.Apart g e a → Wp.DevAt w' v e → Calls Try.prog 5 #[v, .slice pk keep.length ck] w' fun r w'' => ∃ v', r = .returned (.tuple #[v', .int .i64 0]) ∧ Wp.DevAt w'' v' ⟨Wp.tearAll e.bl e.ws keep, [], -1, false⟩ ∧ Below w'.heap.size w' w''))
    (KT : Hid (∀ (e : Wp.Dev) v w, Wp.Apart g e a → Wp.DevAt w v ⟨Wp.tearAll e.bl e.ws keep, [], -1, false⟩ → Calls Try.prog 12 #[v, .int .i64 a] w fun x w' => x = .returned (.tuple #[.string s, .int .i64 0]) ∧ Below w.heap.size w w')) :
    Calls Try.prog 4 #[.agg #[.slice pbd d.bl.length cbd, .slice pwd d.ws.length cwd, .int .i64 d.fu, .bool d.dn], .int .i64 a, .slice pm ws.length cm, .slice pk keep.length ck] w fun e w' => e = .returned (.bool true) ∧ Below w.heap.size w w' := by
  obtain ⟨w0, hw0⟩ : ∃ w0, w.alloc (.cells #[.slice pbd d.bl.length cbd, .slice pwd d.ws.length cwd, .int .i64 d.fu, .bool d.dn] 25) = w0 := ⟨_, rfl⟩
  have x0 := alloc_new w (.cells #[.slice pbd d.bl.length cbd, .slice pwd d.ws.length cwd, .int .i64 d.fu, .bool d.dn] 25)
  have B0 := (Below.refl w.heap.size w).alloc (Nat.le_refl _) (.cells #[.slice pbd d.bl.length cbd, .slice pwd d.ws.length cwd, .int .i64 d.fu, .bool d.dn] 25)
  have s0 : (w.alloc (.cells #[.slice pbd d.bl.length cbd, .slice pwd d.ws.length cwd, .int .i64 d.fu, .bool d.dn] 25)).heap.size = w.heap.size + 1 := by rw [World.size_alloc]
  rw [hw0] at x0 B0 s0
  have X0 := Lib.hid x0
  have Hw0 := Lib.hid hw0
  clear x0 hw0
  go_enter Try.func4, Try.ntmps4
  go_wp2_with fail
  rw [Hw0.out]
  refine (blives_any _).mono ?_
  rintro x w1 ⟨rfl, b1⟩
  have X1 := Lib.hid ((b1.block w.heap.size (by omega)).trans X0.out)
  obtain ⟨c0, c1, c2, c3, f0, f1, f2, f3⟩ := Wp.four_of X1.out
  have B1 := B0.trans (b1.mono (by omega))
  have s1 : w.heap.size < w1.heap.size := by have := b1.size; omega
  go_wp2_with fail
  refine (KS.out _ B1).mono ?_
  rintro x w2 ⟨v2, rfl, hd2, b2⟩
  obtain ⟨pbg, cbg, pwg, cwg, rfl, hd2⟩ := devAt_open hd2
  have hx2 := (b2.block w.heap.size s1).trans X1.out
  have B2 := B1.trans (b2.mono B1.size)
  have s2 : w.heap.size < w2.heap.size := Nat.lt_of_lt_of_le s1 b2.size
  clear c0 c1 c2 c3 f0 f1 f2 f3
  obtain ⟨c0, c1, c2, c3, f0, f1, f2, f3⟩ := Wp.four_of hx2
  have X3 := Lib.hid (four_set hx2 (.slice pbg g.bl.length cbg) (.slice pwg g.ws.length cwg) (.int .i64 g.fu) (.bool g.dn))
  have D3 := Lib.hid (devAt_box hd2 hx2 (four_rest w2 w.heap.size (.slice pbg g.bl.length cbg) (.slice pwg g.ws.length cwg) (.int .i64 g.fu) (.bool g.dn)))
  have B3 := four_below B2 (Nat.le_refl _) (.slice pbg g.bl.length cbg) (.slice pwg g.ws.length cwg) (.int .i64 g.fu) (.bool g.dn)
  have s3 : w.heap.size < ((((w2.setCell ⟨w.heap.size, 0, none⟩ (.slice pbg g.bl.length cbg)).setCell ⟨w.heap.size, 1, none⟩ (.slice pwg g.ws.length cwg)).setCell ⟨w.heap.size, 2, none⟩ (.int .i64 g.fu)).setCell ⟨w.heap.size, 3, none⟩ (.bool g.dn)).heap.size := by simp [World.setCell]; omega
  have Hb3 := Lib.hid B3
  have Hs3 := Lib.hid s3
  clear hx2 hd2 B3 s3
  go_wp2_with fail
  refine (KR.out _ _ D3.out).mono ?_
  rintro x w4 ⟨rfl, b4⟩
  have X4 := Lib.hid ((b4.block w.heap.size Hs3.out).trans X3.out)
  have D4 := Lib.hid (D3.out.below b4)
  have B4 := Hb3.out.trans (b4.mono Hb3.out.size)
  have s4 : w.heap.size < w4.heap.size := Nat.lt_of_lt_of_le Hs3.out b4.size
  clear c0 c1 c2 c3 f0 f1 f2 f3 Hb3 Hs3 b4
  obtain ⟨m, hmm⟩ : ∃ m, m = ws.length := ⟨_, rfl⟩
  have Hm := Lib.hid hmm
  rw [← hmm] at hml
  simp only [← hmm]
  clear hmm
  go_wp2_with fail
  go_loopw [39] (fun t wr => ∃ (k : Nat) (e : Wp.Dev) (pbe : Option Addr) (cbe : Nat) (pwe : Option Addr) (cwe : Nat), k ≤ m ∧ t = .int .i64 k ∧ wr.heap[w.heap.size]? = some (.cells #[.slice pbe e.bl.length cbe, .slice pwe e.ws.length cwe, .int .i64 e.fu, .bool e.dn] 25 (0, 0)) ∧ Wp.DevAt wr (.agg #[.slice pbe e.bl.length cbe, .slice pwe e.ws.length cwe, .int .i64 e.fu, .bool e.dn]) e ∧ Wp.Apart g e a ∧ Below w.heap.size w wr ∧ w.heap.size < wr.heap.size) (fun t _ => m - (intOf t).toNat)
  case atStart => exact ⟨0, g, pbg, cbg, pwg, cwg, Nat.zero_le _, rfl, X4.out, D4.out, hg.out, B4, s4⟩
  case round =>
    obtain ⟨k, e, pbe, cbe, pwe, cwe, hk, rfl, hx, hD, hA, hB, hs⟩ := hrel
    have HX := Lib.hid hx
    have HD := Lib.hid hD
    have HA := Lib.hid hA
    obtain ⟨c0, c1, c2, c3, f0, f1, f2, f3⟩ := Wp.four_of hx
    clear hx hD hA
    by_cases hlt : k < m
    · have hkl : k < ws.length := by rw [← Hm.out]; exact hlt
      obtain ⟨b, off, rfl, z1, z2⟩ := (hm.out.below hB).get k hkl
      have hsz := hmb.out ws[k] (List.getElem_mem _)
      obtain ⟨x, hxe⟩ : ∃ x, x = ws[k] := ⟨_, rfl⟩
      rw [← hxe] at z1 z2 hsz
      clear hxe hkl
      obtain ⟨xa, xd⟩ := x
      simp only [] at z1 z2 hsz
      have D5 := Lib.hid (HD.out.below ((Below.refl _ _).alloc (Nat.le_refl _) (.cells #[.int .i64 xa, .string xd] 39)))
      have X5 := Lib.hid ((alloc_past wr (.cells #[.int .i64 xa, .string xd] 39) w.heap.size hs).trans HX.out)
      have B5 := Lib.hid (hB.alloc (Nat.le_of_lt hs) (.cells #[.int .i64 xa, .string xd] 39))
      have s5 : w.heap.size < (wr.alloc (.cells #[.int .i64 xa, .string xd] 39)).heap.size := by rw [World.size_alloc]; omega
      by_cases h20 : k < 20
      · by_cases hne : xa = a
        · have q : (xa != a) = false := by simpa using hne
          clear hne
          go_wp2_with fail
          exact ⟨⟨k + 1, e, pbe, cbe, pwe, cwe, by omega, by go_num, X5.out, D5.out, HA.out, B5.out, s5⟩, by simp [intOf]; omega⟩
        · have q : (xa != a) = true := by simpa using hne
          have HA2 := Lib.hid (HA.out.write xa xd hne)
          clear hne
          go_wp2_with fail
          refine (KW.out e xa xd _ _ HA.out.good hsz D5.out).mono ?_
          rintro y w6 ⟨v6, rfl, hd6, b6⟩
          generalize (e.write1 xa xd).1 = e2 at *
          generalize (e.write1 xa xd).2 = r6 at *
          obtain ⟨pbx, cbx, pwx, cwx, rfl, hd6⟩ := devAt_open hd6
          have hx6 := (b6.block w.heap.size s5).trans X5.out
          have B6 := Lib.hid (B5.out.trans (b6.mono (Nat.le_of_lt s5)))
          have s6 : w.heap.size < w6.heap.size := Nat.lt_of_lt_of_le s5 b6.size
          clear c0 c1 c2 c3 f0 f1 f2 f3 z1 z2
          obtain ⟨c0, c1, c2, c3, f0, f1, f2, f3⟩ := Wp.four_of hx6
          have X7 := Lib.hid (four_set hx6 (.slice pbx e2.bl.length cbx) (.slice pwx e2.ws.length cwx) (.int .i64 e2.fu) (.bool e2.dn))
          have D7 := Lib.hid (devAt_box hd6 hx6 (four_rest w6 w.heap.size (.slice pbx e2.bl.length cbx) (.slice pwx e2.ws.length cwx) (.int .i64 e2.fu) (.bool e2.dn)))
          have B7 := Lib.hid (four_below B6.out (Nat.le_refl _) (.slice pbx e2.bl.length cbx) (.slice pwx e2.ws.length cwx) (.int .i64 e2.fu) (.bool e2.dn))
          have s7 : w.heap.size < ((((w6.setCell ⟨w.heap.size, 0, none⟩ (.slice pbx e2.bl.length cbx)).setCell ⟨w.heap.size, 1, none⟩ (.slice pwx e2.ws.length cwx)).setCell ⟨w.heap.size, 2, none⟩ (.int .i64 e2.fu)).setCell ⟨w.heap.size, 3, none⟩ (.bool e2.dn)).heap.size := by simp [World.setCell]; omega
          have S7 := Lib.hid s7
          clear hx6 hd6 s7
          go_wp2_with fail
          exact ⟨⟨k + 1, e2, pbx, cbx, pwx, cwx, by omega, by go_num, X7.out, D7.out, HA2.out, B7.out, S7.out⟩, by simp [intOf]; omega⟩
      · have q : decide ((k : Int) < 20) = false := decide_eq_false (by omega)
        go_wp2_with fail
        exact ⟨⟨k + 1, e, pbe, cbe, pwe, cwe, by omega, by go_num, X5.out, D5.out, HA.out, B5.out, s5⟩, by simp [intOf]; omega⟩
    · obtain rfl : k = m := by omega
      go_wp2_with fail
      refine (KC.out e _ _ hB HA.out HD.out).mono ?_
      rintro y w5 ⟨v5, rfl, hd5, b5⟩
      have T5 := fun v w => KT.out e v w HA.out
      generalize Wp.tearAll e.bl e.ws keep = tt at *
      obtain ⟨pbc, cbc, pwc, cwc, rfl, hd5⟩ := devAt_open hd5
      have D5 := Lib.hid hd5
      have TT := Lib.hid T5
      have B5 := hB.trans (b5.mono hB.size)
      clear c0 c1 c2 c3 f0 f1 f2 f3 hd5 T5
      go_wp2_with fail
      refine (TT.out _ _ (D5.out.below ((Below.refl _ _).alloc (Nat.le_refl _) _))).mono ?_
      rintro y w6 ⟨rfl, b6⟩
      rw [World.size_alloc] at b6
      go_wp2_with fail
      go_ret
      exact ⟨rfl, (B5.alloc B5.size _).trans (b6.mono (by have := B5.size; omega))⟩
/-- The law, at whatever device. -/
theorem blockSafe_any (v : Value) (d : Wp.Dev) (a : Int) (pm : Option Addr) (cm : Nat) (ws : List (Int × ByteArray)) (pk : Option Addr) (ck : Nat) (keep : List Int) (w : World) (hv : Wp.DevAt w v d) (hf : d.Fits)
    (hm : Wp.AtW w pm ws) (hml : ws.length ≤ 140737488351232) (hmb : ∀ x ∈ ws, x.2.size ≤ 9223372036854775807) (hk : Wp.At Wp.mkN w pk keep) (hkl : keep.length ≤ 140737488351232) (hki : ∀ x ∈ keep, Wp.I64 x) :
    Calls Try.prog 4 #[v, .int .i64 a, .slice pm ws.length cm, .slice pk keep.length ck] w fun e w' => e = .returned (.bool true) ∧ Below w.heap.size w w' := by
  obtain ⟨pb, cb, pw, cw, rfl, hv2, _⟩ := asks hv hf
  have kr := fun (g : Wp.Dev) (hg : Wp.Good g) v w (hv : Wp.DevAt w v g) => Read_any v g a w hv hg.fits
  cases hok : d.ok with
  | false => exact safe_no pb cb pw cw d Wp.Dev.zero a 2 _ pm cm ws pk ck keep _ w (Lib.hid fun w' hb => Sync_bad _ d w' (hv2 w' hb) hf hok) (Lib.hid (kr _ Wp.Good.zero)) (Or.inl rfl)
  | true =>
    have hg : Wp.Good d := ⟨hok, hf.fu.2⟩
    have ks := fun w' (hb : Below w.heap.size w w') => Sync_good _ d w' (hv2 w' hb) hg
    have hgg := hg.sync1
    by_cases h1 : d.sync1.2 = 0
    · by_cases h2 : (d.sync1.1.read a).2 = 0
      · have hdn : d.dn = false := by
          cases hd : d.dn with
          | false => rfl
          | true => unfold Wp.Dev.sync1 at h1; rw [if_pos hd] at h1; cases h1
        rcases Wp.synced hdn with ⟨_, z1, z2, z3⟩ | z9
        · have krg := kr _ hgg
          rw [h1] at ks
          rw [h2] at krg
          generalize d.sync1.1 = g at *
          have hap : Wp.Apart g g a := ⟨hgg, rfl, by rw [z2]; simp⟩
          refine safe_yes pb cb pw cw d g a pm cm ws pk ck keep (g.read a).1 w (Lib.hid ks) (Lib.hid krg) (Lib.hid hap) (Lib.hid hm) hml (Lib.hid hmb) (Lib.hid fun e b data v w he hd hv => Write_good v e b data w hv he hd)
            (Lib.hid fun e v w' hb he hv => Crash_ok v e pk ck keep w' hv he.good.fits he.good.ok hkl (hk.below hb) hki)
            (Lib.hid fun e v w he hv => by
              have := Read_any v _ a w hv (he.good.crash keep).fits
              rw [he.crashed hgg.ok z3 z2 h2 keep] at this
              exact this)
        · rw [z9] at h1; cases h1
      · exact safe_no pb cb pw cw d _ a _ _ pm cm ws pk ck keep _ w (Lib.hid ks) (Lib.hid (kr _ hgg)) (Or.inr (bne_iff_ne.2 h2))
    · exact safe_no pb cb pw cw d _ a _ _ pm cm ws pk ck keep _ w (Lib.hid ks) (Lib.hid (kr _ hgg)) (Or.inl (bne_iff_ne.2 h1))
end Go.Proofs.Ytedkhfnehjppkaa
