/-
  The law BlockTorn: a block that is written once behind a sync is behind a crash what it was, with some first bytes of what was written. Conditions: a device's lists and numbers, and the data, are of a size that a machine holds.
-/
import Derived.Test.YtcjpfkmmflaggaaReadLaw
namespace Go.Proofs.Ytcjpfkmmflaggaa
open Go.RowKit

set_option maxHeartbeats 1000000 in
/-- The law, where nothing is asked. -/
theorem torn_no (pbd : Option Addr) (cbd : Nat) (pwd : Option Addr) (cwd : Nat) (d g e : Wp.Dev) (a kp r1 r2 r3 : Int) (data s : ByteArray) (w : World)
    (KS : Hid (∀ w', Below w.heap.size w w' → Calls Try.prog 13 #[.agg #[.slice pbd d.bl.length cbd, .slice pwd d.ws.length cwd, .int .i64 d.fu, .bool d.dn]] w' fun x w'' => ∃ v', x = .returned (.tuple #[v', .int .i64 r1]) ∧ Wp.DevAt w'' v' g ∧ Below w'.heap.size w' w''))
    (KR : Hid (∀ v w, Wp.DevAt w v g → Calls Try.prog 14 #[v, .int .i64 a] w fun x w' => x = .returned (.tuple #[.string s, .int .i64 r2]) ∧ Below w.heap.size w w'))
    (KW : Hid (∀ v w, Wp.DevAt w v g → Calls Try.prog 15 #[v, .int .i64 a, .string data] w fun x w' => ∃ v', x = .returned (.tuple #[v', .int .i64 r3]) ∧ Wp.DevAt w' v' e ∧ Below w.heap.size w w'))
    (hno : (r1 != 0) = true ∨ (r2 != 0) = true ∨ 64 < data.size) :
    Calls Try.prog 5 #[.agg #[.slice pbd d.bl.length cbd, .slice pwd d.ws.length cwd, .int .i64 d.fu, .bool d.dn], .int .i64 a, .string data, .int .i64 kp] w fun e w' => e = .returned (.bool true) ∧ Below w.heap.size w w' := by
  obtain ⟨w0, hw0⟩ : ∃ w0, w.alloc (.cells #[.slice pbd d.bl.length cbd, .slice pwd d.ws.length cwd, .int .i64 d.fu, .bool d.dn] 25) = w0 := ⟨_, rfl⟩
  have x0 := alloc_new w (.cells #[.slice pbd d.bl.length cbd, .slice pwd d.ws.length cwd, .int .i64 d.fu, .bool d.dn] 25)
  have B0 := (Below.refl w.heap.size w).alloc (Nat.le_refl _) (.cells #[.slice pbd d.bl.length cbd, .slice pwd d.ws.length cwd, .int .i64 d.fu, .bool d.dn] 25)
  have s0 : (w.alloc (.cells #[.slice pbd d.bl.length cbd, .slice pwd d.ws.length cwd, .int .i64 d.fu, .bool d.dn] 25)).heap.size = w.heap.size + 1 := by rw [World.size_alloc]
  rw [hw0] at x0 B0 s0
  have X0 := Lib.hid x0
  have Hw0 := Lib.hid hw0
  clear x0 hw0
  go_enter Try.func5, Try.ntmps5
  go_wp2_with fail
  rw [Hw0.out]
  refine (blives_any _).mono ?_
  rintro x w1 ⟨rfl, b1⟩
  have X1 := Lib.hid ((b1.block w.heap.size (by omega)).trans X0.out)
  obtain ⟨c0, c1, c2, c3, f0, f1, f2, f3⟩ := Wp.four_of X1.out
  have B1 := B0.trans (b1.mono (by omega))
  have s1 : w.heap.size < w1.heap.size := by have := b1.size; omega
  go_wp2_with fail
  refine (KS.out _ B1).mono ?_
  rintro x w2 ⟨v2, rfl, hd2, b2⟩
  obtain ⟨pbg, cbg, pwg, cwg, rfl, hd2⟩ := devAt_open hd2
  have hx2 := (b2.block w.heap.size s1).trans X1.out
  have B2 := B1.trans (b2.mono B1.size)
  have s2 : w.heap.size < w2.heap.size := Nat.lt_of_lt_of_le s1 b2.size
  clear c0 c1 c2 c3 f0 f1 f2 f3
  obtain ⟨c0, c1, c2, c3, f0, f1, f2, f3⟩ := Wp.four_of hx2
  have X3 := Lib.hid (four_set hx2 (.slice pbg g.bl.length cbg) (.slice pwg g.ws.length cwg) (.int .i64 g.fu) (.bool g.dn))
  have D3 := Lib.hid (devAt_box hd2 hx2 (four_rest w2 w.heap.size (.slice pbg g.bl.length cbg) (.slice pwg g.ws.length cwg) (.int .i64 g.fu) (.bool g.dn)))
  have B3 := four_below B2 (Nat.le_refl _) (.slice pbg g.bl.length cbg) (.slice pwg g.ws.length cwg) (.int .i64 g.fu) (.bool g.dn)
  have s3 : w.heap.size < ((((w2.setCell ⟨w.heap.size, 0, none⟩ (.slice pbg g.bl.length cbg)).setCell ⟨w.heap.size, 1, none⟩ (.slice pwg g.ws.length cwg)).setCell ⟨w.heap.size, 2, none⟩ (.int .i64 g.fu)).setCell ⟨w.heap.size, 3, none⟩ (.bool g.dn)).heap.size := by simp [World.setCell]; omega
  have Hb3 := Lib.hid B3
  have Hs3 := Lib.hid s3
  clear hx2 hd2 B3 s3
  go_wp2_with fail
  refine (KR.out _ _ D3.out).mono ?_
  rintro x w4 ⟨rfl, b4⟩
  have X4 := Lib.hid ((b4.block w.heap.size Hs3.out).trans X3.out)
  have D4 := Lib.hid (D3.out.below b4)
  have B4 := Hb3.out.trans (b4.mono Hb3.out.size)
  have s4 : w.heap.size < w4.heap.size := Nat.lt_of_lt_of_le Hs3.out b4.size
  clear c0 c1 c2 c3 f0 f1 f2 f3 Hb3 Hs3 b4
  obtain ⟨c0, c1, c2, c3, _, _, _, _⟩ := Wp.four_of X4.out
  go_wp2_with fail
  refine (KW.out _ _ D4.out).mono ?_
  rintro x w5 ⟨v5, rfl, hd5, b5⟩
  obtain ⟨pbe, cbe, pwe, cwe, rfl, hd5⟩ := devAt_open hd5
  have D5 := Lib.hid hd5
  have B5 := B4.trans (b5.mono B4.size)
  clear c0 c1 c2 c3 hd5
  rcases hno with h | h | h
  · go_wp2_with fail
    go_ret
    exact ⟨rfl, B5.alloc B5.size _⟩
  · cases h1 : (r1 != 0) with
    | true =>
      go_wp2_with fail
      go_ret
      exact ⟨rfl, B5.alloc B5.size _⟩
    | false =>
      go_wp2_with fail
      go_ret
      exact ⟨rfl, B5.alloc B5.size _⟩
  · cases h1 : (r1 != 0) with
    | true =>
      go_wp2_with fail
      go_ret
      exact ⟨rfl, B5.alloc B5.size _⟩
    | false =>
      cases h2 : (r2 != 0) with
      | true =>
        go_wp2_with fail
        go_ret
        exact ⟨rfl, B5.alloc B5.size _⟩
      | false =>
        go_wp2_with fail
        go_ret
        exact ⟨rfl, B5.alloc B5.size _⟩

theorem Wp.app_nil (x : ByteArray) : x ++ Wp.B [] = x := by
  conv => lhs; rw [← Wp.B_of x]
  rw [Wp.B_append, Wp.B_data, List.append_nil, Wp.B_of]
theorem Wp.app_size (x : ByteArray) (j : Nat) : (x ++ Wp.B (List.replicate j 0)).size = x.size + j := by
  rw [ByteArray.size_append, Wp.B_size, List.length_replicate]
theorem Wp.app_zero (x : ByteArray) (j : Nat) : x ++ Wp.B (List.replicate (j + 1) 0) = (x ++ Wp.B (List.replicate j 0)) ++ ⟨#[0]⟩ := by
  obtain ⟨l, rfl⟩ : ∃ l, x = Wp.B l := ⟨_, (Wp.B_of x).symm⟩
  rw [show (⟨#[0]⟩ : ByteArray) = Wp.B [0] from rfl, Wp.B_append, Wp.B_append, Wp.B_append, List.replicate_succ']
  simp only [Wp.B_data, List.append_assoc]
set_option maxHeartbeats 1000000 in
/-- The law, where it is asked. -/
theorem torn_yes (pbd : Option Addr) (cbd : Nat) (pwd : Option Addr) (cwd : Nat) (d g e c : Wp.Dev) (a kp r3 : Int) (data s t L : ByteArray) (n : Nat) (w : World)
    (KS : Hid (∀ w', Below w.heap.size w w' → Calls Try.prog 13 #[.agg #[.slice pbd d.bl.length cbd, .slice pwd d.ws.length cwd, .int .i64 d.fu, .bool d.dn]] w' fun x w'' => ∃ v', x = .returned (.tuple #[v', .int .i64 0]) ∧ Wp.DevAt w'' v' g ∧ Below w'.heap.size w' w''))
    (KR : Hid (∀ v w, Wp.DevAt w v g → Calls Try.prog 14 #[v, .int .i64 a] w fun x w' => x = .returned (.tuple #[.string s, .int .i64 0]) ∧ Below w.heap.size w w'))
    (KW : Hid (∀ v w, Wp.DevAt w v g → Calls Try.prog 15 #[v, .int .i64 a, .string data] w fun x w' => ∃ v', x = .returned (.tuple #[v', .int .i64 r3]) ∧ Wp.DevAt w' v' e ∧ Below w.heap.size w w'))
    (KC : Hid (∀ v k w, Wp.DevAt w v e → w.heap[k]? = some (.cells #[.int .i64 kp] 3 (0, 0)) → Calls Try.prog 7 #[v, .slice (some ⟨k, 0, none⟩) 1 1] w fun r w' => ∃ v', r = .returned (.tuple #[v', .int .i64 0]) ∧ Wp.DevAt w' v' c ∧ Below w.heap.size w w'))
    (KT : Hid (∀ v w, Wp.DevAt w v c → Calls Try.prog 14 #[v, .int .i64 a] w fun x w' => x = .returned (.tuple #[.string t, .int .i64 0]) ∧ Below w.heap.size w w'))
    (hsz : data.size ≤ 64) (hn : Hid (max 0 (min 64 kp) = (n : Int))) (hn64 : n ≤ 64) (hLs : L.size = 64) (hss : s.size = 64) (hL : Hid (data ++ Wp.B (List.replicate (64 - data.size) 0) = L)) (ht : Hid (L.extract 0 n ++ s.extract n s.size = t)) :
    Calls Try.prog 5 #[.agg #[.slice pbd d.bl.length cbd, .slice pwd d.ws.length cwd, .int .i64 d.fu, .bool d.dn], .int .i64 a, .string data, .int .i64 kp] w fun e w' => e = .returned (.bool true) ∧ Below w.heap.size w w' := by
  obtain ⟨w0, hw0⟩ : ∃ w0, w.alloc (.cells #[.slice pbd d.bl.length cbd, .slice pwd d.ws.length cwd, .int .i64 d.fu, .bool d.dn] 25) = w0 := ⟨_, rfl⟩
  have x0 := alloc_new w (.cells #[.slice pbd d.bl.length cbd, .slice pwd d.ws.length cwd, .int .i64 d.fu, .bool d.dn] 25)
  have B0 := (Below.refl w.heap.size w).alloc (Nat.le_refl _) (.cells #[.slice pbd d.bl.length cbd, .slice pwd d.ws.length cwd, .int .i64 d.fu, .bool d.dn] 25)
  have s0 : (w.alloc (.cells #[.slice pbd d.bl.length cbd, .slice pwd d.ws.length cwd, .int .i64 d.fu, .bool d.dn] 25)).heap.size = w.heap.size + 1 := by rw [World.size_alloc]
  rw [hw0] at x0 B0 s0
  have X0 := Lib.hid x0
  have Hw0 := Lib.hid hw0
  clear x0 hw0
  go_enter Try.func5, Try.ntmps5
  go_wp2_with fail
  rw [Hw0.out]
  refine (blives_any _).mono ?_
  rintro x w1 ⟨rfl, b1⟩
  have X1 := Lib.hid ((b1.block w.heap.size (by omega)).trans X0.out)
  obtain ⟨c0, c1, c2, c3, f0, f1, f2, f3⟩ := Wp.four_of X1.out
  have B1 := B0.trans (b1.mono (by omega))
  have s1 : w.heap.size < w1.heap.size := by have := b1.size; omega
  go_wp2_with fail
  refine (KS.out _ B1).mono ?_
  rintro x w2 ⟨v2, rfl, hd2, b2⟩
  obtain ⟨pbg, cbg, pwg, cwg, rfl, hd2⟩ := devAt_open hd2
  have hx2 := (b2.block w.heap.size s1).trans X1.out
  have B2 := B1.trans (b2.mono B1.size)
  have s2 : w.heap.size < w2.heap.size := Nat.lt_of_lt_of_le s1 b2.size
  clear c0 c1 c2 c3 f0 f1 f2 f3
  obtain ⟨c0, c1, c2, c3, f0, f1, f2, f3⟩ := Wp.four_of hx2
  have X3 := Lib.hid (four_set hx2 (.slice pbg g.bl.length cbg) (.slice pwg g.ws.length cwg) (.int .i64 g.fu) (.bool g.dn))
  have D3 := Lib.hid (devAt_box hd2 hx2 (four_rest w2 w.heap.size (.slice pbg g.bl.length cbg) (.slice pwg g.ws.length cwg) (.int .i64 g.fu) (.bool g.dn)))
  have B3 := four_below B2 (Nat.le_refl _) (.slice pbg g.bl.length cbg) (.slice pwg g.ws.length cwg) (.int .i64 g.fu) (.bool g.dn)
  have s3 : w.heap.size < ((((w2.setCell ⟨w.heap.size, 0, none⟩ (.slice pbg g.bl.length cbg)).setCell ⟨w.heap.size, 1, none⟩ (.slice pwg g.ws.length cwg)).setCell ⟨w.heap.size, 2, none⟩ (.int .i64 g.fu)).setCell ⟨w.heap.size, 3, none⟩ (.bool g.dn)).heap.size := by simp [World.setCell]; omega
  have Hb3 := Lib.hid B3
  have Hs3 := Lib.hid s3
  clear hx2 hd2 B3 s3
  go_wp2_with fail
  refine (KR.out _ _ D3.out).mono ?_
  rintro x w4 ⟨rfl, b4⟩
  have X4 := Lib.hid ((b4.block w.heap.size Hs3.out).trans X3.out)
  have D4 := Lib.hid (D3.out.below b4)
  have B4 := Hb3.out.trans (b4.mono Hb3.out.size)
  have s4 : w.heap.size < w4.heap.size := Nat.lt_of_lt_of_le Hs3.out b4.size
  clear c0 c1 c2 c3 f0 f1 f2 f3 Hb3 Hs3 b4
  obtain ⟨c0, c1, c2, c3, _, _, _, _⟩ := Wp.four_of X4.out
  go_wp2_with fail
  refine (KW.out _ _ D4.out).mono ?_
  rintro x w5 ⟨v5, rfl, hd5, b5⟩
  obtain ⟨pbe, cbe, pwe, cwe, rfl, hd5⟩ := devAt_open hd5
  have D5 := Lib.hid hd5
  have B5 := B4.trans (b5.mono B4.size)
  clear c0 c1 c2 c3 hd5
  have D6 := Lib.hid (D5.out.below ((Below.refl _ _).alloc (Nat.le_refl _) (.cells #[.slice pbe e.bl.length cbe, .slice pwe e.ws.length cwe, .int .i64 e.fu, .bool e.dn] 25)))
  have Y6 := Lib.hid (alloc_new w5 (.cells #[.slice pbe e.bl.length cbe, .slice pwe e.ws.length cwe, .int .i64 e.fu, .bool e.dn] 25))
  have B6 := Lib.hid (B5.alloc B5.size (.cells #[.slice pbe e.bl.length cbe, .slice pwe e.ws.length cwe, .int .i64 e.fu, .bool e.dn] 25))
  have s6 : w5.heap.size < (w5.alloc (.cells #[.slice pbe e.bl.length cbe, .slice pwe e.ws.length cwe, .int .i64 e.fu, .bool e.dn] 25)).heap.size := by simp
  obtain ⟨w6, hw6⟩ : ∃ w6, w5.alloc (.cells #[.slice pbe e.bl.length cbe, .slice pwe e.ws.length cwe, .int .i64 e.fu, .bool e.dn] 25) = w6 := ⟨_, rfl⟩
  rw [hw6] at D6 Y6 B6 s6
  have Hw6 := Lib.hid hw6
  clear hw6
  go_wp2_with fail
  go_loopw [14] (fun t wr => ∃ j : Nat, data.size + j ≤ 64 ∧ t = .string (data ++ Wp.B (List.replicate j 0)) ∧ wr = w6) (fun t _ => 64 - (match t with | .string b => b.size | _ => 0))
  case atStart => exact ⟨0, by omega, by rw [show (Wp.B (List.replicate 0 0)) = Wp.B [] from rfl, Wp.app_nil], Hw6.out⟩
  case round =>
    obtain ⟨j, hj, rfl, rfl⟩ := hrel
    have hstep := Wp.app_zero data j
    have hws := Wp.app_size data j
    by_cases hlt : data.size + j < 64
    · obtain ⟨wl, hwl⟩ : ∃ wl, wl = data ++ Wp.B (List.replicate j 0) := ⟨_, rfl⟩
      rw [← hwl] at hws hstep ⊢
      have Hstep := Lib.hid hstep
      clear hstep hwl
      go_wp2_with fail
      refine ⟨⟨j + 1, by omega, by rw [← Hstep.out], by first | rfl | trivial⟩, ?_⟩
      have h9 : (wl ++ ⟨#[0]⟩ : ByteArray).size = wl.size + 1 := by rw [ByteArray.size_append]; rfl
      simp only [h9]
      omega
    · have hjj : j = 64 - data.size := by omega
      rw [hjj, hL.out]
      clear hstep hws
      obtain ⟨c0, c1, c2, c3, _, _, _, _⟩ := Wp.four_of Y6.out
      go_wp2_with fail
      refine (KC.out _ _ _ (D6.out.below ((Below.refl _ _).alloc (Nat.le_refl _) _)) (alloc_new _ _)).mono ?_
      rintro x w7 ⟨v7, rfl, hd7, b7⟩
      obtain ⟨pbc, cbc, pwc, cwc, rfl, hd7⟩ := devAt_open hd7
      rw [World.size_alloc] at b7
      have B7 := Lib.hid ((B6.out.alloc B6.out.size _).trans (b7.mono (by have := B6.out.size; omega)))
      have D7 := Lib.hid hd7
      clear c0 c1 c2 c3 hd7
      go_wp2_with fail
      refine (KT.out _ _ (D7.out.below ((Below.refl _ _).alloc (Nat.le_refl _) _))).mono ?_
      rintro x w8 ⟨rfl, b8⟩
      have B8 := (B7.out.alloc B7.out.size (.cells #[.slice pbc c.bl.length cbc, .slice pwc c.ws.length cwc, .int .i64 c.fu, .bool c.dn] 25)).trans (b8.mono (by have := B7.out.size; rw [World.size_alloc]; omega))
      have l1 : (0 : Int) ≤ (n : Int) := by omega
      have l2 : (n : Int) ≤ (L.size : Int) := by omega
      have l3 : (n : Int) ≤ (s.size : Int) := by omega
      go_wp2_with fail
      rw [hn.out]
      go_quiet (fail)
      go_wp2_with fail
      go_ret
      refine ⟨?_, below_drewN B8 _⟩
      rw [← ht.out, hss]
      simp

/-- The law, at whatever device. -/
theorem blockTorn_any (v : Value) (d : Wp.Dev) (a kp : Int) (data : ByteArray) (w : World) (hv : Wp.DevAt w v d) (hf : d.Fits) (hdata : data.size ≤ 140737488351232) (hk : Wp.I64 kp) :
    Calls Try.prog 5 #[v, .int .i64 a, .string data, .int .i64 kp] w fun e w' => e = .returned (.bool true) ∧ Below w.heap.size w w' := by
  obtain ⟨pb, cb, pw, cw, rfl, hv2, _⟩ := asks hv hf
  have kr := fun (g : Wp.Dev) (hg : Wp.Good g) v w (hv : Wp.DevAt w v g) => Read_any v g a w hv hg.fits
  have kw := fun (g : Wp.Dev) (hg : Wp.Good g) v w (hv : Wp.DevAt w v g) => Write_good v g a data w hv hg hdata
  cases hok : d.ok with
  | false =>
    exact torn_no pb cb pw cw d Wp.Dev.zero _ a kp 2 _ _ data _ w (Lib.hid fun w' hb => Sync_bad _ d w' (hv2 w' hb) hf hok) (Lib.hid (kr _ Wp.Good.zero)) (Lib.hid (kw _ Wp.Good.zero)) (Or.inl rfl)
  | true =>
    have hg : Wp.Good d := ⟨hok, hf.fu.2⟩
    have ks := fun w' (hb : Below w.heap.size w w') => Sync_good _ d w' (hv2 w' hb) hg
    have hgg := hg.sync1
    by_cases h1 : d.sync1.2 = 0
    · by_cases h2 : (d.sync1.1.read a).2 = 0
      · by_cases h3 : 64 < data.size
        · exact torn_no pb cb pw cw d _ _ a kp _ _ _ data _ w (Lib.hid ks) (Lib.hid (kr _ hgg)) (Lib.hid (kw _ hgg)) (Or.inr (Or.inr h3))
        · have hdn : d.dn = false := by
            cases hd : d.dn with
            | false => rfl
            | true => unfold Wp.Dev.sync1 at h1; rw [if_pos hd] at h1; cases h1
          rcases Wp.synced hdn with ⟨_, z1, z2, z3⟩ | z9
          · have krg := kr _ hgg
            have kwg := kw _ hgg
            rw [h1] at ks
            rw [h2] at krg
            have hrg := Wp.read_good hgg.ok z3 a
            have hws : ∀ n, d.sync1.1.writeNo a n = if Wp.inside d.sync1.1 a = false then 1 else if 64 < n then 12 else 0 := fun n => by
              unfold Wp.Dev.writeNo
              rw [if_neg (by rw [z3]; simp), z2]
              simp
            generalize d.sync1.1 = g at *
            cases hin : Wp.inside g a with
            | false => rw [hrg, if_neg (by rw [hin]; simp)] at h2; cases h2
            | true =>
              rw [hin] at hrg
              simp only [if_true] at hrg
              have hno : g.writeNo a data.size = 0 := by rw [hws, if_neg (by rw [hin]; simp), if_neg h3]
              obtain ⟨_, y2, y3, y4, _, y6⟩ := Wp.write1_yes g a data hno
              have hl := spend_lists { g with ws := g.ws ++ [(a, Wp.laid (Wp.B []) data data.size)] }
              rw [← y6] at hl
              have hge := hgg.write1 a data
              have hb1 : (g.write1 a data).1.bl = g.bl := hl.1
              have hb2 : (g.write1 a data).1.ws = [(a, Wp.laid (Wp.B []) data data.size)] := by rw [hl.2, z2]; rfl
              generalize (g.write1 a data).1 = e at *
              have hLs := Wp.laid_size (Wp.B []) data data.size (Nat.le_refl _) y4 (by simp [Wp.B_size])
              have hLe : data ++ Wp.B (List.replicate (64 - data.size) 0) = Wp.laid (Wp.B []) data data.size := by
                unfold Wp.laid Wp.laidL
                obtain ⟨l, rfl⟩ : ∃ l, data = Wp.B l := ⟨_, (Wp.B_of data).symm⟩
                simp only [Wp.B_append, Wp.B_data, Wp.B_size, List.take_length, List.length_nil, Nat.sub_zero, List.nil_append, List.drop_replicate]
              generalize Wp.laid (Wp.B []) data data.size = L at *
              obtain ⟨q, rfl⟩ := Int.eq_ofNat_of_zero_le y2
              have hq : q < g.bl.length := by omega
              have hhas : g.has (q : Int) = g.bl[q] := by unfold Wp.Dev.has; rw [z2, Int.toNat_natCast, Wp.nth_get _ _ hq]; rfl
              have hs64 : g.bl[q].size = 64 := ((Wp.Dev.ok_iff g).1 hgg.ok).2.1 _ (List.getElem_mem hq)
              have htear : Wp.tearAll e.bl e.ws [kp] = g.bl.set q (Wp.laid g.bl[q] L (Wp.clamp kp)) := by
                rw [hb1, hb2, Wp.tearAll_cons, Int.toNat_natCast, Wp.nth_get _ _ hq]; rfl
              have hgc := hge.crash [kp]
              rw [htear] at hgc
              have hct : (⟨g.bl.set q (Wp.laid g.bl[q] L (Wp.clamp kp)), [], -1, false⟩ : Wp.Dev).read (q : Int) = (Wp.laid g.bl[q] L (Wp.clamp kp), 0) := by
                rw [Wp.read_good hgc.ok rfl, if_pos (by unfold Wp.inside; simp [hq])]
                unfold Wp.Dev.has
                rw [Int.toNat_natCast]
                show (Wp.nth (g.bl.set q _) q, (0 : Int)) = _
                rw [Wp.nth_set _ _ _ _ hq, if_pos rfl]
              refine torn_yes pb cb pw cw d g e ⟨g.bl.set q (Wp.laid g.bl[q] L (Wp.clamp kp)), [], -1, false⟩ (q : Int) kp _ data g.bl[q] (Wp.laid g.bl[q] L (Wp.clamp kp)) L (Wp.clamp kp) w (Lib.hid ks) (Lib.hid fun v w hv => by have := krg v w hv; rw [hrg, hhas] at this; exact this) (Lib.hid kwg)
                (Lib.hid fun v k w hv hk0 => by
                  have := Crash_ok v e (some ⟨k, 0, none⟩) 1 [kp] w hv hge.fits hge.ok (by simp) (Or.inr ⟨k, 0, rfl, fun i hi => by
                    have : i = 0 := by simpa using hi
                    subst this
                    rw [Lib.cell_of_heap hk0]
                    rfl⟩) (by intro x hx; simp at hx; subst hx; exact hk)
                  rw [htear] at this
                  exact this)
                (Lib.hid fun v w hv => by have := Read_any v _ (q : Int) w hv hgc.fits; rw [hct] at this; exact this)
                (by omega) (Lib.hid (by unfold Wp.clamp; omega)) (Wp.clamp_le kp) hLs hs64 (Lib.hid hLe) (Lib.hid ?_)
              have hcl := Wp.clamp_le kp
              unfold Wp.laid Wp.laidL
              rw [Wp.extract_B, Wp.extract_B, Wp.B_append, Wp.B_data, List.drop_zero, Nat.sub_zero]
              congr 2
              have hz : g.bl[q].data.toList.length = 64 := by rw [← Wp.size_len]; exact hs64
              rw [hz, List.take_of_length_le (by rw [List.length_drop, hz, hs64]; omega)]
              simp
          · rw [z9] at h1; cases h1
      · exact torn_no pb cb pw cw d _ _ a kp _ _ _ data _ w (Lib.hid ks) (Lib.hid (kr _ hgg)) (Lib.hid (kw _ hgg)) (Or.inr (Or.inl (bne_iff_ne.2 h2)))
    · exact torn_no pb cb pw cw d _ _ a kp _ _ _ data _ w (Lib.hid ks) (Lib.hid (kr _ hgg)) (Lib.hid (kw _ hgg)) (Or.inl (bne_iff_ne.2 h1))
end Go.Proofs.Ytcjpfkmmflaggaa
