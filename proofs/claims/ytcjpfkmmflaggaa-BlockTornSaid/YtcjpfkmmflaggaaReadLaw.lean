/-
  The law BlockRead: what is written is read, at once and behind a sync; all other blocks have what they had. Conditions: a device's lists and numbers, and the data, are of a size that a machine holds.
-/
import Derived.Test.YtcjpfkmmflaggaaBLives
namespace Go.Proofs.Ytcjpfkmmflaggaa
open Go.RowKit

theorem Wp.spend_two (d : Wp.Dev) : (d.spend.2 = 0 ∧ d.spend.1.dn = d.dn) ∨ d.spend.2 = 9 := by
  unfold Wp.Dev.spend
  split
  · exact Or.inr rfl
  · split
    · exact Or.inl ⟨rfl, rfl⟩
    · exact Or.inl ⟨rfl, rfl⟩
theorem Wp.hasF_snoc (a : Int) (ws : List (Int × ByteArray)) (s : ByteArray) (x : Int × ByteArray) : Wp.hasF a (ws ++ [x]) s = if x.1 = a then x.2 else Wp.hasF a ws s := by
  unfold Wp.hasF
  rw [List.foldl_append]
  rfl
theorem Wp.read_good {d : Wp.Dev} (h : d.ok = true) (hd : d.dn = false) (a : Int) : d.read a = if Wp.inside d a then (d.has a, 0) else (Wp.B [], 1) := by
  unfold Wp.Dev.read
  rw [if_neg (by rw [h]; simp), if_neg (by rw [hd]; simp)]
/-- What a write that is done has done. -/
theorem Wp.written {d : Wp.Dev} (h : Wp.Good d) (a : Int) (data : ByteArray) (hr : (d.write1 a data).2 = 0) :
    d.dn = false ∧ Wp.inside d a = true ∧ data.size ≤ 64 ∧ (d.write1 a data).1.dn = false ∧ (d.write1 a data).1.bl = d.bl ∧ (d.write1 a data).1.ws = d.ws ++ [(a, Wp.laid (Wp.B []) data data.size)] := by
  by_cases hno : d.writeNo a data.size = 0
  · obtain ⟨y1, y2, y3, y4, y5, y6⟩ := Wp.write1_yes d a data hno
    rw [y6] at hr ⊢
    have hl := spend_lists { d with ws := d.ws ++ [(a, Wp.laid (Wp.B []) data data.size)] }
    rcases Wp.spend_two { d with ws := d.ws ++ [(a, Wp.laid (Wp.B []) data data.size)] } with ⟨_, h2⟩ | h2
    · exact ⟨y1, by unfold Wp.inside; rw [decide_eq_true y2, decide_eq_true y3]; rfl, y4, by rw [h2]; exact y1, hl.1, hl.2⟩
    · rw [h2] at hr; cases hr
  · rw [Wp.write1_no d a data hno] at hr
    exact absurd hr hno
theorem Wp.written_read {d : Wp.Dev} (h : Wp.Good d) (a : Int) (data : ByteArray) (hr : (d.write1 a data).2 = 0) : (d.write1 a data).1.read a = (Wp.laid (Wp.B []) data data.size, 0) := by
  obtain ⟨h1, h2, h3, h4, h5, h6⟩ := Wp.written h a data hr
  rw [Wp.read_good (h.write1 a data).ok h4, if_pos (by unfold Wp.inside at h2 ⊢; rw [h5]; exact h2)]
  unfold Wp.Dev.has
  rw [h6, Wp.hasF_snoc, if_pos rfl]
theorem Wp.written_other {d : Wp.Dev} (h : Wp.Good d) (a o : Int) (data : ByteArray) (hr : (d.write1 a data).2 = 0) (hne : o ≠ a) : (d.write1 a data).1.read o = d.read o := by
  obtain ⟨h1, h2, h3, h4, h5, h6⟩ := Wp.written h a data hr
  rw [Wp.read_good (h.write1 a data).ok h4, Wp.read_good h.ok h1]
  have e := Wp.hasF_snoc o d.ws (Wp.nth d.bl o.toNat) (a, Wp.laid (Wp.B []) data data.size)
  rw [if_neg (fun q => hne q.symm)] at e
  unfold Wp.Dev.has Wp.inside
  rw [h5, h6, e]
/-- What a sync that is done has done. -/
theorem Wp.synced {e : Wp.Dev} (hdn : e.dn = false) : (e.sync1.2 = 0 ∧ e.sync1.1.bl = e.hasAll ∧ e.sync1.1.ws = [] ∧ e.sync1.1.dn = false) ∨ e.sync1.2 = 9 := by
  unfold Wp.Dev.sync1
  rw [if_neg (by rw [hdn]; simp)]
  rcases Wp.spend_two e with ⟨h1, h2⟩ | h2
  · rw [if_pos h1]
    exact Or.inl ⟨rfl, rfl, rfl, by rw [← hdn, ← h2]⟩
  · rw [if_neg (by rw [h2]; decide)]
    exact Or.inr h2
theorem Wp.synced_read {e : Wp.Dev} (h : Wp.Good e) (hdn : e.dn = false) (h0 : e.sync1.2 = 0) (a : Int) : e.sync1.1.read a = e.read a := by
  rcases Wp.synced hdn with ⟨_, h1, h2, h3⟩ | h9
  · rw [Wp.read_good h.sync1.ok h3, Wp.read_good h.ok hdn]
    have hin : Wp.inside e.sync1.1 a = Wp.inside e a := by unfold Wp.inside; rw [h1]; unfold Wp.Dev.hasAll; rw [Wp.setAll_length]
    rw [hin]
    cases hi : Wp.inside e a with
    | false => rfl
    | true =>
      simp only [if_true, Prod.mk.injEq, and_true]
      unfold Wp.inside at hi
      rw [Bool.and_eq_true, decide_eq_true_eq, decide_eq_true_eq] at hi
      unfold Wp.Dev.has
      rw [h1, h2]
      show Wp.nth (Wp.setAll e.bl e.ws) a.toNat = _
      exact Wp.setAll_nth e.bl e.ws a hi.1 hi.2 (fun x hx => (((Wp.Dev.ok_iff e).1 h.ok).2.2 x hx).1)
  · rw [h9] at h0; cases h0
theorem Wp.laid_head (data : ByteArray) : (Wp.laid (Wp.B []) data data.size).extract 0 data.size = data := by
  unfold Wp.laid Wp.laidL
  rw [Wp.size_len, List.take_length, ← Wp.size_len]
  exact Wp.ext_head data _

set_option maxHeartbeats 1000000 in
/-- The law, where the write is refused. -/
theorem blockRead_no (pbd : Option Addr) (cbd : Nat) (pwd : Option Addr) (cwd : Nat) (d e : Wp.Dev) (a o r : Int) (data : ByteArray) (w : World)
    (KW : Hid (∀ w', Below w.heap.size w w' → Calls Try.prog 15 #[.agg #[.slice pbd d.bl.length cbd, .slice pwd d.ws.length cwd, .int .i64 d.fu, .bool d.dn], .int .i64 a, .string data] w' fun x w'' => ∃ v', x = .returned (.tuple #[v', .int .i64 r]) ∧ Wp.DevAt w'' v' e ∧ Below w'.heap.size w' w'')) (hr : (r != 0) = true) :
    Calls Try.prog 6 #[.agg #[.slice pbd d.bl.length cbd, .slice pwd d.ws.length cwd, .int .i64 d.fu, .bool d.dn], .int .i64 a, .int .i64 o, .string data] w fun e w' => e = .returned (.bool true) ∧ Below w.heap.size w w' := by
  obtain ⟨w0, hw0⟩ : ∃ w0, w.alloc (.cells #[.slice pbd d.bl.length cbd, .slice pwd d.ws.length cwd, .int .i64 d.fu, .bool d.dn] 25) = w0 := ⟨_, rfl⟩
  have x0 := alloc_new w (.cells #[.slice pbd d.bl.length cbd, .slice pwd d.ws.length cwd, .int .i64 d.fu, .bool d.dn] 25)
  have B0 := (Below.refl w.heap.size w).alloc (Nat.le_refl _) (.cells #[.slice pbd d.bl.length cbd, .slice pwd d.ws.length cwd, .int .i64 d.fu, .bool d.dn] 25)
  have s0 : (w.alloc (.cells #[.slice pbd d.bl.length cbd, .slice pwd d.ws.length cwd, .int .i64 d.fu, .bool d.dn] 25)).heap.size = w.heap.size + 1 := by rw [World.size_alloc]
  rw [hw0] at x0 B0 s0
  have X0 := Lib.hid x0
  have Hw0 := Lib.hid hw0
  clear x0 hw0
  go_enter Try.func6, Try.ntmps6
  go_wp2_with fail
  rw [Hw0.out]
  refine (blives_any _).mono ?_
  rintro x w1 ⟨rfl, b1⟩
  obtain ⟨c0, c1, c2, c3, _, _, _, _⟩ := Wp.four_of ((b1.block w.heap.size (by omega)).trans X0.out)
  have B1 := B0.trans (b1.mono (by omega))
  have s1 := b1.size
  go_wp2_with fail
  refine (KW.out _ B1).mono ?_
  rintro x w2 ⟨v2, rfl, hd2, b2⟩
  obtain ⟨pbe, cbe, pwe, cwe, rfl, _⟩ := devAt_open hd2
  have B2 := B1.trans (b2.mono B1.size)
  clear hd2
  go_wp2_with fail
  go_ret
  exact ⟨rfl, B2.alloc B2.size _⟩

set_option maxHeartbeats 1000000 in
/-- The law, where the sync is refused, at the same block. -/
theorem blockRead_off1 (pbd : Option Addr) (cbd : Nat) (pwd : Option Addr) (cwd : Nat) (d e f : Wp.Dev) (a o rt ru : Int) (data s t u : ByteArray) (w : World)
    (KW : Hid (∀ w', Below w.heap.size w w' → Calls Try.prog 15 #[.agg #[.slice pbd d.bl.length cbd, .slice pwd d.ws.length cwd, .int .i64 d.fu, .bool d.dn], .int .i64 a, .string data] w' fun x w'' => ∃ v', x = .returned (.tuple #[v', .int .i64 0]) ∧ Wp.DevAt w'' v' e ∧ Below w'.heap.size w' w''))
    (KR : Hid (∀ v w, Wp.DevAt w v e → Calls Try.prog 14 #[v, .int .i64 a] w fun x w' => x = .returned (.tuple #[.string s, .int .i64 0]) ∧ Below w.heap.size w w'))
    (KS : Hid (∀ v w, Wp.DevAt w v e → Calls Try.prog 13 #[v] w fun x w' => ∃ v', x = .returned (.tuple #[v', .int .i64 9]) ∧ Wp.DevAt w' v' f ∧ Below w.heap.size w w'))
    (KA : Hid (∀ w', Below w.heap.size w w' → Calls Try.prog 14 #[.agg #[.slice pbd d.bl.length cbd, .slice pwd d.ws.length cwd, .int .i64 d.fu, .bool d.dn], .int .i64 o] w' fun x w'' => x = .returned (.tuple #[.string t, .int .i64 rt]) ∧ Below w'.heap.size w' w''))
    (KB : Hid (∀ v w, Wp.DevAt w v e → Calls Try.prog 14 #[v, .int .i64 o] w fun x w' => x = .returned (.tuple #[.string u, .int .i64 ru]) ∧ Below w.heap.size w w'))
    (hs : s.size = 64) (hds : data.size ≤ 64) (hh : s.extract 0 data.size = data) (ho : (o != a) = false) :
    Calls Try.prog 6 #[.agg #[.slice pbd d.bl.length cbd, .slice pwd d.ws.length cwd, .int .i64 d.fu, .bool d.dn], .int .i64 a, .int .i64 o, .string data] w fun e w' => e = .returned (.bool true) ∧ Below w.heap.size w w' := by
  have hle : (data.size : Int) ≤ (s.size : Int) := by omega
  obtain ⟨w0, hw0⟩ : ∃ w0, w.alloc (.cells #[.slice pbd d.bl.length cbd, .slice pwd d.ws.length cwd, .int .i64 d.fu, .bool d.dn] 25) = w0 := ⟨_, rfl⟩
  have x0 := alloc_new w (.cells #[.slice pbd d.bl.length cbd, .slice pwd d.ws.length cwd, .int .i64 d.fu, .bool d.dn] 25)
  have B0 := (Below.refl w.heap.size w).alloc (Nat.le_refl _) (.cells #[.slice pbd d.bl.length cbd, .slice pwd d.ws.length cwd, .int .i64 d.fu, .bool d.dn] 25)
  have s0 : (w.alloc (.cells #[.slice pbd d.bl.length cbd, .slice pwd d.ws.length cwd, .int .i64 d.fu, .bool d.dn] 25)).heap.size = w.heap.size + 1 := by rw [World.size_alloc]
  rw [hw0] at x0 B0 s0
  have X0 := Lib.hid x0
  have Hw0 := Lib.hid hw0
  clear x0 hw0
  go_enter Try.func6, Try.ntmps6
  go_wp2_with fail
  rw [Hw0.out]
  refine (blives_any _).mono ?_
  rintro x w1 ⟨rfl, b1⟩
  have X1 := Lib.hid ((b1.block w.heap.size (by omega)).trans X0.out)
  obtain ⟨c0, c1, c2, c3, _, _, _, _⟩ := Wp.four_of X1.out
  have B1 := B0.trans (b1.mono (by omega))
  have s1 : w.heap.size < w1.heap.size := by have := b1.size; omega
  go_wp2_with fail
  refine (KW.out _ B1).mono ?_
  rintro x w2 ⟨v2, rfl, hd2, b2⟩
  obtain ⟨pbe, cbe, pwe, cwe, rfl, hd2⟩ := devAt_open hd2
  have X2 := Lib.hid ((b2.block w.heap.size s1).trans X1.out)
  have B2 := B1.trans (b2.mono B1.size)
  have s2 : w.heap.size < w2.heap.size := Nat.lt_of_lt_of_le s1 b2.size
  have D2 := Lib.hid hd2
  clear c0 c1 c2 c3 hd2
  go_wp2_with fail
  refine (KR.out _ _ (D2.out.below ((Below.refl _ _).alloc (Nat.le_refl _) _))).mono ?_
  rintro x w3 ⟨rfl, b3⟩
  rw [World.size_alloc] at b3
  have X3 := Lib.hid ((b3.block w.heap.size (by omega)).trans ((alloc_past _ _ _ s2).trans X2.out))
  have Y3 := Lib.hid ((b3.block w2.heap.size (by omega)).trans (alloc_new w2 _))
  have D3 := Lib.hid ((D2.out.below ((Below.refl _ _).alloc (Nat.le_refl _) (.cells #[.slice pbe e.bl.length cbe, .slice pwe e.ws.length cwe, .int .i64 e.fu, .bool e.dn] 25))).below (by rw [World.size_alloc]; exact b3))
  have B3 := (B2.alloc B2.size (.cells #[.slice pbe e.bl.length cbe, .slice pwe e.ws.length cwe, .int .i64 e.fu, .bool e.dn] 25)).trans (b3.mono (by omega))
  have s3 : w2.heap.size < w3.heap.size := by have := b3.size; simp at this; omega
  obtain ⟨c0, c1, c2, c3, _, _, _, _⟩ := Wp.four_of Y3.out
  go_wp2_with fail
  refine (KS.out _ _ D3.out).mono ?_
  rintro x w4 ⟨v4, rfl, hd4, b4⟩
  obtain ⟨pbf, cbf, pwf, cwf, rfl, hd4⟩ := devAt_open hd4
  have X4 := Lib.hid ((b4.block w.heap.size (by omega)).trans X3.out)
  have Y4 := Lib.hid ((b4.block w2.heap.size s3).trans Y3.out)
  have D4 := Lib.hid (D3.out.below b4)
  have E4 := Lib.hid hd4
  have B4 := B3.trans (b4.mono B3.size)
  have s4 : w2.heap.size < w4.heap.size := Nat.lt_of_lt_of_le s3 b4.size
  clear c0 c1 c2 c3 hd4
  obtain ⟨c0, c1, c2, c3, _, _, _, _⟩ := Wp.four_of X4.out
  have l0 : w.heap.size < w4.heap.size := by omega
  go_wp2_with fail
  refine (KA.out _ (B4.alloc B4.size _)).mono ?_
  rintro x w5 ⟨rfl, b5⟩
  rw [World.size_alloc] at b5
  have Y5 := Lib.hid ((b5.block w2.heap.size (by omega)).trans ((alloc_past _ _ _ s4).trans Y4.out))
  have Z5 := Lib.hid ((b5.block w4.heap.size (by omega)).trans (alloc_new w4 _))
  have D5 := Lib.hid ((D4.out.below ((Below.refl _ _).alloc (Nat.le_refl _) (.cells #[.slice pbf f.bl.length cbf, .slice pwf f.ws.length cwf, .int .i64 f.fu, .bool f.dn] 25))).below (by rw [World.size_alloc]; exact b5))
  have E5 := Lib.hid ((E4.out.below ((Below.refl _ _).alloc (Nat.le_refl _) (.cells #[.slice pbf f.bl.length cbf, .slice pwf f.ws.length cwf, .int .i64 f.fu, .bool f.dn] 25))).below (by rw [World.size_alloc]; exact b5))
  have B5 := (B4.alloc B4.size (.cells #[.slice pbf f.bl.length cbf, .slice pwf f.ws.length cwf, .int .i64 f.fu, .bool f.dn] 25)).trans (b5.mono (by omega))
  have s5 : w4.heap.size < w5.heap.size := by have := b5.size; simp at this; omega
  clear c0 c1 c2 c3
  obtain ⟨c0, c1, c2, c3, _, _, _, _⟩ := Wp.four_of Y5.out
  go_wp2_with fail
  refine (KB.out _ _ D5.out).mono ?_
  rintro x w6 ⟨rfl, b6⟩
  have Y6 := Lib.hid ((b6.block w2.heap.size (by omega)).trans Y5.out)
  have Z6 := Lib.hid ((b6.block w4.heap.size s5).trans Z5.out)
  have D6 := Lib.hid (D5.out.below b6)
  have E6 := Lib.hid (E5.out.below b6)
  have B6 := B5.trans (b6.mono B5.size)
  have s6 : w4.heap.size < w6.heap.size := Nat.lt_of_lt_of_le s5 b6.size
  clear c0 c1 c2 c3
  obtain ⟨c0, c1, c2, c3, _, _, _, _⟩ := Wp.four_of Z6.out
  go_wp2_with fail
  go_ret
  exact ⟨rfl, B6⟩

set_option maxHeartbeats 1000000 in
/-- The law, where the sync is refused, at another block. -/
theorem blockRead_off2 (pbd : Option Addr) (cbd : Nat) (pwd : Option Addr) (cwd : Nat) (d e f : Wp.Dev) (a o rt ru : Int) (data s t u : ByteArray) (w : World)
    (KW : Hid (∀ w', Below w.heap.size w w' → Calls Try.prog 15 #[.agg #[.slice pbd d.bl.length cbd, .slice pwd d.ws.length cwd, .int .i64 d.fu, .bool d.dn], .int .i64 a, .string data] w' fun x w'' => ∃ v', x = .returned (.tuple #[v', .int .i64 0]) ∧ Wp.DevAt w'' v' e ∧ Below w'.heap.size w' w''))
    (KR : Hid (∀ v w, Wp.DevAt w v e → Calls Try.prog 14 #[v, .int .i64 a] w fun x w' => x = .returned (.tuple #[.string s, .int .i64 0]) ∧ Below w.heap.size w w'))
    (KS : Hid (∀ v w, Wp.DevAt w v e → Calls Try.prog 13 #[v] w fun x w' => ∃ v', x = .returned (.tuple #[v', .int .i64 9]) ∧ Wp.DevAt w' v' f ∧ Below w.heap.size w w'))
    (KA : Hid (∀ w', Below w.heap.size w w' → Calls Try.prog 14 #[.agg #[.slice pbd d.bl.length cbd, .slice pwd d.ws.length cwd, .int .i64 d.fu, .bool d.dn], .int .i64 o] w' fun x w'' => x = .returned (.tuple #[.string t, .int .i64 rt]) ∧ Below w'.heap.size w' w''))
    (KB : Hid (∀ v w, Wp.DevAt w v e → Calls Try.prog 14 #[v, .int .i64 o] w fun x w' => x = .returned (.tuple #[.string u, .int .i64 ru]) ∧ Below w.heap.size w w'))
    (hs : s.size = 64) (hds : data.size ≤ 64) (hh : s.extract 0 data.size = data) (ho : (o != a) = true) (htu : t = u) (hrt : rt = ru) :
    Calls Try.prog 6 #[.agg #[.slice pbd d.bl.length cbd, .slice pwd d.ws.length cwd, .int .i64 d.fu, .bool d.dn], .int .i64 a, .int .i64 o, .string data] w fun e w' => e = .returned (.bool true) ∧ Below w.heap.size w w' := by
  subst htu hrt
  have hle : (data.size : Int) ≤ (s.size : Int) := by omega
  obtain ⟨w0, hw0⟩ : ∃ w0, w.alloc (.cells #[.slice pbd d.bl.length cbd, .slice pwd d.ws.length cwd, .int .i64 d.fu, .bool d.dn] 25) = w0 := ⟨_, rfl⟩
  have x0 := alloc_new w (.cells #[.slice pbd d.bl.length cbd, .slice pwd d.ws.length cwd, .int .i64 d.fu, .bool d.dn] 25)
  have B0 := (Below.refl w.heap.size w).alloc (Nat.le_refl _) (.cells #[.slice pbd d.bl.length cbd, .slice pwd d.ws.length cwd, .int .i64 d.fu, .bool d.dn] 25)
  have s0 : (w.alloc (.cells #[.slice pbd d.bl.length cbd, .slice pwd d.ws.length cwd, .int .i64 d.fu, .bool d.dn] 25)).heap.size = w.heap.size + 1 := by rw [World.size_alloc]
  rw [hw0] at x0 B0 s0
  have X0 := Lib.hid x0
  have Hw0 := Lib.hid hw0
  clear x0 hw0
  go_enter Try.func6, Try.ntmps6
  go_wp2_with fail
  rw [Hw0.out]
  refine (blives_any _).mono ?_
  rintro x w1 ⟨rfl, b1⟩
  have X1 := Lib.hid ((b1.block w.heap.size (by omega)).trans X0.out)
  obtain ⟨c0, c1, c2, c3, _, _, _, _⟩ := Wp.four_of X1.out
  have B1 := B0.trans (b1.mono (by omega))
  have s1 : w.heap.size < w1.heap.size := by have := b1.size; omega
  go_wp2_with fail
  refine (KW.out _ B1).mono ?_
  rintro x w2 ⟨v2, rfl, hd2, b2⟩
  obtain ⟨pbe, cbe, pwe, cwe, rfl, hd2⟩ := devAt_open hd2
  have X2 := Lib.hid ((b2.block w.heap.size s1).trans X1.out)
  have B2 := B1.trans (b2.mono B1.size)
  have s2 : w.heap.size < w2.heap.size := Nat.lt_of_lt_of_le s1 b2.size
  have D2 := Lib.hid hd2
  clear c0 c1 c2 c3 hd2
  go_wp2_with fail
  refine (KR.out _ _ (D2.out.below ((Below.refl _ _).alloc (Nat.le_refl _) _))).mono ?_
  rintro x w3 ⟨rfl, b3⟩
  rw [World.size_alloc] at b3
  have X3 := Lib.hid ((b3.block w.heap.size (by omega)).trans ((alloc_past _ _ _ s2).trans X2.out))
  have Y3 := Lib.hid ((b3.block w2.heap.size (by omega)).trans (alloc_new w2 _))
  have D3 := Lib.hid ((D2.out.below ((Below.refl _ _).alloc (Nat.le_refl _) (.cells #[.slice pbe e.bl.length cbe, .slice pwe e.ws.length cwe, .int .i64 e.fu, .bool e.dn] 25))).below (by rw [World.size_alloc]; exact b3))
  have B3 := (B2.alloc B2.size (.cells #[.slice pbe e.bl.length cbe, .slice pwe e.ws.length cwe, .int .i64 e.fu, .bool e.dn] 25)).trans (b3.mono (by omega))
  have s3 : w2.heap.size < w3.heap.size := by have := b3.size; simp at this; omega
  obtain ⟨c0, c1, c2, c3, _, _, _, _⟩ := Wp.four_of Y3.out
  go_wp2_with fail
  refine (KS.out _ _ D3.out).mono ?_
  rintro x w4 ⟨v4, rfl, hd4, b4⟩
  obtain ⟨pbf, cbf, pwf, cwf, rfl, hd4⟩ := devAt_open hd4
  have X4 := Lib.hid ((b4.block w.heap.size (by omega)).trans X3.out)
  have Y4 := Lib.hid ((b4.block w2.heap.size s3).trans Y3.out)
  have D4 := Lib.hid (D3.out.below b4)
  have E4 := Lib.hid hd4
  have B4 := B3.trans (b4.mono B3.size)
  have s4 : w2.heap.size < w4.heap.size := Nat.lt_of_lt_of_le s3 b4.size
  clear c0 c1 c2 c3 hd4
  obtain ⟨c0, c1, c2, c3, _, _, _, _⟩ := Wp.four_of X4.out
  have l0 : w.heap.size < w4.heap.size := by omega
  go_wp2_with fail
  refine (KA.out _ (B4.alloc B4.size _)).mono ?_
  rintro x w5 ⟨rfl, b5⟩
  rw [World.size_alloc] at b5
  have Y5 := Lib.hid ((b5.block w2.heap.size (by omega)).trans ((alloc_past _ _ _ s4).trans Y4.out))
  have Z5 := Lib.hid ((b5.block w4.heap.size (by omega)).trans (alloc_new w4 _))
  have D5 := Lib.hid ((D4.out.below ((Below.refl _ _).alloc (Nat.le_refl _) (.cells #[.slice pbf f.bl.length cbf, .slice pwf f.ws.length cwf, .int .i64 f.fu, .bool f.dn] 25))).below (by rw [World.size_alloc]; exact b5))
  have E5 := Lib.hid ((E4.out.below ((Below.refl _ _).alloc (Nat.le_refl _) (.cells #[.slice pbf f.bl.length cbf, .slice pwf f.ws.length cwf, .int .i64 f.fu, .bool f.dn] 25))).below (by rw [World.size_alloc]; exact b5))
  have B5 := (B4.alloc B4.size (.cells #[.slice pbf f.bl.length cbf, .slice pwf f.ws.length cwf, .int .i64 f.fu, .bool f.dn] 25)).trans (b5.mono (by omega))
  have s5 : w4.heap.size < w5.heap.size := by have := b5.size; simp at this; omega
  clear c0 c1 c2 c3
  obtain ⟨c0, c1, c2, c3, _, _, _, _⟩ := Wp.four_of Y5.out
  go_wp2_with fail
  refine (KB.out _ _ D5.out).mono ?_
  rintro x w6 ⟨rfl, b6⟩
  have Y6 := Lib.hid ((b6.block w2.heap.size (by omega)).trans Y5.out)
  have Z6 := Lib.hid ((b6.block w4.heap.size s5).trans Z5.out)
  have D6 := Lib.hid (D5.out.below b6)
  have E6 := Lib.hid (E5.out.below b6)
  have B6 := B5.trans (b6.mono B5.size)
  have s6 : w4.heap.size < w6.heap.size := Nat.lt_of_lt_of_le s5 b6.size
  clear c0 c1 c2 c3
  obtain ⟨c0, c1, c2, c3, _, _, _, _⟩ := Wp.four_of Z6.out
  go_wp2_with fail
  go_ret
  exact ⟨rfl, B6⟩

set_option maxHeartbeats 1000000 in
/-- The law, where all is done, at the same block. -/
theorem blockRead_on1 (pbd : Option Addr) (cbd : Nat) (pwd : Option Addr) (cwd : Nat) (d e f : Wp.Dev) (a o rt ru : Int) (data s t u : ByteArray) (w : World)
    (KW : Hid (∀ w', Below w.heap.size w w' → Calls Try.prog 15 #[.agg #[.slice pbd d.bl.length cbd, .slice pwd d.ws.length cwd, .int .i64 d.fu, .bool d.dn], .int .i64 a, .string data] w' fun x w'' => ∃ v', x = .returned (.tuple #[v', .int .i64 0]) ∧ Wp.DevAt w'' v' e ∧ Below w'.heap.size w' w''))
    (KR : Hid (∀ v w, Wp.DevAt w v e → Calls Try.prog 14 #[v, .int .i64 a] w fun x w' => x = .returned (.tuple #[.string s, .int .i64 0]) ∧ Below w.heap.size w w'))
    (KS : Hid (∀ v w, Wp.DevAt w v e → Calls Try.prog 13 #[v] w fun x w' => ∃ v', x = .returned (.tuple #[v', .int .i64 0]) ∧ Wp.DevAt w' v' f ∧ Below w.heap.size w w'))
    (KA : Hid (∀ w', Below w.heap.size w w' → Calls Try.prog 14 #[.agg #[.slice pbd d.bl.length cbd, .slice pwd d.ws.length cwd, .int .i64 d.fu, .bool d.dn], .int .i64 o] w' fun x w'' => x = .returned (.tuple #[.string t, .int .i64 rt]) ∧ Below w'.heap.size w' w''))
    (KB : Hid (∀ v w, Wp.DevAt w v e → Calls Try.prog 14 #[v, .int .i64 o] w fun x w' => x = .returned (.tuple #[.string u, .int .i64 ru]) ∧ Below w.heap.size w w'))
    (KT : Hid (∀ v w, Wp.DevAt w v f → Calls Try.prog 14 #[v, .int .i64 a] w fun x w' => x = .returned (.tuple #[.string s, .int .i64 0]) ∧ Below w.heap.size w w'))
    (KM : Hid (∀ v y w, Wp.DevAt w v e → Wp.DevAt w y f → Calls Try.prog 9 #[v, y] w fun x w' => x = .returned (.tuple #[.bool true, .int .i64 0]) ∧ Below w.heap.size w w'))
    (hfw : Hid (f.ws.length = 0))
    (hs : s.size = 64) (hds : data.size ≤ 64) (hh : s.extract 0 data.size = data) (ho : (o != a) = false) :
    Calls Try.prog 6 #[.agg #[.slice pbd d.bl.length cbd, .slice pwd d.ws.length cwd, .int .i64 d.fu, .bool d.dn], .int .i64 a, .int .i64 o, .string data] w fun e w' => e = .returned (.bool true) ∧ Below w.heap.size w w' := by
  have hle : (data.size : Int) ≤ (s.size : Int) := by omega
  obtain ⟨w0, hw0⟩ : ∃ w0, w.alloc (.cells #[.slice pbd d.bl.length cbd, .slice pwd d.ws.length cwd, .int .i64 d.fu, .bool d.dn] 25) = w0 := ⟨_, rfl⟩
  have x0 := alloc_new w (.cells #[.slice pbd d.bl.length cbd, .slice pwd d.ws.length cwd, .int .i64 d.fu, .bool d.dn] 25)
  have B0 := (Below.refl w.heap.size w).alloc (Nat.le_refl _) (.cells #[.slice pbd d.bl.length cbd, .slice pwd d.ws.length cwd, .int .i64 d.fu, .bool d.dn] 25)
  have s0 : (w.alloc (.cells #[.slice pbd d.bl.length cbd, .slice pwd d.ws.length cwd, .int .i64 d.fu, .bool d.dn] 25)).heap.size = w.heap.size + 1 := by rw [World.size_alloc]
  rw [hw0] at x0 B0 s0
  have X0 := Lib.hid x0
  have Hw0 := Lib.hid hw0
  clear x0 hw0
  go_enter Try.func6, Try.ntmps6
  go_wp2_with fail
  rw [Hw0.out]
  refine (blives_any _).mono ?_
  rintro x w1 ⟨rfl, b1⟩
  have X1 := Lib.hid ((b1.block w.heap.size (by omega)).trans X0.out)
  obtain ⟨c0, c1, c2, c3, _, _, _, _⟩ := Wp.four_of X1.out
  have B1 := B0.trans (b1.mono (by omega))
  have s1 : w.heap.size < w1.heap.size := by have := b1.size; omega
  go_wp2_with fail
  refine (KW.out _ B1).mono ?_
  rintro x w2 ⟨v2, rfl, hd2, b2⟩
  obtain ⟨pbe, cbe, pwe, cwe, rfl, hd2⟩ := devAt_open hd2
  have X2 := Lib.hid ((b2.block w.heap.size s1).trans X1.out)
  have B2 := B1.trans (b2.mono B1.size)
  have s2 : w.heap.size < w2.heap.size := Nat.lt_of_lt_of_le s1 b2.size
  have D2 := Lib.hid hd2
  clear c0 c1 c2 c3 hd2
  go_wp2_with fail
  refine (KR.out _ _ (D2.out.below ((Below.refl _ _).alloc (Nat.le_refl _) _))).mono ?_
  rintro x w3 ⟨rfl, b3⟩
  rw [World.size_alloc] at b3
  have X3 := Lib.hid ((b3.block w.heap.size (by omega)).trans ((alloc_past _ _ _ s2).trans X2.out))
  have Y3 := Lib.hid ((b3.block w2.heap.size (by omega)).trans (alloc_new w2 _))
  have D3 := Lib.hid ((D2.out.below ((Below.refl _ _).alloc (Nat.le_refl _) (.cells #[.slice pbe e.bl.length cbe, .slice pwe e.ws.length cwe, .int .i64 e.fu, .bool e.dn] 25))).below (by rw [World.size_alloc]; exact b3))
  have B3 := (B2.alloc B2.size (.cells #[.slice pbe e.bl.length cbe, .slice pwe e.ws.length cwe, .int .i64 e.fu, .bool e.dn] 25)).trans (b3.mono (by omega))
  have s3 : w2.heap.size < w3.heap.size := by have := b3.size; simp at this; omega
  obtain ⟨c0, c1, c2, c3, _, _, _, _⟩ := Wp.four_of Y3.out
  go_wp2_with fail
  refine (KS.out _ _ D3.out).mono ?_
  rintro x w4 ⟨v4, rfl, hd4, b4⟩
  obtain ⟨pbf, cbf, pwf, cwf, rfl, hd4⟩ := devAt_open hd4
  have X4 := Lib.hid ((b4.block w.heap.size (by omega)).trans X3.out)
  have Y4 := Lib.hid ((b4.block w2.heap.size s3).trans Y3.out)
  have D4 := Lib.hid (D3.out.below b4)
  have E4 := Lib.hid hd4
  have B4 := B3.trans (b4.mono B3.size)
  have s4 : w2.heap.size < w4.heap.size := Nat.lt_of_lt_of_le s3 b4.size
  clear c0 c1 c2 c3 hd4
  obtain ⟨c0, c1, c2, c3, _, _, _, _⟩ := Wp.four_of X4.out
  have l0 : w.heap.size < w4.heap.size := by omega
  go_wp2_with fail
  refine (KA.out _ (B4.alloc B4.size _)).mono ?_
  rintro x w5 ⟨rfl, b5⟩
  rw [World.size_alloc] at b5
  have Y5 := Lib.hid ((b5.block w2.heap.size (by omega)).trans ((alloc_past _ _ _ s4).trans Y4.out))
  have Z5 := Lib.hid ((b5.block w4.heap.size (by omega)).trans (alloc_new w4 _))
  have D5 := Lib.hid ((D4.out.below ((Below.refl _ _).alloc (Nat.le_refl _) (.cells #[.slice pbf f.bl.length cbf, .slice pwf f.ws.length cwf, .int .i64 f.fu, .bool f.dn] 25))).below (by rw [World.size_alloc]; exact b5))
  have E5 := Lib.hid ((E4.out.below ((Below.refl _ _).alloc (Nat.le_refl _) (.cells #[.slice pbf f.bl.length cbf, .slice pwf f.ws.length cwf, .int .i64 f.fu, .bool f.dn] 25))).below (by rw [World.size_alloc]; exact b5))
  have B5 := (B4.alloc B4.size (.cells #[.slice pbf f.bl.length cbf, .slice pwf f.ws.length cwf, .int .i64 f.fu, .bool f.dn] 25)).trans (b5.mono (by omega))
  have s5 : w4.heap.size < w5.heap.size := by have := b5.size; simp at this; omega
  clear c0 c1 c2 c3
  obtain ⟨c0, c1, c2, c3, _, _, _, _⟩ := Wp.four_of Y5.out
  go_wp2_with fail
  refine (KB.out _ _ D5.out).mono ?_
  rintro x w6 ⟨rfl, b6⟩
  have Y6 := Lib.hid ((b6.block w2.heap.size (by omega)).trans Y5.out)
  have Z6 := Lib.hid ((b6.block w4.heap.size s5).trans Z5.out)
  have D6 := Lib.hid (D5.out.below b6)
  have E6 := Lib.hid (E5.out.below b6)
  have B6 := B5.trans (b6.mono B5.size)
  have s6 : w4.heap.size < w6.heap.size := Nat.lt_of_lt_of_le s5 b6.size
  clear c0 c1 c2 c3
  obtain ⟨c0, c1, c2, c3, _, _, _, _⟩ := Wp.four_of Z6.out
  go_wp2_with fail
  refine (KT.out _ _ E6.out).mono ?_
  rintro x w7 ⟨rfl, b7⟩
  have Y7 := Lib.hid ((b7.block w2.heap.size (by omega)).trans Y6.out)
  have Z7 := Lib.hid ((b7.block w4.heap.size s6).trans Z6.out)
  have D7 := Lib.hid (D6.out.below b7)
  have E7 := Lib.hid (E6.out.below b7)
  have B7 := B6.trans (b7.mono B6.size)
  have s7 : w4.heap.size < w7.heap.size := Nat.lt_of_lt_of_le s6 b7.size
  clear c0 c1 c2 c3
  obtain ⟨c0, c1, c2, c3, _, _, _, _⟩ := Wp.four_of Z7.out
  obtain ⟨d0, d1, d2, d3, _, _, _, _⟩ := Wp.four_of Y7.out
  go_wp2_with fail
  refine (KM.out _ _ _ D7.out E7.out).mono ?_
  rintro x w8 ⟨rfl, b8⟩
  have Z8 := Lib.hid ((b8.block w4.heap.size s7).trans Z7.out)
  have B8 := B7.trans (b8.mono B7.size)
  clear c0 c1 c2 c3 d0 d1 d2 d3
  obtain ⟨c0, c1, c2, c3, _, _, _, _⟩ := Wp.four_of Z8.out
  have q1 : ((f.ws.length : Int) == 0) = true := by rw [hfw.out]; rfl
  go_wp2_with fail
  go_ret
  exact ⟨rfl, B8⟩

set_option maxHeartbeats 1000000 in
/-- The law, where all is done, at another block. -/
theorem blockRead_on2 (pbd : Option Addr) (cbd : Nat) (pwd : Option Addr) (cwd : Nat) (d e f : Wp.Dev) (a o rt ru : Int) (data s t u : ByteArray) (w : World)
    (KW : Hid (∀ w', Below w.heap.size w w' → Calls Try.prog 15 #[.agg #[.slice pbd d.bl.length cbd, .slice pwd d.ws.length cwd, .int .i64 d.fu, .bool d.dn], .int .i64 a, .string data] w' fun x w'' => ∃ v', x = .returned (.tuple #[v', .int .i64 0]) ∧ Wp.DevAt w'' v' e ∧ Below w'.heap.size w' w''))
    (KR : Hid (∀ v w, Wp.DevAt w v e → Calls Try.prog 14 #[v, .int .i64 a] w fun x w' => x = .returned (.tuple #[.string s, .int .i64 0]) ∧ Below w.heap.size w w'))
    (KS : Hid (∀ v w, Wp.DevAt w v e → Calls Try.prog 13 #[v] w fun x w' => ∃ v', x = .returned (.tuple #[v', .int .i64 0]) ∧ Wp.DevAt w' v' f ∧ Below w.heap.size w w'))
    (KA : Hid (∀ w', Below w.heap.size w w' → Calls Try.prog 14 #[.agg #[.slice pbd d.bl.length cbd, .slice pwd d.ws.length cwd, .int .i64 d.fu, .bool d.dn], .int .i64 o] w' fun x w'' => x = .returned (.tuple #[.string t, .int .i64 rt]) ∧ Below w'.heap.size w' w''))
    (KB : Hid (∀ v w, Wp.DevAt w v e → Calls Try.prog 14 #[v, .int .i64 o] w fun x w' => x = .returned (.tuple #[.string u, .int .i64 ru]) ∧ Below w.heap.size w w'))
    (KT : Hid (∀ v w, Wp.DevAt w v f → Calls Try.prog 14 #[v, .int .i64 a] w fun x w' => x = .returned (.tuple #[.string s, .int .i64 0]) ∧ Below w.heap.size w w'))
    (KM : Hid (∀ v y w, Wp.DevAt w v e → Wp.DevAt w y f → Calls Try.prog 9 #[v, y] w fun x w' => x = .returned (.tuple #[.bool true, .int .i64 0]) ∧ Below w.heap.size w w'))
    (hfw : Hid (f.ws.length = 0))
    (hs : s.size = 64) (hds : data.size ≤ 64) (hh : s.extract 0 data.size = data) (ho : (o != a) = true) (htu : t = u) (hrt : rt = ru) :
    Calls Try.prog 6 #[.agg #[.slice pbd d.bl.length cbd, .slice pwd d.ws.length cwd, .int .i64 d.fu, .bool d.dn], .int .i64 a, .int .i64 o, .string data] w fun e w' => e = .returned (.bool true) ∧ Below w.heap.size w w' := by
  subst htu hrt
  have hle : (data.size : Int) ≤ (s.size : Int) := by omega
  obtain ⟨w0, hw0⟩ : ∃ w0, w.alloc (.cells #[.slice pbd d.bl.length cbd, .slice pwd d.ws.length cwd, .int .i64 d.fu, .bool d.dn] 25) = w0 := ⟨_, rfl⟩
  have x0 := alloc_new w (.cells #[.slice pbd d.bl.length cbd, .slice pwd d.ws.length cwd, .int .i64 d.fu, .bool d.dn] 25)
  have B0 := (Below.refl w.heap.size w).alloc (Nat.le_refl _) (.cells #[.slice pbd d.bl.length cbd, .slice pwd d.ws.length cwd, .int .i64 d.fu, .bool d.dn] 25)
  have s0 : (w.alloc (.cells #[.slice pbd d.bl.length cbd, .slice pwd d.ws.length cwd, .int .i64 d.fu, .bool d.dn] 25)).heap.size = w.heap.size + 1 := by rw [World.size_alloc]
  rw [hw0] at x0 B0 s0
  have X0 := Lib.hid x0
  have Hw0 := Lib.hid hw0
  clear x0 hw0
  go_enter Try.func6, Try.ntmps6
  go_wp2_with fail
  rw [Hw0.out]
  refine (blives_any _).mono ?_
  rintro x w1 ⟨rfl, b1⟩
  have X1 := Lib.hid ((b1.block w.heap.size (by omega)).trans X0.out)
  obtain ⟨c0, c1, c2, c3, _, _, _, _⟩ := Wp.four_of X1.out
  have B1 := B0.trans (b1.mono (by omega))
  have s1 : w.heap.size < w1.heap.size := by have := b1.size; omega
  go_wp2_with fail
  refine (KW.out _ B1).mono ?_
  rintro x w2 ⟨v2, rfl, hd2, b2⟩
  obtain ⟨pbe, cbe, pwe, cwe, rfl, hd2⟩ := devAt_open hd2
  have X2 := Lib.hid ((b2.block w.heap.size s1).trans X1.out)
  have B2 := B1.trans (b2.mono B1.size)
  have s2 : w.heap.size < w2.heap.size := Nat.lt_of_lt_of_le s1 b2.size
  have D2 := Lib.hid hd2
  clear c0 c1 c2 c3 hd2
  go_wp2_with fail
  refine (KR.out _ _ (D2.out.below ((Below.refl _ _).alloc (Nat.le_refl _) _))).mono ?_
  rintro x w3 ⟨rfl, b3⟩
  rw [World.size_alloc] at b3
  have X3 := Lib.hid ((b3.block w.heap.size (by omega)).trans ((alloc_past _ _ _ s2).trans X2.out))
  have Y3 := Lib.hid ((b3.block w2.heap.size (by omega)).trans (alloc_new w2 _))
  have D3 := Lib.hid ((D2.out.below ((Below.refl _ _).alloc (Nat.le_refl _) (.cells #[.slice pbe e.bl.length cbe, .slice pwe e.ws.length cwe, .int .i64 e.fu, .bool e.dn] 25))).below (by rw [World.size_alloc]; exact b3))
  have B3 := (B2.alloc B2.size (.cells #[.slice pbe e.bl.length cbe, .slice pwe e.ws.length cwe, .int .i64 e.fu, .bool e.dn] 25)).trans (b3.mono (by omega))
  have s3 : w2.heap.size < w3.heap.size := by have := b3.size; simp at this; omega
  obtain ⟨c0, c1, c2, c3, _, _, _, _⟩ := Wp.four_of Y3.out
  go_wp2_with fail
  refine (KS.out _ _ D3.out).mono ?_
  rintro x w4 ⟨v4, rfl, hd4, b4⟩
  obtain ⟨pbf, cbf, pwf, cwf, rfl, hd4⟩ := devAt_open hd4
  have X4 := Lib.hid ((b4.block w.heap.size (by omega)).trans X3.out)
  have Y4 := Lib.hid ((b4.block w2.heap.size s3).trans Y3.out)
  have D4 := Lib.hid (D3.out.below b4)
  have E4 := Lib.hid hd4
  have B4 := B3.trans (b4.mono B3.size)
  have s4 : w2.heap.size < w4.heap.size := Nat.lt_of_lt_of_le s3 b4.size
  clear c0 c1 c2 c3 hd4
  obtain ⟨c0, c1, c2, c3, _, _, _, _⟩ := Wp.four_of X4.out
  have l0 : w.heap.size < w4.heap.size := by omega
  go_wp2_with fail
  refine (KA.out _ (B4.alloc B4.size _)).mono ?_
  rintro x w5 ⟨rfl, b5⟩
  rw [World.size_alloc] at b5
  have Y5 := Lib.hid ((b5.block w2.heap.size (by omega)).trans ((alloc_past _ _ _ s4).trans Y4.out))
  have Z5 := Lib.hid ((b5.block w4.heap.size (by omega)).trans (alloc_new w4 _))
  have D5 := Lib.hid ((D4.out.below ((Below.refl _ _).alloc (Nat.le_refl _) (.cells #[.slice pbf f.bl.length cbf, .slice pwf f.ws.length cwf, .int .i64 f.fu, .bool f.dn] 25))).below (by rw [World.size_alloc]; exact b5))
  have E5 := Lib.hid ((E4.out.below ((Below.refl _ _).alloc (Nat.le_refl _) (.cells #[.slice pbf f.bl.length cbf, .slice pwf f.ws.length cwf, .int .i64 f.fu, .bool f.dn] 25))).below (by rw [World.size_alloc]; exact b5))
  have B5 := (B4.alloc B4.size (.cells #[.slice pbf f.bl.length cbf, .slice pwf f.ws.length cwf, .int .i64 f.fu, .bool f.dn] 25)).trans (b5.mono (by omega))
  have s5 : w4.heap.size < w5.heap.size := by have := b5.size; simp at this; omega
  clear c0 c1 c2 c3
  obtain ⟨c0, c1, c2, c3, _, _, _, _⟩ := Wp.four_of Y5.out
  go_wp2_with fail
  refine (KB.out _ _ D5.out).mono ?_
  rintro x w6 ⟨rfl, b6⟩
  have Y6 := Lib.hid ((b6.block w2.heap.size (by omega)).trans Y5.out)
  have Z6 := Lib.hid ((b6.block w4.heap.size s5).trans Z5.out)
  have D6 := Lib.hid (D5.out.below b6)
  have E6 := Lib.hid (E5.out.below b6)
  have B6 := B5.trans (b6.mono B5.size)
  have s6 : w4.heap.size < w6.heap.size := Nat.lt_of_lt_of_le s5 b6.size
  clear c0 c1 c2 c3
  obtain ⟨c0, c1, c2, c3, _, _, _, _⟩ := Wp.four_of Z6.out
  go_wp2_with fail
  refine (KT.out _ _ E6.out).mono ?_
  rintro x w7 ⟨rfl, b7⟩
  have Y7 := Lib.hid ((b7.block w2.heap.size (by omega)).trans Y6.out)
  have Z7 := Lib.hid ((b7.block w4.heap.size s6).trans Z6.out)
  have D7 := Lib.hid (D6.out.below b7)
  have E7 := Lib.hid (E6.out.below b7)
  have B7 := B6.trans (b7.mono B6.size)
  have s7 : w4.heap.size < w7.heap.size := Nat.lt_of_lt_of_le s6 b7.size
  clear c0 c1 c2 c3
  obtain ⟨c0, c1, c2, c3, _, _, _, _⟩ := Wp.four_of Z7.out
  obtain ⟨d0, d1, d2, d3, _, _, _, _⟩ := Wp.four_of Y7.out
  go_wp2_with fail
  refine (KM.out _ _ _ D7.out E7.out).mono ?_
  rintro x w8 ⟨rfl, b8⟩
  have Z8 := Lib.hid ((b8.block w4.heap.size s7).trans Z7.out)
  have B8 := B7.trans (b8.mono B7.size)
  clear c0 c1 c2 c3 d0 d1 d2 d3
  obtain ⟨c0, c1, c2, c3, _, _, _, _⟩ := Wp.four_of Z8.out
  have q1 : ((f.ws.length : Int) == 0) = true := by rw [hfw.out]; rfl
  go_wp2_with fail
  go_ret
  exact ⟨rfl, B8⟩

/-- The law, at whatever device. -/
theorem blockRead_any (v : Value) (d : Wp.Dev) (a o : Int) (data : ByteArray) (w : World) (hv : Wp.DevAt w v d) (hf : d.Fits) (hdata : data.size ≤ 140737488351232) :
    Calls Try.prog 6 #[v, .int .i64 a, .int .i64 o, .string data] w fun e w' => e = .returned (.bool true) ∧ Below w.heap.size w w' := by
  obtain ⟨pb, cb, pw, cw, rfl, hv2, _⟩ := asks hv hf
  cases hok : d.ok with
  | false => exact blockRead_no pb cb pw cw d Wp.Dev.zero a o 2 data w (Lib.hid fun w' hb => Write_bad _ d a data w' (hv2 w' hb) hf hok) rfl
  | true =>
    have hg : Wp.Good d := ⟨hok, hf.fu.2⟩
    have kw := fun w' (hb : Below w.heap.size w w') => Write_good _ d a data w' (hv2 w' hb) hg hdata
    by_cases hr : (d.write1 a data).2 = 0
    · obtain ⟨h1, h2, h3, h4, h5, h6⟩ := Wp.written hg a data hr
      have hge := hg.write1 a data
      have hrd := Wp.written_read hg a data hr
      have hro := fun hne => Wp.written_other hg a o data hr hne
      have hsz : (Wp.laid (Wp.B []) data data.size).size = 64 := Wp.laid_size _ _ _ (Nat.le_refl _) h3 (by simp [Wp.B_size])
      have hhd := Wp.laid_head data
      rw [hr] at kw
      generalize (d.write1 a data).1 = e at *
      generalize Wp.laid (Wp.B []) data data.size = s at *
      have kr : ∀ v w, Wp.DevAt w v e → Calls Try.prog 14 #[v, .int .i64 a] w fun x w' => x = .returned (.tuple #[.string s, .int .i64 0]) ∧ Below w.heap.size w w' := fun v w hv => by
        have := Read_any v e a w hv hge.fits
        rw [hrd] at this
        exact this
      have ka := fun w' (hb : Below w.heap.size w w') => Read_any _ d o w' (hv2 w' hb) hf
      have kb := fun v w hv => Read_any v e o w hv hge.fits
      have ks := fun v w hv => Sync_good v e w hv hge
      rcases Wp.synced h4 with ⟨z0, z1, z2, z3⟩ | z9
      · have kt : ∀ v w, Wp.DevAt w v e.sync1.1 → Calls Try.prog 14 #[v, .int .i64 a] w fun x w' => x = .returned (.tuple #[.string s, .int .i64 0]) ∧ Below w.heap.size w w' := fun v w hv => by
          have := Read_any v e.sync1.1 a w hv hge.sync1.fits
          rw [Wp.synced_read hge h4 z0 a, hrd] at this
          exact this
        have hsame : e.hasAll = e.sync1.1.hasAll := by
          show _ = Wp.setAll e.sync1.1.bl e.sync1.1.ws
          rw [z1, z2]
          rfl
        have km : ∀ v y w, Wp.DevAt w v e → Wp.DevAt w y e.sync1.1 → Calls Try.prog 9 #[v, y] w fun x w' => x = .returned (.tuple #[.bool true, .int .i64 0]) ∧ Below w.heap.size w w' := fun v y w hv hy => by
          have := Same_ok v y e e.sync1.1 w hv hy hge.fits hge.sync1.fits hge.ok hge.sync1.ok
          rw [decide_eq_true hsame] at this
          exact this
        rw [z0] at ks
        by_cases ho : o = a
        · exact blockRead_on1 pb cb pw cw d e e.sync1.1 a o _ _ data s _ _ w (Lib.hid kw) (Lib.hid kr) (Lib.hid ks) (Lib.hid ka) (Lib.hid kb) (Lib.hid kt) (Lib.hid km) (Lib.hid (by rw [z2]; rfl)) hsz h3 hhd (by rw [ho]; simp)
        · exact blockRead_on2 pb cb pw cw d e e.sync1.1 a o _ _ data s _ _ w (Lib.hid kw) (Lib.hid kr) (Lib.hid ks) (Lib.hid ka) (Lib.hid kb) (Lib.hid kt) (Lib.hid km) (Lib.hid (by rw [z2]; rfl)) hsz h3 hhd (bne_iff_ne.2 ho) (by rw [hro ho]) (by rw [hro ho])
      · rw [z9] at ks
        by_cases ho : o = a
        · exact blockRead_off1 pb cb pw cw d e e.sync1.1 a o _ _ data s _ _ w (Lib.hid kw) (Lib.hid kr) (Lib.hid ks) (Lib.hid ka) (Lib.hid kb) hsz h3 hhd (by rw [ho]; simp)
        · exact blockRead_off2 pb cb pw cw d e e.sync1.1 a o _ _ data s _ _ w (Lib.hid kw) (Lib.hid kr) (Lib.hid ks) (Lib.hid ka) (Lib.hid kb) hsz h3 hhd (bne_iff_ne.2 ho) (by rw [hro ho]) (by rw [hro ho])
    · exact blockRead_no pb cb pw cw d _ a o _ data w (Lib.hid kw) (bne_iff_ne.2 hr)
end Go.Proofs.Ytcjpfkmmflaggaa
