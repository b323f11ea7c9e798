
/-
  The walks of value's readers of parts: a kind, a number, a text. Condition: what is there is of a size that a machine holds.
-/
import Derived.Test.YtckcbdnlligndaaDoorVlKit
import Derived.Test.YtckcbdnlligndaaDoorWireText
import Derived.Lib.MinMax
import Derived.StillTailTactics
namespace Go.Proofs.YtckcbdnlligndaaDoor
open Go.RowKit

/-- What reading does: what is read, what is there yet, whether it could not be read. -/
def Vl.kindP (l : List UInt8) (b : Bool) : Nat × List UInt8 × Bool := if b then (0, l, true) else match l with
  | [] => (0, [], true)
  | a :: t => (a.toNat, t, false)
def Vl.firstP (l : List UInt8) (b : Bool) (n : Nat) : List UInt8 := if b then [] else l.take n
def Vl.numP (l : List UInt8) (b : Bool) : Int × List UInt8 × Bool :=
  if (Wp.getNum (Vl.firstP l b 9)).2.2 = 0 then ((Wp.getNum (Vl.firstP l b 9)).1, l.drop ((Vl.firstP l b 9).length - (Wp.getNum (Vl.firstP l b 9)).2.1.length), b) else ((Wp.getNum (Vl.firstP l b 9)).1, l, true)
def Vl.textP (l : List UInt8) (b : Bool) : List UInt8 × List UInt8 × Bool :=
  if (Wp.getText (Vl.firstP l b 4105)).2.2 = 0 then ((Wp.getText (Vl.firstP l b 4105)).1, l.drop ((Vl.firstP l b 4105).length - (Wp.getText (Vl.firstP l b 4105)).2.1.length), b) else ((Wp.getText (Vl.firstP l b 4105)).1, l, true)
/-- The reader's box. -/
def Vl.RBox (w : World) (g : Nat) (l : List UInt8) (b : Bool) (r : Int) : Prop := w.heap[g]? = some (.cells #[.string (Wp.B l), .bool b, .int .i64 r] 68 (0, 0))
theorem Vl.three_of {w : World} {g : Nat} {a b c : Value} {t : TypeId} (h : w.heap[g]? = some (.cells #[a, b, c] t (0, 0))) :
    w.cell? ⟨g, 0, none⟩ = some a ∧ w.cell? ⟨g, 1, none⟩ = some b ∧ w.cell? ⟨g, 2, none⟩ = some c ∧ w.frozen? ⟨g, 0, none⟩ = false ∧ w.frozen? ⟨g, 1, none⟩ = false ∧ w.frozen? ⟨g, 2, none⟩ = false :=
  ⟨by rw [Lib.cell_of_heap h]; rfl, by rw [Lib.cell_of_heap h]; rfl, by rw [Lib.cell_of_heap h]; rfl, by simp [World.frozen?, h], by simp [World.frozen?, h], by simp [World.frozen?, h]⟩
set_option maxRecDepth 100000 in
set_option maxHeartbeats 1000000 in
theorem kind_some (g : Nat) (s : ByteArray) (t : List UInt8) (r : Int) (w : World) (hb : w.heap[g]? = some (.cells #[.string s, .bool false, .int .i64 r] 68 (0, 0))) (hsz : 0 < s.size) (hsz2 : s.size ≤ 200000000000000) (hx : s.extract 1 s.size = Wp.B t) :
    Calls Tryd.prog 70 #[.pointer (some ⟨g, 0, none⟩)] w fun e w' => e = .returned (.int .u8 s[0].toNat) ∧ Vl.RBox w' g t false r ∧ w.grownBy w' (some g) := by
  obtain ⟨c0, c1, c2, f0, f1, f2⟩ := Vl.three_of hb
  have hset := Lib.hid ((Lib.heap_setCell_same (i := 0) hb (.string (Wp.B t))).trans rfl : Vl.RBox (w.setCell ⟨g, 0, none⟩ (.string (Wp.B t))) g t false r)
  have he : (s.toList == []) = false := by rw [Vl.empty_eq, decide_eq_false (by omega)]
  have hgl := (Array.getElem?_eq_some_iff.1 hb).1
  have hsl : ∀ W, (Instr.sliceAt 9 (.string s) (some (.int .i64 1)) none none).run Tryd.prog W = .ok (.string (Wp.B t)) W := by
    intro W
    rw [run_sliceAt_string (h := Tryd.underlying9), run_slice_string_l (ht := Tryd.underlying9) (h0 := by omega) (h1 := by omega), ← hx]
    rfl
  have Hx := Lib.hid hx
  clear hb hx
  go_enter Tryd.func70, Tryd.ntmps70
  go_wp2_with fail
  go_ret
  exact ⟨rfl, hset.out, Vl.set1_grown _ _ _ _⟩
set_option maxRecDepth 100000 in
set_option maxHeartbeats 1000000 in
theorem kind_any (g : Nat) (l : List UInt8) (b : Bool) (r : Int) (w : World) (hb : Vl.RBox w g l b r) (hl : l.length ≤ 200000000000000) :
    Calls Tryd.prog 70 #[.pointer (some ⟨g, 0, none⟩)] w fun e w' => e = .returned (.int .u8 (Vl.kindP l b).1) ∧ Vl.RBox w' g (Vl.kindP l b).2.1 (Vl.kindP l b).2.2 r ∧ w.grownBy w' (some g) := by
  obtain ⟨c0, c1, c2, f0, f1, f2⟩ := Vl.three_of hb
  have Hb := Lib.hid hb
  have hgl := (Array.getElem?_eq_some_iff.1 hb).1
  clear hb
  cases b with
  | true =>
    have hset := Lib.hid ((Lib.heap_setCell_same (i := 1) Hb.out (.bool true)).trans rfl : Vl.RBox (w.setCell ⟨g, 1, none⟩ (.bool true)) g l true r)
    go_enter Tryd.func70, Tryd.ntmps70
    go_wp2_with fail
    go_ret
    exact ⟨rfl, hset.out, Vl.set1_grown _ _ _ _⟩
  | false =>
    cases l with
    | nil =>
      have hset := Lib.hid ((Lib.heap_setCell_same (i := 1) Hb.out (.bool true)).trans rfl : Vl.RBox (w.setCell ⟨g, 1, none⟩ (.bool true)) g [] true r)
      have he : ((Wp.B []).toList == []) = true := by rw [Vl.empty_eq, Wp.B_size]; rfl
      go_enter Tryd.func70, Tryd.ntmps70
      go_wp2_with fail
      go_ret
      exact ⟨rfl, hset.out, Vl.set1_grown _ _ _ _⟩
    | cons a t =>
      have hx : (Wp.B (a :: t)).extract 1 (Wp.B (a :: t)).size = Wp.B t := by rw [Wp.extract_B, Wp.B_data, Wp.B_size]; simp
      exact kind_some g (Wp.B (a :: t)) t r w Hb.out (by rw [Wp.B_size]; simp) (by rw [Wp.B_size]; exact hl) hx
set_option maxRecDepth 100000 in
set_option maxHeartbeats 1000000 in
theorem first_any (g : Nat) (l : List UInt8) (b : Bool) (r : Int) (n : Nat) (w : World) (hb : Vl.RBox w g l b r) (hl : l.length ≤ 200000000000000) (hn : n ≤ 10000) :
    Calls Tryd.prog 106 #[.pointer (some ⟨g, 0, none⟩), .int .i64 n] w fun e w' => e = .returned (.string (Wp.B (Vl.firstP l b n))) ∧ Below w.heap.size w w' := by
  obtain ⟨c0, c1, c2, f0, f1, f2⟩ := Vl.three_of hb
  have hgl := (Array.getElem?_eq_some_iff.1 hb).1
  clear hb
  cases b with
  | true =>
    go_enter Tryd.func106, Tryd.ntmps106
    go_wp2_with fail
    go_ret
    exact ⟨rfl, Below.refl _ _⟩
  | false =>
    rw [show Vl.firstP l false n = l.take n from rfl]
    have hsz : (Wp.B l).size = l.length := Wp.B_size l
    have hx : (Wp.B l).extract 0 (min l.length n) = Wp.B (l.take n) := by rw [Wp.extract_B, Wp.B_data, List.drop_zero, Nat.sub_zero]; congr 1; rw [List.take_eq_take_iff]; omega
    go_enter Tryd.func106, Tryd.ntmps106
    go_wp2_with fail
    go_quiet (fail)
    go_wp2_with fail
    go_ret
    refine ⟨?_, ⟨rfl, rfl, rfl, Nat.le_refl _, fun _ _ => rfl⟩⟩
    show Ending.returned (.string ((Wp.B l).extract 0 (min (l.length : Int) (n : Int)).toNat)) = _
    rw [show (min (l.length : Int) (n : Int)).toNat = min l.length n by omega, hx]
theorem Vl.r0 {fn : Func} (h : fn.results = #[]) (tmps : Array Value) (P : Program) (w : World) : (results fn tmps).run P w = .ok (.tuple #[]) w := by
  simp only [results, h]
  simp
set_option maxRecDepth 100000 in
set_option maxHeartbeats 1000000 in
theorem read_any (g : Nat) (l : List UInt8) (b : Bool) (r : Int) (n : Nat) (e : Int) (w : World) (hb : Vl.RBox w g l b r) (hl : l.length ≤ 200000000000000) (hn : e = 0 → n ≤ l.length) :
    Calls Tryd.prog 108 #[.pointer (some ⟨g, 0, none⟩), .int .i64 n, .int .i64 e] w fun x w' => x = .returned (.tuple #[]) ∧ Vl.RBox w' g (if e = 0 then l.drop n else l) (if e = 0 then b else true) r ∧ w.grownBy w' (some g) := by
  obtain ⟨c0, c1, c2, f0, f1, f2⟩ := Vl.three_of hb
  have Hb := Lib.hid hb
  have hgl := (Array.getElem?_eq_some_iff.1 hb).1
  clear hb
  by_cases he : e = 0
  · subst he
    have hnl := hn rfl
    have hl63 : (n : Int) ≤ 200000000000000 := by omega
    rw [if_pos rfl, if_pos rfl]
    have hset := Lib.hid ((Lib.heap_setCell_same (i := 0) Hb.out (.string (Wp.B (l.drop n)))).trans rfl : Vl.RBox (w.setCell ⟨g, 0, none⟩ (.string (Wp.B (l.drop n)))) g (l.drop n) b r)
    have hsz : (Wp.B l).size = l.length := Wp.B_size l
    have hx : (Wp.B l).extract n (Wp.B l).size = Wp.B (l.drop n) := by rw [Wp.extract_B, Wp.B_data, Wp.B_size]; congr 1; rw [List.take_of_length_le (by rw [List.length_drop]; omega)]
    have hsl : ∀ W, (Instr.sliceAt 9 (.string (Wp.B l)) (some (.int .i64 n)) none none).run Tryd.prog W = .ok (.string (Wp.B (l.drop n))) W := by
      intro W
      rw [run_sliceAt_string (h := Tryd.underlying9), run_slice_string_l (ht := Tryd.underlying9) (h0 := by omega) (h1 := by rw [hsz]; omega), ← hx]
      rfl
    obtain ⟨s, hs⟩ : ∃ s, s = Wp.B l := ⟨_, rfl⟩
    rw [← hs] at c0 hsl hsz
    have hn0 : (0 : Int) ≤ (n : Int) := by omega
    have hn1 : (n : Int) ≤ (s.size : Int) := by omega
    have hx2 : s.extract n s.size = Wp.B (l.drop n) := by rw [hs]; exact hx
    generalize ht2 : Wp.B (l.drop n) = t2 at *
    have Ht2 := Lib.hid ht2
    clear hs hx ht2 hn
    go_enter Tryd.func108, Tryd.ntmps108
    go_wp2_with fail
    refine bodyPost_end (Vl.r0 rfl _ _ _) rfl ⟨rfl, ?_⟩
    exact ⟨by unfold Vl.RBox; rw [Ht2.out]; exact hset.out, Vl.set1_grown _ _ _ _⟩
  · rw [if_neg he, if_neg he]
    have hset := Lib.hid ((Lib.heap_setCell_same (i := 1) Hb.out (.bool true)).trans rfl : Vl.RBox (w.setCell ⟨g, 1, none⟩ (.bool true)) g l true r)
    have hne : (e != 0) = true := by rw [bne_iff_ne]; exact he
    go_enter Tryd.func108, Tryd.ntmps108
    go_wp2_with fail
    refine bodyPost_ret (Vl.r0 rfl _ _ _) rfl ⟨rfl, hset.out, Vl.set1_grown _ _ _ _⟩
theorem Vl.rbox_below {w w' : World} {g : Nat} {l : List UInt8} {b : Bool} {r : Int} (h : Vl.RBox w g l b r) (hb : Below w.heap.size w w') : Vl.RBox w' g l b r := (hb.block g (Array.getElem?_eq_some_iff.1 h).1).trans h
/-- What stands behind a part that was read. -/
def Vl.PartPost (v : Value) (g : Nat) (l : List UInt8) (b : Bool) (r : Int) (w : World) (e : Ending) (w' : World) : Prop := e = .returned v ∧ Vl.RBox w' g l b r ∧ w.grownBy w' (some g)
theorem Vl.getNum_len (l : List UInt8) : (Wp.getNum l).2.1.length ≤ l.length := by
  have := Wp.gn_rest (Wp.B l) (Wp.getNum l).1 (Wp.getNum l).2.1 (Wp.getNum l).2.2 (by unfold Wp.gn; rw [Wp.B_data])
  rwa [Wp.B_size] at this
theorem Vl.getText_len (l : List UInt8) : (Wp.getText l).2.1.length ≤ l.length := by
  have := (Wp.gt_rest (Wp.B l) (Wp.getText l).1 (Wp.getText l).2.1 (Wp.getText l).2.2 (by unfold Wp.gt; rw [Wp.B_data])).1
  rwa [Wp.B_size] at this
theorem Vl.first_len (l : List UInt8) (b : Bool) (n : Nat) : (Vl.firstP l b n).length ≤ n ∧ (Vl.firstP l b n).length ≤ l.length := by
  unfold Vl.firstP
  split
  · simp
  · rw [List.length_take]; omega
set_option maxRecDepth 100000 in
set_option maxHeartbeats 1000000 in
theorem vlNum_any (g : Nat) (l : List UInt8) (b : Bool) (r : Int) (w : World) (hb : Vl.RBox w g l b r) (hl : l.length ≤ 200000000000000) :
    Calls Tryd.prog 72 #[.pointer (some ⟨g, 0, none⟩)] w (Vl.PartPost (.int .i64 (Vl.numP l b).1) g (Vl.numP l b).2.1 (Vl.numP l b).2.2 r w) := by
  have hf := Lib.hid (first_any g l b r 9 w hb hl (by omega))
  have hg := Lib.hid (fun W => getNum_any (Wp.B (Vl.firstP l b 9)) W (by rw [Wp.B_size]; have := (Vl.first_len l b 9).1; omega))
  have hle1 := (Vl.first_len l b 9).1
  have hle2 := (Vl.first_len l b 9).2
  have hle3 := Vl.getNum_len (Vl.firstP l b 9)
  have hP : ∀ W, w.grownBy W (some g) → Vl.RBox W g (if (Wp.getNum (Vl.firstP l b 9)).2.2 = 0 then l.drop ((Vl.firstP l b 9).length - (Wp.getNum (Vl.firstP l b 9)).2.1.length) else l) (if (Wp.getNum (Vl.firstP l b 9)).2.2 = 0 then b else true) r → Vl.PartPost (.int .i64 (Vl.numP l b).1) g (Vl.numP l b).2.1 (Vl.numP l b).2.2 r w (.returned (.int .i64 (Wp.getNum (Vl.firstP l b 9)).1)) W := fun W h1 h2 => by
    unfold Vl.numP
    split
    · rename_i he
      rw [if_pos he, if_pos he] at h2
      exact ⟨rfl, h2, h1⟩
    · rename_i he
      rw [if_neg he, if_neg he] at h2
      exact ⟨rfl, h2, h1⟩
  have HP := Lib.hid hP
  have Hb := Lib.hid hb
  generalize Vl.PartPost (.int .i64 (Vl.numP l b).1) g (Vl.numP l b).2.1 (Vl.numP l b).2.2 r w = Post at *
  unfold Wp.gn at hg
  rw [Wp.B_data] at hg
  have hfs : (Wp.B (Vl.firstP l b 9)).size = (Vl.firstP l b 9).length := Wp.B_size _
  have hbs : (Wp.B (Wp.getNum (Vl.firstP l b 9)).2.1).size = (Wp.getNum (Vl.firstP l b 9)).2.1.length := Wp.B_size _
  clear hP hb
  generalize Wp.getNum (Vl.firstP l b 9) = G at *
  obtain ⟨n, t, e⟩ := G
  simp only [] at *
  obtain ⟨fl, hfl⟩ : ∃ fl, fl = (Vl.firstP l b 9).length := ⟨_, rfl⟩
  rw [← hfl] at hfs hle1 hle2 hle3 HP
  clear hfl
  generalize Wp.B (Vl.firstP l b 9) = fs at *
  generalize htt : t.length = tl at *
  clear htt
  generalize Wp.B t = tb at *
  have hrd := Lib.hid (fun W (h : Vl.RBox W g l b r) => read_any g l b r (fl - tl) e W h hl (fun _ => by omega))
  go_enter Tryd.func72, Tryd.ntmps72
  go_wp2_with fail
  refine hf.out.mono ?_
  rintro e' w1 ⟨rfl, hb1⟩
  have H1 := Lib.hid hb1
  clear hb1
  go_wp2_with fail
  refine (hg.out _).mono ?_
  rintro e' w2 ⟨rfl, hb2⟩
  have H2 := Lib.hid (H1.out.trans (hb2.mono H1.out.size))
  have Hb2 := Lib.hid (Vl.rbox_below Hb.out H2.out)
  have hsub : IntKind.i64.wrap ((fl : Int) - (tl : Int)) = ((fl - tl : Nat) : Int) := by rw [IntWalk.i64_in _ (by omega)]; omega
  clear hb2
  go_wp2_with fail
  refine (hrd.out _ Hb2.out).mono ?_
  rintro e' w3 ⟨rfl, hr3, hg3⟩
  have HF := Lib.hid (HP.out _ (grownBy_trans (grownBy_of H2.out _) hg3) hr3)
  clear hr3 hg3
  go_wp2_with fail
  exact HF.out
set_option maxRecDepth 100000 in
set_option maxHeartbeats 1000000 in
theorem vlText_any (g : Nat) (l : List UInt8) (b : Bool) (r : Int) (w : World) (hb : Vl.RBox w g l b r) (hl : l.length ≤ 200000000000000) :
    Calls Tryd.prog 71 #[.pointer (some ⟨g, 0, none⟩)] w (Vl.PartPost (.string (Wp.B (Vl.textP l b).1)) g (Vl.textP l b).2.1 (Vl.textP l b).2.2 r w) := by
  have hf := Lib.hid (first_any g l b r 4105 w hb hl (by omega))
  have hg := Lib.hid (fun W => getText_any (Wp.B (Vl.firstP l b 4105)) W (by rw [Wp.B_size]; have := (Vl.first_len l b 4105).1; omega))
  have hle1 := (Vl.first_len l b 4105).1
  have hle2 := (Vl.first_len l b 4105).2
  have hle3 := Vl.getText_len (Vl.firstP l b 4105)
  have hP : ∀ W, w.grownBy W (some g) → Vl.RBox W g (if (Wp.getText (Vl.firstP l b 4105)).2.2 = 0 then l.drop ((Vl.firstP l b 4105).length - (Wp.getText (Vl.firstP l b 4105)).2.1.length) else l) (if (Wp.getText (Vl.firstP l b 4105)).2.2 = 0 then b else true) r → Vl.PartPost (.string (Wp.B (Vl.textP l b).1)) g (Vl.textP l b).2.1 (Vl.textP l b).2.2 r w (.returned (.string (Wp.B (Wp.getText (Vl.firstP l b 4105)).1))) W := fun W h1 h2 => by
    unfold Vl.textP
    split
    · rename_i he
      rw [if_pos he, if_pos he] at h2
      exact ⟨rfl, h2, h1⟩
    · rename_i he
      rw [if_neg he, if_neg he] at h2
      exact ⟨rfl, h2, h1⟩
  have HP := Lib.hid hP
  have Hb := Lib.hid hb
  generalize Vl.PartPost (.string (Wp.B (Vl.textP l b).1)) g (Vl.textP l b).2.1 (Vl.textP l b).2.2 r w = Post at *
  unfold Wp.gt at hg
  rw [Wp.B_data] at hg
  have hfs : (Wp.B (Vl.firstP l b 4105)).size = (Vl.firstP l b 4105).length := Wp.B_size _
  have hbs : (Wp.B (Wp.getText (Vl.firstP l b 4105)).2.1).size = (Wp.getText (Vl.firstP l b 4105)).2.1.length := Wp.B_size _
  clear hP hb
  generalize Wp.getText (Vl.firstP l b 4105) = G at *
  obtain ⟨n, t, e⟩ := G
  simp only [] at *
  obtain ⟨fl, hfl⟩ : ∃ fl, fl = (Vl.firstP l b 4105).length := ⟨_, rfl⟩
  rw [← hfl] at hfs hle1 hle2 hle3 HP
  clear hfl
  generalize Wp.B (Vl.firstP l b 4105) = fs at *
  generalize htt : t.length = tl at *
  clear htt
  generalize Wp.B t = tb at *
  generalize Wp.B n = nb at *
  have hrd := Lib.hid (fun W (h : Vl.RBox W g l b r) => read_any g l b r (fl - tl) e W h hl (fun _ => by omega))
  go_enter Tryd.func71, Tryd.ntmps71
  go_wp2_with fail
  refine hf.out.mono ?_
  rintro e' w1 ⟨rfl, hb1⟩
  have H1 := Lib.hid hb1
  clear hb1
  go_wp2_with fail
  refine (hg.out _).mono ?_
  rintro e' w2 ⟨rfl, hb2⟩
  have H2 := Lib.hid (H1.out.trans (hb2.mono H1.out.size))
  have Hb2 := Lib.hid (Vl.rbox_below Hb.out H2.out)
  have hsub : IntKind.i64.wrap ((fl : Int) - (tl : Int)) = ((fl - tl : Nat) : Int) := by rw [IntWalk.i64_in _ (by omega)]; omega
  clear hb2
  go_wp2_with fail
  refine (hrd.out _ Hb2.out).mono ?_
  rintro e' w3 ⟨rfl, hr3, hg3⟩
  have HF := Lib.hid (HP.out _ (grownBy_trans (grownBy_of H2.out _) hg3) hr3)
  clear hr3 hg3
  go_wp2_with fail
  exact HF.out
end Go.Proofs.YtckcbdnlligndaaDoor
