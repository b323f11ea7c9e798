/-
  The law QuietNever: a week without minutes is never quiet; with more minutes it is quiet no less. Condition: the calendar's table reads as it is laid; the weeks' lists are of a size that a machine holds.
-/
import Derived.Test.YtpaleljnkejdgaaGreatDoorQtLives
import Derived.Test.YtpaleljnkejdgaaGreatDoorWkOr
namespace Go.Proofs.YtpaleljnkejdgaaGreatDoor
open Go.RowKit Go.Lib Go.Shelf

theorem Qt.in_none (z : Wp.Zn) (t : Int) : Qt.inB z [] t = false := by
  unfold Qt.inB Qt.at_
  rw [Wk.has_nil, Bool.and_false]
  split <;> rfl
theorem Qt.in_more {z : Wp.Zn} {a b : List (Int × Int)} {t : Int} (h2 : Qt.chk2 z a t = 0) (h3 : Wk.orC a b = 0) : Qt.chk2 z (Wk.orL a b) t = 0 ∧ (Qt.inB z a t = true → Qt.inB z (Wk.orL a b) t = true) := by
  obtain ⟨hz, ho, ht⟩ := Qt.chk2_ok h2
  unfold Wk.orC at h3
  by_cases hab : Wk.Ok a ∧ Wk.Ok b
  · rw [if_pos hab] at h3
    have hf := (Wk.Ch.fit hab.1.2).append (Wk.Ch.fit hab.2.2)
    obtain ⟨j1, j2, j3⟩ := Wk.jnd_joined hf
    have e : Wk.orL a b = Wk.jnd (a ++ b) ∧ (Wk.jnd (a ++ b)).length ≤ 64 := by
      unfold Wk.orL
      rw [if_pos hab]
      unfold Wk.fitC at h3
      unfold Wk.fitL
      by_cases hl : (Wk.jnd (a ++ b)).length ≤ 64
      · exact ⟨if_pos hl, hl⟩
      · rw [if_neg hl] at h3; cases h3
    rw [e.1]
    have hk : Qt.chk2 z (Wk.jnd (a ++ b)) t = 0 := Qt.chk2_mk hz ⟨e.2, j1⟩ ht
    refine ⟨hk, fun hi => ?_⟩
    unfold Qt.inB at hi ⊢
    rw [if_pos h2] at hi
    rw [if_pos hk]
    unfold Qt.at_ at hi ⊢
    rw [Bool.and_eq_true] at hi ⊢
    exact ⟨hi.1, by rw [j2, Wk.has_append, hi.2]; rfl⟩
  · rw [if_neg hab] at h3; cases h3
theorem Qt.orL_len (a b : List (Int × Int)) : (Wk.orL a b).length ≤ 140737488351232 := by
  unfold Wk.orL Wk.fitL
  split
  · split
    · omega
    · simp
  · simp
set_option maxHeartbeats 4000000 in
set_option maxRecDepth 100000 in
theorem quietNever_law (z : Wp.Zn) (l m : List (Int × Int)) (p q : Option Addr) (c d : Nat) (t : Int) (w : World) (hL : Cv.Laid w) (hA : Wk.At w p l) (hM : Wk.At w q m) (hn : l.length ≤ 140737488351232) (hm : m.length ≤ 140737488351232) :
    Calls Tryz.prog 4 #[.agg (Qt.hC z p l.length c), .slice q m.length d, .int .i64 t] w fun e w' => e = .returned (.bool true) ∧ Below w.heap.size w w' := by
  have A0 := Lib.hid (fun w1 (h : Below w.heap.size w w1) => qt_lives w1 (hL.below h))
  have A1 := Lib.hid (fun w1 (h : Below w.heap.size w w1) => qt_In z [] none 0 t w1 (hL.below h) (Wk.At.nil w1 none) (by simp))
  have A2 := Lib.hid (fun w1 (h : Below w.heap.size w w1) => qt_In z l p c t w1 (hL.below h) (hA.below h) hn)
  have A3 := Lib.hid (show ∀ w1, Below w.heap.size w w1 → Calls Tryz.prog 17 #[.slice p l.length c, .slice q m.length d] w1 (fun e w' => ∃ p' c', e = .returned (.tuple #[.slice p' (Wk.orL l m).length c', .int .i64 (Wk.orC l m)]) ∧ Wk.At w' p' (Wk.orL l m) ∧ Below w1.heap.size w1 w') from fun w1 h => wk_Or l m p q c d w1 (hA.below h) (hM.below h) hn hm)
  have A4 := Lib.hid (fun p' c' w1 (h : Below w.heap.size w w1) (hA' : Wk.At w1 p' (Wk.orL l m)) => qt_In z (Wk.orL l m) p' c' t w1 (hL.below h) hA' (Qt.orL_len l m))
  have HN := Lib.hid (fun h2 h3 => Qt.in_more (z := z) (a := l) (b := m) (t := t) h2 h3)
  rw [Qt.in_none] at A1
  clear hL hA hM hn hm
  generalize Qt.inB z l t = i2 at *
  generalize Qt.inB z (Wk.orL l m) t = i4 at *
  generalize Qt.chk2 z [] t = k1 at *
  generalize Qt.chk2 z l t = k2 at *
  generalize Qt.chk2 z (Wk.orL l m) t = k4 at *
  generalize Wk.orC l m = k3 at *
  generalize Wk.orL l m = L at *
  generalize l.length = n at *
  generalize m.length = n2 at *
  have hlen : ([] : List (Int × Int)).length = 0 := rfl
  rw [hlen] at A1
  clear hlen
  generalize L.length = n4 at *
  unfold Qt.hC at A1 A2 A4 ⊢
  obtain ⟨base, save, ⟨fm, fn, fw, fi⟩, ⟨tm, tn, tw, ti⟩⟩ := z
  unfold Wp.zoneC at A1 A2 A4 ⊢
  simp only [List.push_toArray, List.cons_append, List.nil_append] at A1 A2 A4 ⊢
  have X0 := Lib.hid (wk_new w (.cells #[.int .i64 base, .int .i64 save, .int .i64 fm, .int .i64 fn, .int .i64 fw, .int .i64 fi, .int .i64 tm, .int .i64 tn, .int .i64 tw, .int .i64 ti, .slice p n c] 28))
  have B0 := Lib.hid (wk_box w (.cells #[.int .i64 base, .int .i64 save, .int .i64 fm, .int .i64 fn, .int .i64 fw, .int .i64 fi, .int .i64 tm, .int .i64 tn, .int .i64 tw, .int .i64 ti, .slice p n c] 28))
  go_enter Tryz.func4, Tryz.ntmps4
  go_wp2_with fail
  refine (A0.out _ B0.out).mono ?_
  rintro e w1 ⟨rfl, hb⟩
  have B1 := Lib.hid (wk_then B0.out hb B0.out.size)
  have X1 := Lib.hid ((hb.block w.heap.size (Qt.lt_of X0.out)).trans X0.out)
  clear hb A0 B0 X0
  obtain ⟨c0, c1, c2, c3, c4, c5, c6, c7, c8, c9, c10⟩ := Qt.eleven_of X1.out
  go_wp2_with fail
  refine (A1.out _ B1.out).mono ?_
  rintro e w2 ⟨rfl, hb⟩
  have B2 := Lib.hid (wk_then B1.out hb B1.out.size)
  have X2 := Lib.hid ((hb.block w.heap.size (Qt.lt_of X1.out)).trans X1.out)
  clear hb A1 B1 X1 c0 c1 c2 c3 c4 c5 c6 c7 c8 c9 c10
  obtain ⟨c0, c1, c2, c3, c4, c5, c6, c7, c8, c9, c10⟩ := Qt.eleven_of X2.out
  go_wp2_with fail
  refine (A2.out _ B2.out).mono ?_
  rintro e w3 ⟨rfl, hb⟩
  have B3 := Lib.hid (wk_then B2.out hb B2.out.size)
  have X3 := Lib.hid ((hb.block w.heap.size (Qt.lt_of X2.out)).trans X2.out)
  clear hb A2 B2 X2 c0 c1 c2 c3 c4 c5 c6 c7 c8 c9 c10
  obtain ⟨c0, c1, c2, c3, c4, c5, c6, c7, c8, c9, c10⟩ := Qt.eleven_of X3.out
  go_wp2_with fail
  refine (A3.out _ B3.out).mono ?_
  rintro e w4 ⟨p', c', rfl, hA', hb⟩
  have B4 := Lib.hid (wk_then B3.out hb B3.out.size)
  have X4 := Lib.hid ((hb.block w.heap.size (Qt.lt_of X3.out)).trans X3.out)
  have AA := Lib.hid hA'
  clear hb A3 B3 X3 hA' c0 c1 c2 c3 c4 c5 c6 c7 c8 c9 c10
  by_cases h1 : k1 = 0
  · by_cases h2 : k2 = 0
    · by_cases h3 : k3 = 0
      · obtain ⟨h4, hi⟩ := HN.out h2 h3
        subst h1 h2 h3 h4
        clear HN
        obtain ⟨c0, c1, c2, c3, c4, c5, c6, c7, c8, c9, c10⟩ := Qt.eleven_of X4.out
        go_wp2_with fail
        refine (A4.out _ _ _ B4.out AA.out).mono ?_
        rintro e w5 ⟨rfl, hb⟩
        have B5 := Lib.hid (wk_then B4.out hb B4.out.size)
        clear hb A4 B4 X4 AA c0 c1 c2 c3 c4 c5 c6 c7 c8 c9 c10
        cases i2 with
        | false =>
          clear hi
          go_wp2_with fail
          go_ret
          exact ⟨rfl, B5.out⟩
        | true =>
          obtain rfl := hi rfl
          clear hi
          go_wp2_with fail
          go_ret
          exact ⟨rfl, B5.out⟩
      · have h3b : (k3 == 0) = false := by simpa using h3
        have h3c : (k3 != 0) = true := by simpa using h3
        subst h1 h2
        clear h3 HN A4
        go_wp2_with fail
        go_ret
        exact ⟨rfl, B4.out⟩
    · have h2b : (k2 == 0) = false := by simpa using h2
      have h2c : (k2 != 0) = true := by simpa using h2
      subst h1
      clear h2 HN A4
      go_wp2_with fail
      go_ret
      exact ⟨rfl, B4.out⟩
  · have h1b : (k1 == 0) = false := by simpa using h1
    have h1c : (k1 != 0) = true := by simpa using h1
    clear h1 HN A4
    go_wp2_with fail
    go_ret
    exact ⟨rfl, B4.out⟩
end Go.Proofs.YtpaleljnkejdgaaGreatDoor
