/-
  The walks of due's of, of its closures, of due.Of and due.Clear. Condition: the list is of a size that a machine holds.
-/
import Derived.Test.YtaaodbljdpchhaaDuDelete
namespace Go.Proofs.Ytaaodbljdpchhaa
open Go.RowKit Go.Lib Go.Sort Go.Shelf

theorem du_store_func (P : Program) (w : World) (a : Addr) (m : Mode) (fn : Fn) (first captured : Array Value) : (store a (.func fn first captured) m).run P w = stored P w a (.func fn first captured) m := run_store P w a _ m rfl
attribute [local go_sem] du_store_func
/-- Whether a timer is of that kind and reference. -/
def Du.is (k r : Int) (x : Int × Int × Int × Int) : Bool := decide (x.2.2.1 = k) && decide (x.2.2.2 = r)
set_option maxHeartbeats 1000000 in
theorem du_of (k r : Int) (w : World) :
    Calls Try.prog 56 #[.int .u8 k, .int .i64 r] w fun e w' => e = .returned (.func (.func 70) #[] #[.pointer (some ⟨w.heap.size, 0, none⟩), .pointer (some ⟨w.heap.size + 1, 0, none⟩)]) ∧ w' = (w.alloc (.cells #[.int .u8 k] 5)).alloc (.cells #[.int .i64 r] 2) := by
  go_enter Try.func56, Try.ntmps56
  go_wp2_with fail
  go_ret
  exact ⟨rfl, rfl⟩
set_option maxHeartbeats 1000000 in
theorem du_of1 (k r : Int) (Bk Br : Nat) (x : Int × Int × Int × Int) (W : World) (hk : W.cell? ⟨Bk, 0, none⟩ = some (.int .u8 k)) (hr : W.cell? ⟨Br, 0, none⟩ = some (.int .i64 r)) :
    Calls Try.prog 70 #[.agg #[.int .i64 x.1, .int .i64 x.2.1, .int .u8 x.2.2.1, .int .i64 x.2.2.2], .pointer (some ⟨Bk, 0, none⟩), .pointer (some ⟨Br, 0, none⟩)] W fun e w' => e = .returned (.bool (Du.is k r x)) ∧ Below W.heap.size W w' := by
  have h1 := World.block_lt_of_cell? W _ hk
  have h2 := World.block_lt_of_cell? W _ hr
  simp only [] at h1 h2
  obtain ⟨x1, x2, x3, x4⟩ := x
  have hB := Lib.hid (hp_box W (.cells #[.int .i64 x1, .int .i64 x2, .int .u8 x3, .int .i64 x4] 31))
  have n1 : Bk ≠ W.heap.size := by omega
  have n2 : Br ≠ W.heap.size := by omega
  have n3 : W.heap.size ≠ Bk := by omega
  have n4 : W.heap.size ≠ Br := by omega
  have HI := Lib.hid (show Du.is k r (x1, x2, x3, x4) = (decide (x3 = k) && decide (x4 = r)) from rfl)
  generalize Du.is k r (x1, x2, x3, x4) = b at *
  by_cases e1 : x3 = k
  · subst e1
    by_cases e2 : x4 = r
    · subst e2
      have E := Lib.hid (HI.out.trans (show _ = true by simp))
      go_enter Try.func70, Try.ntmps70
      go_wp2_with fail
      go_ret
      exact ⟨by rw [E.out]; rfl, hB.out⟩
    · have E := Lib.hid (HI.out.trans (show _ = false by simp [e2]))
      have q2 : (x4 == r) = false := by simpa using e2
      clear e2
      go_enter Try.func70, Try.ntmps70
      go_wp2_with fail
      go_ret
      exact ⟨by rw [E.out]; rfl, hB.out⟩
  · have E := Lib.hid (HI.out.trans (show _ = false by simp [e1]))
    have q1 : (x3 == k) = false := by simpa using e1
    clear e1
    go_enter Try.func70, Try.ntmps70
    go_wp2_with fail
    go_ret
    exact ⟨by rw [E.out]; rfl, hB.out⟩
set_option maxHeartbeats 1000000 in
theorem du_Of1 (k r : Int) (Bf Bk Br : Nat) (x : Int × Int × Int × Int) (W : World) (hf : W.cell? ⟨Bf, 0, none⟩ = some (.func (.func 70) #[] #[.pointer (some ⟨Bk, 0, none⟩), .pointer (some ⟨Br, 0, none⟩)])) (hk : W.cell? ⟨Bk, 0, none⟩ = some (.int .u8 k)) (hr : W.cell? ⟨Br, 0, none⟩ = some (.int .i64 r)) :
    Calls Try.prog 57 #[.agg #[.int .i64 x.1, .int .i64 x.2.1, .int .u8 x.2.2.1, .int .i64 x.2.2.2], .pointer (some ⟨Bf, 0, none⟩)] W fun e w' => e = .returned (.bool (!Du.is k r x)) ∧ Below W.heap.size W w' := by
  have h0 := World.block_lt_of_cell? W _ hf
  simp only [] at h0
  have hB := hp_box W (.cells #[.int .i64 x.1, .int .i64 x.2.1, .int .u8 x.2.2.1, .int .i64 x.2.2.2] 31)
  have CO := Lib.hid (du_of1 k r Bk Br x (W.alloc (.cells #[.int .i64 x.1, .int .i64 x.2.1, .int .u8 x.2.2.1, .int .i64 x.2.2.2] 31)) ((hB.cell (p := ⟨Bk, 0, none⟩) (World.block_lt_of_cell? W _ hk)).trans hk) ((hB.cell (p := ⟨Br, 0, none⟩) (World.block_lt_of_cell? W _ hr)).trans hr))
  have HB := Lib.hid hB
  obtain ⟨x1, x2, x3, x4⟩ := x
  simp only [] at CO HB
  generalize Du.is k r (x1, x2, x3, x4) = b at *
  clear hB hk hr
  have n1 : Bf ≠ W.heap.size := by omega
  have n3 : W.heap.size ≠ Bf := by omega
  simp only []
  go_enter Try.func57, Try.ntmps57
  go_wp2_with fail
  refine CO.out.mono ?_
  rintro e w1 ⟨rfl, hb⟩
  have B1 := Lib.hid (hp_then HB.out hb HB.out.size)
  clear hb
  go_wp2_with fail
  go_ret
  exact ⟨rfl, B1.out⟩
set_option maxHeartbeats 1000000 in
theorem hp_Delete0 (cf : Nat) (lb : Array Value) (eg : ∀ args w, (callFunc cf args).run Try.prog w = .ok (.enter cf args) w) (w : World) :
    Calls Try.prog 58 #[.slice none 0 0, .func (.func cf) #[] lb] w fun e w' => e = .returned (.slice none 0 0) ∧ Below w.heap.size w w' := by
  have CI := Lib.hid (hp_index [] none 0 cf lb eg w (fun _ => false) (fun _ W => Below w.heap.size w W) (by simp) (fun k W h => Hp.At.nil _ _) (fun k hk => by simp at hk) (Below.refl _ _))
  have hl : ([] : List (Int × Int × Int × Int)).length = 0 := rfl
  rw [hl] at CI
  go_enter Try.func58, Try.ntmps58
  go_wp2_with fail
  refine CI.out.mono ?_
  rintro e w1 (⟨k, hk, _⟩ | ⟨_, rfl, hb⟩)
  · exact absurd hk (Nat.not_lt_zero _)
  · have hk0 : ((-1 : Int) == -1) = true := rfl
    have HB := Lib.hid hb
    clear hb
    go_wp2_with fail
    go_ret
    exact ⟨rfl, HB.out⟩
/-- A slice that is nil, or of a block that is there. -/
def Du.Sl (p : Option Addr) (n c : Nat) : Prop := (p = none ∧ n = 0 ∧ c = 0) ∨ ∃ g, p = some ⟨g, 0, none⟩ ∧ n ≤ c
theorem du_Delete (l : List (Int × Int × Int × Int)) (v : Value) (base : Nat) (cf : Nat) (lb : Array Value) (eg : ∀ args w, (callFunc cf args).run Try.prog w = .ok (.enter cf args) w) (w : World) (P : (Int × Int × Int × Int) → Bool) (hO : Hp.Own w base v l) (hb : base ≤ w.heap.size) (hn : l.length ≤ 1000000)
    (hcl : ∀ x W, w.grownBy W v.ownBlock → Calls Try.prog cf (#[.agg #[.int .i64 x.1, .int .i64 x.2.1, .int .u8 x.2.2.1, .int .i64 x.2.2.2]] ++ lb) W fun e w' => e = .returned (.bool (P x)) ∧ Below W.heap.size W w') :
    Calls Try.prog 58 #[v, .func (.func cf) #[] lb] w fun e w' => ∃ p c, e = .returned (.slice p (l.filter (fun x => !P x)).length c) ∧ Hid (Du.Sl p (l.filter (fun x => !P x)).length c) ∧ Hp.At w' p (l.filter (fun x => !P x)) ∧ Below base w w' := by
  rcases hO.blk with ⟨rfl, rfl⟩ | ⟨g, cap, rest, rfl, hg, hB, hc, hm⟩
  · exact (hp_Delete0 cf lb eg w).mono fun e w' h => ⟨none, 0, h.1, Lib.hid (Or.inl ⟨rfl, rfl, rfl⟩), Hp.At.nil _ _, h.2.mono hb⟩
  · refine (hp_Delete l g cap rest cf lb eg w P hB (by omega) hn hcl).mono fun e w' h => ⟨some ⟨g, 0, none⟩, cap, h.1, Lib.hid (Or.inr ⟨g, rfl, ?_⟩), h.2.1, (Below.refl base w).grown h.2.2 hb (fun k e => by cases e; exact hg)⟩
    have := List.length_filter_le (fun x => !P x) l
    omega
set_option maxHeartbeats 4000000 in
set_option maxRecDepth 100000 in
theorem due_Clear (l : List (Int × Int × Int × Int)) (k r : Int) (p : Option Addr) (c : Nat) (w : World) (hA : Hp.At w p l) (hn : l.length ≤ 140737488351232) :
    Calls Try.prog 38 #[.slice p l.length c, .int .u8 k, .int .i64 r] w fun e w' => ∃ q d, e = .returned (.tuple #[.slice q ((Hp.soL l).filter (fun x => !Du.is k r x)).length d, .int .i64 ((Hp.soL l).length - ((Hp.soL l).filter (fun x => !Du.is k r x)).length : Int), .int .i64 (Hp.chk l)]) ∧ Hp.At w' q ((Hp.soL l).filter (fun x => !Du.is k r x)) ∧ Below w.heap.size w w' := by
  have CS := Lib.hid (hp_Sorted l p c w hA hn)
  have HL := Lib.hid (@Du.soL_le l)
  generalize Hp.soL l = S at *
  generalize Hp.chk l = z at *
  clear hA hn
  generalize l.length = n at *
  go_enter Try.func38, Try.ntmps38
  go_wp2_with fail
  refine CS.out.mono ?_
  rintro e w1 ⟨v, rfl, hO, hb⟩
  have hbx := ((Below.refl w1.heap.size w1).alloc (Nat.le_refl _) (.cells #[.int .u8 k] 5)).alloc (by rw [World.size_alloc]; omega) (.cells #[.int .i64 r] 2)
  have k1 : ((w1.alloc (.cells #[.int .u8 k] 5)).alloc (.cells #[.int .i64 r] 2)).cell? ⟨w1.heap.size, 0, none⟩ = some (.int .u8 k) := by
    rw [Lib.cell_of_heap ((hp_past _ _ _ (by simp)).trans (hp_new w1 _))]; rfl
  have k2 : ((w1.alloc (.cells #[.int .u8 k] 5)).alloc (.cells #[.int .i64 r] 2)).cell? ⟨w1.heap.size + 1, 0, none⟩ = some (.int .i64 r) := by
    have := hp_new (w1.alloc (.cells #[.int .u8 k] 5)) (.cells #[.int .i64 r] 2)
    rw [World.size_alloc] at this
    rw [Lib.cell_of_heap this]; rfl
  have hO2 := hO.below hbx
  have CD := Lib.hid (du_Delete S v w.heap.size 70 #[.pointer (some ⟨w1.heap.size, 0, none⟩), .pointer (some ⟨w1.heap.size + 1, 0, none⟩)] (enters_of Try.func70 (by kernel_rfl) rfl) _ (Du.is k r) hO2 (by rw [World.size_alloc, World.size_alloc]; have := hb.size; omega) (by have := HL.out; omega)
    (fun x W hW => du_of1 k r w1.heap.size (w1.heap.size + 1) x W
      ((World.cell?_of_block (a := ⟨w1.heap.size, 0, none⟩) (hW.block w1.heap.size (by simp; omega) (fun e => by have := (hO.lt _ e.symm).2; omega))).trans k1)
      ((World.cell?_of_block (a := ⟨w1.heap.size + 1, 0, none⟩) (hW.block (w1.heap.size + 1) (by simp) (fun e => by have := (hO.lt _ e.symm).2; omega))).trans k2)))
  have B2 := Lib.hid (hp_then hb hbx hb.size)
  obtain ⟨p1, c1, rfl, _⟩ := hO.at
  have Hfl := Lib.hid (List.length_filter_le (fun x => !Du.is k r x) S)
  obtain ⟨F, hF⟩ : ∃ F, List.filter (fun x => !Du.is k r x) S = F := ⟨_, rfl⟩
  rw [hF] at CD Hfl
  have HF := Lib.hid hF
  have hS4 := HL.out
  have hFS := Hfl.out
  have z1 : (S.length : Int) ≤ 4096 := by omega
  have z2 : (F.length : Int) ≤ (S.length : Int) := by omega
  clear hF
  clear hO hO2 hbx k1 k2
  go_wp2_with fail
  refine (du_of k r w1).mono ?_
  rintro e w' ⟨rfl, rfl⟩
  go_wp2_with fail
  refine CD.out.mono ?_
  rintro e w2 ⟨p2, c2, rfl, hS, hA, hb2⟩
  have A2 := Lib.hid hA
  have B3 := Lib.hid (B2.out.trans hb2)
  clear hA hb2 hb CD
  go_wp2_with fail
  rcases hS.out with ⟨rfl, hF, rfl⟩ | ⟨g, rfl, hcap⟩
  · rw [hF]
    go_wp2_with fail
    refine (hp_Clip0 _).mono ?_
    rintro e w3 ⟨rfl, rfl⟩
    go_wp2_with fail
    go_ret3
    rw [HF.out]
    exact ⟨none, 0, by simp [hF], A2.out, B3.out⟩
  · refine (hp_Clip _ _ _ _ _ hcap).mono ?_
    rintro e w3 ⟨rfl, rfl⟩
    go_wp2_with fail
    go_ret3
    rw [HF.out]
    exact ⟨some ⟨g, 0, none⟩, F.length, rfl, A2.out, B3.out⟩
set_option maxHeartbeats 4000000 in
set_option maxRecDepth 100000 in
theorem due_Of (l : List (Int × Int × Int × Int)) (k r : Int) (p : Option Addr) (c : Nat) (w : World) (hA : Hp.At w p l) (hn : l.length ≤ 140737488351232) :
    Calls Try.prog 36 #[.slice p l.length c, .int .u8 k, .int .i64 r] w (Hp.Got ((Hp.soL l).filter (Du.is k r)) (Hp.chk l) w) := by
  have CS := Lib.hid (hp_Sorted l p c w hA hn)
  have HL := Lib.hid (@Du.soL_le l)
  generalize Hp.soL l = S at *
  generalize Hp.chk l = z at *
  clear hA hn
  generalize l.length = n at *
  go_enter Try.func36, Try.ntmps36
  go_wp2_with fail
  refine CS.out.mono ?_
  rintro e w1 ⟨v, rfl, hO, hb⟩
  have hbx := (((Below.refl w1.heap.size w1).alloc (Nat.le_refl _) (.cells #[.int .u8 k] 5)).alloc (by rw [World.size_alloc]; omega) (.cells #[.int .i64 r] 2)).alloc (by rw [World.size_alloc, World.size_alloc]; omega) (.cells #[.func (.func 70) #[] #[.pointer (some ⟨w1.heap.size, 0, none⟩), .pointer (some ⟨w1.heap.size + 1, 0, none⟩)]] 66)
  obtain ⟨W, hW⟩ : ∃ W, ((w1.alloc (.cells #[.int .u8 k] 5)).alloc (.cells #[.int .i64 r] 2)).alloc (.cells #[.func (.func 70) #[] #[.pointer (some ⟨w1.heap.size, 0, none⟩), .pointer (some ⟨w1.heap.size + 1, 0, none⟩)]] 66) = W := ⟨_, rfl⟩
  have k1 : W.cell? ⟨w1.heap.size, 0, none⟩ = some (.int .u8 k) := by
    rw [← hW, Lib.cell_of_heap ((hp_past _ _ _ (by simp; omega)).trans ((hp_past _ _ _ (by simp)).trans (hp_new w1 _)))]; rfl
  have k2 : W.cell? ⟨w1.heap.size + 1, 0, none⟩ = some (.int .i64 r) := by
    have := hp_new (w1.alloc (.cells #[.int .u8 k] 5)) (.cells #[.int .i64 r] 2)
    rw [World.size_alloc] at this
    rw [← hW, Lib.cell_of_heap ((hp_past _ _ _ (by simp)).trans this)]; rfl
  have k3 : W.cell? ⟨w1.heap.size + 1 + 1, 0, none⟩ = some (.func (.func 70) #[] #[.pointer (some ⟨w1.heap.size, 0, none⟩), .pointer (some ⟨w1.heap.size + 1, 0, none⟩)]) := by
    have := hp_new ((w1.alloc (.cells #[.int .u8 k] 5)).alloc (.cells #[.int .i64 r] 2)) (.cells #[.func (.func 70) #[] #[.pointer (some ⟨w1.heap.size, 0, none⟩), .pointer (some ⟨w1.heap.size + 1, 0, none⟩)]] 66)
    rw [World.size_alloc, World.size_alloc] at this
    rw [← hW, Lib.cell_of_heap this]; rfl
  have hsz : W.heap.size = w1.heap.size + 3 := by rw [← hW]; simp
  have HW := Lib.hid hW
  rw [hW] at hbx
  clear hW
  have hO2 := hO.below hbx
  have CD := Lib.hid (du_Delete S v w.heap.size 57 #[.pointer (some ⟨w1.heap.size + 1 + 1, 0, none⟩)] (enters_of Try.func57 (by kernel_rfl) rfl) W (fun x => !Du.is k r x) hO2 (by have := hb.size; omega) (by have := HL.out; omega)
    (fun x W' hW => du_Of1 k r (w1.heap.size + 1 + 1) w1.heap.size (w1.heap.size + 1) x W'
      ((World.cell?_of_block (a := ⟨w1.heap.size + 1 + 1, 0, none⟩) (hW.block (w1.heap.size + 1 + 1) (by omega) (fun e => by have := (hO.lt _ e.symm).2; omega))).trans k3)
      ((World.cell?_of_block (a := ⟨w1.heap.size, 0, none⟩) (hW.block w1.heap.size (by omega) (fun e => by have := (hO.lt _ e.symm).2; omega))).trans k1)
      ((World.cell?_of_block (a := ⟨w1.heap.size + 1, 0, none⟩) (hW.block (w1.heap.size + 1) (by omega) (fun e => by have := (hO.lt _ e.symm).2; omega))).trans k2)))
  have B2 := Lib.hid (hp_then hb hbx hb.size)
  obtain ⟨p1, c1, rfl, _⟩ := hO.at
  have hff : (fun x => !(!Du.is k r x)) = Du.is k r := by funext x; simp
  rw [hff] at CD
  obtain ⟨F, hF⟩ : ∃ F, List.filter (Du.is k r) S = F := ⟨_, rfl⟩
  rw [hF] at CD
  have HF := Lib.hid hF
  clear hF hff hO hO2 hbx k1 k2 k3 hsz
  go_wp2_with fail
  refine (du_of k r w1).mono ?_
  rintro e w' ⟨rfl, rfl⟩
  go_wp2_with fail
  rw [HW.out]
  refine CD.out.mono ?_
  rintro e w2 ⟨p2, c2, rfl, _, hA, hb2⟩
  have A2 := Lib.hid hA
  have B3 := Lib.hid (B2.out.trans hb2)
  clear hA hb2 hb CD
  go_wp2_with fail
  go_ret2
  rw [HF.out]
  exact ⟨p2, c2, rfl, A2.out, B3.out⟩
end Go.Proofs.Ytaaodbljdpchhaa
