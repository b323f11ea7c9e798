/-
  The walk of week.Next: how many minutes on the first one is that a week has, or has not. Condition: a week's list is of a size that a machine holds.
-/
import Derived.Test.YtpaleljnkejdgaaGreatDoorWkAsk
import Derived.Lib.MinMax
import Derived.Deep.QuietTactic
import Derived.BigQuiet
namespace Go.Proofs.YtpaleljnkejdgaaGreatDoor
open Go.RowKit Go.Lib Go.Shelf

/-- What Next looks in, and what it tells. -/
def Wk.nextV (l : List (Int × Int)) (b : Bool) : List (Int × Int) := if b = true then l else Wk.gaps 0 l
def Wk.nextN (l : List (Int × Int)) (m : Int) (b : Bool) : Int := if Wk.chk2 l m = 0 then (if Wk.nextV l b = [] then 0 else Wk.nx (Wk.nextV l b) m) else 0
def Wk.nextC (l : List (Int × Int)) (m : Int) (b : Bool) : Int := if Wk.chk2 l m = 0 then (if Wk.nextV l b = [] then 3 else 0) else Wk.chk2 l m
theorem Wk.chk2_ok {l : List (Int × Int)} {m : Int} (h : Wk.chk2 l m = 0) : Wk.Ok l ∧ Wk.Min m := by
  unfold Wk.chk2 at h
  by_cases h1 : Wk.Ok l
  · by_cases h2 : Wk.Min m
    · exact ⟨h1, h2⟩
    · rw [if_pos h1, if_neg h2] at h; cases h
  · rw [if_neg h1] at h; cases h
theorem Wk.chk2_mk {l : List (Int × Int)} {m : Int} (h1 : Wk.Ok l) (h2 : Wk.Min m) : Wk.chk2 l m = 0 := by
  unfold Wk.chk2; rw [if_pos h1, if_pos h2]
theorem Wk.nextV_ch {l : List (Int × Int)} (h : Wk.Ch (-1) l) (b : Bool) : Wk.Ch (-1) (Wk.nextV l b) := by
  unfold Wk.nextV
  split
  · exact h
  · exact Wk.gaps_ch (f := 0) h
theorem Wk.nextV_len (l : List (Int × Int)) (b : Bool) : (Wk.nextV l b).length ≤ l.length + 1 := by
  unfold Wk.nextV
  split
  · omega
  · exact Wk.gaps_len 0 l
theorem Wk.nx_hit (v : List (Int × Int)) (m : Int) (k : Nat) (h : k < v.length) (hk : decide (m < (v.getD k (0, 0)).2) = true) (hj : ∀ j, j < k → decide (m < (v.getD j (0, 0)).2) = false) : Wk.nx v m = max (v[k].1 - m) 0 := by
  have hf : v.find? (fun r => decide (m < r.2)) = some v[k] := by
    refine List.find?_eq_some_iff_getElem.2 ⟨?_, k, h, rfl, fun j hjk => ?_⟩
    · rw [List.getD_eq_getElem?_getD, List.getElem?_eq_getElem h] at hk; exact hk
    · have := hj j hjk
      rw [List.getD_eq_getElem?_getD, List.getElem?_eq_getElem (by omega)] at this
      simp only [Option.getD_some] at this
      rw [this]; rfl
  unfold Wk.nx
  rw [hf]
theorem Wk.nx_miss (v : List (Int × Int)) (m : Int) (_h : v ≠ []) (hj : ∀ j, j < v.length → decide (m < (v.getD j (0, 0)).2) = false) : Wk.nx v m = (v.headD (0, 0)).1 + 10080 - m := by
  have hf : v.find? (fun r => decide (m < r.2)) = none := by
    refine List.find?_eq_none.2 fun x hx => ?_
    obtain ⟨j, hjl, rfl⟩ := List.getElem_of_mem hx
    have := hj j hjl
    rw [List.getD_eq_getElem?_getD, List.getElem?_eq_getElem hjl] at this
    simp only [Option.getD_some] at this
    rw [this]; simp
  unfold Wk.nx
  rw [hf]
set_option maxHeartbeats 1000000 in
set_option maxRecDepth 100000 in
theorem wk_next1 (f t m : Int) (B : Nat) (W : World) (hB : W.heap[B]? = some (.cells #[.int .i64 m] 3 (0, 0))) :
    Calls Tryz.prog 69 #[.agg #[.int .i64 f, .int .i64 t], .pointer (some ⟨B, 0, none⟩)] W fun e w' => e = .returned (.bool (decide (m < t))) ∧ Below W.heap.size W w' := by
  obtain ⟨c1, c2, c3⟩ := wk_one_of hB
  have hne : W.heap.size ≠ B := by omega
  have hne2 : B ≠ W.heap.size := by omega
  have HB := Lib.hid (wk_box W (.cells #[.int .i64 f, .int .i64 t] 56))
  clear hB
  by_cases h1 : m < t
  · rw [decide_eq_true h1]
    go_enter Tryz.func69, Tryz.ntmps69
    go_wp2_with fail
    go_ret
    exact ⟨rfl, HB.out⟩
  · have q1 : decide (m < t) = false := decide_eq_false h1
    rw [q1]
    clear h1
    go_enter Tryz.func69, Tryz.ntmps69
    go_wp2_with fail
    go_ret
    exact ⟨rfl, HB.out⟩
theorem wk_next_search (V : List (Int × Int)) (p : Option Addr) (c : Nat) (m : Int) (B : Nat) (w : World) (hA : Wk.At w p V) (hX : w.heap[B]? = some (.cells #[.int .i64 m] 3 (0, 0))) (hn : V.length ≤ 1000) :
    Calls Tryz.prog 65 #[.slice p V.length c, .func (.func 69) #[] #[.pointer (some ⟨B, 0, none⟩)]] w (Wk.Idx V.length (fun k => decide (m < (V.getD k (0, 0)).2)) (Wk.Kept w)) := by
  obtain ⟨_, _, c3⟩ := wk_one_of hX
  exact wk_index V p c 69 #[.pointer (some ⟨B, 0, none⟩)] (enters_of Tryz.func69 (by kernel_rfl) rfl) w (fun k => decide (m < (V.getD k (0, 0)).2)) (Wk.Kept w) (by omega) (fun k W hI => hA.below hI.1)
    (fun k hk W hI => by
      have := wk_next1 V[k].1 V[k].2 m B W ((hI.1.block _ c3).trans hX)
      rw [List.getD_eq_getElem?_getD, List.getElem?_eq_getElem hk]
      exact this.mono fun e w' ⟨h1, h3⟩ => ⟨h1, wk_then hI.1 h3 hI.1.size, rfl⟩) ⟨Below.refl _ _, rfl⟩
set_option maxHeartbeats 4000000 in
set_option maxRecDepth 100000 in
theorem wk_Next (l : List (Int × Int)) (p : Option Addr) (c : Nat) (m : Int) (b : Bool) (w : World) (hA : Wk.At w p l) (hn : l.length ≤ 140737488351232) :
    Calls Tryz.prog 48 #[.slice p l.length c, .int .i64 m, .bool b] w fun e w' => e = .returned (.tuple #[.int .i64 (Wk.nextN l m b), .int .i64 (Wk.nextC l m b)]) ∧ Below w.heap.size w w' := by
  have hb0 := wk_box w (.cells #[.int .i64 m] 3)
  have HX := Lib.hid (wk_new w (.cells #[.int .i64 m] 3))
  have HC := Lib.hid (wk_check l p c m (w.alloc (.cells #[.int .i64 m] 3)) (hA.below hb0) hn)
  have HA := Lib.hid (hA.below hb0)
  have HB := Lib.hid hb0
  clear hA hb0
  by_cases hc : Wk.chk2 l m = 0
  · obtain ⟨ho, hm⟩ := Wk.chk2_ok hc
    obtain ⟨m1, m2⟩ := hm
    have h64 := ho.1
    have HRn := Lib.hid (fun b (h : Wk.nextV l b = []) => (show Wk.nextN l m b = 0 ∧ Wk.nextC l m b = 3 by unfold Wk.nextN Wk.nextC; rw [if_pos hc, if_pos h, if_pos hc, if_pos h]; exact ⟨rfl, rfl⟩))
    have HRs := Lib.hid (fun b (h : Wk.nextV l b ≠ []) => (show Wk.nextN l m b = Wk.nx (Wk.nextV l b) m ∧ Wk.nextC l m b = 0 by unfold Wk.nextN Wk.nextC; rw [if_pos hc, if_neg h, if_pos hc, if_neg h]; exact ⟨rfl, rfl⟩))
    have HV := Lib.hid (fun b => Wk.nextV_ch ho.2 b)
    rw [hc] at HC
    clear hc
    cases b with
    | true =>
      have HRn' := HRn.out true
      have HRs' := HRs.out true
      have HV' := HV.out true
      clear HRn HRs HV
      generalize Wk.nextN l m true = N at *
      generalize Wk.nextC l m true = C at *
      rw [show Wk.nextV l true = l from rfl] at HRn' HRs' HV'
      have HRn := Lib.hid HRn'
      have HRs := Lib.hid HRs'
      have HV := Lib.hid HV'
      clear HRn' HRs' HV' ho
      obtain ⟨V, hV⟩ : ∃ V, V = l := ⟨_, rfl⟩
      rw [← hV] at HRn HRs HV HC HA h64
      have hlV : l.length = V.length := by rw [hV]
      have HlV := Lib.hid hlV
      rw [hlV]
      clear hV hlV hn
      have hVl : V.length ≤ 1000 := by omega
      obtain ⟨nV0, hnV0⟩ : ∃ nV0, nV0 = V.length := ⟨_, rfl⟩
      have HnV0 := Lib.hid hnV0
      rw [← hnV0] at HC ⊢
      clear hnV0
      go_enter Tryz.func48, Tryz.ntmps48
      go_wp2_with fail
      refine HC.out.mono ?_
      rintro e w1 ⟨rfl, hb⟩
      have hs2 : w.heap.size < w1.heap.size := by have := hb.size; rw [World.size_alloc] at this; omega
      have HX2 := Lib.hid ((hb.block w.heap.size (by rw [World.size_alloc]; omega)).trans HX.out)
      have BE := Lib.hid (HB.out.trans (hb.mono (by rw [World.size_alloc]; omega)))
      have HA2 := Lib.hid (HA.out.below hb)
      obtain ⟨w2, hw2⟩ : ∃ w2, w2 = w1 := ⟨_, rfl⟩
      subst hw2
      obtain ⟨p2, hp2⟩ : ∃ p2, p2 = p := ⟨_, rfl⟩
      subst hp2
      obtain ⟨c2, hc2⟩ : ∃ c2, c2 = c := ⟨_, rfl⟩
      subst hc2
      clear hb HC HA HX HB
      rw [HnV0.out]
      clear HnV0 HlV
      have HNil := Lib.hid (fun (h : V = []) => (show N = 0 ∧ C = 3 from HRn.out h))
      cases V with
      | nil =>
        obtain ⟨q1, q2⟩ := HNil.out rfl
        rw [List.length_nil]
        clear HNil HRn HRs HV HA2
        have hz0 : ((0 : Nat) : Int) = 0 := rfl
        go_wp2_with fail
        go_ret2
        rw [q1, q2]
        exact ⟨rfl, BE.out⟩
      | cons r t =>
        have HRs' := Lib.hid (HRs.out (by simp))
        have hIx := wk_next_search (r :: t) p2 c2 m w.heap.size w2 HA2.out HX2.out (by omega)
        have HI := Lib.hid hIx
        have HA3 := Lib.hid (fun w' (h : Below w2.heap.size w2 w') => HA2.out.below h)
        have hpos : 0 < (r :: t).length := by simp
        have HPos := Lib.hid hpos
        have Hmiss := Lib.hid (Wk.nx_miss (r :: t) m (by simp))
        have Hhit := Lib.hid (fun k h => Wk.nx_hit (r :: t) m k h)
        have HallV := Lib.hid (fun k (h : k < (r :: t).length) => HV.out.all _ (List.getElem_mem h))
        clear hIx hpos HNil HRn HRs HV
        obtain ⟨V, hVV⟩ : ∃ V, V = r :: t := ⟨_, rfl⟩
        rw [← hVV] at HI HA3 HPos Hmiss Hhit HallV HRs' HA2 hVl ⊢
        clear hVV
        obtain ⟨nV, hnV⟩ : ∃ nV, nV = V.length := ⟨_, rfl⟩
        have HnV := Lib.hid hnV
        have hp0 : 0 < nV := by rw [hnV]; exact HPos.out
        rw [← hnV] at HI hVl ⊢
        clear hnV
        have hne : ((nV : Int) == 0) = false := by simp; omega
        go_wp2_with fail
        refine HI.out.mono ?_
        rintro e w3 (⟨k, hk, hP, hj, rfl, hK⟩ | ⟨hj, rfl, hK⟩)
        · have hkV : k < V.length := by rw [← HnV.out]; exact hk
          have HH := Lib.hid (Hhit.out k hkV hP (fun j h => hj j h))
          have hall := HallV.out k hkV
          obtain ⟨b3, o3, rfl, d1, d2⟩ := (HA3.out w3 hK.1).get k hkV
          have X3 := Lib.hid ((hK.1.block w.heap.size hs2).trans HX2.out)
          have B3 := Lib.hid (wk_then BE.out hK.1 BE.out.size)
          generalize V[k] = z at hall d1 d2 HH
          obtain ⟨z1, z2⟩ := z
          simp only [] at hall d1 d2 HH
          obtain ⟨a1, a2, a3⟩ := hall
          obtain ⟨x1, x2, x3⟩ := wk_one_of X3.out
          clear hK hj hP hkV d2
          have hk0 : (0 : Int) ≤ (k : Int) := by omega
          have hki : (k : Int) < (nV : Int) := by omega
          go_wp2_with fail
          go_quiet (fail)
          go_wp2_with fail
          go_ret2
          rw [HRs'.out.1, HRs'.out.2, HH.out]
          exact ⟨rfl, below_drewN B3.out _⟩
        · have HH := Lib.hid (Hmiss.out (fun j h => hj j (by rw [HnV.out]; exact h)))
          have hkV : 0 < V.length := by rw [← HnV.out]; exact hp0
          have hall := HallV.out 0 hkV
          obtain ⟨b3, o3, rfl, d1, d2⟩ := (HA3.out w3 hK.1).get 0 hkV
          have X3 := Lib.hid ((hK.1.block w.heap.size hs2).trans HX2.out)
          have B3 := Lib.hid (wk_then BE.out hK.1 BE.out.size)
          have e0 : V.headD (0, 0) = V[0] := by cases V with
            | nil => simp at hkV
            | cons a b => rfl
          rw [e0] at HH
          generalize V[0] = z at hall d1 d2 HH
          obtain ⟨z1, z2⟩ := z
          simp only [] at hall d1 d2 HH
          obtain ⟨a1, a2, a3⟩ := hall
          obtain ⟨x1, x2, x3⟩ := wk_one_of X3.out
          simp only [Nat.zero_mul, Nat.add_zero] at d1
          clear hK hj hkV d2 e0
          go_wp2_with fail
          go_quiet (fail)
          go_wp2_with fail
          go_ret2
          rw [HRs'.out.1, HRs'.out.2, HH.out]
          exact ⟨rfl, below_drewN B3.out _⟩
    | false =>
      have HRn' := HRn.out false
      have HRs' := HRs.out false
      have HV' := HV.out false
      clear HRn HRs HV
      generalize Wk.nextN l m false = N at *
      generalize Wk.nextC l m false = C at *
      rw [show Wk.nextV l false = Wk.gaps 0 l from rfl] at HRn' HRs' HV'
      have HRn := Lib.hid HRn'
      have HRs := Lib.hid HRs'
      have HV := Lib.hid HV'
      clear HRn' HRs' HV' ho
      have HG := Lib.hid (fun w1 (h : Below (w.alloc (.cells #[.int .i64 m] 3)).heap.size (w.alloc (.cells #[.int .i64 m] 3)) w1) => wk_gaps l p c w1 (HA.out.below h) (by omega))
      have hVl : (Wk.gaps 0 l).length ≤ 1000 := by have := Wk.gaps_len 0 l; omega
      generalize Wk.gaps 0 l = V at *
      obtain ⟨nl, hnl⟩ : ∃ nl, nl = l.length := ⟨_, rfl⟩
      rw [← hnl] at HC HG ⊢
      clear hnl hn h64 HA
      go_enter Tryz.func48, Tryz.ntmps48
      go_wp2_with fail
      refine HC.out.mono ?_
      rintro e w1 ⟨rfl, hb⟩
      have HB1 := Lib.hid hb
      clear hb
      go_wp2_with fail
      refine (HG.out _ HB1.out).mono ?_
      rintro e w2 ⟨v2, rfl, hO2, hb2⟩
      obtain ⟨p2, c2, rfl, hA2⟩ := hO2.at
      have HA2 := Lib.hid hA2
      have hbb := HB1.out.trans (hb2.mono HB1.out.size)
      have hs2 : w.heap.size < w2.heap.size := by have := hbb.size; rw [World.size_alloc] at this; omega
      have HX2 := Lib.hid ((hbb.block w.heap.size (by rw [World.size_alloc]; omega)).trans HX.out)
      have BE := Lib.hid (HB.out.trans (hbb.mono (by rw [World.size_alloc]; omega)))
      clear hO2 hb2 hA2 hbb HG HC HX HB HB1
      have HNil := Lib.hid (fun (h : V = []) => (show N = 0 ∧ C = 3 from HRn.out h))
      cases V with
      | nil =>
        obtain ⟨q1, q2⟩ := HNil.out rfl
        rw [List.length_nil]
        clear HNil HRn HRs HV HA2
        have hz0 : ((0 : Nat) : Int) = 0 := rfl
        go_wp2_with fail
        go_ret2
        rw [q1, q2]
        exact ⟨rfl, BE.out⟩
      | cons r t =>
        have HRs' := Lib.hid (HRs.out (by simp))
        have hIx := wk_next_search (r :: t) p2 c2 m w.heap.size w2 HA2.out HX2.out (by omega)
        have HI := Lib.hid hIx
        have HA3 := Lib.hid (fun w' (h : Below w2.heap.size w2 w') => HA2.out.below h)
        have hpos : 0 < (r :: t).length := by simp
        have HPos := Lib.hid hpos
        have Hmiss := Lib.hid (Wk.nx_miss (r :: t) m (by simp))
        have Hhit := Lib.hid (fun k h => Wk.nx_hit (r :: t) m k h)
        have HallV := Lib.hid (fun k (h : k < (r :: t).length) => HV.out.all _ (List.getElem_mem h))
        clear hIx hpos HNil HRn HRs HV
        obtain ⟨V, hVV⟩ : ∃ V, V = r :: t := ⟨_, rfl⟩
        rw [← hVV] at HI HA3 HPos Hmiss Hhit HallV HRs' HA2 hVl ⊢
        clear hVV
        obtain ⟨nV, hnV⟩ : ∃ nV, nV = V.length := ⟨_, rfl⟩
        have HnV := Lib.hid hnV
        have hp0 : 0 < nV := by rw [hnV]; exact HPos.out
        rw [← hnV] at HI hVl ⊢
        clear hnV
        have hne : ((nV : Int) == 0) = false := by simp; omega
        go_wp2_with fail
        refine HI.out.mono ?_
        rintro e w3 (⟨k, hk, hP, hj, rfl, hK⟩ | ⟨hj, rfl, hK⟩)
        · have hkV : k < V.length := by rw [← HnV.out]; exact hk
          have HH := Lib.hid (Hhit.out k hkV hP (fun j h => hj j h))
          have hall := HallV.out k hkV
          obtain ⟨b3, o3, rfl, d1, d2⟩ := (HA3.out w3 hK.1).get k hkV
          have X3 := Lib.hid ((hK.1.block w.heap.size hs2).trans HX2.out)
          have B3 := Lib.hid (wk_then BE.out hK.1 BE.out.size)
          generalize V[k] = z at hall d1 d2 HH
          obtain ⟨z1, z2⟩ := z
          simp only [] at hall d1 d2 HH
          obtain ⟨a1, a2, a3⟩ := hall
          obtain ⟨x1, x2, x3⟩ := wk_one_of X3.out
          clear hK hj hP hkV d2
          have hk0 : (0 : Int) ≤ (k : Int) := by omega
          have hki : (k : Int) < (nV : Int) := by omega
          go_wp2_with fail
          go_quiet (fail)
          go_wp2_with fail
          go_ret2
          rw [HRs'.out.1, HRs'.out.2, HH.out]
          exact ⟨rfl, below_drewN B3.out _⟩
        · have HH := Lib.hid (Hmiss.out (fun j h => hj j (by rw [HnV.out]; exact h)))
          have hkV : 0 < V.length := by rw [← HnV.out]; exact hp0
          have hall := HallV.out 0 hkV
          obtain ⟨b3, o3, rfl, d1, d2⟩ := (HA3.out w3 hK.1).get 0 hkV
          have X3 := Lib.hid ((hK.1.block w.heap.size hs2).trans HX2.out)
          have B3 := Lib.hid (wk_then BE.out hK.1 BE.out.size)
          have e0 : V.headD (0, 0) = V[0] := by cases V with
            | nil => simp at hkV
            | cons a b => rfl
          rw [e0] at HH
          generalize V[0] = z at hall d1 d2 HH
          obtain ⟨z1, z2⟩ := z
          simp only [] at hall d1 d2 HH
          obtain ⟨a1, a2, a3⟩ := hall
          obtain ⟨x1, x2, x3⟩ := wk_one_of X3.out
          simp only [Nat.zero_mul, Nat.add_zero] at d1
          clear hK hj hkV d2 e0
          go_wp2_with fail
          go_quiet (fail)
          go_wp2_with fail
          go_ret2
          rw [HRs'.out.1, HRs'.out.2, HH.out]
          exact ⟨rfl, below_drewN B3.out _⟩
  · have hN : Wk.nextN l m b = 0 := if_neg hc
    have hC : Wk.nextC l m b = Wk.chk2 l m := if_neg hc
    rw [hN, hC]
    have hc2 : (Wk.chk2 l m != 0) = true := by simpa using hc
    clear hc hN hC HX HA
    generalize Wk.chk2 l m = r at *
    generalize l.length = n at *
    go_enter Tryz.func48, Tryz.ntmps48
    go_wp2_with fail
    refine HC.out.mono ?_
    rintro e w1 ⟨rfl, hb⟩
    rw [World.size_alloc] at hb
    go_wp2_with fail
    go_ret2
    exact ⟨rfl, HB.out.trans (hb.mono (by omega))⟩
theorem Wk.chk2_vals (l : List (Int × Int)) (m : Int) : Wk.chk2 l m = 0 ∨ Wk.chk2 l m = 1 ∨ Wk.chk2 l m = 2 := by
  unfold Wk.chk2; repeat' split
  all_goals simp
theorem Wk.hasB_ok {l : List (Int × Int)} {m : Int} (ho : Wk.Ok l) (hm : Wk.Min m) : Wk.hasB l m = Wk.has l m := if_pos (Wk.chk2_mk ho hm)
theorem Wk.nextV_has {l : List (Int × Int)} (ho : Wk.Ok l) (b : Bool) {m : Int} (hm : Wk.Min m) : Wk.has (Wk.nextV l b) m = (Wk.has l m == b) := by
  unfold Wk.nextV
  cases b with
  | true => simp
  | false =>
    rw [if_neg (by simp), Wk.gaps_has (f := 0) ho.2, decide_eq_true hm.1, decide_eq_true hm.2]
    cases Wk.has l m <;> rfl
theorem Wk.nextV_nil {l : List (Int × Int)} (ho : Wk.Ok l) (b : Bool) (h : Wk.nextV l b = []) : Wk.sumR l = if b = true then 0 else 10080 := by
  have e : Wk.sumR l = Wk.sum l := if_pos ho
  rw [e]
  unfold Wk.nextV at h
  cases b with
  | true => rw [if_pos rfl] at h; subst h; rfl
  | false =>
    rw [if_neg (by simp)] at h
    have := Wk.gaps_sum (f := 0) ho.2 (by omega)
    rw [h] at this
    simp [Wk.sum] at this ⊢
    exact this
end Go.Proofs.YtpaleljnkejdgaaGreatDoor
