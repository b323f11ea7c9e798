
/-
  slices.SortFunc at timers with heap's compare, and the walk of heap.Sorted: a heap's timers in order. Condition: the list is of a size that a machine holds.
-/
import Derived.Test.YtlbifinkjghgaaaHpOrd
namespace Go.Proofs.Ytlbifinkjghgaaa
open Go.RowKit Go.Lib Go.Sort Go.Shelf

theorem Hp.ltAt (x y : Int × Int × Int × Int) : ltOf Hp.cmp x y = Hp.lt x y := Hp.cmp_lt x y
theorem Hp.swoAt : SWO (ltOf Hp.cmp) where
  irrefl x := by rw [Hp.ltAt]; exact Hp.irrefl x
  trans x y z h1 h2 := by rw [Hp.ltAt] at *; exact Hp.trans h1 h2
  ntrans x y z h1 h2 := by rw [Hp.ltAt] at *; exact Hp.ntrans h1 h2
theorem hp_cmpLays (blk off size : Nat) (w : World) : CmpLays Try.prog 30 #[] Hp.rc 4 Hp.cmp blk off size w :=
  fun _ _ _ _ x y => hp_compare x y _
theorem Hp.flat (l : List (Int × Int × Int × Int)) : flatK Hp.rc 4 l.toArray = (Hp.rcs l).toArray := by
  refine ext_get! (by simp [Hp.rcs_len]) fun t ht => ?_
  have ht' : t < l.length * 4 := by simpa using ht
  have hd : t / 4 < l.length := by omega
  rw [get_flatK _ _ _ t (by simpa using ht')]
  obtain ⟨q, hq⟩ : ∃ q, q = t / 4 := ⟨_, rfl⟩
  obtain ⟨r, hr⟩ : ∃ r, r = t % 4 := ⟨_, rfl⟩
  rw [← hq] at hd
  rw [← hq, ← hr]
  obtain rfl : t = q * 4 + r := by omega
  have hr4 : r = 0 ∨ r = 1 ∨ r = 2 ∨ r = 3 := by omega
  clear hq hr
  have e1 : l.toArray[q]! = l[q] := by rw [getElem!_pos l.toArray q (by simpa using hd)]; simp
  rw [e1]
  have key : ∀ j u, (Hp.rcs l)[j]? = some u → (Hp.rcs l).toArray[j]! = u := fun j u hu => by
    obtain ⟨h1, h2⟩ := List.getElem?_eq_some_iff.1 hu
    rw [getElem!_pos (Hp.rcs l).toArray j (by simpa using h1)]
    simpa using h2
  obtain ⟨g0, g1, g2, g3⟩ := Hp.rcs_get l q hd
  rcases hr4 with rfl | rfl | rfl | rfl
  · rw [Nat.add_zero, key _ _ g0]; rfl
  · rw [key _ _ g1]; rfl
  · rw [key _ _ g2]; rfl
  · rw [key _ _ g3]; rfl
theorem Hp.Blk.holds {w : World} {g : Nat} {l : List (Int × Int × Int × Int)} {rest : List Value} (h : Hp.Blk w g l rest) : HoldsK Hp.rc 4 w g 0 l.toArray := by
  unfold HoldsK
  rw [Hp.flat]
  intro j hj
  have hj' : j < (Hp.rcs l).length := by simpa using hj
  refine ⟨?_, by rw [Nat.zero_add]; exact h.frozen j⟩
  rw [Nat.zero_add, Lib.cell_of_heap h, List.getElem?_toArray, List.getElem?_append_left hj', List.getElem?_eq_getElem hj', getElem!_pos _ _ (by simpa using hj')]
  simp
theorem Hp.Blk.sorted {w : World} {g n : Nat} {l l' : List (Int × Int × Int × Int)} {rest : List Value} {os : Array Obj} (h : Hp.Blk w g l rest) (hl : l'.length = l.length) : Hp.Blk (sortWorldK Hp.rc 4 w g 0 n l'.toArray os) g l' rest := by
  have hg := h.lt
  unfold sortWorldK Hp.Blk
  rw [heap_grow_old _ _ (by simpa [putRowK, putRow, mapBlock, Sort.ahead] using hg)]
  unfold putRowK
  rw [Hp.flat]
  unfold Hp.Blk at h
  have hlen := Hp.rcs_len l
  have hlen' := Hp.rcs_len l'
  have e : putCells id 0 (Hp.rcs l').toArray (Hp.rcs l ++ rest).toArray = (Hp.rcs l' ++ rest).toArray := by
    apply Array.ext
    · simp [putCells]; omega
    · intro i h1 h2
      have hi2 : i < (Hp.rcs l' ++ rest).length := by simpa using h2
      simp only [putCells, Array.getElem_mapIdx]
      by_cases hi : i < (Hp.rcs l').length
      · rw [if_pos (by simpa using hi)]
        simp only [Nat.sub_zero, id]
        rw [getElem!_pos _ _ (by simpa using hi)]
        simp [List.getElem_append_left hi]
      · rw [if_neg (by simpa using hi)]
        simp only [List.getElem_toArray]
        rw [List.getElem_append_right (by omega), List.getElem_append_right (by omega)]
        congr 1
        omega
  simp [putRow, mapBlock, Sort.ahead, Array.getElem?_modify, h, onCells, e]
theorem hp_grown_sorted {w : World} {g n : Nat} (d : Array (Int × Int × Int × Int)) (os : Array Obj) : w.grownBy (sortWorldK Hp.rc 4 w g 0 n d os) (some g) := by
  refine ⟨rfl, rfl, rfl, ?_, fun k hk hne => ?_⟩
  · unfold sortWorldK
    show w.heap.size ≤ ((putRowK Hp.rc 4 (Sort.ahead w n) g 0 d).heap ++ os).size
    rw [Array.size_append]
    simp [putRowK, putRow, mapBlock, Sort.ahead]
  · unfold sortWorldK
    rw [heap_grow_old _ _ (by simpa [putRowK, putRow, mapBlock, Sort.ahead] using hk)]
    have : g ≠ k := fun e => hne (by rw [e])
    simp [putRowK, putRow, mapBlock, Sort.ahead, Array.getElem?_modify, this]
/-- What sorting a row of the call's own leaves. -/
def Hp.SortPost (l : List (Int × Int × Int × Int)) (g : Nat) (rest : List Value) (w : World) (e : Ending) (w' : World) : Prop :=
  e = .returned (.tuple #[]) ∧ ∃ l', l'.Perm l ∧ l'.Pairwise (fun x y => Hp.lt y x = false) ∧ Hp.Blk w' g l' rest ∧ w.grownBy w' (some g)
theorem hp_SortFunc (l : List (Int × Int × Int × Int)) (g c : Nat) (rest : List Value) (w : World) (h : Hp.Blk w g l rest) (hn : l.length ≤ 1000000) :
    Calls Try.prog 29 #[.slice (some ⟨g, 0, none⟩) l.length c, .func (.func 30) #[] #[]] w (Hp.SortPost l g rest w) := by
  have hcon := Try.slices_SortFunc_timer Hp.rc (fun _ => rfl) (fun x v hv => by simp [Hp.rc] at hv; rcases hv with rfl | rfl | rfl | rfl <;> rfl) Hp.cmp Hp.swoAt 30 #[] g 0 c l.toArray w
    (enters_of Try.func30 (by kernel_rfl) rfl) (hp_cmpLays g 0 l.toArray.size w) h.holds h.lt (by simp; omega)
  rw [List.size_toArray] at hcon
  refine hcon.mono ?_
  rintro e w' ⟨rfl, d', n, os, ⟨hp1, _, hp2⟩, hsr, rfl⟩
  have hdl : d'.size = l.length := by simpa using hp1
  have hperm : d'.toList.Perm l := by
    have e1 : d'.extract 0 l.length = d' := Array.extract_eq_self_of_le (by omega)
    have e2 : l.toArray.extract 0 l.length = l.toArray := Array.extract_eq_self_of_le (by simp)
    rw [e1, e2] at hp2
    simpa using hp2
  refine ⟨rfl, d'.toList, hperm, ?_, ?_, hp_grown_sorted _ _⟩
  · refine List.pairwise_iff_getElem.2 fun i j hi hj hij => ?_
    have hi' : i < d'.size := by simpa using hi
    have hj' : j < d'.size := by simpa using hj
    have := hsr i j (Nat.zero_le _) hij (by omega)
    rw [Hp.ltAt, getElem!_pos d' j hj', getElem!_pos d' i hi'] at this
    rw [Array.getElem_toList, Array.getElem_toList]
    exact this
  · have := h.sorted (n := n) (os := os) (l' := d'.toList) (by simpa using hdl)
    simpa using this
noncomputable def Hp.soL (l : List (Int × Int × Int × Int)) : List (Int × Int × Int × Int) := @ite _ (Hp.Ok l) (Classical.propDecidable _) (Hp.srt l) []
/-- Timers in a row of the call's own and an error number as a result. -/
def Hp.GotO (r : List (Int × Int × Int × Int)) (z : Int) (w : World) (e : Ending) (w' : World) : Prop :=
  ∃ v, e = .returned (.tuple #[v, .int .i64 z]) ∧ Hp.Own w' w.heap.size v r ∧ Below w.heap.size w w'
theorem Hp.GotO.got {r : List (Int × Int × Int × Int)} {z : Int} {w : World} {e : Ending} {w' : World} (h : Hp.GotO r z w e w') : Hp.Got r z w e w' := by
  obtain ⟨v, he, hO, hb⟩ := h
  obtain ⟨p, c, rfl, hA⟩ := hO.at
  exact ⟨p, c, he, hA, hb⟩
set_option maxHeartbeats 4000000 in
set_option maxRecDepth 100000 in
theorem hp_Sorted (l : List (Int × Int × Int × Int)) (p : Option Addr) (c : Nat) (w : World) (hA : Hp.At w p l) (hn : l.length ≤ 140737488351232) :
    Calls Try.prog 17 #[.slice p l.length c] w (Hp.GotO (Hp.soL l) (Hp.chk l) w) := by
  have HOk := Lib.hid (fun h : Hp.Ok l => (show Hp.soL l = Hp.srt l from if_pos h))
  have HNo := Lib.hid (fun h : ¬ Hp.Ok l => (show Hp.soL l = [] from if_neg h))
  have CK := Lib.hid (fun W h => hp_Check l p c W h hn)
  have AL := Lib.hid hA
  generalize Hp.soL l = R at *
  clear hA
  by_cases hok : Hp.Ok l
  · have E1 := Lib.hid (HOk.out hok)
    rw [Hp.chk_ok hok] at CK ⊢
    have CC := Lib.hid (fun W h => hp_Clone l p c W h (by have := hok.1; omega))
    have CS := Lib.hid (fun g c rest w h => hp_SortFunc l g c rest w h (by have := hok.1; omega))
    have HN := Lib.hid hok.2.1
    have HSl := Lib.hid (Hp.srt_len l)
    clear hok HOk HNo
    by_cases h0 : l.length = 0
    · have hnil : l = [] := List.length_eq_zero_iff.1 h0
      have E3 := Lib.hid (show R = [] by rw [E1.out, hnil]; rfl)
      rw [h0] at CK CC
      rw [h0]
      clear h0 hn
      go_enter Try.func17, Try.ntmps17
      go_wp2_with fail
      refine (CK.out _ AL.out).mono ?_
      rintro e w1 ⟨rfl, hb⟩
      have A1 := Lib.hid (AL.out.below hb)
      have B1 := Lib.hid hb
      clear hb
      go_wp2_with fail
      refine (CC.out _ A1.out).mono ?_
      rintro e w2 ⟨v, rfl, hO, hb⟩
      obtain ⟨p2, c2, rfl, hA2⟩ := hO.at
      rw [hnil] at hO ⊢
      have O2 := Lib.hid (hO.mono B1.out.size)
      have B2 := Lib.hid (hp_then B1.out hb B1.out.size)
      clear hb hO hA2 hnil
      simp only [List.length_nil] at O2 ⊢
      go_wp2_with fail
      refine (Try.slices_SortFunc_timer_none p2 c2 _ w2).mono ?_
      rintro e w3 ⟨rfl, rfl⟩
      go_wp2_with fail
      go_ret2
      rw [E3.out]
      exact ⟨_, rfl, O2.out, B2.out⟩
    · obtain ⟨n, hnl⟩ : ∃ n, n = l.length := ⟨_, rfl⟩
      have Hn := Lib.hid hnl
      rw [← hnl] at CK CC CS
      rw [← hnl]
      have h0n : 0 < n := by omega
      clear hnl hn h0
      go_enter Try.func17, Try.ntmps17
      go_wp2_with fail
      refine (CK.out _ AL.out).mono ?_
      rintro e w1 ⟨rfl, hb⟩
      have A1 := Lib.hid (AL.out.below hb)
      have B1 := Lib.hid hb
      clear hb
      go_wp2_with fail
      refine (CC.out _ A1.out).mono ?_
      rintro e w2 ⟨v, rfl, hO, hb⟩
      rcases hO.blk with ⟨hz0, _⟩ | ⟨g, cap, rest, rfl, hg, hBk, hcap, hmax⟩
      · exact absurd h0n (by rw [Hn.out, hz0]; simp)
      rw [← Hn.out]
      have HB2 := Lib.hid hBk
      have HC := Lib.hid (And.intro hcap hmax)
      have B2 := Lib.hid (hp_then B1.out hb B1.out.size)
      have hgw : w.heap.size ≤ g := Nat.le_trans B1.out.size hg
      clear hb hO hBk hg hcap hmax
      go_wp2_with fail
      refine (CS.out g cap rest w2 HB2.out).mono ?_
      rintro e w3 ⟨rfl, l', hp, hpw, hbk, hgr⟩
      have hl' : l' = R := by rw [E1.out]; exact Hp.asc_srt (Hp.asc_of hpw (Hp.sq_nodup hp HN.out)) hp HN.out
      have hlen : l'.length = n := by rw [hp.length_eq, ← Hn.out]
      have hO3 := hbk.own hgw (by rw [hlen, Hn.out]; exact HC.out.1) HC.out.2
      rw [hlen, hl'] at hO3
      have O3 := Lib.hid hO3
      have B3 := Lib.hid (B2.out.grown hgr B2.out.size (fun k hk => by cases hk; exact hgw))
      clear hp hpw hbk hgr hl' hlen hO3
      go_wp2_with fail
      go_ret2
      exact ⟨_, rfl, O3.out, B3.out⟩
  · have E1 := Lib.hid (HNo.out hok)
    rw [Hp.chk_bad hok] at CK ⊢
    clear hok HOk HNo
    generalize l.length = n at *
    go_enter Try.func17, Try.ntmps17
    go_wp2_with fail
    refine (CK.out _ AL.out).mono ?_
    rintro e w1 ⟨rfl, hb⟩
    have B1 := Lib.hid hb
    clear hb
    go_wp2_with fail
    go_ret2
    rw [E1.out]
    exact ⟨_, rfl, Hp.Own.nil _ _, B1.out⟩
end Go.Proofs.Ytlbifinkjghgaaa
