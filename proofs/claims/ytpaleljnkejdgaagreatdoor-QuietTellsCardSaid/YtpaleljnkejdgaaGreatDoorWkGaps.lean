/-
  The walks of week's with and gaps: a range behind others, if it has a minute; what lies between ranges. Conditions: lists are of a size that a machine holds.
-/
import Derived.Test.YtpaleljnkejdgaaGreatDoorWkCheck
import Derived.Deep.LoopGhost
namespace Go.Proofs.YtpaleljnkejdgaaGreatDoor
open Go.RowKit Go.Lib Go.Shelf

def Wk.WithPost (l : List (Int × Int)) (base : Nat) (v : Value) (w : World) (e : Ending) (w' : World) : Prop :=
  ∃ v', e = .returned v' ∧ Wk.Own w' base v' l ∧ w.grownBy w' v.ownBlock ∧ ∀ k, v'.ownBlock = some k → v.ownBlock = some k ∨ w.heap.size ≤ k
set_option maxHeartbeats 1000000 in
set_option maxRecDepth 100000 in
theorem wk_with (l : List (Int × Int)) (f t : Int) (v : Value) (base : Nat) (w : World) (hO : Wk.Own w base v l) (hl : l.length ≤ 100000) (hb : base ≤ w.heap.size) :
    Calls Tryz.prog 40 #[v, .int .i64 f, .int .i64 t] w (Wk.WithPost (l ++ Wk.rg f t) base v w) := by
  by_cases h : f < t
  · have e : l ++ Wk.rg f t = l ++ [(f, t)] := by rw [Wk.rg, if_pos h]
    rw [e]
    have HE := Lib.hid (show Wk.rcs (l ++ [(f, t)]) = Wk.rcs l ++ [.int .i64 f, .int .i64 t] from Wk.rcs_append _ _)
    have HO := Lib.hid hO
    obtain ⟨i0, hi, hz0, hz1, hz2⟩ := infoRange
    clear e hO
    go_enter Tryz.func40, Tryz.ntmps40
    go_wp2_with (at_builtin; refine wpList_append_own_at _ rfl _ _ 26 rfl base 56 i0 _ 2 16 Tryz.underlying26 hi hz0 hz1 hz2 rfl (by decide) _ _ _ rfl (World.ownsRow.alloc HO.out _) ⟨w.heap.size, 0, none⟩ 1 1 [.int .i64 f, .int .i64 t] rfl rfl ?c1 ?c2 ?c3 ?c4 ?c5 ?_)
    case c1 => exact cell_two_new _ _ _ _
    case c2 => simp [Value.oneCell']
    case c3 => unfold maxLen; omega
    case c4 => omega
    case c5 => rw [World.size_alloc]; omega
    intro v9 w9 hown9 hgrow9 _ hblk9
    have O9 := Lib.hid hown9
    have G9 := Lib.hid hgrow9
    have K9 := Lib.hid hblk9
    clear hown9 hgrow9 hblk9
    clear hi hz0 hz1 hz2
    go_wp2_with fail
    go_ret
    refine ⟨v9, rfl, ?_, wk_grown_alloc G9.out, fun k hk => ?_⟩
    · unfold Wk.Own
      rw [HE.out, List.length_append]
      exact O9.out
    · rcases K9.out with h9 | h9
      · exact Or.inl (by rw [← h9]; exact hk)
      · rw [h9] at hk
        cases hk
        exact Or.inr (by omega)
  · have e : l ++ Wk.rg f t = l := by rw [Wk.rg, if_neg h, List.append_nil]
    rw [e]
    have h2 : t ≤ f := by omega
    have HO := Lib.hid hO
    clear e hO h
    go_enter Tryz.func40, Tryz.ntmps40
    go_wp2_with fail
    go_ret
    exact ⟨_, rfl, HO.out, wk_grown_refl _ _, fun k hk => Or.inl hk⟩
/-- A call of the function's own row, whatever memory it grows. -/
def Wk.OwnPost (l : List (Int × Int)) (w : World) (e : Ending) (w' : World) : Prop := ∃ v, e = .returned v ∧ Wk.Own w' w.heap.size v l ∧ Below w.heap.size w w'
theorem Wk.gaps_take (f : Int) (l : List (Int × Int)) : Wk.gaps f l = (Wk.gaps f l) := rfl
/-- What the loop of gaps has put together behind k ranges, and from where on. -/
def Wk.gapsTo (l : List (Int × Int)) (k : Nat) : List (Int × Int) := (List.range k).flatMap fun j => Wk.rg (Wk.ahd 0 l j) (l.getD j (0, 0)).1
theorem Wk.gapsTo_succ (l : List (Int × Int)) (k : Nat) (h : k < l.length) : Wk.gapsTo l (k + 1) = Wk.gapsTo l k ++ Wk.rg (Wk.ahd 0 l k) l[k].1 := by
  unfold Wk.gapsTo
  rw [List.range_succ, List.flatMap_append, List.flatMap_singleton, List.getD_eq_getElem?_getD, List.getElem?_eq_getElem h]
  rfl
theorem Wk.gaps_split (f : Int) (l : List (Int × Int)) : (List.range l.length).flatMap (fun j => Wk.rg (Wk.ahd f l j) (l.getD j (0, 0)).1) ++ Wk.rg (Wk.ahd f l l.length) 10080 = Wk.gaps f l := by
  induction l generalizing f with
  | nil => rfl
  | cons r l ih =>
    rw [List.length_cons, List.range_succ_eq_map, List.flatMap_cons, List.flatMap_map, Wk.gaps, List.append_assoc]
    have hshift : ∀ j, Wk.ahd f (r :: l) (j + 1) = Wk.ahd r.2 l j := fun j => by
      unfold Wk.ahd
      cases j with
      | zero => rfl
      | succ j => rfl
    refine congr (congrArg _ rfl) ?_
    rw [← ih r.2]
    refine congr (congrArg _ ?_) (by rw [hshift])
    congr 1
    funext j
    rw [hshift]
    rfl
theorem Wk.gapsTo_all (l : List (Int × Int)) : Wk.gapsTo l l.length ++ Wk.rg (Wk.ahd 0 l l.length) 10080 = Wk.gaps 0 l := Wk.gaps_split 0 l
theorem Wk.gapsTo_len (l : List (Int × Int)) (k : Nat) : (Wk.gapsTo l k).length ≤ k := by
  unfold Wk.gapsTo
  induction k with
  | zero => simp
  | succ k ih => rw [List.range_succ, List.flatMap_append, List.length_append, List.flatMap_singleton]; have := Wk.rg_len (Wk.ahd 0 l k) (l.getD k (0, 0)).1; omega
set_option maxHeartbeats 2000000 in
set_option maxRecDepth 100000 in
theorem wk_gaps (l : List (Int × Int)) (p : Option Addr) (c : Nat) (w : World) (hA : Wk.At w p l) (hn : l.length ≤ 10000) :
    Calls Tryz.prog 68 #[.slice p l.length c] w (Wk.OwnPost (Wk.gaps 0 l) w) := by
  have HA := Lib.hid hA
  clear hA
  obtain ⟨n, hnl⟩ : ∃ n, n = l.length := ⟨_, rfl⟩
  have Hn := Lib.hid hnl
  rw [← hnl] at hn
  rw [← hnl]
  clear hnl
  go_enter Tryz.func68, Tryz.ntmps68
  go_wp2_with fail
  go_loopw [3, 4, 9] (fun v f i wr => ∃ k : Nat, k ≤ n ∧ i = .int .i64 k ∧ f = .int .i64 (Wk.ahd 0 l k) ∧ Wk.Own wr w.heap.size v (Wk.gapsTo l k) ∧ Below w.heap.size w wr) (fun _ _ i _ => n - (RowKit.intOf i).toNat)
  case atStart => exact ⟨0, Nat.zero_le _, rfl, rfl, Wk.Own.nil _ _, Below.refl _ _⟩
  case round =>
    obtain ⟨k, hk, rfl, rfl, hO, hB⟩ := hrel
    have HO := Lib.hid hO
    have HB := Lib.hid hB
    have hlen := Wk.gapsTo_len l k
    have hz := hB.size
    clear hO hB
    by_cases hlt : k < n
    · have hkl : k < l.length := by rw [← Hn.out]; exact hlt
      obtain ⟨b, off, rfl, e1, e2⟩ := (HA.out.below HB.out).get k hkl
      have HS := Lib.hid (Wk.gapsTo_succ l k hkl)
      have HD := Lib.hid (Wk.ahd_succ 0 l k hkl)
      generalize l[k] = y at e1 e2 HS HD
      obtain ⟨y1, y2⟩ := y
      simp only [] at e1 e2 HS HD
      clear hkl
      have BX := Lib.hid (wk_box wr (.cells #[.int .i64 y1, .int .i64 y2] 56))
      have X0 := Lib.hid (wk_new wr (.cells #[.int .i64 y1, .int .i64 y2] 56))
      have HC := Lib.hid (wk_with (Wk.gapsTo l k) (Wk.ahd 0 l k) y1 u3 w.heap.size _ (HO.out.below BX.out) (by omega) (by rw [World.size_alloc]; omega))
      have hltz : (k : Int) < (n : Int) := by omega
      go_wp2_with fail
      refine HC.out.mono ?_
      rintro e w2 ⟨v2, rfl, hO2, hg2, hk2⟩
      have HO2 := Lib.hid hO2
      have X2 := Lib.hid ((hg2.block wr.heap.size (by rw [World.size_alloc]; omega) (fun e => by have := (HO.out.lt wr.heap.size e.symm).2; omega)).trans X0.out)
      have B2 := Lib.hid (HB.out.trans ((BX.out.mono hz).trans (wk_grown_below hg2 (HO.out.below BX.out) (by rw [World.size_alloc]; omega))))
      clear hO2 hg2 hk2 e1 e2
      obtain ⟨c0, c1, f0, f1⟩ := Wk.two_of X2.out
      go_wp2_with fail
      exact ⟨⟨k + 1, by omega, by go_num, by rw [HD.out], by rw [HS.out]; exact HO2.out, B2.out⟩, by simp [RowKit.intOf]; omega⟩
    · obtain rfl : k = n := by omega
      have HS := Lib.hid (Wk.gapsTo_all l)
      rw [← Hn.out] at HS
      have HC := Lib.hid (wk_with (Wk.gapsTo l k) (Wk.ahd 0 l k) 10080 u3 w.heap.size _ HO.out (by omega) hz)
      go_wp2_with fail
      refine HC.out.mono ?_
      rintro e w2 ⟨v2, rfl, hO2, hg2, hk2⟩
      have HO2 := Lib.hid hO2
      have B2 := Lib.hid (HB.out.trans (wk_grown_below hg2 HO.out hz))
      clear hO2 hg2 hk2
      go_wp2_with fail
      go_ret
      exact ⟨_, rfl, by rw [← HS.out]; exact HO2.out, B2.out⟩
end Go.Proofs.YtpaleljnkejdgaaGreatDoor
