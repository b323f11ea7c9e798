
/-
  The walks of slices.IndexFunc at texts with trail's closure, and of trail.first: the record that blocks begin with. Conditions: sum's table reads as it is laid; there are at most 4096 blocks of 64 bytes each.
-/
import Derived.Test.YtpmhgfjnabgilabDoorTrSmall
import Derived.Test.YtpmhgfjnabgilabDoorHasAll
import Derived.Test.YtpmhgfjnabgilabDoorSumNext
import Derived.Test.YtpmhgfjnabgilabDoorCopyTexts
import Derived.Test.YtpmhgfjnabgilabDoorEqualS
import Derived.Deep.LoopGhost
import Derived.Lib.Walk
import Derived.Shelf.Abstract
namespace Go.Proofs.YtpmhgfjnabgilabDoor
open Go.RowKit Go.Lib Go.Shelf

theorem Tr.ends_eq (b : ByteArray) : ((b.extract 63 b.size).toList == [2]) = Tr.ends b := by
  unfold Tr.ends
  rw [Lib.toList_data, Wp.data_extract, List.take_of_length_le (by rw [List.length_drop, ← Wp.size_len]; omega)]
set_option maxRecDepth 100000 in
set_option maxHeartbeats 400000 in
theorem ends_any (b : ByteArray) (w : World) (h : b.size = 64) :
    Calls Tryd.prog 99 #[.string b] w fun e w' => e = .returned (.bool (Tr.ends b)) ∧ w' = w := by
  have he := Tr.ends_eq b
  have hs : (b.size : Int) = 64 := by omega
  go_enter Tryd.func99, Tryd.ntmps99
  go_wp2_with fail
  go_ret
  exact ⟨by rw [← he, h]; rfl, rfl⟩

/-- What slices.IndexFunc hands back, one more. -/
theorem Tr.many_found (l : List ByteArray) (k : Nat) (hk : k < l.length) (h1 : Tr.ends l[k] = true) (h2 : ∀ j (hj : j < l.length), j < k → Tr.ends l[j] = false) : (k : Int) = (Tr.manyOf l : Int) - 1 := by
  have : l.findIdx Tr.ends = k := by
    rw [List.findIdx_eq hk]
    exact ⟨h1, fun j hj => h2 j (by omega) hj⟩
  unfold Tr.manyOf
  rw [this, if_pos hk]
  omega
theorem Tr.many_none (l : List ByteArray) (h2 : ∀ j (hj : j < l.length), j < l.length → Tr.ends l[j] = false) : (-1 : Int) = (Tr.manyOf l : Int) - 1 := by
  have : ¬ l.findIdx Tr.ends < l.length := by
    intro c
    have := List.findIdx_getElem (p := Tr.ends) (xs := l) (w := c)
    rw [h2 _ c c] at this
    cases this
  unfold Tr.manyOf
  rw [if_neg this]
  rfl
set_option maxHeartbeats 800000 in
set_option maxRecDepth 100000 in
theorem tr_index (l : List ByteArray) (p : Option Addr) (c : Nat) (w : World) (hn : l.length ≤ 4096) (hA : Wp.At Wp.mkT w p l) (hs : ∀ x ∈ l, x.size = 64) :
    Calls Tryd.prog 98 #[.slice p l.length c, .func (.func 99) #[] #[]] w fun e w' => e = .returned (.int .i64 ((Tr.manyOf l : Int) - 1)) ∧ w' = w := by
  have HA := Lib.hid hA
  have HS := Lib.hid hs
  have HF := Lib.hid (Tr.many_found l)
  have HN := Lib.hid (Tr.many_none l)
  clear hA hs
  generalize (Tr.manyOf l : Int) - 1 = M at *
  obtain ⟨n, hnl⟩ : ∃ n, n = l.length := ⟨_, rfl⟩
  have Hn := Lib.hid hnl
  rw [← hnl] at hn
  rw [← hnl]
  clear hnl
  go_enter Tryd.func98, Tryd.ntmps98
  go_wp2
  go_loopg [5, 8] n (fun gg _ s8 wr => ∃ kk : Nat, kk ≤ n ∧ n - kk ≤ gg ∧ s8 = .int .i64 kk ∧ wr = w ∧ Aside (∀ j (hj : j < l.length), j < kk → Tr.ends l[j] = false))
  case atStart => exact ⟨0, Nat.zero_le _, by omega, rfl, rfl, fun j _ hj => absurd hj (Nat.not_lt_zero _)⟩
  case round =>
    obtain ⟨kk, hkk, hg, rfl, rfl, A⟩ := hrel
    by_cases hlt : kk < n
    · have hltz : (kk : Int) < (n : Int) := by omega
      have hkl : kk < l.length := by rw [← Hn.out]; exact hlt
      obtain ⟨b, off, rfl, e1⟩ := HA.out.get kk hkl
      rw [show Wp.mkT l[kk] = Value.string l[kk] from rfl] at e1
      have hy := HS.out l[kk] (List.getElem_mem _)
      have hf := HF.out kk hkl
      have hA2 := fun (h : Tr.ends l[kk] = false) => (show Aside (∀ j (hj : j < l.length), j < kk + 1 → Tr.ends l[j] = false) from fun j hj h2 => by
        by_cases e : j = kk
        · subst e; exact h
        · exact A.out j hj (by omega))
      have HF2 := Lib.hid hf
      have HA2 := Lib.hid hA2
      clear hf hA2
      generalize l[kk] = y at e1 hy HF2 HA2
      clear hkl
      cases hq : Tr.ends y with
      | true =>
        have HR := Lib.hid (HF2.out hq A.out)
        have hE := ends_any y wr hy
        rw [hq] at hE
        have HE := Lib.hid hE
        clear hE
        go_wp2_with fail
        refine HE.out.mono ?_
        rintro e w' ⟨rfl, rfl⟩
        clear e1
        go_wp2_with fail
        go_ret
        exact ⟨by rw [← HR.out]; rfl, rfl⟩
      | false =>
        have HR := Lib.hid (HA2.out hq)
        have hE := ends_any y wr hy
        rw [hq] at hE
        have HE := Lib.hid hE
        clear hE
        go_wp2_with fail
        refine HE.out.mono ?_
        rintro e w' ⟨rfl, rfl⟩
        clear e1
        go_wp2_with fail
        go_roundg (n - (kk + 1))
        case measure => omega
        case rel => exact ⟨kk + 1, by omega, by omega, by go_num, rfl, HR.out⟩
    · have hltz : ¬ (kk : Int) < (n : Int) := by omega
      have : kk = n := by omega
      subst this
      have HR := Lib.hid (HN.out (fun j hj _ => A.out j hj (by rw [Hn.out]; exact hj)))
      go_wp2
      go_ret
      exact ⟨by rw [← HR.out]; rfl, rfl⟩

theorem Wp.At.take {w : World} {p : Option Addr} {l : List ByteArray} (h : Wp.At Wp.mkT w p l) (k : Nat) : Wp.At Wp.mkT w p (l.take k) := by
  rcases h with rfl | ⟨b, off, hp, hc⟩
  · exact Or.inl (by simp)
  · refine Or.inr ⟨b, off, hp, fun i hi => ?_⟩
    rw [List.length_take] at hi
    rw [List.getElem_take]
    exact hc i (by omega)
theorem Tr.pcs_take (l : List ByteArray) (k : Nat) (h : k < l.length) : Tr.pcs (l.take (k + 1)) = Tr.pcs (l.take k) ++ (l[k].extract 0 63).data.toList := by
  unfold Tr.pcs
  rw [List.take_succ_eq_append_getElem h, List.map_append, List.flatten_append, List.map_singleton, List.flatten_singleton, Wp.data_extract]
  simp
theorem Tr.pcs_len (l : List ByteArray) : (Tr.pcs l).length ≤ 63 * l.length := by
  induction l with
  | nil => simp [Tr.pcs]
  | cons x l ih =>
    simp only [Tr.pcs, List.map_cons, List.flatten_cons, List.length_append, List.length_cons, List.length_take] at ih ⊢
    omega
set_option maxHeartbeats 800000 in
set_option maxRecDepth 100000 in
theorem first_any (l : List ByteArray) (p : Option Addr) (c : Nat) (w : World) (hL : Sp.Laid w) (hn : l.length ≤ 4096) (hc : l.length ≤ c) (hA : Wp.At Wp.mkT w p l) (hs : ∀ x ∈ l, x.size = 64) :
    Calls Tryd.prog 72 #[.slice p l.length c] w fun e w' => e = .returned (.tuple #[.string (Wp.B (Tr.first l).1), .int .i64 ((Tr.first l).2 : Int)]) ∧ Below w.heap.size w w' := by
  have HI := Lib.hid (tr_index l p c w hn hA hs)
  obtain ⟨m, hm⟩ : ∃ m, m = Tr.manyOf l := ⟨_, rfl⟩
  have hml : m ≤ l.length := by rw [hm]; exact Tr.manyOf_le l
  obtain ⟨t, ht⟩ : ∃ t, t = l.take m := ⟨_, rfl⟩
  have htl : t.length = m := by rw [ht, List.length_take]; omega
  have hAt : Wp.At Wp.mkT w p t := by rw [ht]; exact hA.take m
  have hst : ∀ x ∈ t, x.size = 64 := fun x hx => hs x (by rw [ht] at hx; exact List.mem_of_mem_take hx)
  have HL := Lib.hid hL
  have HA := Lib.hid hAt
  have HS := Lib.hid hst
  have hf : Tr.first l = if (Sp.nextR (Tr.pcs t)).2.2 ≠ 0 then ([], 0) else if Tr.cutB (Sp.nextR (Tr.pcs t)).1 = t then ((Sp.nextR (Tr.pcs t)).1, m) else ([], 0) := by unfold Tr.first; rw [← hm, ← ht]
  rw [← hm] at HI
  have hmz : (m : Int) - 1 + 1 = m := by omega
  have Hf := Lib.hid hf
  have HT := Lib.hid htl
  have hT4 : m ≤ 4096 := by omega
  generalize Tr.first l = R at *
  clear hL hA hs hAt hst hm ht hf htl
  generalize l.length = n at *
  go_enter Tryd.func72, Tryd.ntmps72
  go_wp2_with fail
  refine HI.out.mono ?_
  rintro e w1 ⟨rfl, rfl⟩
  go_wp2_with fail
  rw [show (1 : Int) + ((m : Int) - 1) = (m : Int) by omega, Int.toNat_natCast, show max (m : Int) 0 = (m : Int) by omega]
  have Hbd := Lib.hid (show Lib.IsBuilder 97 5 w1.heap.size w1.heap.size (Lib.byteCells (Tr.pcs (t.take 0))) (w1.alloc (.cells #[.pointer none, .slice none 0 0] 97)) from isBuilder_new _ _ _)
  have hB1 : Below w1.heap.size w1 (w1.alloc (.cells #[.pointer none, .slice none 0 0] 97)) := (Below.refl _ _).alloc (Nat.le_refl _) _
  go_loopw [7, 20] (fun _ i wr => ∃ k : Nat, k ≤ m ∧ i = .int .i64 k ∧ Hid (Lib.IsBuilder 97 5 w1.heap.size w1.heap.size (Lib.byteCells (Tr.pcs (t.take k))) wr) ∧ Below w1.heap.size w1 wr) (fun _ i _ => m - (RowKit.intOf i).toNat)
  case atStart => exact ⟨0, Nat.zero_le _, rfl, Hbd, hB1⟩
  case round =>
    obtain ⟨k, hk, rfl, Hbd2, hB⟩ := hrel
    have hBs := hB.size
    by_cases hlt : k < m
    · have hkl : k < t.length := by rw [HT.out]; exact hlt
      obtain ⟨b, off, rfl, hcell⟩ := (HA.out.below hB).get k hkl
      rw [show Wp.mkT t[k] = Value.string t[k] from rfl] at hcell
      have hsx := HS.out t[k] (List.getElem_mem _)
      have Hj := Lib.hid (Tr.pcs_take t k hkl)
      have Hlen := Lib.hid (Tr.pcs_len (t.take k))
      have hl4 : (t.take k).length ≤ 4096 := by rw [List.length_take]; omega
      obtain ⟨x, hxe⟩ : ∃ x, x = t[k] := ⟨_, rfl⟩
      rw [← hxe] at hcell hsx Hj
      clear hxe hkl
      have hsz : (x.size : Int) = 64 := by omega
      go_wp2_with fail
      refine (Tryd.Builder_Write w1.heap.size w1.heap.size _ (x.extract 0 63) _ Hbd2.out (by rw [Lib.byteCells_length, ByteArray.size_extract]; have := Hlen.out; omega) hBs).mono ?_
      rintro e w4 ⟨rfl, hbd4, hb4⟩
      have hbd4' := Lib.hid hbd4
      clear hbd4
      go_wp2_with fail
      refine ⟨⟨k + 1, by omega, by go_num, Lib.hid ?_, hB.trans hb4⟩, by simp [RowKit.intOf]; omega⟩
      have := hbd4'.out
      rw [cells_join, ← Hj.out] at this
      exact Or.inr this
    · obtain rfl : k = m := by omega
      have hbd1 := Hbd2.out
      rw [show t.take k = t by rw [← HT.out, List.take_length]] at hbd1
      have hpl := Tr.pcs_len t
      rw [HT.out] at hpl
      have Hpl := Lib.hid hpl
      clear hpl
      go_wp2_with fail
      refine (Tryd.Builder_String_any w1.heap.size w1.heap.size _ _ hbd1 hBs).mono ?_
      rintro e w3 ⟨rfl, hb3⟩
      clear hbd1
      obtain ⟨⟨q, r2, e2⟩, hg⟩ : ∃ g, Sp.nextR (Tr.pcs t) = g := ⟨_, rfl⟩
      have hb4 := hB.trans hb3
      have hnx := next_any (Wp.B (Tr.pcs t)) w3 (HL.out.below hb4) (by rw [Wp.B_size]; have := Hpl.out; omega)
      rw [show Sp.nx (Wp.B (Tr.pcs t)) = (q, r2, e2) from hg] at hnx
      have Hnx := Lib.hid (show Calls Tryd.prog 100 #[.string ⟨(Tr.pcs t).toArray⟩] w3 fun e w' => e = .returned (.tuple #[.string (Wp.B q), .string (Wp.B r2), .int .i64 e2]) ∧ Below w3.heap.size w3 w' from hnx)
      have hf := Hf.out
      rw [hg] at hf
      have hb4s := hb4.size
      by_cases he : e2 = 0
      · subst he
        obtain ⟨_, hq⟩ := Sp.nextR_ok _ _ _ hg
        rw [if_neg (by simp)] at hf
        have hcu := fun W hW => cut_any (Wp.B q) W hW (by rw [Wp.B_size]; omega)
        have hq2 : ¬ 32768 < (Wp.B q).size := by rw [Wp.B_size]; omega
        rw [show Tr.cutR (Wp.B q) = Tr.cutB q from (if_neg hq2).trans (by rw [Wp.B_data]), show Tr.cutC (Wp.B q) = 0 from if_neg hq2] at hcu
        have hcl : (Tr.cutB q).length ≤ 4096 := by
          have := Wp.numB_len q.length
          rw [Tr.cutB_len, Sp.frameB, List.length_append, List.length_append, Sp.four_len]
          omega
        generalize Tr.cutB q = X at *
        have Hcu := Lib.hid hcu
        have Hf2 := Lib.hid hf
        clear hnx hcu hf hg Hf hq2 Hpl
        go_wp2_with fail
        refine Hnx.out.mono ?_
        rintro e w5 ⟨rfl, hb5⟩
        have hb6 := hb4.trans (hb5.mono hb4s)
        have hb6s := hb6.size
        go_wp2_with fail
        refine (Hcu.out _ (HL.out.below hb6)).mono ?_
        rintro e w6 ⟨v6, rfl, ho6, hb7⟩
        obtain ⟨p6, c6, rfl, ha6⟩ := owns_at ho6
        have hb8 := hb6.trans (hb7.mono hb6s)
        have HA6 := Lib.hid ha6
        have heq := equal_any p6 p c6 c X t w6 hcl (by rw [HT.out]; exact hT4) ha6 (HA.out.below hb8)
        rw [HT.out] at heq
        have Heq := Lib.hid heq
        clear heq ha6 ho6
        have hb8s := hb8.size
        by_cases hq : X = t
        · rw [if_pos hq] at Hf2
          rw [decide_eq_true hq] at Heq
          clear hq
          go_wp2_with fail
          refine Heq.out.mono ?_
          rintro e w7 ⟨rfl, hb9⟩
          go_wp2_with fail
          go_ret2
          exact ⟨by rw [Hf2.out]; rfl, hb8.trans (hb9.mono hb8s)⟩
        · rw [if_neg hq] at Hf2
          rw [decide_eq_false hq] at Heq
          clear hq
          go_wp2_with fail
          refine Heq.out.mono ?_
          rintro e w7 ⟨rfl, hb9⟩
          go_wp2_with fail
          go_ret2
          exact ⟨by rw [Hf2.out]; rfl, hb8.trans (hb9.mono hb8s)⟩
      · have hb1 : (e2 != 0) = true := by rw [bne_iff_ne]; exact he
        rw [if_pos he] at hf
        have Hf2 := Lib.hid hf
        clear hnx hf hg Hf he
        go_wp2_with fail
        refine Hnx.out.mono ?_
        rintro e w5 ⟨rfl, hb5⟩
        go_wp2_with fail
        go_ret2
        exact ⟨by rw [Hf2.out]; rfl, hb4.trans (hb5.mono hb4s)⟩
end Go.Proofs.YtpmhgfjnabgilabDoor
