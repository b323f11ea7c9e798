
/-
  The walks of slices.Repeat at one text, and of block.Make. Conditions: from 1 to 4096 blocks.
-/
import Derived.Test.YtpmhgfjnabgilabDoorHasAll
import Derived.Test.YtpmhgfjnabgilabDoorLaid
import Derived.Test.YtpmhgfjnabgilabDoorShelf
import Derived.Laws.CopyOwn
import Derived.Deep.RegionLaw
namespace Go.Proofs.YtpmhgfjnabgilabDoor
open Go.RowKit

set_option maxRecDepth 100000 in
theorem wrap_id (n : Nat) (h : n ≤ 4096) : IntKind.u64.wrap (n : Int) = (n : Int) := by
  simp [IntKind.wrap, IntKind.signed, IntKind.bits]; omega
set_option maxRecDepth 100000 in
theorem wrap_add (k q : Nat) (h : k + q ≤ 4096) : IntKind.i64.wrap ((k : Int) + (q : Int)) = ((k + q : Nat) : Int) := by
  simp [IntKind.wrap, IntKind.signed, IntKind.bits]; omega
set_option maxRecDepth 100000 in
set_option maxHeartbeats 1000000 in
theorem repeat_any (z : ByteArray) (b c n : Nat) (w : World) (h1 : 1 ≤ n) (h2 : n ≤ 4096) (hc : w.cell? ⟨b, 0, none⟩ = some (.string z)) :
    Calls Tryd.prog 32 #[.slice (some ⟨b, 0, none⟩) 1 c, .int .i64 n] w fun e w' => ∃ v, e = .returned v ∧ w'.ownsRow w.heap.size 9 1 v n (List.replicate n (.string z)) ∧ Below w.heap.size w w' := by
  obtain ⟨it, hit, hit0, hit1, hit2⟩ := infoText_some
  have hmk := run_makeSlice (P := Tryd.prog) w 22 9 it (.string ⟨#[]⟩) Tryd.underlying22 hit hit0 .i64 .i64 (n : Int) (n : Int) (by omega) (by omega) (by rw [hit1]; omega) (by rw [hit2]; omega) (by omega)
  rw [hit1, Nat.mul_one, Int.toNat_natCast] at hmk
  have hC0s : (madeCells (Value.string ⟨#[]⟩).cells n).size = n := by rw [size_madeCells]
  generalize madeCells (Value.string ⟨#[]⟩).cells n = C0 at hmk hC0s
  have hmul := fun w => Tryd.bits_Mul 1 n (by omega) (by omega) w
  rw [Nat.one_mul, Nat.div_eq_of_lt (by omega : n < 18446744073709551616), Nat.mod_eq_of_lt (by omega : n < 18446744073709551616)] at hmul
  have hcp := run_copy_row Tryd.prog (w.alloc (.cells C0 9)) 22 22 3 9 w.heap.size 0 n n ⟨b, 0, none⟩ 1 c C0 9 [.string z] Tryd.underlying22 (by rw [hit]; simp [hit1]) (alloc_new w _) (by show 1 = Nat.min 1 n; exact (Nat.min_eq_left h1).symm) (by
    intro j v hj
    cases j with
    | zero =>
      simp at hj
      subst hj
      have e : (⟨b, 0, none⟩ : Addr).add 0 = ⟨b, 0, none⟩ := by simp [Addr.add]
      rw [e]
      exact Lib.cell?_alloc_some _ hc
    | succ j => simp at hj) (by simp; omega) (by simp [Value.oneCell'])
  rw [setRow_alloc] at hcp
  simp only [List.take_zero, List.nil_append, List.length_singleton, Nat.zero_add] at hcp
  have hC1 : ∃ C1 : Array Value, C1 = ([Value.string z] ++ C0.toList.drop 1).toArray := ⟨_, rfl⟩
  obtain ⟨C1, hC1⟩ := hC1
  rw [← hC1] at hcp
  have hC1s : C1.size = n := by rw [hC1]; simp; omega
  have hC1z : ∀ j, j < 1 → C1[j]? = some (.string z) := by intro j hj; rw [hC1]; have : j = 0 := by omega
                                                           subst this; rfl
  have HC1s := Lib.hid hC1s
  have HC1z := Lib.hid hC1z
  have hw1 := wrap_id n h2
  clear hC1 hC1s hC1z hC0s
  go_enter Tryd.func32, Tryd.ntmps32
  go_wp2_with fail
  refine (hmul _).mono ?_
  rintro e w1 ⟨rfl, rfl⟩
  go_wp2_with fail
  go_loopw [8] (fun t wr => ∃ (k : Nat) (C : Array Value), 1 ≤ k ∧ k ≤ n ∧ t = .int .i64 k ∧ wr.heap[w1.heap.size]? = some (.cells C 9 (0, 0)) ∧ C.size = n ∧ (∀ j, j < k → C[j]? = some (.string z)) ∧ Below w1.heap.size w1 wr) (fun t _ => n - (intOf t).toNat)
  case atStart => exact ⟨1, C1, Nat.le_refl _, h1, rfl, alloc_new _ _, HC1s.out, HC1z.out, (Below.refl _ _).alloc (Nat.le_refl _) _⟩
  case round =>
    obtain ⟨k, C, hk1, hk, rfl, hC, hCs, hgood, hB⟩ := hrel
    have Hgood := Lib.hid hgood
    clear hgood
    by_cases hlt : k < n
    · have hk0 : (0 : Int) ≤ (k : Int) := by omega
      have hkn : (k : Int) ≤ (n : Int) := by omega
      have HC := Lib.hid hC
      clear hC
      have hnk : ¬ n = k := by omega
      obtain ⟨q, hq⟩ : ∃ q, q = Nat.min k (n - k) := ⟨_, rfl⟩
      have hq1 : q ≤ k := by rw [hq]; exact Nat.min_le_left _ _
      have hq2 : q ≤ n - k := by rw [hq]; exact Nat.min_le_right _ _
      have hq3 : 1 ≤ q := by rw [hq]; exact Nat.le_min.2 ⟨hk1, by omega⟩
      have Hq := Lib.hid hq
      clear hq
      obtain ⟨cs, hcs⟩ : ∃ cs, cs = List.replicate q (Value.string z) := ⟨_, rfl⟩
      have hcl : cs.length = q := by rw [hcs, List.length_replicate]
      have hone : ∀ v ∈ cs, v.oneCell' = true := by intro v hv; rw [hcs] at hv; rw [(List.mem_replicate.1 hv).2]; rfl
      have hsrc : ∀ j v, cs[j]? = some v → wr.drew.cell? ((⟨w1.heap.size, 0, none⟩ : Addr).add j) = some v := by
        intro j v hj
        have hjl := (List.getElem?_eq_some_iff.1 hj).1
        rw [hcl] at hjl
        have e : (⟨w1.heap.size, 0, none⟩ : Addr).add j = ⟨w1.heap.size, j, none⟩ := by simp [Addr.add]; omega
        have hv : v = .string z := by rw [hcs] at hj; exact (List.mem_replicate.1 (List.mem_of_getElem? hj)).2
        rw [e, hv]
        show wr.cell? _ = _
        rw [Lib.cell_of_heap HC.out, Hgood.out j (by omega)]
      have hfit : k + cs.length ≤ C.toList.length := by rw [hcl, Array.length_toList, hCs]; omega
      have hsz3 : (Tryd.prog.info? 9).map (·.size) = some 1 := by rw [hit]; simp [hit1]
      have hrun := run_copy_row Tryd.prog wr.drew 22 22 3 9 w1.heap.size k (n - k) (n - k) ⟨w1.heap.size, 0, none⟩ k n C 9 cs Tryd.underlying22 hsz3 HC.out (by rw [hcl]; exact Hq.out) hsrc (by rw [hcl, hCs]; omega) hone
      rw [hcl] at hrun
      obtain ⟨C2, hC2⟩ : ∃ C2, C2 = (List.take k C.toList ++ cs ++ List.drop (k + q) C.toList).toArray := ⟨_, rfl⟩
      rw [← hC2] at hrun
      have hC2s : C2.size = n := by rw [hC2]; simp only [List.size_toArray, List.length_append, List.length_take, List.length_drop, Array.length_toList, hcl, hCs]; omega
      have hC2g : ∀ j, j < k + q → C2[j]? = some (.string z) := by
        intro j hj
        rw [hC2, List.getElem?_toArray, List.append_assoc]
        by_cases hjk : j < k
        · rw [List.getElem?_append_left (by rw [List.length_take, Array.length_toList]; omega), List.getElem?_take_of_lt hjk, Array.getElem?_toList]
          exact Hgood.out j hjk
        · rw [List.getElem?_append_right (by rw [List.length_take, Array.length_toList]; omega), List.length_take, Array.length_toList, Nat.min_eq_left (by omega), List.getElem?_append_left (by omega), hcs, List.getElem?_replicate, if_pos (by omega)]
      have hw4 := setRow_heap wr.drew w1.heap.size C C2 9 (0, 0) HC.out
      have hbd : Below w1.heap.size w1 (wr.drew.setRow w1.heap.size C2) := below_setRow hB.drew (Nat.le_refl _) _
      obtain ⟨w4, hw4e⟩ : ∃ w4, w4 = wr.drew.setRow w1.heap.size C2 := ⟨_, rfl⟩
      rw [← hw4e] at hrun hw4 hbd
      have HC2s := Lib.hid hC2s
      have HC2g := Lib.hid hC2g
      have Hw4 := Lib.hid hw4
      clear hcs hone hfit hsrc hsz3 hw4e hC2 hC2s hC2g hw4
      go_wp2_with fail
      go_region_with (fail)
      simp only [List.getElem_toArray, List.getElem_cons_succ, List.getElem_cons_zero, Act.put, List.setIfInBounds_toArray, List.set_cons_succ, List.set_cons_zero]
      go_wp2_with fail
      rw [wrap_add k q (by omega)]
      exact ⟨⟨k + q, C2, by omega, by omega, rfl, Hw4.out, HC2s.out, HC2g.out, hbd⟩, by simp [intOf]; omega⟩
    · obtain rfl : k = n := by omega
      have HC := Lib.hid hC
      clear hC
      go_wp2_with fail
      go_ret
      refine ⟨_, rfl, ⟨by simp, Or.inr ⟨w1.heap.size, k, C, rfl, Nat.le_refl _, HC.out, Nat.le_refl _, by unfold maxLen; omega, by omega, ?_⟩⟩, hB⟩
      apply List.ext_getElem?
      intro i
      rw [Nat.mul_one]
      by_cases hi : i < k
      · rw [List.getElem?_take_of_lt hi, Array.getElem?_toList, Hgood.out i hi, List.getElem?_replicate, if_pos hi]
      · rw [List.getElem?_eq_none (by rw [List.length_take, Array.length_toList]; omega), List.getElem?_eq_none (by rw [List.length_replicate]; omega)]
set_option maxRecDepth 100000 in
set_option maxHeartbeats 1000000 in
/-- Make, from 1 to 4096 blocks. -/
theorem Make_any (n : Nat) (w : World) (h1 : 1 ≤ n) (h2 : n ≤ 4096) :
    Calls Tryd.prog 11 #[.int .i64 n] w fun e w' => ∃ v', e = .returned (.tuple #[v', .int .i64 0]) ∧ Wp.DevAt w' v' (Wp.Dev.make n) ∧ Below w.heap.size w w' := by
  have hl := fun w => laid_any (Wp.B []) (Wp.B []) 0 w (by simp) (by omega) (by simp [Wp.B_size])
  rw [show Wp.B [] = ⟨#[]⟩ from rfl] at hl
  obtain ⟨z, hz⟩ : ∃ z, z = Wp.laid ⟨#[]⟩ ⟨#[]⟩ 0 := ⟨_, rfl⟩
  rw [← hz] at hl
  have Hz := Lib.hid hz
  clear hz
  go_enter Tryd.func11, Tryd.ntmps11
  go_wp2_with fail
  refine (hl _).mono ?_
  rintro e w1 ⟨rfl, hb1⟩
  have hx := (hb1.block w.heap.size (by simp)).trans (alloc_new w (.cells #[.slice none 0 0, .slice none 0 0, .int .i64 0, .bool false] 38))
  have Hx := Lib.hid hx
  have s1 : w.heap.size < w1.heap.size := by have := hb1.size; simp at this; omega
  have hB1 : Below w.heap.size w w1 := ((Below.refl _ _).alloc (Nat.le_refl _) _).trans (hb1.mono (by simp))
  clear hx
  go_wp2_with fail
  refine (repeat_any z _ 1 n _ h1 h2 (by rw [World.cell?_alloc_at _ _ _ _ rfl]; rfl)).mono ?_
  rintro e w2 ⟨v, rfl, ho, hb2⟩
  rw [World.size_alloc] at ho hb2
  have hx2 := (hb2.block w.heap.size (by omega)).trans ((alloc_past _ _ _ s1).trans Hx.out)
  obtain ⟨c0, c1, c2, c3, f0, f1, f2, f3⟩ := Wp.four_of hx2
  obtain ⟨p2, q2, rfl, _⟩ := owns_at (mk := Wp.mkT) (l := List.replicate n z) (by rw [List.length_replicate, List.map_replicate]; exact ho)
  rw [List.length_replicate] at *
  have Hx2 := Lib.hid hx2
  have Ho := Lib.hid ho
  have s2 := hb2.size
  clear hx2 ho
  go_wp2_with fail
  refine bodyPost_ret (ret_cell2 rfl _ _ w.heap.size 38 _ _ rfl (four_set Hx2.out _ _ _ _) Tryd.underlying38 rfl (by kernel_rfl)) rfl ?_
  refine ⟨_, rfl, ?_, four_below ((hB1.alloc (by omega) _).trans (hb2.mono (by omega))) (Nat.le_refl _) _ _ _ _⟩
  refine devAt_rows (b1 := w1.heap.size + 1) (b2 := 0) (d := Wp.Dev.make n) ?_ (World.ownsRow_nil _ _ _ _)
  show World.ownsRow _ _ _ _ _ (List.replicate n Wp.zeros).length ((List.replicate n Wp.zeros).map Wp.mkT)
  rw [List.length_replicate, List.map_replicate, show Wp.zeros = z from Hz.out.symm]
  exact ownsRow_at Ho.out (Nat.le_refl _) (fun k hk => four_rest _ _ _ _ _ _ k (by omega))
end Go.Proofs.YtpmhgfjnabgilabDoor
