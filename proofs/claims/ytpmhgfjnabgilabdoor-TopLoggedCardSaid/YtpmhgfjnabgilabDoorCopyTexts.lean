
/-
  The walk of block.copyTexts: texts copied into memory of their own. Conditions: at most 4096 texts, none longer than a block.
-/
import Derived.Test.YtpmhgfjnabgilabDoorDevAt
import Derived.Test.YtpmhgfjnabgilabDoorBuilder
import Derived.Lib.BufferWrite
namespace Go.Proofs.YtpmhgfjnabgilabDoor
open Go.RowKit

def Wp.join (l : List ByteArray) : List UInt8 := (l.map fun x => x.data.toList).flatten
set_option maxRecDepth 100000 in
theorem Wp.join_take (l : List ByteArray) (k : Nat) (h : k < l.length) : Wp.join (l.take (k + 1)) = Wp.join (l.take k) ++ l[k].data.toList := by
  unfold Wp.join
  rw [List.take_succ_eq_append_getElem h, List.map_append, List.flatten_append, List.map_singleton, List.flatten_singleton]
set_option maxRecDepth 100000 in
theorem Wp.join_drop (l : List ByteArray) (k : Nat) (h : k < l.length) : Wp.join (l.drop k) = l[k].data.toList ++ Wp.join (l.drop (k + 1)) := by
  unfold Wp.join
  rw [List.drop_eq_getElem_cons h, List.map_cons, List.flatten_cons]
set_option maxRecDepth 100000 in
theorem Wp.ext_head (x : ByteArray) (r : List UInt8) : (Wp.B (x.data.toList ++ r)).extract 0 x.size = x := by
  rw [Wp.extract_B, Wp.B_data, List.drop_zero, Nat.sub_zero, Wp.size_len, List.take_left, Wp.B_of]
set_option maxRecDepth 100000 in
theorem Wp.ext_tail (x : ByteArray) (r : List UInt8) : (Wp.B (x.data.toList ++ r)).extract x.size (Wp.B (x.data.toList ++ r)).size = Wp.B r := by
  rw [Wp.extract_B, Wp.B_data, Wp.B_size, Wp.size_len, List.drop_left, List.length_append, Nat.add_sub_cancel_left, List.take_length]
set_option maxRecDepth 100000 in
theorem cells_join (a : List UInt8) (b : ByteArray) : Lib.byteCells a ++ Lib.strCells b = Lib.byteCells (a ++ b.data.toList) := by
  rw [Lib.strCells_eq, Lib.byteCells_append]
set_option maxRecDepth 100000 in
theorem Wp.join_len (l : List ByteArray) (h : ∀ x ∈ l, x.size ≤ 64) : (Wp.join l).length ≤ 64 * l.length := by
  induction l with
  | nil => simp [Wp.join]
  | cons x l ih =>
    have h1 := ih (fun y hy => h y (by simp [hy]))
    have h2 := h x (by simp)
    simp only [Wp.join, List.map_cons, List.flatten_cons, List.length_append, List.length_cons] at h1 ⊢
    rw [← Wp.size_len]
    omega

set_option maxRecDepth 100000 in
theorem infoText_some : ∃ i, Tryd.prog.info? 9 = some i ∧ i.zero = some (.string ⟨#[]⟩) ∧ i.size = 1 ∧ i.bytes = 16 := info_parts (by kernel_rfl)
set_option maxRecDepth 100000 in
set_option maxHeartbeats 2000000 in
theorem copyTexts_any (p : Option Addr) (c : Nat) (l : List ByteArray) (w : World) (hn : l.length ≤ 4096) (hl : Wp.At Wp.mkT w p l) (hx : ∀ x ∈ l, x.size ≤ 64) :
    Calls Tryd.prog 68 #[.slice p l.length c] w fun e w' => ∃ v, e = .returned v ∧ w'.ownsRow w.heap.size 9 1 v l.length (l.map Wp.mkT) ∧ Below w.heap.size w w' := by
  obtain ⟨n, hnn⟩ : ∃ n, n = l.length := ⟨_, rfl⟩
  have hn' : n ≤ 4096 := by omega
  have Hn := Lib.hid hnn
  have hjl : ∀ k, (Wp.join (l.take k)).length ≤ 64 * 4096 := fun k => by
    have := Wp.join_len (l.take k) (fun x h => hx x (List.mem_of_mem_take h))
    have h3 : (l.take k).length ≤ 4096 := by rw [List.length_take]; omega
    omega
  have Hjl := Lib.hid hjl
  have Hx := Lib.hid hx
  have Hl := Lib.hid hl
  rw [← hnn]
  clear hnn hjl hx hl hn
  go_enter Tryd.func68, Tryd.ntmps68
  go_wp2_with fail
  refine (Tryd.Builder_Grow_fresh w.heap.size w.heap.size (n * 64) _ (Nat.le_refl _) (by show (w.heap.push _)[w.heap.size]? = _; simp) (by simp) (by omega)).mono ?_
  rintro e w1 ⟨rfl, hbd, hb⟩
  have hB1 : Below w.heap.size w w1 := ((Below.refl _ w).alloc (Nat.le_refl _) _).trans hb
  have hw1 : w.heap.size < w1.heap.size := by have := hb.size; simp at this; omega
  have Hbd := Lib.hid (show Lib.IsBuilder 97 5 w.heap.size w.heap.size (Lib.byteCells (Wp.join (l.take 0))) w1 from Or.inr hbd)
  clear hbd hb
  go_wp2_with fail
  go_loopw [5, 16] (fun _ t wr => ∃ k : Nat, k ≤ n ∧ t = .int .i64 k ∧ Lib.IsBuilder 97 5 w.heap.size w.heap.size (Lib.byteCells (Wp.join (l.take k))) wr ∧ Below w.heap.size w wr) (fun _ t _ => n - (intOf t).toNat)
  case atStart => exact ⟨0, Nat.zero_le _, rfl, Hbd.out, hB1⟩
  case round =>
    obtain ⟨k, hk, rfl, hbd, hB⟩ := hrel
    have Hbd := Lib.hid hbd
    clear hbd
    by_cases hlt : k < n
    · have hkl : k < l.length := by rw [← Hn.out]; exact hlt
      obtain ⟨b, off, rfl, hcell⟩ := (Hl.out.below hB).get k hkl
      rw [show Wp.mkT l[k] = Value.string l[k] from rfl] at hcell
      have hsx := Hx.out l[k] (List.getElem_mem _)
      have Hj := Lib.hid (Wp.join_take l k hkl)
      have Hlen := Lib.hid (Hjl.out k)
      obtain ⟨x, hxe⟩ : ∃ x, x = l[k] := ⟨_, rfl⟩
      rw [← hxe] at hcell hsx Hj
      clear hxe hkl
      go_wp2_with fail
      refine (Tryd.Builder_Write w.heap.size w.heap.size _ x _ Hbd.out (by rw [Lib.byteCells_length]; have := Hlen.out; omega) hB.size).mono ?_
      rintro e w4 ⟨rfl, hbd4, hb4⟩
      have hbd4' := Lib.hid hbd4
      clear hbd4
      go_wp2_with fail
      refine ⟨⟨k + 1, by omega, by go_num, ?_, hB.trans hb4⟩, by simp [intOf]; omega⟩
      have := hbd4'.out
      rw [cells_join, ← Hj.out] at this
      exact Or.inr this
    · obtain rfl : k = n := by omega
      have hbd1 := Hbd.out
      rw [Hn.out, List.take_length] at hbd1
      go_wp2_with fail
      refine (Tryd.Builder_String_any w.heap.size w.heap.size _ _ hbd1 hB.size).mono ?_
      rintro e w3 ⟨rfl, hb3⟩
      clear hbd1
      obtain ⟨it, hit, hit0, hit1, hit2⟩ := infoText_some
      have hmk := run_makeSlice (P := Tryd.prog) w3 22 9 it (.string ⟨#[]⟩) Tryd.underlying22 hit hit0 .i64 .i64 (k : Int) (k : Int) (by omega) (by omega) (by rw [hit1]; omega) (by rw [hit2]; omega) (by omega)
      rw [hit1, Nat.mul_one, Int.toNat_natCast] at hmk
      have hB3 : Below w.heap.size w w3 := hB.trans hb3
      generalize hC0 : madeCells (Value.string ⟨#[]⟩).cells k = C0 at hmk
      go_wp2_with fail
      have hg3 : w.heap.size ≤ w3.heap.size := hB3.size
      have hC0s : C0.size = k := by rw [← hC0, size_madeCells]
      clear hC0 hmk
      go_loopw [6, 29] (fun r t wr => ∃ (j : Nat) (C : Array Value), j ≤ k ∧ t = .int .i64 j ∧ r = .string (Wp.B (Wp.join (l.drop j))) ∧ wr.heap[w3.heap.size]? = some (.cells C 9 (0, 0)) ∧ C.size = k ∧ (∀ i (hi : i < l.length), i < j → C[i]? = some (Wp.mkT l[i])) ∧ Below w.heap.size w wr) (fun _ t _ => k - (intOf t).toNat)
      case atStart => exact ⟨0, C0, Nat.zero_le _, rfl, rfl, by show (w3.heap.push _)[w3.heap.size]? = _; simp, hC0s, fun i _ h => absurd h (Nat.not_lt_zero _), hB3.alloc hg3 _⟩
      case round =>
        obtain ⟨j, C, hj, rfl, rfl, hC, hCs, hgood, hB4⟩ := hrel
        have Hgood := Lib.hid hgood
        clear hgood
        by_cases hlt2 : j < k
        · have hkl : j < l.length := by rw [← Hn.out]; exact hlt2
          obtain ⟨b, off, rfl, hcell⟩ := (Hl.out.below hB4).get j hkl
          rw [show Wp.mkT l[j] = Value.string l[j] from rfl] at hcell
          have hsx := Hx.out l[j] (List.getElem_mem _)
          have hj1 := Wp.join_drop l j hkl
          have hgood2 := fun (C2 : Array Value) (h0 : C2[j]? = some (Wp.mkT l[j])) (h : ∀ i, i < j → C2[i]? = C[i]?) => (fun i (hi : i < l.length) (h2 : i < j + 1) => (if e : i = j then by subst e; exact h0 else by rw [h i (by omega)]; exact Hgood.out i hi (by omega)) : ∀ i (hi : i < l.length), i < j + 1 → C2[i]? = some (Wp.mkT l[i]))
          have Hgood2 := Lib.hid hgood2
          clear hgood2
          obtain ⟨x, hxe⟩ : ∃ x, x = l[j] := ⟨_, rfl⟩
          rw [← hxe] at hcell hsx hj1 Hgood2
          clear hxe hkl
          obtain ⟨r2, hr2⟩ : ∃ r2, r2 = Wp.join (l.drop (j + 1)) := ⟨_, rfl⟩
          rw [← hr2] at hj1
          rw [hj1]
          obtain ⟨r, hr⟩ : ∃ r, r = Wp.B (x.data.toList ++ r2) := ⟨_, rfl⟩
          rw [← hr]
          have hrs : (x.size : Int) ≤ r.size := by rw [hr, Wp.B_size, List.length_append, ← Wp.size_len]; omega
          have e1 : r.extract 0 x.size = x := by rw [hr, Wp.ext_head]
          have e2 : r.extract x.size r.size = Wp.B r2 := by rw [hr, Wp.ext_tail]
          have hsl1 : ∀ W, (Instr.sliceAt 9 (.string r) none (some (.int .i64 (x.size : Int))) none).run Tryd.prog W = .ok (.string x) W := by
            intro W
            rw [run_sliceAt_string (h := Tryd.underlying9), run_slice_string_h (ht := Tryd.underlying9) (h0 := by omega) (h2 := hrs), Int.toNat_natCast, e1]
          have hsl2 : ∀ W, (Instr.sliceAt 9 (.string r) (some (.int .i64 (x.size : Int))) none none).run Tryd.prog W = .ok (.string (Wp.B r2)) W := by
            intro W
            rw [run_sliceAt_string (h := Tryd.underlying9), run_slice_string_l (ht := Tryd.underlying9) (h0 := by omega) (h1 := hrs), Int.toNat_natCast, e2]
          have Hr := Lib.hid hr2
          have He1 := Lib.hid e1
          have He2 := Lib.hid e2
          clear hr2 hj1 hr e1 e2
          have hcg : wr.cell? ⟨w3.heap.size, j, none⟩ = some (C[j]'(by omega)) := by rw [Lib.cell_of_heap hC, Array.getElem?_eq_getElem]
          have hfg : wr.frozen? ⟨w3.heap.size, j, none⟩ = false := by simp [World.frozen?, hC]
          have HC := Lib.hid hC
          clear hC
          go_wp2_with fail
          go_region_with (fail)
          go_wp2_with fail
          refine ⟨⟨j + 1, C.setIfInBounds j (.string x), by omega, by go_num, by rw [Hr.out], ?_, by rw [Array.size_setIfInBounds]; exact hCs, Hgood2.out _ (by rw [Array.getElem?_setIfInBounds, if_pos rfl, if_pos (by omega)]; rfl) (fun i hi => by rw [Array.getElem?_setIfInBounds, if_neg (by omega)]), ?_⟩, by simp [intOf]; omega⟩
          · exact Lib.heap_setCell_same (i := j) HC.out _
          · exact (hB4.setCell (p := ⟨w3.heap.size, j, none⟩) hg3 _).drew
        · obtain rfl : j = k := by omega
          go_wp2_with fail
          go_ret
          refine ⟨_, rfl, ⟨by rw [List.length_map, ← Hn.out, Nat.mul_one], Or.inr ⟨w3.heap.size, j, C, rfl, hg3, hC, Nat.le_refl _, by unfold maxLen; omega, by omega, ?_⟩⟩, hB4⟩
          rw [Nat.mul_one]
          apply List.ext_getElem?
          intro i
          by_cases hi : i < j
          · have hil : i < l.length := by rw [← Hn.out]; exact hi
            rw [List.getElem?_take_of_lt hi, Array.getElem?_toList, Hgood.out i hil hi, List.getElem?_map, List.getElem?_eq_getElem hil]
            rfl
          · rw [List.getElem?_eq_none (by rw [List.length_take, Array.length_toList]; omega), List.getElem?_eq_none (by rw [List.length_map, ← Hn.out]; omega)]
end Go.Proofs.YtpmhgfjnabgilabDoor
