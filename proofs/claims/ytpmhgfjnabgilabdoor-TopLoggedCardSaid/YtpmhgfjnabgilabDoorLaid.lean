
/-
  The walk of block.laid: a block's data, filled up with zero bytes, and over them as many first bytes of others. Conditions: no text is longer than a block, and of the others there are so many bytes.
-/
import Derived.Test.YtpmhgfjnabgilabDoorDevAt
import Derived.Lib.BufferWrite
namespace Go.Proofs.YtpmhgfjnabgilabDoor
open Go.RowKit

set_option maxRecDepth 100000 in
theorem setRow_alloc (w : World) (C D : Array Value) (t : TypeId) : (w.alloc (.cells C t)).setRow w.heap.size D = w.alloc (.cells D t) := by
  cases w with
  | mk heap tape drawn os output =>
    unfold World.setRow World.alloc
    simp only [World.mk.injEq, and_true]
    apply Array.ext
    · simp
    · intro k h1 h2
      simp only [Array.getElem_modify, Array.getElem_push]
      simp at h1
      by_cases hk : k < heap.size
      · rw [dif_pos hk, dif_pos hk, if_neg (by omega)]
      · rw [dif_neg hk, dif_neg hk, if_pos (by omega)]
set_option maxRecDepth 100000 in
theorem alloc_new (w : World) (o : Obj) : (w.alloc o).heap[w.heap.size]? = some o := by
  show (w.heap.push _)[w.heap.size]? = _
  simp
set_option maxRecDepth 100000 in
theorem alloc_at (w : World) (o : Obj) (n : Nat) (h : n = w.heap.size) : (w.alloc o).heap[n]? = some o := by subst h; exact alloc_new w o
set_option maxRecDepth 100000 in
theorem alloc_past (w : World) (o : Obj) (n : Nat) (h : n < w.heap.size) : (w.alloc o).heap[n]? = w.heap[n]? := by
  show (w.heap.push _)[n]? = _
  rw [Array.getElem?_push_lt h, Array.getElem?_eq_getElem h]
set_option maxRecDepth 100000 in
/-- copy(dst, s): as many first bytes of s as there is room for. -/
theorem copy_some {P : Program} (w : World) (dT sT ty elem : TypeId) (g dLen dCap : Nat) (s : ByteArray) (cur : Array Value) (t : TypeId)
    (hu : P.underlying dT = some (.slice elem)) (hs : (P.info? elem).map (·.size) = some 1) (hg : w.heap[g]? = some (.cells cur t (0, 0))) (hle : dLen ≤ s.size) (hfit : dLen ≤ cur.size) :
    (Builtin.copy_ #[dT, sT] ty #[.slice (some ⟨g, 0, none⟩) dLen dCap, .string s]).run P w =
      .ok (goInt dLen) (w.setRow g (Lib.byteCells (s.data.toList.take dLen) ++ cur.toList.drop dLen).toArray) := by
  have hlen : (Lib.byteCells (s.data.toList.take dLen)).length = dLen := by
    rw [Lib.byteCells_length, List.length_take, ← Wp.size_len]; omega
  have hst := run_storeCells_at P g 0 t (Lib.byteCells (s.data.toList.take dLen)) 0 cur w hg (by rw [hlen]; simpa using hfit) (Lib.byteCells_one _)
  have hmin : Nat.min s.size dLen = dLen := Nat.min_eq_right hle
  have htk : List.take dLen (List.map (fun b : UInt8 => Value.int IntKind.u8 (b.toNat : Int)) s.data.toList) = Lib.byteCells (s.data.toList.take dLen) := by
    unfold Lib.byteCells
    rw [List.map_take]
  rw [hlen] at hst
  simp only [Nat.add_zero, Nat.zero_add, List.take_zero, List.nil_append] at hst
  cases hq : P.info? elem with
  | none => simp [hq] at hs
  | some i =>
    simp [Builtin.copy_, run_underlying hu, Builtin.lenOf, Builtin.firstCells, sizeOf, typeInfo, hq, hmin]
    rw [htk, hst]
    simp [Result.andThen]
set_option maxRecDepth 100000 in
theorem arr64_slice (a : Addr) (k : Nat) (hk : k ≤ 64) (w : World) :
    (Instr.sliceAt 116 (.pointer (some a)) none (some (.int .i64 (k : Int))) none).run Tryd.prog w = .ok (.slice (some a) k 64) w := by
  have hl : Tryd.prog.arrayLen 116 = 64 := by kernel_rfl
  have he : Tryd.prog.elem 116 = 5 := by kernel_rfl
  have h := run_sliceAt_array_h (P := Tryd.prog) w 116 a (by rw [hl, he]; exact Tryd.underlying116) .i64 (k : Int) (by omega) (by rw [hl]; omega)
  rw [he, hl] at h
  rw [h, Tryd.sizeOf5]
  simp only [Result.andThen, slicedAt, Nat.zero_mul, Nat.sub_zero]
  rw [show ((k : Int)).toNat = k by omega]
  simp [Addr.add]
set_option maxRecDepth 100000 in
theorem info_byte : (Tryd.prog.info? 5).map (·.size) = some 1 := by kernel_rfl
set_option maxRecDepth 100000 in
theorem laid_zeros : (#[Value.int IntKind.u8 0, Value.int IntKind.u8 0, Value.int IntKind.u8 0, Value.int IntKind.u8 0, Value.int IntKind.u8 0, Value.int IntKind.u8 0, Value.int IntKind.u8 0, Value.int IntKind.u8 0, Value.int IntKind.u8 0, Value.int IntKind.u8 0, Value.int IntKind.u8 0, Value.int IntKind.u8 0, Value.int IntKind.u8 0, Value.int IntKind.u8 0, Value.int IntKind.u8 0, Value.int IntKind.u8 0, Value.int IntKind.u8 0, Value.int IntKind.u8 0, Value.int IntKind.u8 0, Value.int IntKind.u8 0, Value.int IntKind.u8 0, Value.int IntKind.u8 0, Value.int IntKind.u8 0, Value.int IntKind.u8 0, Value.int IntKind.u8 0, Value.int IntKind.u8 0, Value.int IntKind.u8 0, Value.int IntKind.u8 0, Value.int IntKind.u8 0, Value.int IntKind.u8 0, Value.int IntKind.u8 0, Value.int IntKind.u8 0, Value.int IntKind.u8 0, Value.int IntKind.u8 0, Value.int IntKind.u8 0, Value.int IntKind.u8 0, Value.int IntKind.u8 0, Value.int IntKind.u8 0, Value.int IntKind.u8 0, Value.int IntKind.u8 0, Value.int IntKind.u8 0, Value.int IntKind.u8 0, Value.int IntKind.u8 0, Value.int IntKind.u8 0, Value.int IntKind.u8 0, Value.int IntKind.u8 0, Value.int IntKind.u8 0, Value.int IntKind.u8 0, Value.int IntKind.u8 0, Value.int IntKind.u8 0, Value.int IntKind.u8 0, Value.int IntKind.u8 0, Value.int IntKind.u8 0, Value.int IntKind.u8 0, Value.int IntKind.u8 0, Value.int IntKind.u8 0, Value.int IntKind.u8 0, Value.int IntKind.u8 0, Value.int IntKind.u8 0, Value.int IntKind.u8 0, Value.int IntKind.u8 0, Value.int IntKind.u8 0, Value.int IntKind.u8 0, Value.int IntKind.u8 0] : Array Value) = (Lib.byteCells (List.replicate 64 0)).toArray := rfl
set_option maxRecDepth 100000 in
theorem laid_copy1 (w : World) (b : ByteArray) (hb : b.size ≤ 64) :
    (Builtin.copy_ #[95, 9] 3 #[.slice (some ⟨w.heap.size, 0, none⟩) 64 64, .string b]).run Tryd.prog (w.alloc (.cells (Lib.byteCells (List.replicate 64 0)).toArray 116)) =
      .ok (goInt b.size) (w.alloc (.cells (Lib.byteCells (b.data.toList ++ List.replicate (64 - b.data.toList.length) 0)).toArray 116)) := by
  have h := Lib.run_copy_row_string (P := Tryd.prog) (w.alloc (.cells (Lib.byteCells (List.replicate 64 0)).toArray 116)) 95 9 3 5 w.heap.size 0 64 64 b _ 116
    Tryd.underlying95 info_byte (alloc_new w _) hb (by simp [Lib.byteCells_length]; exact hb)
  rw [h, setRow_alloc]
  congr 4
  simp only [Nat.zero_add, List.take_zero, List.nil_append, Lib.byteCells]
  rw [← List.map_drop, List.drop_replicate, ← List.map_append, Wp.size_len]
set_option maxRecDepth 100000 in
theorem laid_copy2 (w : World) (b s : ByteArray) (n : Nat) (hn : n ≤ s.size) (hn2 : n ≤ 64) (hb : b.size ≤ 64) :
    (Builtin.copy_ #[95, 9] 3 #[.slice (some ⟨w.heap.size, 0, none⟩) n 64, .string s]).run Tryd.prog (w.alloc (.cells (Lib.byteCells (b.data.toList ++ List.replicate (64 - b.data.toList.length) 0)).toArray 116)) =
      .ok (goInt n) (w.alloc (.cells (Lib.byteCells (Wp.laidL b.data.toList s.data.toList n)).toArray 116)) := by
  have h := copy_some (P := Tryd.prog) (w.alloc (.cells (Lib.byteCells (b.data.toList ++ List.replicate (64 - b.data.toList.length) 0)).toArray 116)) 95 9 3 5 w.heap.size n 64 s _ 116
    Tryd.underlying95 info_byte (alloc_new w _) hn (by simp only [List.size_toArray, Lib.byteCells_length, List.length_append, List.length_replicate, ← Wp.size_len]; omega)
  rw [h, setRow_alloc]
  congr 4
  simp only [Lib.byteCells, Wp.laidL]
  rw [← List.map_drop, ← List.map_append]
set_option maxRecDepth 100000 in
theorem laidL_length (b s : List UInt8) (n : Nat) (hn : n ≤ s.length) (hn2 : n ≤ 64) (hb : b.length ≤ 64) : (Wp.laidL b s n).length = 64 := by
  simp only [Wp.laidL, List.length_append, List.length_take, List.length_drop, List.length_replicate]
  omega
set_option maxRecDepth 100000 in
theorem laid_conv (w : World) (l : List UInt8) (h : l.length = 64) :
    (convert 95 9 (.slice (some ⟨w.heap.size, 0, none⟩) 64 64)).run Tryd.prog (w.alloc (.cells (Lib.byteCells l).toArray 116)) = .ok (.string (Wp.B l)) (w.alloc (.cells (Lib.byteCells l).toArray 116)) := by
  have hc := run_convert_bytes_back (w.alloc (.cells (Lib.byteCells l).toArray 116)) 95 9 5 ⟨w.heap.size, 0, none⟩ 64 l Tryd.underlying95 Tryd.underlying5 Tryd.underlying9 (by
    intro j hj
    have e : (⟨w.heap.size, 0, none⟩ : Addr).add j = ⟨w.heap.size, j, none⟩ := by simp [Addr.add]; omega
    rw [e, World.cell?_alloc_at _ _ _ _ rfl]
    simp [Lib.byteCells, hj])
  rw [h] at hc
  exact hc
set_option maxRecDepth 100000 in
set_option maxHeartbeats 1000000 in
/-- A block is laid. -/
theorem laid_any (b s : ByteArray) (n : Nat) (w : World) (hn : n ≤ s.size) (hn2 : n ≤ 64) (hb : b.size ≤ 64) :
    Calls Tryd.prog 31 #[.string b, .string s, .int .i64 n] w fun e w' => e = .returned (.string (Wp.laid b s n)) ∧ Below w.heap.size w w' := by
  have h1 := laid_copy1 w b hb
  have h2 := laid_copy2 w b s n hn hn2 hb
  have h3 := laid_conv w (Wp.laidL b.data.toList s.data.toList n) (laidL_length _ _ _ (by rw [← Wp.size_len]; exact hn) hn2 (by rw [← Wp.size_len]; exact hb))
  have hsl := fun W => arr64_slice ⟨w.heap.size, 0, none⟩ n hn2 W
  unfold Wp.laid
  generalize Lib.byteCells (Wp.laidL b.data.toList s.data.toList n) = L2 at *
  generalize Wp.laidL b.data.toList s.data.toList n = R at *
  generalize Lib.byteCells (b.data.toList ++ List.replicate (64 - b.data.toList.length) 0) = L1 at *
  obtain ⟨L0, hL0⟩ : ∃ L0, L0 = Lib.byteCells (List.replicate 64 0) := ⟨_, rfl⟩
  have hz := laid_zeros
  rw [← hL0] at hz h1
  have Hz := Lib.hid hz
  clear hz hL0
  go_enter Tryd.func31, Tryd.ntmps31
  go_wp2_with fail
  rw [Hz.out]
  rw [h1]
  go_wp2_with fail
  go_ret
  exact ⟨rfl, (Below.refl _ _).alloc (Nat.le_refl _) _⟩
end Go.Proofs.YtpmhgfjnabgilabDoor
