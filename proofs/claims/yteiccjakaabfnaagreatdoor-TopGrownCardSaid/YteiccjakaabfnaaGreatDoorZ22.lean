/-
  Plain mathematics of the wire, continued: what was put is got, numbers, texts and lists. No condition but those that the theorems state.
  The library's contracts of strings.Builder, laid at this program by hand (the laying tool passes them over, for a type that only the panic names): copyCheck, WriteString, String. No walk: each is one application of the library's own theorem.
  The library's contracts of strings.Builder's WriteByte and WriteString in the form that tells what stands above the builder too, laid at this program by hand. No walk: each is one application of the library's own theorem.
  What a builder holds behind writes of texts and bytes. No condition but those that the theorems state.
-/
import Derived.Test.YteiccjakaabfnaaGreatDoorPlain
import Derived.WalkKit
import Derived.Lib.Strings
import Derived.Shelf.Strings.Builder1
import Derived.Shelf.Strings.BuilderF
import Derived.Shelf.Strings.BuilderK
import Derived.Test.YteiccjakaabfnaaGreatDoorProg
import Derived.Test.YteiccjakaabfnaaGreatDoorShelf
import Derived.KernelRfl
import Derived.Lib.Hide
namespace Go.Proofs.YteiccjakaabfnaaGreatDoor.Wp
theorem gn_put (n : Int) (hn : I64 n) (s : ByteArray) : gn (B (numB n) ++ s) = (n, s.data.toList, 0) := by
  rw [gn, data_append, B_data, getNum_numB n hn]
theorem gn_ok (s : ByteArray) (n : Int) (r : List UInt8) (h : gn s = (n, r, 0)) : B (numB n) ++ B r = s ∧ I64 n := by
  have h1 := getNum_ok s.data.toList (by have : getNum s.data.toList = (n, r, 0) := h; rw [this])
  have h2 : getNum s.data.toList = (n, r, 0) := h
  rw [h2] at h1
  refine ⟨?_, h1.2⟩
  rw [B_append, B_data]
  rw [show numB n ++ r = s.data.toList from h1.1, B_of]
theorem gn_err (s : ByteArray) (n : Int) (r : List UInt8) (e : Int) (h : gn s = (n, r, e)) (he : e ≠ 0) : n = 0 ∧ r = [] := by
  have h2 : getNum s.data.toList = (n, r, e) := h
  have h1 := getNum_bad s.data.toList (by rw [h2]; exact he)
  rw [h2] at h1
  exact h1
theorem getText_put (t s : List UInt8) (h : t.length ≤ 4096) : getText (textB t ++ s) = (t, s, 0) := by
  have e1 : getNum (textB t ++ s) = ((t.length : Int), t ++ s, 0) := by
    rw [textB, List.append_assoc, getNum_numB _ ⟨by omega, by omega⟩]
  have e2 : cutLen (textB t ++ s) 4096 = ((t.length : Int), t ++ s, 0) := by
    unfold cutLen
    rw [e1, if_neg (by simp), if_neg (by simp only []; omega), if_neg (by simp only []; omega)]
  unfold getText
  rw [e2, if_neg (by simp), if_neg (by simp only [List.length_append]; omega)]
  simp only [Int.toNat_natCast, List.take_left', List.drop_left']
theorem gt_put (t s : ByteArray) (h : t.size ≤ 4096) : gt (B (textB t.data.toList) ++ s) = (t.data.toList, s.data.toList, 0) := by
  rw [gt, data_append, B_data, getText_put _ _ (by rw [← size_len]; exact h)]
theorem textB_len (t : List UInt8) : (textB t).length ≤ 9 + t.length := by
  have := numB_len t.length
  simp only [textB, List.length_append]
  omega
/-- The number that the document reckons of digits, wrapped as Go wraps. -/
def nnOf (b : Bool) (v : Nat) : Int := if b then RowKit.wrap64 (-(RowKit.wrap64 v)) else RowKit.wrap64 v
theorem nn_I64 (b : Bool) (v : Nat) : I64 (nnOf b v) := by
  unfold nnOf I64 RowKit.wrap64
  split <;> constructor <;> omega
theorem nn_ok (b : Bool) (l : List UInt8) (h : okMag b l = true) : nnOf b (val l) = signed b (val l) := by
  unfold okMag at h
  unfold nnOf signed RowKit.wrap64
  split at h
  · have : val [] = 0 := rfl
    rw [this]
    cases b <;> simp
  · simp only [Bool.and_eq_true, decide_eq_true_eq] at h
    have h2 := h.2
    cases b
    · simp only [Bool.false_eq_true, if_false, decide_eq_true_eq] at h2 ⊢
      omega
    · simp only [if_true, decide_eq_true_eq] at h2 ⊢
      omega
/-- The bytes of that number are those that were read, just if these are a magnitude's. -/
theorem same_bytes (b : Bool) (s : ByteArray) (h0 : 0 < s.size) (k : Nat) (hk : s[0].toNat % 128 = k) (hb : decide (128 ≤ s[0].toNat) = b) (h8 : ¬ 8 < k) (hs : ¬ s.size < 1 + k) (mg : ByteArray) (hm : mg = s.extract 1 (1 + k)) :
    ((B (numB (nnOf b (val mg.data.toList)))).toList == (s.extract 0 (k + 1)).toList) = okMag b mg.data.toList := by
  have hg := gn_eq s h0 k hk b hb mg hm
  rw [if_neg h8, if_neg hs] at hg
  rw [Lib.toList_data, Lib.toList_data, B_data, data_extract, List.drop_zero, Nat.sub_zero]
  have hsl := size_len s
  cases hok : okMag b mg.data.toList with
  | true =>
    rw [hok, if_pos rfl] at hg
    rw [nn_ok b _ hok, beq_iff_eq]
    have h2 : getNum s.data.toList = _ := hg
    have h3 := (getNum_ok s.data.toList (by rw [h2])).1
    rw [h2] at h3
    simp only [] at h3
    have e2 : (s.extract (1 + k) s.size).data.toList.length = s.size - (1 + k) := by rw [← size_len, ByteArray.size_extract]; omega
    have e3 : (numB (signed b (val mg.data.toList))).length = k + 1 := by
      have := congrArg List.length h3
      rw [List.length_append, e2] at this
      omega
    conv => rhs; rw [← h3]
    rw [← e3, List.take_left']
    rfl
  | false =>
    rw [hok, if_neg (by simp)] at hg
    rw [beq_eq_false_iff_ne]
    intro c
    have h2 : getNum s.data.toList = _ := hg
    have h4 := List.take_append_drop (k + 1) s.data.toList
    rw [← c] at h4
    have h5 := getNum_numB _ (nn_I64 b (val mg.data.toList)) (s.data.toList.drop (k + 1))
    rw [h4, h2] at h5
    simp at h5
end Go.Proofs.YteiccjakaabfnaaGreatDoor.Wp
namespace Go.Proofs
open Go.Shelf
def Tryz.layb240_ren : Go.Shelf.Ren := ⟨fun | 240 => 192 | 276 => 233 | 166 => 122 | n => n, fun | 0 => 0 | 3 => 3 | 4 => 4 | 9 => 9 | 20 => 20 | 37 => 84 | 70 => 83 | 72 => 86 | 75 => 93 | 80 => 95 | 164 => 194 | 5 => 5 | n => n, fun | n => n⟩
theorem Tryz.layb240 : Go.Proofs.Lays.n240 Tryz.prog Tryz.layb240_ren := {
  mixed := by kernel_rfl
  f240 := Tryz.func192.trans (congrArg some (by kernel_rfl))
  f276 := Tryz.func233.trans (congrArg some (by kernel_rfl))
  t0 := Tryz.underlying0
  a0 := Tryz.isAgg0
  z0 := Tryz.sizeOf0
  v0 := Tryz.zeroValue0
  t4 := Tryz.underlying4
  a4 := Tryz.isAgg4
  z4 := Tryz.sizeOf4
  v4 := Tryz.zeroValue4
  t9 := Tryz.underlying9
  a9 := Tryz.isAgg9
  z9 := Tryz.sizeOf9
  v9 := Tryz.zeroValue9
  t20 := Tryz.underlying20
  a20 := Tryz.isAgg20
  z20 := Tryz.sizeOf20
  v20 := Tryz.zeroValue20
  t70 := Tryz.underlying83
  a70 := Tryz.isAgg83
  z70 := Tryz.sizeOf83
  v70 := Tryz.zeroValue83
  t72 := Tryz.underlying86
  a72 := Tryz.isAgg86
  z72 := Tryz.sizeOf86
  v72 := Tryz.zeroValue86
  t164 := Tryz.underlying194
  a164 := Tryz.isAgg194
  z164 := Tryz.sizeOf194
  v164 := Tryz.zeroValue194 }
def Tryz.layb166_ren : Go.Shelf.Ren := ⟨fun | 240 => 192 | 276 => 233 | 166 => 122 | n => n, fun | 0 => 0 | 3 => 3 | 4 => 4 | 9 => 9 | 20 => 20 | 37 => 84 | 70 => 83 | 72 => 86 | 75 => 93 | 80 => 95 | 164 => 194 | 5 => 5 | n => n, fun | n => n⟩
theorem Tryz.layb166 : Go.Proofs.Lays.n166 Tryz.prog Tryz.layb166_ren := {
  mixed := by kernel_rfl
  f166 := Tryz.func122.trans (congrArg some (by kernel_rfl))
  f240 := Tryz.func192.trans (congrArg some (by kernel_rfl))
  f276 := Tryz.func233.trans (congrArg some (by kernel_rfl))
  t0 := Tryz.underlying0
  a0 := Tryz.isAgg0
  z0 := Tryz.sizeOf0
  v0 := Tryz.zeroValue0
  t3 := Tryz.underlying3
  a3 := Tryz.isAgg3
  z3 := Tryz.sizeOf3
  v3 := Tryz.zeroValue3
  t4 := Tryz.underlying4
  a4 := Tryz.isAgg4
  z4 := Tryz.sizeOf4
  v4 := Tryz.zeroValue4
  t9 := Tryz.underlying9
  a9 := Tryz.isAgg9
  z9 := Tryz.sizeOf9
  v9 := Tryz.zeroValue9
  t20 := Tryz.underlying20
  a20 := Tryz.isAgg20
  z20 := Tryz.sizeOf20
  v20 := Tryz.zeroValue20
  t37 := Tryz.underlying84
  a37 := Tryz.isAgg84
  z37 := Tryz.sizeOf84
  v37 := Tryz.zeroValue84
  t70 := Tryz.underlying83
  a70 := Tryz.isAgg83
  z70 := Tryz.sizeOf83
  v70 := Tryz.zeroValue83
  t72 := Tryz.underlying86
  a72 := Tryz.isAgg86
  z72 := Tryz.sizeOf86
  v72 := Tryz.zeroValue86
  t75 := Tryz.underlying93
  a75 := Tryz.isAgg93
  z75 := Tryz.sizeOf93
  v75 := Tryz.zeroValue93
  t164 := Tryz.underlying194
  a164 := Tryz.isAgg194
  z164 := Tryz.sizeOf194
  v164 := Tryz.zeroValue194 }
theorem Tryz.Builder_X72 : Builder.X72 Tryz.prog Tryz.layb240_ren where
  sizeBuilder := by kernel_rfl
  liesBuilder := by kernel_rfl
theorem Tryz.Builder_Extra : Builder.Extra Tryz.prog Tryz.layb166_ren where
  sizeBuilder := by kernel_rfl
  liesBuilder := by kernel_rfl
  t5 := Tryz.underlying5
  a5 := Tryz.isAgg5
  z5 := Tryz.sizeOf5
  v5 := Tryz.zeroValue5
  infoByte := by kernel_rfl
  cellsByte := by kernel_rfl
  sizeByte := by kernel_rfl
  neB5 := by decide
open Go.RowKit in
theorem Tryz.Builder_Write (B b : Nat) (bs : List Value) (s : ByteArray) (w : World) (h : Lib.IsBuilder 86 5 B b bs w) (hlen : bs.length + s.size ≤ 140737488355328) (hBw : B ≤ w.heap.size) :
    Calls Tryz.prog 122 #[.pointer (some ⟨b, 0, none⟩), .string s] w fun e w' => e = .returned (.tuple #[.int .i64 s.size, .nilIface]) ∧ (Lib.BuilderAt 86 5 B b (.pointer (some ⟨b, 0, none⟩)) (bs ++ Lib.strCells s) w' ∧ Below B w w') := Any.Builder_WriteString Tryz.layb166 Tryz.Builder_Extra B b bs s w h hlen hBw
end Go.Proofs
namespace Go.Proofs
open Go.Shelf
def Tryz.layb167_ren : Go.Shelf.Ren := ⟨fun | 240 => 192 | 276 => 233 | 167 => 207 | n => n, fun | 0 => 0 | 3 => 3 | 4 => 4 | 9 => 9 | 20 => 20 | 37 => 84 | 70 => 83 | 72 => 86 | 75 => 93 | 80 => 95 | 164 => 194 | 5 => 5 | n => n, fun | n => n⟩
theorem Tryz.layb167 : Go.Proofs.Lays.n167 Tryz.prog Tryz.layb167_ren := {
  mixed := by kernel_rfl
  f167 := Tryz.func207.trans (congrArg some (by kernel_rfl))
  f240 := Tryz.func192.trans (congrArg some (by kernel_rfl))
  f276 := Tryz.func233.trans (congrArg some (by kernel_rfl))
  t0 := Tryz.underlying0
  a0 := Tryz.isAgg0
  z0 := Tryz.sizeOf0
  v0 := Tryz.zeroValue0
  t4 := Tryz.underlying4
  a4 := Tryz.isAgg4
  z4 := Tryz.sizeOf4
  v4 := Tryz.zeroValue4
  t5 := Tryz.underlying5
  a5 := Tryz.isAgg5
  z5 := Tryz.sizeOf5
  v5 := Tryz.zeroValue5
  t9 := Tryz.underlying9
  a9 := Tryz.isAgg9
  z9 := Tryz.sizeOf9
  v9 := Tryz.zeroValue9
  t20 := Tryz.underlying20
  a20 := Tryz.isAgg20
  z20 := Tryz.sizeOf20
  v20 := Tryz.zeroValue20
  t37 := Tryz.underlying84
  a37 := Tryz.isAgg84
  z37 := Tryz.sizeOf84
  v37 := Tryz.zeroValue84
  t70 := Tryz.underlying83
  a70 := Tryz.isAgg83
  z70 := Tryz.sizeOf83
  v70 := Tryz.zeroValue83
  t72 := Tryz.underlying86
  a72 := Tryz.isAgg86
  z72 := Tryz.sizeOf86
  v72 := Tryz.zeroValue86
  t75 := Tryz.underlying93
  a75 := Tryz.isAgg93
  z75 := Tryz.sizeOf93
  v75 := Tryz.zeroValue93
  t164 := Tryz.underlying194
  a164 := Tryz.isAgg194
  z164 := Tryz.sizeOf194
  v164 := Tryz.zeroValue194 }
theorem Tryz.Builder_Extra167 : Builder.Extra Tryz.prog Tryz.layb167_ren where
  sizeBuilder := by kernel_rfl
  liesBuilder := by kernel_rfl
  t5 := Tryz.underlying5
  a5 := Tryz.isAgg5
  z5 := Tryz.sizeOf5
  v5 := Tryz.zeroValue5
  infoByte := by kernel_rfl
  cellsByte := by kernel_rfl
  sizeByte := by kernel_rfl
  neB5 := by decide
open Go.RowKit in
theorem Tryz.Builder_PutByte (B b : Nat) (bs : List Value) (c : Int) (w : World) (h : Lib.IsBuilderF 86 5 B b bs w) (hlen : bs.length + 1 ≤ 140737488355328) (hBw : B ≤ w.heap.size) :
    Calls Tryz.prog 207 #[.pointer (some ⟨b, 0, none⟩), .int .u8 c] w fun e w' => e = .returned .nilIface ∧ (Lib.BuilderAtF 86 5 B b (.pointer (some ⟨b, 0, none⟩)) (bs ++ [.int .u8 c]) w' ∧ Below B w w' ∧ Lib.OthersKept 5 (some b) w w') := Any.Builder_WriteByte_k Tryz.layb167 Tryz.Builder_Extra167 B b bs c w h hlen hBw
open Go.RowKit in
theorem Tryz.Builder_PutString (B b : Nat) (bs : List Value) (s : ByteArray) (w : World) (h : Lib.IsBuilderF 86 5 B b bs w) (hlen : bs.length + s.size ≤ 140737488355328) (hBw : B ≤ w.heap.size) :
    Calls Tryz.prog 122 #[.pointer (some ⟨b, 0, none⟩), .string s] w fun e w' => e = .returned (.tuple #[.int .i64 s.size, .nilIface]) ∧ (Lib.BuilderAtF 86 5 B b (.pointer (some ⟨b, 0, none⟩)) (bs ++ Lib.strCells s) w' ∧ Below B w w' ∧ Lib.OthersKept 5 (some b) w w') := Any.Builder_WriteString_k Tryz.layb166 Tryz.Builder_Extra B b bs s w h hlen hBw
end Go.Proofs
namespace Go.Proofs.YteiccjakaabfnaaGreatDoor
open Go.RowKit

theorem Es.builder_below {T e : TypeId} {B b : Nat} {bs : List Value} {w w' : World} (h : Lib.IsBuilderF T e B b bs w) (hb : Below w.heap.size w w') : Lib.IsBuilderF T e B b bs w' := by
  have key : ∀ p, Lib.BuilderAtF T e B b p bs w → Lib.BuilderAtF T e B b p bs w' := by
    intro p h
    have hlt := h.lt
    obtain ⟨hB, v, hc, hown, hne⟩ := h
    exact ⟨hB, v, (hb.block b hlt).trans hc, hown.kept (row := none) ⟨hb.os, hb.tape, hb.output, hb.size, fun k hk _ => hb.block k hk⟩ (Classical.em _), hne⟩
  exact h.elim (fun x => .inl (key _ x)) (fun x => .inr (key _ x))
/-- What stands where bytes were put behind what a builder had. -/
structure Es.Put (B g : Nat) (pre add : List UInt8) (w w' : World) : Prop where
  bld : Lib.IsBuilderF 86 5 B g (Lib.byteCells (pre ++ add)) w'
  below : Below B w w'
  size : w.heap.size ≤ w'.heap.size
theorem Es.Put.trans {B g : Nat} {pre a b : List UInt8} {w w1 w2 : World} (h : Es.Put B g pre a w w1) (k : Es.Put B g (pre ++ a) b w1 w2) : Es.Put B g pre (a ++ b) w w2 :=
  ⟨by rw [← List.append_assoc]; exact k.bld, h.below.trans k.below, Nat.le_trans h.size k.size⟩
theorem Es.putString {B g : Nat} {pre : List UInt8} (s : ByteArray) (w : World) (h : Lib.IsBuilderF 86 5 B g (Lib.byteCells pre) w) (hl : pre.length + s.size ≤ 140737488355328) (hB : B ≤ w.heap.size) :
    Calls Tryz.prog 122 #[.pointer (some ⟨g, 0, none⟩), .string s] w fun e w' => e = .returned (.tuple #[.int .i64 s.size, .nilIface]) ∧ Es.Put B g pre s.data.toList w w' := by
  refine (Tryz.Builder_PutString B g _ s w h (by rw [Lib.byteCells_length]; exact hl) hB).mono ?_
  rintro e w' ⟨rfl, h1, h2, h3⟩
  refine ⟨rfl, Or.inr ?_, h2, h2.size⟩
  rw [Lib.byteCells_append, ← Lib.strCells_eq]
  exact h1
theorem Es.putByte {B g : Nat} {pre : List UInt8} (k : Nat) (hk : k ≤ 255) (w : World) (h : Lib.IsBuilderF 86 5 B g (Lib.byteCells pre) w) (hl : pre.length + 1 ≤ 140737488355328) (hB : B ≤ w.heap.size) :
    Calls Tryz.prog 207 #[.pointer (some ⟨g, 0, none⟩), .int .u8 k] w fun e w' => e = .returned .nilIface ∧ Es.Put B g pre [UInt8.ofNat k] w w' := by
  refine (Tryz.Builder_PutByte B g _ k w h (by rw [Lib.byteCells_length]; exact hl) hB).mono ?_
  rintro e w' ⟨rfl, h1, h2, h3⟩
  refine ⟨rfl, Or.inr ?_, h2, h2.size⟩
  rw [Lib.byteCells_append, show Lib.byteCells [UInt8.ofNat k] = [.int .u8 k] by show [Value.int .u8 ((UInt8.ofNat k).toNat : Nat)] = _; rw [UInt8.toNat_ofNat_of_lt' (by show k < 256; omega)]]
  exact h1
theorem Es.new (w : World) (o : Obj) : (w.alloc o).heap[w.heap.size]? = some o := by
  show (w.heap.push o)[w.heap.size]? = some o
  simp
theorem Es.newBuilder (w : World) : Lib.IsBuilderF 86 5 w.heap.size w.heap.size (Lib.byteCells []) (w.alloc (.cells #[.pointer none, .slice none 0 0] 86)) :=
  Or.inl ⟨Nat.le_refl _, .slice none 0 0, Es.new _ _, World.ownsRowF_nil _ _ _ _, by simp [Value.ownBlock]⟩
end Go.Proofs.YteiccjakaabfnaaGreatDoor
