/-
  Plain mathematics of the wire, continued: what was put is got, numbers, texts and lists. No condition but those that the theorems state.
  The library's contracts of strings.Builder, laid at this program by hand (the laying tool passes them over, for a type that only the panic names): copyCheck, WriteString, String. No walk: each is one application of the library's own theorem.
  The library's contracts of strings.Builder's WriteByte and WriteString in the form that tells what stands above the builder too, laid at this program by hand. No walk: each is one application of the library's own theorem.
  What a builder holds behind writes of texts and bytes. No condition but those that the theorems state.
  Plain mathematics of a tag's text as scan's source makes it: the word, with a space and the path, trimmed. No condition but those that the theorems state.
  The walk of scan's source. Conditions: the token is right; the words' table reads as it is laid.
  The walk of scan's Write. Conditions: the words' table reads as it is laid, the search's limit is set; the tokens' texts are of a size that the search bears.
  The walks of tree's rightTokens, Check and Write. Conditions: lists are of a size that a machine holds; texts are below four thousand million bytes.
-/
import Derived.Test.YteiccjakaabfnaaGreatDoorZ52
import Derived.WalkKit
import Derived.Lib.Strings
import Derived.Shelf.Strings.Builder1
import Derived.Shelf.Strings.BuilderF
import Derived.Shelf.Strings.BuilderK
import Derived.Test.YteiccjakaabfnaaGreatDoorProg
import Derived.Test.YteiccjakaabfnaaGreatDoorShelf
import Derived.KernelRfl
import Derived.Lib.Hide
import Derived.Test.YteiccjakaabfnaaGreatDoorScMath
import Derived.Test.YteiccjakaabfnaaGreatDoorZ25
import Derived.Lib.TrimByte
import Derived.Lib.Join
import Derived.Test.YteiccjakaabfnaaGreatDoorZ18
import Derived.Deep.RegionHeld3
import Derived.Deep.Cut
import Derived.Deep.CutRange
import Derived.Test.YteiccjakaabfnaaGreatDoorScChkW
import Derived.Test.YteiccjakaabfnaaGreatDoorZ51
namespace Go.Proofs.YteiccjakaabfnaaGreatDoor.Wp
theorem gn_put (n : Int) (hn : I64 n) (s : ByteArray) : gn (B (numB n) ++ s) = (n, s.data.toList, 0) := by
  rw [gn, data_append, B_data, getNum_numB n hn]
theorem gn_ok (s : ByteArray) (n : Int) (r : List UInt8) (h : gn s = (n, r, 0)) : B (numB n) ++ B r = s ∧ I64 n := by
  have h1 := getNum_ok s.data.toList (by have : getNum s.data.toList = (n, r, 0) := h; rw [this])
  have h2 : getNum s.data.toList = (n, r, 0) := h
  rw [h2] at h1
  refine ⟨?_, h1.2⟩
  rw [B_append, B_data]
  rw [show numB n ++ r = s.data.toList from h1.1, B_of]
theorem gn_err (s : ByteArray) (n : Int) (r : List UInt8) (e : Int) (h : gn s = (n, r, e)) (he : e ≠ 0) : n = 0 ∧ r = [] := by
  have h2 : getNum s.data.toList = (n, r, e) := h
  have h1 := getNum_bad s.data.toList (by rw [h2]; exact he)
  rw [h2] at h1
  exact h1
theorem getText_put (t s : List UInt8) (h : t.length ≤ 4096) : getText (textB t ++ s) = (t, s, 0) := by
  have e1 : getNum (textB t ++ s) = ((t.length : Int), t ++ s, 0) := by
    rw [textB, List.append_assoc, getNum_numB _ ⟨by omega, by omega⟩]
  have e2 : cutLen (textB t ++ s) 4096 = ((t.length : Int), t ++ s, 0) := by
    unfold cutLen
    rw [e1, if_neg (by simp), if_neg (by simp only []; omega), if_neg (by simp only []; omega)]
  unfold getText
  rw [e2, if_neg (by simp), if_neg (by simp only [List.length_append]; omega)]
  simp only [Int.toNat_natCast, List.take_left', List.drop_left']
theorem gt_put (t s : ByteArray) (h : t.size ≤ 4096) : gt (B (textB t.data.toList) ++ s) = (t.data.toList, s.data.toList, 0) := by
  rw [gt, data_append, B_data, getText_put _ _ (by rw [← size_len]; exact h)]
theorem textB_len (t : List UInt8) : (textB t).length ≤ 9 + t.length := by
  have := numB_len t.length
  simp only [textB, List.length_append]
  omega
/-- The number that the document reckons of digits, wrapped as Go wraps. -/
def nnOf (b : Bool) (v : Nat) : Int := if b then RowKit.wrap64 (-(RowKit.wrap64 v)) else RowKit.wrap64 v
theorem nn_I64 (b : Bool) (v : Nat) : I64 (nnOf b v) := by
  unfold nnOf I64 RowKit.wrap64
  split <;> constructor <;> omega
theorem nn_ok (b : Bool) (l : List UInt8) (h : okMag b l = true) : nnOf b (val l) = signed b (val l) := by
  unfold okMag at h
  unfold nnOf signed RowKit.wrap64
  split at h
  · have : val [] = 0 := rfl
    rw [this]
    cases b <;> simp
  · simp only [Bool.and_eq_true, decide_eq_true_eq] at h
    have h2 := h.2
    cases b
    · simp only [Bool.false_eq_true, if_false, decide_eq_true_eq] at h2 ⊢
      omega
    · simp only [if_true, decide_eq_true_eq] at h2 ⊢
      omega
/-- The bytes of that number are those that were read, just if these are a magnitude's. -/
theorem same_bytes (b : Bool) (s : ByteArray) (h0 : 0 < s.size) (k : Nat) (hk : s[0].toNat % 128 = k) (hb : decide (128 ≤ s[0].toNat) = b) (h8 : ¬ 8 < k) (hs : ¬ s.size < 1 + k) (mg : ByteArray) (hm : mg = s.extract 1 (1 + k)) :
    ((B (numB (nnOf b (val mg.data.toList)))).toList == (s.extract 0 (k + 1)).toList) = okMag b mg.data.toList := by
  have hg := gn_eq s h0 k hk b hb mg hm
  rw [if_neg h8, if_neg hs] at hg
  rw [Lib.toList_data, Lib.toList_data, B_data, data_extract, List.drop_zero, Nat.sub_zero]
  have hsl := size_len s
  cases hok : okMag b mg.data.toList with
  | true =>
    rw [hok, if_pos rfl] at hg
    rw [nn_ok b _ hok, beq_iff_eq]
    have h2 : getNum s.data.toList = _ := hg
    have h3 := (getNum_ok s.data.toList (by rw [h2])).1
    rw [h2] at h3
    simp only [] at h3
    have e2 : (s.extract (1 + k) s.size).data.toList.length = s.size - (1 + k) := by rw [← size_len, ByteArray.size_extract]; omega
    have e3 : (numB (signed b (val mg.data.toList))).length = k + 1 := by
      have := congrArg List.length h3
      rw [List.length_append, e2] at this
      omega
    conv => rhs; rw [← h3]
    rw [← e3, List.take_left']
    rfl
  | false =>
    rw [hok, if_neg (by simp)] at hg
    rw [beq_eq_false_iff_ne]
    intro c
    have h2 : getNum s.data.toList = _ := hg
    have h4 := List.take_append_drop (k + 1) s.data.toList
    rw [← c] at h4
    have h5 := getNum_numB _ (nn_I64 b (val mg.data.toList)) (s.data.toList.drop (k + 1))
    rw [h4, h2] at h5
    simp at h5
end Go.Proofs.YteiccjakaabfnaaGreatDoor.Wp
namespace Go.Proofs
open Go.Shelf
def Tryz.layb240_ren : Go.Shelf.Ren := ⟨fun | 240 => 192 | 276 => 233 | 166 => 122 | n => n, fun | 0 => 0 | 3 => 3 | 4 => 4 | 9 => 9 | 20 => 20 | 37 => 84 | 70 => 83 | 72 => 86 | 75 => 93 | 80 => 95 | 164 => 194 | 5 => 5 | n => n, fun | n => n⟩
theorem Tryz.layb240 : Go.Proofs.Lays.n240 Tryz.prog Tryz.layb240_ren := {
  mixed := by kernel_rfl
  f240 := Tryz.func192.trans (congrArg some (by kernel_rfl))
  f276 := Tryz.func233.trans (congrArg some (by kernel_rfl))
  t0 := Tryz.underlying0
  a0 := Tryz.isAgg0
  z0 := Tryz.sizeOf0
  v0 := Tryz.zeroValue0
  t4 := Tryz.underlying4
  a4 := Tryz.isAgg4
  z4 := Tryz.sizeOf4
  v4 := Tryz.zeroValue4
  t9 := Tryz.underlying9
  a9 := Tryz.isAgg9
  z9 := Tryz.sizeOf9
  v9 := Tryz.zeroValue9
  t20 := Tryz.underlying20
  a20 := Tryz.isAgg20
  z20 := Tryz.sizeOf20
  v20 := Tryz.zeroValue20
  t70 := Tryz.underlying83
  a70 := Tryz.isAgg83
  z70 := Tryz.sizeOf83
  v70 := Tryz.zeroValue83
  t72 := Tryz.underlying86
  a72 := Tryz.isAgg86
  z72 := Tryz.sizeOf86
  v72 := Tryz.zeroValue86
  t164 := Tryz.underlying194
  a164 := Tryz.isAgg194
  z164 := Tryz.sizeOf194
  v164 := Tryz.zeroValue194 }
def Tryz.layb166_ren : Go.Shelf.Ren := ⟨fun | 240 => 192 | 276 => 233 | 166 => 122 | n => n, fun | 0 => 0 | 3 => 3 | 4 => 4 | 9 => 9 | 20 => 20 | 37 => 84 | 70 => 83 | 72 => 86 | 75 => 93 | 80 => 95 | 164 => 194 | 5 => 5 | n => n, fun | n => n⟩
theorem Tryz.layb166 : Go.Proofs.Lays.n166 Tryz.prog Tryz.layb166_ren := {
  mixed := by kernel_rfl
  f166 := Tryz.func122.trans (congrArg some (by kernel_rfl))
  f240 := Tryz.func192.trans (congrArg some (by kernel_rfl))
  f276 := Tryz.func233.trans (congrArg some (by kernel_rfl))
  t0 := Tryz.underlying0
  a0 := Tryz.isAgg0
  z0 := Tryz.sizeOf0
  v0 := Tryz.zeroValue0
  t3 := Tryz.underlying3
  a3 := Tryz.isAgg3
  z3 := Tryz.sizeOf3
  v3 := Tryz.zeroValue3
  t4 := Tryz.underlying4
  a4 := Tryz.isAgg4
  z4 := Tryz.sizeOf4
  v4 := Tryz.zeroValue4
  t9 := Tryz.underlying9
  a9 := Tryz.isAgg9
  z9 := Tryz.sizeOf9
  v9 := Tryz.zeroValue9
  t20 := Tryz.underlying20
  a20 := Tryz.isAgg20
  z20 := Tryz.sizeOf20
  v20 := Tryz.zeroValue20
  t37 := Tryz.underlying84
  a37 := Tryz.isAgg84
  z37 := Tryz.sizeOf84
  v37 := Tryz.zeroValue84
  t70 := Tryz.underlying83
  a70 := Tryz.isAgg83
  z70 := Tryz.sizeOf83
  v70 := Tryz.zeroValue83
  t72 := Tryz.underlying86
  a72 := Tryz.isAgg86
  z72 := Tryz.sizeOf86
  v72 := Tryz.zeroValue86
  t75 := Tryz.underlying93
  a75 := Tryz.isAgg93
  z75 := Tryz.sizeOf93
  v75 := Tryz.zeroValue93
  t164 := Tryz.underlying194
  a164 := Tryz.isAgg194
  z164 := Tryz.sizeOf194
  v164 := Tryz.zeroValue194 }
theorem Tryz.Builder_X72 : Builder.X72 Tryz.prog Tryz.layb240_ren where
  sizeBuilder := by kernel_rfl
  liesBuilder := by kernel_rfl
theorem Tryz.Builder_Extra : Builder.Extra Tryz.prog Tryz.layb166_ren where
  sizeBuilder := by kernel_rfl
  liesBuilder := by kernel_rfl
  t5 := Tryz.underlying5
  a5 := Tryz.isAgg5
  z5 := Tryz.sizeOf5
  v5 := Tryz.zeroValue5
  infoByte := by kernel_rfl
  cellsByte := by kernel_rfl
  sizeByte := by kernel_rfl
  neB5 := by decide
open Go.RowKit in
theorem Tryz.Builder_Write (B b : Nat) (bs : List Value) (s : ByteArray) (w : World) (h : Lib.IsBuilder 86 5 B b bs w) (hlen : bs.length + s.size ≤ 140737488355328) (hBw : B ≤ w.heap.size) :
    Calls Tryz.prog 122 #[.pointer (some ⟨b, 0, none⟩), .string s] w fun e w' => e = .returned (.tuple #[.int .i64 s.size, .nilIface]) ∧ (Lib.BuilderAt 86 5 B b (.pointer (some ⟨b, 0, none⟩)) (bs ++ Lib.strCells s) w' ∧ Below B w w') := Any.Builder_WriteString Tryz.layb166 Tryz.Builder_Extra B b bs s w h hlen hBw
end Go.Proofs
namespace Go.Proofs
open Go.Shelf
def Tryz.layb167_ren : Go.Shelf.Ren := ⟨fun | 240 => 192 | 276 => 233 | 167 => 207 | n => n, fun | 0 => 0 | 3 => 3 | 4 => 4 | 9 => 9 | 20 => 20 | 37 => 84 | 70 => 83 | 72 => 86 | 75 => 93 | 80 => 95 | 164 => 194 | 5 => 5 | n => n, fun | n => n⟩
theorem Tryz.layb167 : Go.Proofs.Lays.n167 Tryz.prog Tryz.layb167_ren := {
  mixed := by kernel_rfl
  f167 := Tryz.func207.trans (congrArg some (by kernel_rfl))
  f240 := Tryz.func192.trans (congrArg some (by kernel_rfl))
  f276 := Tryz.func233.trans (congrArg some (by kernel_rfl))
  t0 := Tryz.underlying0
  a0 := Tryz.isAgg0
  z0 := Tryz.sizeOf0
  v0 := Tryz.zeroValue0
  t4 := Tryz.underlying4
  a4 := Tryz.isAgg4
  z4 := Tryz.sizeOf4
  v4 := Tryz.zeroValue4
  t5 := Tryz.underlying5
  a5 := Tryz.isAgg5
  z5 := Tryz.sizeOf5
  v5 := Tryz.zeroValue5
  t9 := Tryz.underlying9
  a9 := Tryz.isAgg9
  z9 := Tryz.sizeOf9
  v9 := Tryz.zeroValue9
  t20 := Tryz.underlying20
  a20 := Tryz.isAgg20
  z20 := Tryz.sizeOf20
  v20 := Tryz.zeroValue20
  t37 := Tryz.underlying84
  a37 := Tryz.isAgg84
  z37 := Tryz.sizeOf84
  v37 := Tryz.zeroValue84
  t70 := Tryz.underlying83
  a70 := Tryz.isAgg83
  z70 := Tryz.sizeOf83
  v70 := Tryz.zeroValue83
  t72 := Tryz.underlying86
  a72 := Tryz.isAgg86
  z72 := Tryz.sizeOf86
  v72 := Tryz.zeroValue86
  t75 := Tryz.underlying93
  a75 := Tryz.isAgg93
  z75 := Tryz.sizeOf93
  v75 := Tryz.zeroValue93
  t164 := Tryz.underlying194
  a164 := Tryz.isAgg194
  z164 := Tryz.sizeOf194
  v164 := Tryz.zeroValue194 }
theorem Tryz.Builder_Extra167 : Builder.Extra Tryz.prog Tryz.layb167_ren where
  sizeBuilder := by kernel_rfl
  liesBuilder := by kernel_rfl
  t5 := Tryz.underlying5
  a5 := Tryz.isAgg5
  z5 := Tryz.sizeOf5
  v5 := Tryz.zeroValue5
  infoByte := by kernel_rfl
  cellsByte := by kernel_rfl
  sizeByte := by kernel_rfl
  neB5 := by decide
open Go.RowKit in
theorem Tryz.Builder_PutByte (B b : Nat) (bs : List Value) (c : Int) (w : World) (h : Lib.IsBuilderF 86 5 B b bs w) (hlen : bs.length + 1 ≤ 140737488355328) (hBw : B ≤ w.heap.size) :
    Calls Tryz.prog 207 #[.pointer (some ⟨b, 0, none⟩), .int .u8 c] w fun e w' => e = .returned .nilIface ∧ (Lib.BuilderAtF 86 5 B b (.pointer (some ⟨b, 0, none⟩)) (bs ++ [.int .u8 c]) w' ∧ Below B w w' ∧ Lib.OthersKept 5 (some b) w w') := Any.Builder_WriteByte_k Tryz.layb167 Tryz.Builder_Extra167 B b bs c w h hlen hBw
open Go.RowKit in
theorem Tryz.Builder_PutString (B b : Nat) (bs : List Value) (s : ByteArray) (w : World) (h : Lib.IsBuilderF 86 5 B b bs w) (hlen : bs.length + s.size ≤ 140737488355328) (hBw : B ≤ w.heap.size) :
    Calls Tryz.prog 122 #[.pointer (some ⟨b, 0, none⟩), .string s] w fun e w' => e = .returned (.tuple #[.int .i64 s.size, .nilIface]) ∧ (Lib.BuilderAtF 86 5 B b (.pointer (some ⟨b, 0, none⟩)) (bs ++ Lib.strCells s) w' ∧ Below B w w' ∧ Lib.OthersKept 5 (some b) w w') := Any.Builder_WriteString_k Tryz.layb166 Tryz.Builder_Extra B b bs s w h hlen hBw
end Go.Proofs
namespace Go.Proofs.YteiccjakaabfnaaGreatDoor
open Go.RowKit

theorem Es.builder_below {T e : TypeId} {B b : Nat} {bs : List Value} {w w' : World} (h : Lib.IsBuilderF T e B b bs w) (hb : Below w.heap.size w w') : Lib.IsBuilderF T e B b bs w' := by
  have key : ∀ p, Lib.BuilderAtF T e B b p bs w → Lib.BuilderAtF T e B b p bs w' := by
    intro p h
    have hlt := h.lt
    obtain ⟨hB, v, hc, hown, hne⟩ := h
    exact ⟨hB, v, (hb.block b hlt).trans hc, hown.kept (row := none) ⟨hb.os, hb.tape, hb.output, hb.size, fun k hk _ => hb.block k hk⟩ (Classical.em _), hne⟩
  exact h.elim (fun x => .inl (key _ x)) (fun x => .inr (key _ x))
/-- What stands where bytes were put behind what a builder had. -/
structure Es.Put (B g : Nat) (pre add : List UInt8) (w w' : World) : Prop where
  bld : Lib.IsBuilderF 86 5 B g (Lib.byteCells (pre ++ add)) w'
  below : Below B w w'
  size : w.heap.size ≤ w'.heap.size
theorem Es.Put.trans {B g : Nat} {pre a b : List UInt8} {w w1 w2 : World} (h : Es.Put B g pre a w w1) (k : Es.Put B g (pre ++ a) b w1 w2) : Es.Put B g pre (a ++ b) w w2 :=
  ⟨by rw [← List.append_assoc]; exact k.bld, h.below.trans k.below, Nat.le_trans h.size k.size⟩
theorem Es.putString {B g : Nat} {pre : List UInt8} (s : ByteArray) (w : World) (h : Lib.IsBuilderF 86 5 B g (Lib.byteCells pre) w) (hl : pre.length + s.size ≤ 140737488355328) (hB : B ≤ w.heap.size) :
    Calls Tryz.prog 122 #[.pointer (some ⟨g, 0, none⟩), .string s] w fun e w' => e = .returned (.tuple #[.int .i64 s.size, .nilIface]) ∧ Es.Put B g pre s.data.toList w w' := by
  refine (Tryz.Builder_PutString B g _ s w h (by rw [Lib.byteCells_length]; exact hl) hB).mono ?_
  rintro e w' ⟨rfl, h1, h2, h3⟩
  refine ⟨rfl, Or.inr ?_, h2, h2.size⟩
  rw [Lib.byteCells_append, ← Lib.strCells_eq]
  exact h1
theorem Es.putByte {B g : Nat} {pre : List UInt8} (k : Nat) (hk : k ≤ 255) (w : World) (h : Lib.IsBuilderF 86 5 B g (Lib.byteCells pre) w) (hl : pre.length + 1 ≤ 140737488355328) (hB : B ≤ w.heap.size) :
    Calls Tryz.prog 207 #[.pointer (some ⟨g, 0, none⟩), .int .u8 k] w fun e w' => e = .returned .nilIface ∧ Es.Put B g pre [UInt8.ofNat k] w w' := by
  refine (Tryz.Builder_PutByte B g _ k w h (by rw [Lib.byteCells_length]; exact hl) hB).mono ?_
  rintro e w' ⟨rfl, h1, h2, h3⟩
  refine ⟨rfl, Or.inr ?_, h2, h2.size⟩
  rw [Lib.byteCells_append, show Lib.byteCells [UInt8.ofNat k] = [.int .u8 k] by show [Value.int .u8 ((UInt8.ofNat k).toNat : Nat)] = _; rw [UInt8.toNat_ofNat_of_lt' (by show k < 256; omega)]]
  exact h1
theorem Es.new (w : World) (o : Obj) : (w.alloc o).heap[w.heap.size]? = some o := by
  show (w.heap.push o)[w.heap.size]? = some o
  simp
theorem Es.newBuilder (w : World) : Lib.IsBuilderF 86 5 w.heap.size w.heap.size (Lib.byteCells []) (w.alloc (.cells #[.pointer none, .slice none 0 0] 86)) :=
  Or.inl ⟨Nat.le_refl _, .slice none 0 0, Es.new _ _, World.ownsRowF_nil _ _ _ _, by simp [Value.ownBlock]⟩
end Go.Proofs.YteiccjakaabfnaaGreatDoor
namespace Go.Proofs.YteiccjakaabfnaaGreatDoor.Sc
open Go.Lib

theorem join_eq : ∀ p : List ByteArray, Lib.join (p.map (·.data.toList)) [46] = joinP p
  | [] => rfl
  | [a] => by simp [Lib.join, List.intercalate, joinP]
  | a :: b :: r => by
    have ih := join_eq (b :: r)
    unfold Lib.join at ih ⊢
    rw [joinP, ← ih]
    simp [List.intercalate]
theorem trimR_end (p m : List UInt8) (h : m ≠ []) (hx : ∀ x ∈ m, x ≠ 32) : trimRightB (p ++ m) 32 = p ++ m := by
  unfold trimRightB
  rw [List.reverse_append]
  cases hm : m.reverse with
  | nil => exact absurd (List.reverse_eq_nil_iff.1 hm) h
  | cons z r =>
    have hz : z ≠ 32 := hx z (by rw [← List.mem_reverse, hm]; simp)
    rw [List.cons_append, List.dropWhile_cons_of_neg (by simp [hz]), ← List.cons_append, ← hm, ← List.reverse_append, List.reverse_reverse]
theorem trimL_head (z : UInt8) (r : List UInt8) (h : z ≠ 32) : trimLeftB (z :: r) 32 = z :: r := by
  unfold trimLeftB
  rw [List.dropWhile_cons_of_neg (by simp [h])]
/-- What source trims. -/
def midT (t : T) : List UInt8 := (kw t.kind).data.toList ++ ([32] ++ joinP t.path)
theorem trim_mid {t : T} (h : okT t = true) (h1 : t.kind ≠ 1) : trimB (midT t) 32 = wordT t := by
  obtain ⟨e, hc⟩ := okT_tag h h1
  obtain ⟨k, x, p⟩ := t
  simp only at e hc h1
  rcases hc with ⟨hk, hp⟩ | ⟨hk, rfl⟩
  · obtain ⟨g1, _, g3, _⟩ := pathOk_facts hp
    obtain ⟨hj0, hj⟩ := join_ne g1 g3
    have hx : ∀ y ∈ joinP p, y ≠ 32 := fun y hy => (hj y hy).1
    rcases hk with rfl | rfl | rfl
    · show trimLeftB (trimRightB ([] ++ ([32] ++ joinP p)) 32) 32 = joinP p
      rw [List.nil_append, trimR_end [32] _ hj0 hx]
      cases hJ : joinP p with
      | nil => exact absurd hJ hj0
      | cons z r =>
        have hz : z ≠ 32 := hx z (by rw [hJ]; simp)
        show trimLeftB (32 :: z :: r) 32 = _
        unfold trimLeftB
        rw [List.dropWhile_cons_of_pos (by simp), List.dropWhile_cons_of_neg (by simp [hz])]
    · show trimLeftB (trimRightB ([105, 102] ++ ([32] ++ joinP p)) 32) 32 = _
      rw [← List.append_assoc, trimR_end _ _ hj0 hx]
      rfl
    · show trimLeftB (trimRightB ([101, 97, 99, 104] ++ ([32] ++ joinP p)) 32) 32 = _
      rw [← List.append_assoc, trimR_end _ _ hj0 hx]
      rfl
  · rcases hk with rfl | rfl
    · rfl
    · rfl
theorem mid_len {t : T} (h : okT t = true) (h1 : t.kind ≠ 1) : t.path.length ≤ 4 ∧ (joinP t.path).length ≤ 131 ∧ t.kind ≤ 6 ∧ 2 ≤ t.kind := by
  obtain ⟨e, hc⟩ := okT_tag h h1
  obtain ⟨k, x, p⟩ := t
  simp only at e hc h1 ⊢
  have hlen : ∀ p : List ByteArray, (∀ n ∈ p, Vl.nameL n.data.toList = true) → (joinP p).length ≤ 33 * p.length := by
    intro p hp
    have hn : ∀ n ∈ p, n.data.toList.length ≤ 32 := fun n hn => by
      have := hp n hn
      unfold Vl.nameL at this
      simp only [Bool.and_eq_true, decide_eq_true_eq] at this
      first | exact this.1.1 | exact this.1.2 | exact this.1 | exact this.2
    clear hp
    induction p with
    | nil => simp [joinP]
    | cons a r ih =>
      have h1 := hn a (by simp)
      have h2 := ih (fun n h => hn n (by simp [h]))
      cases r with
      | nil => simp only [joinP, List.length_cons, List.length_nil]; omega
      | cons b r =>
        rw [joinP, List.length_append, List.length_cons]
        simp only [List.length_cons] at h2 ⊢
        omega
  rcases hc with ⟨hk, hp⟩ | ⟨hk, rfl⟩
  · obtain ⟨g1, g2, g3, _⟩ := pathOk_facts hp
    have hl := hlen p g3
    have hl2 : (joinP p).length ≤ 131 := by
      have h32 : ∀ p : List ByteArray, p ≠ [] → (∀ n ∈ p, Vl.nameL n.data.toList = true) → (joinP p).length + 1 ≤ 33 * p.length := by
        intro p
        induction p with
        | nil => intro h; exact absurd rfl h
        | cons a r ih =>
          intro _ hp
          have ha : a.data.toList.length ≤ 32 := by
            have := hp a (by simp)
            unfold Vl.nameL at this
            simp only [Bool.and_eq_true, decide_eq_true_eq] at this
            first | exact this.1.1 | exact this.1.2 | exact this.1 | exact this.2
          cases r with
          | nil => simp only [joinP, List.length_cons, List.length_nil]; omega
          | cons b r =>
            have h2 := ih (by simp) (fun n h => hp n (by simp [h]))
            rw [joinP, List.length_append, List.length_cons]
            simp only [List.length_cons] at h2 ⊢
            omega
      have := h32 p g1 g3
      omega
    exact ⟨g2, hl2, by omega, by omega⟩
  · exact ⟨by simp, by simp [joinP], by omega, by omega⟩
end Go.Proofs.YteiccjakaabfnaaGreatDoor.Sc
namespace Go.Proofs.YteiccjakaabfnaaGreatDoor
open Go.RowKit Go.Shelf

theorem Sc.join_any (pn : Option Addr) (cn : Nat) (p : List ByteArray) (w : World) (hp : Wp.At Wp.mkT w pn p) (hc : p.length ≤ cn) (h4 : p.length ≤ 4) (hl : (Sc.joinP p).length ≤ 131) :
    Calls Tryz.prog 79 #[.slice pn p.length cn, .string ⟨#[46]⟩] w fun e w' => e = .returned (.string (Wp.B (Sc.joinP p))) ∧ Below w.heap.size w w' := by
  rcases hp with rfl | ⟨b, off, rfl, hcell⟩
  · refine (Tryz.strings_Join_none pn cn ⟨#[46]⟩ w).mono ?_
    rintro e w' ⟨rfl, rfl⟩
    exact ⟨rfl, Below.refl _ _⟩
  · cases p with
    | nil =>
      refine (Tryz.strings_Join_none (some ⟨b, off, none⟩) cn ⟨#[46]⟩ w).mono ?_
      rintro e w' ⟨rfl, rfl⟩
      exact ⟨rfl, Below.refl _ _⟩
    | cons a r =>
      have hcs : ∀ (j : Nat) x, (a :: r)[j]? = some x → w.cell? ⟨b, off + j, none⟩ = some (.string x) := fun j x hx => by
        obtain ⟨hj, he⟩ := List.getElem?_eq_some_iff.1 hx
        rw [hcell j hj, he]
        rfl
      have hb : b < w.heap.size := World.block_lt_of_cell? w _ (hcs 0 a rfl)
      have h := Tryz.strings_Join b off cn (a :: r) ⟨#[46]⟩ w hcs hb (by omega) hc (by rw [show (⟨#[46]⟩ : ByteArray).data.toList = [46] from rfl, Sc.join_eq]; omega)
      rw [show (⟨#[46]⟩ : ByteArray).data.toList = [46] from rfl, Sc.join_eq] at h
      exact h
theorem Sc.Laid.kwc {w : World} (h : Sc.Laid w) (k : Nat) (h2 : 2 ≤ k) (h6 : k ≤ 6) : w.cell? ⟨4, k, none⟩ = some (.string (Sc.kw k)) := by
  obtain ⟨c0, c1, c2, c3, c4, c5, c6⟩ := h.cells
  have : k = 2 ∨ k = 3 ∨ k = 4 ∨ k = 5 ∨ k = 6 := by omega
  rcases this with rfl | rfl | rfl | rfl | rfl
  · exact c2
  · exact c3
  · exact c4
  · exact c5
  · exact c6
end Go.Proofs.YteiccjakaabfnaaGreatDoor
namespace Go.Proofs.YteiccjakaabfnaaGreatDoor
open Go.RowKit Go.Shelf

theorem Sc.srcs_snoc (l : List Sc.T) (k : Nat) (h : k < l.length) : Sc.srcs (l.take (k + 1)) = Sc.srcs (l.take k) ++ Sc.srcT l[k] := by
  unfold Sc.srcs
  rw [List.take_succ_eq_append_getElem h, List.map_append, List.flatten_append]
  simp
theorem Sc.srcs_le (l : List Sc.T) (k : Nat) : (Sc.srcs (l.take k)).length ≤ (Sc.srcs l).length := by
  unfold Sc.srcs
  conv => rhs; rw [← List.take_append_drop k l]
  rw [List.map_append, List.flatten_append, List.length_append]
  omega
theorem Sc.srcT_len {t : Sc.T} (h : Sc.okT t = true) (hs : t.text.size ≤ 4000000000) : (Sc.srcT t).length ≤ 4000000200 := by
  unfold Sc.srcT
  by_cases h1 : t.kind = 1
  · rw [if_pos h1, ← Wp.size_len]; omega
  · rw [if_neg h1]
    obtain ⟨_, gj, _, _⟩ := Sc.mid_len h h1
    have : (Sc.wordT t).length ≤ 136 := by
      unfold Sc.wordT
      repeat' split
      all_goals first | omega | (simp [Sc.wIf, Sc.wEach, Sc.wElse, Sc.wEnd]; done) | (simp [Sc.wIf, Sc.wEach, Sc.wElse, Sc.wEnd]; omega)
    simp only [List.length_append, Sc.oo, Sc.cc, List.length_cons, List.length_nil]
    omega
theorem Sc.writeR_bad {l : List Sc.T} (h : Sc.okTs l = false) : Sc.writeR l = ([], 2) := by unfold Sc.writeR; rw [if_neg (by rw [h]; exact Bool.false_ne_true)]
theorem Sc.writeR_long {l : List Sc.T} (h : Sc.okTs l = true) (hl : 1024 < (Sc.srcs l).length) : Sc.writeR l = ([], 12) := by unfold Sc.writeR; rw [if_pos h, if_pos hl]
theorem Sc.writeR_ok {l : List Sc.T} (h : Sc.okTs l = true) (hl : ¬ 1024 < (Sc.srcs l).length) : Sc.writeR l = (Sc.srcs l, 0) := by unfold Sc.writeR; rw [if_pos h, if_neg hl]
end Go.Proofs.YteiccjakaabfnaaGreatDoor
namespace Go.Proofs.YteiccjakaabfnaaGreatDoor
open Go.RowKit

theorem Nd.toksR_bad {l : List Nd.N} (h : Nd.good l = false) : Nd.toksR l = ([], 2) := by unfold Nd.toksR; rw [h]; rfl
theorem Nd.toksR_ok {l : List Nd.N} (h : Nd.good l = true) : Nd.toksR l = (Nd.toksL l, 0) := by unfold Nd.toksR; rw [if_pos h]
theorem Nd.toksR_chk (l : List Nd.N) : (Nd.toksR l).2 = Nd.chk l := by
  unfold Nd.toksR Nd.chk
  split <;> rfl
/-- What rightTokens hands back. -/
def Nd.RTPost (R : List Sc.T × Int) (w : World) (e : Ending) (w' : World) : Prop := ∃ v, e = .returned (.tuple #[v, .int .i64 R.2]) ∧ Nd.TRow w w.heap.size w' v R.1 ∧ Below w.heap.size w w'
set_option maxRecDepth 100000 in
set_option maxHeartbeats 2000000 in
theorem ndRightTokens_any (l : List Nd.N) (q : Option Addr) (c : Nat) (w : World) (hn : l.length ≤ 140737488351232) (hA : Nd.Row w q l) (hts : ∀ t ∈ Nd.toksL l, t.text.size ≤ 4000000000) (hT : Sc.Laid w) (hM : Sc.MaxLen w) :
    Calls Tryz.prog 76 #[.slice q l.length c] w (Nd.RTPost (Nd.toksR l) w) := by
  have hg := Nd.go_shaped l
  have Hgo := Lib.hid (Nd.go_shaped l)
  have HX := Lib.hid ((Below.refl w.heap.size w).alloc (Nat.le_refl _) (.cells #[.int .i64 256] 3))
  have CS := Lib.hid (shaped_any 8 l q c w (w.alloc (.cells #[.int .i64 256] 3)) w.heap.size 256 (Nat.le_refl _) (by decide) (by decide) hn hA HX.out (Nat.le_refl _) (Vl.new _ _))
  have CP := Lib.hid (fun (h : Nd.okL 8 l = true) W (h2 : Below w.heap.size w W) (h3 : (Nd.toksL l).length ≤ 1000) => put_any 8 l q c w w.heap.size W (.slice none 0 0) [] h hn hA (Nat.le_refl _) h2 h2.size (Nd.TRow.nil _ _ _) (by rw [List.length_nil, Nat.zero_add]; exact h3))
  have HL := Lib.hid (fun (h : Nd.shapedP l = true) => (by
    unfold Nd.shapedP at h
    rw [Bool.and_eq_true, decide_eq_true_eq] at h
    have := Nd.toks_len 8 l h.1
    exact ⟨h.1, by omega⟩ : Nd.okL 8 l = true ∧ (Nd.toksL l).length ≤ 1000))
  have CC := Lib.hid (fun p2 c2 W (h : Sc.At W p2 (Nd.toksL l)) (h3 : (Nd.toksL l).length ≤ 1000) (hb : Below w.heap.size w W) => scCheck_any (Nd.toksL l) p2 c2 W h (by omega) hts (hT.below hb) (hM.below hb))
  obtain ⟨R, hR⟩ : ∃ R, R = Nd.toksR l := ⟨_, rfl⟩
  rw [← hR]
  have hgd : Nd.good l = (Nd.shapedP l && Sc.okTs (Nd.toksL l)) := rfl
  have HR1 := Lib.hid (fun (h : Nd.good l = false) => hR.trans (Nd.toksR_bad h))
  have HR2 := Lib.hid (fun (h : Nd.good l = true) => hR.trans (Nd.toksR_ok h))
  have Hchk := Lib.hid (show Sc.chkTs (Nd.toksL l) = if Sc.okTs (Nd.toksL l) then 0 else 2 from rfl)
  rw [hgd] at HR1 HR2
  unfold Nd.ShapePost at CS
  rw [hg] at CS
  clear hg hn hA hT hM hR hgd hts Hgo
  generalize Nd.shapedP l = sh at *
  generalize Nd.toksL l = tl at *
  generalize (Nd.go 8 l 256).2 = rr at *
  generalize Nd.okL 8 l = ok at *
  generalize l.length = n at *
  go_enter Tryz.func76, Tryz.ntmps76
  go_wp2_with fail
  refine CS.out.mono ?_
  rintro e w1 ⟨rfl, hg1, -⟩
  have HB1 := Lib.hid (below_grownBy HX.out hg1 (Nat.le_refl _) HX.out.size)
  clear hg1 HX CS
  cases sh with
  | false =>
    obtain rfl := HR1.out rfl
    go_wp2_with fail
    go_ret2
    exact ⟨_, rfl, Nd.TRow.nil _ _ _, HB1.out⟩
  | true =>
    obtain ⟨h1, h2⟩ := HL.out rfl
    have HP := Lib.hid (CP.out h1 w1 HB1.out h2)
    have H2 := Lib.hid h2
    clear h1 h2 CP HL
    go_wp2_with fail
    refine HP.out.mono ?_
    rintro e w2 ⟨v2, rfl, hT2, hg2⟩
    rw [List.nil_append] at hT2
    have hB2 : Below w.heap.size w w2 := HB1.out.trans ⟨hg2.1.os, hg2.1.tape, hg2.1.output, hg2.1.size, fun k hk => hg2.1.block k (Nat.lt_of_lt_of_le hk HB1.out.size) (by rintro ⟨⟩)⟩
    obtain ⟨p2, c2, rfl, hA2⟩ := hT2.at hB2
    have HC := Lib.hid (CC.out p2 c2 w2 hA2 H2.out hB2)
    have HB2 := Lib.hid hB2
    have HT2 := Lib.hid hT2
    clear hg2 hT2 hA2 hB2 CC HP
    go_wp2_with fail
    refine HC.out.mono ?_
    rintro e w3 ⟨rfl, hb3⟩
    have HB3 := Lib.hid (HB2.out.trans (hb3.mono HB2.out.size))
    have HT3 := Lib.hid (HT2.out.below hb3)
    clear hb3 HC HT2 HB2 HB1
    rw [Hchk.out]
    cases hok : Sc.okTs tl with
    | false =>
      obtain rfl := HR1.out (by rw [hok]; rfl)
      clear hok
      go_wp2_with fail
      go_ret2
      exact ⟨_, rfl, Nd.TRow.nil _ _ _, HB3.out⟩
    | true =>
      obtain rfl := HR2.out (by rw [hok]; rfl)
      clear hok
      go_wp2_with fail
      go_ret2
      exact ⟨_, rfl, HT3.out, HB3.out⟩
set_option maxRecDepth 100000 in
theorem ndCheck_any (l : List Nd.N) (q : Option Addr) (c : Nat) (w : World) (hn : l.length ≤ 140737488351232) (hA : Nd.Row w q l) (hts : ∀ t ∈ Nd.toksL l, t.text.size ≤ 4000000000) (hT : Sc.Laid w) (hM : Sc.MaxLen w) :
    Calls Tryz.prog 36 #[.slice q l.length c] w fun e w' => e = .returned (.int .i64 (Nd.chk l)) ∧ Below w.heap.size w w' := by
  have C := Lib.hid (ndRightTokens_any l q c w hn hA hts hT hM)
  rw [← Nd.toksR_chk]
  clear hA hts hT hM hn
  generalize Nd.toksR l = R at *
  generalize l.length = n at *
  go_enter Tryz.func36, Tryz.ntmps36
  go_wp2_with fail
  refine C.out.mono ?_
  rintro e w1 ⟨v, rfl, -, hb⟩
  have HB := Lib.hid hb
  clear hb C
  go_wp2_with fail
  go_ret
  exact ⟨rfl, HB.out⟩
end Go.Proofs.YteiccjakaabfnaaGreatDoor
