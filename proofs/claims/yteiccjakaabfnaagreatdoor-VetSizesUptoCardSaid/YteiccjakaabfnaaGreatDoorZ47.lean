/-
  Values as plain data: what is right, how many parts, what is a name. No condition.
  What a value's value reads as; the walks of value's smallest calls. Conditions: texts and lists are of a size that a machine holds.
  The walks of value's namesRight and fieldsRight: what a value by itself is to have. Conditions: texts and lists are of a size that a machine holds.
-/
import Derived.Test.YteiccjakaabfnaaGreatDoorZ52
import Derived.Test.YteiccjakaabfnaaGreatDoorRows
import Derived.Deep.LoopGhost
import Derived.Lib.Walk
namespace Go.Proofs.YteiccjakaabfnaaGreatDoor

/-- A value: its kind, its text, its number, its items, its names. -/
inductive Vl.V where
  | mk (kind : Nat) (text : ByteArray) (num : Int) (items : List Vl.V) (names : List ByteArray)
namespace Vl
def V.kind : V → Nat | .mk k _ _ _ _ => k
def V.text : V → ByteArray | .mk _ t _ _ _ => t
def V.num : V → Int | .mk _ _ n _ _ => n
def V.items : V → List V | .mk _ _ _ l _ => l
def V.names : V → List ByteArray | .mk _ _ _ _ l => l
theorem V.eta : ∀ v : V, v = .mk v.kind v.text v.num v.items v.names | .mk _ _ _ _ _ => rfl
def zero : V := .mk 0 ⟨#[]⟩ 0 [] []

/-- A name's byte: the first one, another one. -/
def low (b : UInt8) : Bool := decide (97 ≤ b.toNat) && decide (b.toNat ≤ 122)
def dig (b : UInt8) : Bool := decide (48 ≤ b.toNat) && decide (b.toNat ≤ 57)
def fol (b : UInt8) : Bool := low b || dig b || b == 95
def headLow : List UInt8 → Bool
  | [] => false
  | a :: _ => low a
def nameL (l : List UInt8) : Bool := decide (l.length ≤ 32) && headLow l && l.all fol
def named (s : ByteArray) : Bool := nameL s.data.toList
def nameC (s : ByteArray) : Int := if named s then 0 else 13
/-- Bytes are ahead of others. -/
def ltB (a b : ByteArray) : Bool := Op.bytesLess a.toList b.toList
def upB (a x : ByteArray) : Bool := !(Op.bytesLess x.toList a.toList || x.toList == a.toList)
def rise : ByteArray → List ByteArray → Bool
  | _, [] => true
  | a, x :: l => named x && upB a x && rise x l
def namesOk (l : List ByteArray) : Bool := rise ⟨#[]⟩ l
/-- What a value by itself is to have. -/
def leafC (k : Nat) (t : ByteArray) (n : Int) (ni : Nat) (names : List ByteArray) : Bool :=
  match k with
  | 1 => decide (t.size ≤ 4096) && decide (n = 0) && decide (ni = 0) && decide (names.length = 0)
  | 2 => decide (t.size = 0) && decide (ni = 0) && decide (names.length = 0)
  | 3 => (decide (n = 0) || decide (n = 1)) && (decide (t.size = 0) && decide (ni = 0) && decide (names.length = 0))
  | 4 => decide (t.size = 0) && decide (n = 0) && decide (names.length = 0)
  | 5 => decide (t.size = 0) && decide (n = 0) && decide (names.length = ni) && namesOk names
  | _ => false
def leaf (v : V) : Bool := leafC v.kind v.text v.num v.items.length v.names
/-- Right, of so many levels. -/
def okV : Nat → V → Bool
  | 0, _ => false
  | l + 1, v => leaf v && v.items.all (okV l)
mutual
/-- How many parts. -/
def V.cnt : V → Nat
  | .mk _ _ _ l _ => cntL l + 1
def cntL : List V → Nat
  | [] => 0
  | x :: l => x.cnt + cntL l
end
theorem V.cnt_eq : ∀ v : V, v.cnt = cntL v.items + 1 | .mk _ _ _ _ _ => by rw [V.cnt]; rfl
theorem V.cnt_pos (v : V) : 1 ≤ v.cnt := by rw [V.cnt_eq]; omega
theorem cntL_cons (x : V) (l : List V) : cntL (x :: l) = x.cnt + cntL l := by rw [cntL]
theorem cntL_nil : cntL [] = 0 := by rw [cntL]
theorem cntL_append (a b : List V) : cntL (a ++ b) = cntL a + cntL b := by
  induction a with
  | nil => rw [List.nil_append, cntL_nil, Nat.zero_add]
  | cons x a ih => rw [List.cons_append, cntL_cons, cntL_cons, ih, Nat.add_assoc]
theorem cntL_len (l : List V) : l.length ≤ cntL l := by
  induction l with
  | nil => simp
  | cons x l ih => rw [cntL_cons, List.length_cons]; have := x.cnt_pos; omega
theorem cntL_mem {x : V} {l : List V} (h : x ∈ l) : x.cnt ≤ cntL l := by
  induction l with
  | nil => simp at h
  | cons y l ih =>
    rw [cntL_cons]
    rcases List.mem_cons.1 h with rfl | h
    · omega
    · have := ih h; omega
def good (v : V) : Bool := okV 8 v && decide (v.cnt ≤ 256)
def chk (v : V) : Int := if good v then 0 else 2

/-- Right, and what room is left: as it is gone through. -/
def goAll (f : V → Int → Bool × Int) : List V → Int → Bool × Int
  | [], r => (true, r)
  | x :: l, r => match f x r with
    | (true, r') => goAll f l r'
    | (false, r') => (false, r')
def go : Nat → V → Int → Bool × Int
  | 0, _, r => (false, r - 1)
  | l + 1, v, r => if r - 1 < 0 ∨ (v.items.length : Int) > r - 1 ∨ leaf v = false then (false, r - 1) else goAll (go l) v.items (r - 1)
theorem go_ok : ∀ (l : Nat) (v : V) (r : Int), ((go l v r).1 = true ↔ okV l v = true ∧ (v.cnt : Int) ≤ r) ∧ ((go l v r).1 = true → (go l v r).2 = r - v.cnt)
  | 0, v, r => by simp [go, okV]
  | l + 1, v, r => by
    have ih := go_ok l
    have key : ∀ (m : List V) (r : Int), 0 ≤ r → (((goAll (go l) m r).1 = true ↔ m.all (okV l) = true ∧ (cntL m : Int) ≤ r) ∧ ((goAll (go l) m r).1 = true → (goAll (go l) m r).2 = r - cntL m)) := by
      intro m
      induction m with
      | nil => intro r hr; simp [goAll, cntL_nil, hr]
      | cons x m ihm =>
        intro r hr
        obtain ⟨i1, i2⟩ := ih x r
        rw [goAll]
        rcases hgo : go l x r with ⟨b, r'⟩
        rw [hgo] at i1 i2
        cases b with
        | false =>
          simp only [Bool.false_eq_true, false_iff] at i1 ⊢
          simp only [List.all_cons, Bool.and_eq_true]
          refine ⟨fun h => i1 ⟨h.1.1, ?_⟩, fun h => h.elim⟩
          have := h.2
          rw [cntL_cons] at this
          omega
        | true =>
          have e := i2 rfl
          simp only at e
          obtain ⟨o1, o2⟩ := i1.1 rfl
          subst e
          obtain ⟨k1, k2⟩ := ihm (r - x.cnt) (by omega)
          simp only [List.all_cons, Bool.and_eq_true]
          refine ⟨k1.trans ⟨fun h => ⟨⟨o1, h.1⟩, ?_⟩, fun h => ⟨h.1.2, ?_⟩⟩, fun h => ?_⟩
          · rw [cntL_cons]; have := h.2; omega
          · have := h.2; rw [cntL_cons] at this; omega
          · rw [k2 h, cntL_cons]; omega
    have hc := v.cnt_eq
    have hlen := cntL_len v.items
    rw [go]
    by_cases h : r - 1 < 0 ∨ (v.items.length : Int) > r - 1 ∨ leaf v = false
    · rw [if_pos h]
      refine ⟨⟨fun h => by simp at h, fun ⟨h1, h2⟩ => ?_⟩, fun h => by simp at h⟩
      exfalso
      rw [okV, Bool.and_eq_true] at h1
      rcases h with h | h | h
      · omega
      · omega
      · rw [h1.1] at h; cases h
    · rw [if_neg h]
      have hlf : leaf v = true := by
        cases hl : leaf v with
        | true => rfl
        | false => exact absurd (Or.inr (Or.inr hl)) h
      obtain ⟨k1, k2⟩ := key v.items (r - 1) (by omega)
      rw [okV, hlf, Bool.true_and]
      refine ⟨k1.trans ⟨fun h => ⟨h.1, by have := h.2; omega⟩, fun h => ⟨h.1, by have := h.2; omega⟩⟩, fun h => ?_⟩
      rw [k2 h]
      omega
theorem go_good (v : V) : (go 8 v 256).1 = good v := by
  have h := (go_ok 8 v 256).1
  unfold good
  rw [Bool.eq_iff_iff, h, Bool.and_eq_true, decide_eq_true_eq]
  exact and_congr Iff.rfl (by omega)
/-- The place of a name. -/
def idx (l : List ByteArray) (s : ByteArray) : Option Nat :=
  match l with
  | [] => none
  | x :: l => if x = s then some 0 else (idx l s).map (· + 1)
/-- What a path finds: none, or a value. -/
def find : V → List ByteArray → Option V
  | v, [] => some v
  | v, s :: p => match idx v.names s with
    | none => none
    | some i => match v.items[i]? with
      | none => none
      | some x => find x p
end Vl
end Go.Proofs.YteiccjakaabfnaaGreatDoor
namespace Go.Proofs.YteiccjakaabfnaaGreatDoor
open Go.RowKit

/-- Five cells side by side. -/
def Vl.Five (w : World) (b o : Nat) (c0 c1 c2 c3 c4 : Value) : Prop :=
  w.cell? ⟨b, o, none⟩ = some c0 ∧ w.cell? ⟨b, o + 1, none⟩ = some c1 ∧ w.cell? ⟨b, o + 2, none⟩ = some c2 ∧ w.cell? ⟨b, o + 3, none⟩ = some c3 ∧ w.cell? ⟨b, o + 4, none⟩ = some c4
theorem Vl.Five.below {w w' : World} {b o : Nat} {c0 c1 c2 c3 c4 : Value} (h : Vl.Five w b o c0 c1 c2 c3 c4) (hb : Below w.heap.size w w') : Vl.Five w' b o c0 c1 c2 c3 c4 := by
  obtain ⟨h0, h1, h2, h3, h4⟩ := h
  exact ⟨(hb.cell (World.block_lt_of_cell? w _ h0)).trans h0, (hb.cell (World.block_lt_of_cell? w _ h1)).trans h1, (hb.cell (World.block_lt_of_cell? w _ h2)).trans h2, (hb.cell (World.block_lt_of_cell? w _ h3)).trans h3, (hb.cell (World.block_lt_of_cell? w _ h4)).trans h4⟩
/-- A value reads as a tree of at most so many levels. -/
def Vl.At : Nat → World → Value → Vl.V → Prop
  | 0, _, _, _ => False
  | d + 1, w, v, x => ∃ pi ci pn cn, v = .agg #[.int .u8 (x.kind : Nat), .string x.text, .int .i64 x.num, .slice pi x.items.length ci, .slice pn x.names.length cn] ∧
      (x.kind ≤ 255 ∧ x.text.size ≤ 140737488351232 ∧ Wp.I64 x.num ∧ x.items.length ≤ 140737488351232 ∧ x.names.length ≤ 140737488351232 ∧ ∀ s ∈ x.names, s.size ≤ 140737488351232) ∧ Wp.At Wp.mkT w pn x.names ∧
      (x.items = [] ∨ ∃ b off, pi = some ⟨b, off, none⟩ ∧ ∀ i (h : i < x.items.length), ∃ c0 c1 c2 c3 c4, Vl.Five w b (off + i * 5) c0 c1 c2 c3 c4 ∧ Vl.At d w (.agg #[c0, c1, c2, c3, c4]) x.items[i])
theorem Vl.At.below : ∀ {d : Nat} {w w' : World} {v : Value} {x : Vl.V}, Vl.At d w v x → Below w.heap.size w w' → Vl.At d w' v x
  | 0, _, _, _, _, h, _ => h
  | d + 1, w, w', v, x, h, hb => by
    obtain ⟨pi, ci, pn, cn, e, hf, hn, hi⟩ := h
    refine ⟨pi, ci, pn, cn, e, hf, hn.below hb, ?_⟩
    rcases hi with hi | ⟨b, off, hp, hc⟩
    · exact Or.inl hi
    · refine Or.inr ⟨b, off, hp, fun i h => ?_⟩
      obtain ⟨c0, c1, c2, c3, c4, h5, ha⟩ := hc i h
      exact ⟨c0, c1, c2, c3, c4, h5.below hb, Vl.At.below ha hb⟩

theorem Vl.low_eq (b : UInt8) : Vl.low b = (decide (97 ≤ b.toNat) && decide (b.toNat ≤ 122)) := rfl
theorem Vl.dig_eq (b : UInt8) : Vl.dig b = (decide (48 ≤ b.toNat) && decide (b.toNat ≤ 57)) := rfl
set_option maxRecDepth 100000 in
theorem isLetter_any (b : UInt8) (w : World) :
    Calls Tryz.prog 196 #[.int .u8 b.toNat] w fun e w' => e = .returned (.bool (Vl.low b)) ∧ w' = w := by
  have hb := b.toNat_lt
  rw [Vl.low_eq]
  generalize b.toNat = n at *
  go_enter Tryz.func196, Tryz.ntmps196
  go_wp2
  · go_ret
    rename_i h
    refine ⟨?_, rfl⟩
    rw [show decide (97 ≤ n) = true from decide_eq_true (by omega), Bool.true_and]
    show Ending.returned (Value.bool _) = _
    congr 2
    exact decide_eq_decide.2 (by omega)
  · go_ret
    rename_i h
    refine ⟨?_, rfl⟩
    rw [show decide (97 ≤ n) = false from decide_eq_false (by omega), Bool.false_and]
    rfl
set_option maxRecDepth 100000 in
theorem isDigit_any (b : UInt8) (w : World) :
    Calls Tryz.prog 197 #[.int .u8 b.toNat] w fun e w' => e = .returned (.bool (Vl.dig b)) ∧ w' = w := by
  have hb := b.toNat_lt
  rw [Vl.dig_eq]
  generalize b.toNat = n at *
  go_enter Tryz.func197, Tryz.ntmps197
  go_wp2
  · go_ret
    rename_i h
    refine ⟨?_, rfl⟩
    rw [show decide (48 ≤ n) = true from decide_eq_true (by omega), Bool.true_and]
    show Ending.returned (Value.bool _) = _
    congr 2
    exact decide_eq_decide.2 (by omega)
  · go_ret
    rename_i h
    refine ⟨?_, rfl⟩
    rw [show decide (48 ≤ n) = false from decide_eq_false (by omega), Bool.false_and]
    rfl
theorem Vl.head_get (s : ByteArray) (h : 0 < s.size) : Vl.headLow s.data.toList = Vl.low s[0] := by
  have e : s.data.toList[0]? = some s[0] := by
    rw [Array.getElem?_toList, Array.getElem?_eq_getElem (by exact h)]
    rfl
  cases hl : s.data.toList with
  | nil => rw [hl] at e; simp at e
  | cons a l => rw [hl] at e; simp at e; rw [← e]; rfl
theorem Vl.all_snoc (s : ByteArray) (k : Nat) (h : k < s.size) (ha : (s.data.toList.take k).all Vl.fol = true) : (s.data.toList.take (k + 1)).all Vl.fol = Vl.fol s[k] := by
  rw [Wp.take_snoc s k h, List.all_append, ha, Bool.true_and, List.all_cons, List.all_nil, Bool.and_true]
theorem Vl.all_bad (s : ByteArray) (k : Nat) (h : (s.data.toList.take k).all Vl.fol = false) : s.data.toList.all Vl.fol = false := by
  rw [← List.take_append_drop k s.data.toList, List.all_append, h, Bool.false_and]
theorem Vl.empty_eq (s : ByteArray) : (s.toList == []) = decide (s.size = 0) := by
  rw [Lib.toList_data, Wp.size_len]
  cases s.data.toList <;> simp
set_option maxHeartbeats 1000000 in
set_option maxRecDepth 100000 in
theorem vlName_any (s : ByteArray) (w : World) (hb : s.size ≤ 9223372036854775807) :
    Calls Tryz.prog 126 #[.string s] w fun e w' => e = .returned (.int .i64 (Vl.nameC s)) ∧ w' = w := by
  have hlen := Wp.size_len s
  by_cases h0 : s.size = 0
  · have hc : Vl.nameC s = 13 := by
      have : s.data.toList = [] := List.length_eq_zero_iff.1 (by omega)
      simp [Vl.nameC, Vl.named, Vl.nameL, Vl.headLow, this]
    have he : (s.toList == []) = true := by rw [Vl.empty_eq, decide_eq_true h0]
    rw [hc]
    clear hc hlen h0
    go_enter Tryz.func126, Tryz.ntmps126
    go_wp2_with fail
    go_ret
    exact ⟨rfl, rfl⟩
  · have he : (s.toList == []) = false := by rw [Vl.empty_eq, decide_eq_false h0]
    by_cases h32 : 32 < s.size
    · have hc : Vl.nameC s = 13 := by
        unfold Vl.nameC Vl.named Vl.nameL
        rw [decide_eq_false (show ¬ s.data.toList.length ≤ 32 by omega)]
        rfl
      rw [hc]
      clear hc hlen h0
      go_enter Tryz.func126, Tryz.ntmps126
      go_wp2_with fail
      go_ret
      exact ⟨rfl, rfl⟩
    · have hpos : 0 < s.size := by omega
      have hhd := Vl.head_get s hpos
      have Hbad1 := Lib.hid (fun (h : Vl.low s[0] = false) => (show Vl.nameC s = 13 by
        unfold Vl.nameC Vl.named Vl.nameL
        rw [hhd, h, Bool.and_false, Bool.false_and]
        rfl))
      have Hbad2 := Lib.hid (fun (h : s.data.toList.all Vl.fol = false) => (show Vl.nameC s = 13 by
        unfold Vl.nameC Vl.named Vl.nameL
        rw [h, Bool.and_false]
        rfl))
      have Hok := Lib.hid (fun (h1 : Vl.low s[0] = true) (h2 : s.data.toList.all Vl.fol = true) => (show Vl.nameC s = 0 by
        unfold Vl.nameC Vl.named Vl.nameL
        rw [hhd, h1, h2, decide_eq_true (by omega)]
        rfl))
      have Hlen := Lib.hid hlen
      generalize Vl.nameC s = r at *
      clear hhd hlen
      go_enter Tryz.func126, Tryz.ntmps126
      go_wp2_with fail
      refine (isLetter_any s[0] _).mono ?_
      rintro e w1 ⟨rfl, rfl⟩
      cases hl0 : Vl.low s[0] with
      | false =>
        obtain rfl := Hbad1.out hl0
        go_wp2_with fail
        go_ret
        exact ⟨rfl, rfl⟩
      | true =>
        have Hok2 := Lib.hid (Hok.out hl0)
        clear Hbad1 Hok
        go_wp2_with fail
        go_loop [3, 19] (fun _ i => ∃ k : Nat, k ≤ s.size ∧ i = .int .i64 k ∧ (s.data.toList.take k).all Vl.fol = true) (fun _ i => s.size - (intOf i).toNat)
        case atStart => exact ⟨0, Nat.zero_le _, rfl, rfl⟩
        case round =>
          obtain ⟨k, hk, rfl, hall⟩ := hrel
          by_cases hlt : k < s.size
          · have hsn := Vl.all_snoc s k hlt hall
            have hgo := fun h => Vl.all_bad s (k + 1) h
            rw [hsn] at hgo
            have Hsn := Lib.hid hsn
            have Hgo := Lib.hid hgo
            have Hbl := Lib.hid (s[k].toNat_lt)
            clear hsn hgo hall
            have hbl := Hbl.out
            have Hf := Lib.hid (show Vl.fol s[k] = (Vl.low s[k] || Vl.dig s[k] || s[k] == 95) from rfl)
            go_wp2_with fail
            refine (isLetter_any s[k] _).mono ?_
            rintro e w1 ⟨rfl, rfl⟩
            cases hlow : Vl.low s[k] with
            | true =>
              have hf := Hf.out
              rw [hlow, Bool.true_or, Bool.true_or] at hf
              have Hsn2 := Lib.hid (Hsn.out.trans hf)
              clear hf
              go_wp2_with fail
              refine ⟨⟨k + 1, by omega, by go_num, Hsn2.out⟩, by simp [intOf]; omega⟩
            | false =>
              go_wp2_with fail
              refine (isDigit_any s[k] _).mono ?_
              rintro e w1 ⟨rfl, rfl⟩
              cases hdig : Vl.dig s[k] with
              | true =>
                have hf := Hf.out
                rw [hlow, hdig, Bool.false_or, Bool.true_or] at hf
                have Hsn2 := Lib.hid (Hsn.out.trans hf)
                clear hf
                go_wp2_with fail
                refine ⟨⟨k + 1, by omega, by go_num, Hsn2.out⟩, by simp [intOf]; omega⟩
              | false =>
                have hf := Hf.out
                rw [hlow, hdig, Bool.false_or, Bool.false_or] at hf
                by_cases h95 : s[k].toNat = 95
                · have hz : s[k] = 95 := UInt8.toNat_inj.1 h95
                  have hne : ((s[k].toNat : Int) != 95) = false := by rw [h95]; rfl
                  have Hsn2 := Lib.hid (Hsn.out.trans (hf.trans (by rw [hz])))
                  clear hf hz
                  go_wp2_with fail
                  refine ⟨⟨k + 1, by omega, by go_num, Hsn2.out⟩, by simp [intOf]; omega⟩
                · have hz : (s[k] == 95) = false := beq_eq_false_iff_ne.2 (fun h => h95 (by rw [h]; rfl))
                  have hne : ((s[k].toNat : Int) != 95) = true := by rw [bne_iff_ne]; omega
                  obtain rfl := Hbad2.out (Hgo.out (hf.trans hz))
                  clear hf hz
                  go_wp2_with fail
                  go_ret
                  exact ⟨rfl, rfl⟩
          · obtain rfl : k = s.size := by omega
            rw [show s.size = s.data.toList.length from Hlen.out, List.take_length] at hall
            obtain rfl := Hok2.out hall
            clear hall
            go_wp2_with fail
            go_ret
            exact ⟨rfl, rfl⟩
end Go.Proofs.YteiccjakaabfnaaGreatDoor
namespace Go.Proofs.YteiccjakaabfnaaGreatDoor
open Go.RowKit

theorem Vl.rise_step (a : ByteArray) (l : List ByteArray) (k : Nat) (h : k < l.length) : Vl.rise a (l.drop k) = (Vl.named l[k] && Vl.upB a l[k] && Vl.rise l[k] (l.drop (k + 1))) := by
  rw [List.drop_eq_getElem_cons h, Vl.rise]
set_option maxHeartbeats 1000000 in
set_option maxRecDepth 100000 in
theorem namesRight_any (p : Option Addr) (c : Nat) (l : List ByteArray) (w : World) (hm : l.length ≤ 140737488351232) (hs : ∀ s ∈ l, s.size ≤ 140737488351232) (hA : Wp.At Wp.mkT w p l) :
    Calls Tryz.prog 194 #[.slice p l.length c] w fun e w' => e = .returned (.bool (Vl.namesOk l)) ∧ w' = w := by
  have HA := Lib.hid hA
  have HS := Lib.hid hs
  obtain ⟨n, hn⟩ : ∃ n, n = l.length := ⟨_, rfl⟩
  have HN := Lib.hid hn
  rw [← hn] at hm ⊢
  obtain ⟨r, hr⟩ : ∃ r, r = Vl.namesOk l := ⟨_, rfl⟩
  have HR := Lib.hid (show r = Vl.rise ⟨#[]⟩ (l.drop 0) from hr)
  rw [← hr]
  clear hA hs hn hr
  go_enter Tryz.func194, Tryz.ntmps194
  go_wp2_with fail
  go_loop [3, 5, 8] (fun a _ t => ∃ (k : Nat) (x : ByteArray), k ≤ n ∧ t = .int .i64 k ∧ a = .string x ∧ Hid (r = Vl.rise x (l.drop k))) (fun _ _ t => n - (intOf t).toNat)
  case atStart => exact ⟨0, _, Nat.zero_le _, rfl, rfl, HR⟩
  case round =>
    obtain ⟨k, a, hk, rfl, rfl, HR⟩ := hrel
    by_cases hlt : k < n
    · have hkl : k < l.length := by rw [← HN.out]; exact hlt
      obtain ⟨b, off, rfl, hcell⟩ := HA.out.get k hkl
      rw [show Wp.mkT l[k] = Value.string l[k] from rfl] at hcell
      have hsx := HS.out l[k] (List.getElem_mem _)
      have HR2 := Lib.hid (HR.out.trans (Vl.rise_step a l k hkl))
      clear HR
      generalize l[k] = x at *
      clear hkl
      go_wp2_with fail
      refine (vlName_any x _ (by omega)).mono ?_
      rintro e w1 ⟨rfl, rfl⟩
      cases hx : Vl.named x with
      | false =>
        have e1 : (Vl.nameC x != 0) = true := by unfold Vl.nameC; rw [hx]; rfl
        have e2 := HR2.out
        rw [hx, Bool.false_and, Bool.false_and] at e2
        subst e2
        go_wp2_with fail
        go_ret
        exact ⟨rfl, rfl⟩
      | true =>
        have e1 : (Vl.nameC x != 0) = false := by unfold Vl.nameC; rw [hx]; rfl
        have e2 := HR2.out
        rw [hx, Bool.true_and] at e2
        have e3 : Vl.upB a x = !(Op.bytesLess x.toList a.toList || x.toList == a.toList) := rfl
        cases hu : (Op.bytesLess x.toList a.toList || x.toList == a.toList) with
        | true =>
          rw [e3, hu, Bool.not_true, Bool.false_and] at e2
          subst e2
          go_wp2_with fail
          go_ret
          exact ⟨rfl, rfl⟩
        | false =>
          rw [e3, hu, Bool.not_false, Bool.true_and] at e2
          have HR3 := Lib.hid e2
          clear e2 e3 HR2
          go_wp2_with fail
          refine ⟨⟨k + 1, x, by omega, by go_num, rfl, HR3⟩, by simp [intOf]; omega⟩
    · obtain rfl : k = n := by omega
      have e2 := HR.out
      rw [HN.out, List.drop_length, Vl.rise] at e2
      subst e2
      clear HR
      go_wp2_with fail
      go_ret
      exact ⟨rfl, rfl⟩
set_option maxHeartbeats 1000000 in
set_option maxRecDepth 100000 in
theorem fieldsRight_any (k : Nat) (t : ByteArray) (i : Int) (pi : Option Addr) (ni ci : Nat) (pn : Option Addr) (cn : Nat) (l : List ByteArray) (w : World) (hk : k ≤ 255) (ht : t.size ≤ 140737488351232) (hi : Wp.I64 i) (hni : ni ≤ 140737488351232)
    (hm : l.length ≤ 140737488351232) (hs : ∀ s ∈ l, s.size ≤ 140737488351232) (hA : Wp.At Wp.mkT w pn l) :
    Calls Tryz.prog 123 #[.agg #[.int .u8 k, .string t, .int .i64 i, .slice pi ni ci, .slice pn l.length cn]] w fun e w' => e = .returned (.bool (Vl.leafC k t i ni l)) ∧ Below w.heap.size w w' := by
  have HA := Lib.hid hA
  have HS := Lib.hid hs
  clear hA hs
  have hte := Vl.empty_eq t
  obtain ⟨hi1, hi2⟩ := hi
  by_cases h1 : k = 1
  · subst h1
    have Hl := Lib.hid (show Vl.leafC 1 t i ni l = (decide (t.size ≤ 4096) && decide (i = 0) && decide (ni = 0) && decide (l.length = 0)) from rfl)
    generalize Vl.leafC 1 t i ni l = r at *
    generalize l.length = n at *
    clear HA HS hk
    by_cases h0 : t.size = 0
    · have he : (t.toList == []) = true := by rw [hte, decide_eq_true h0]
      clear hte
      go_enter Tryz.func123, Tryz.ntmps123
      go_wp2_with fail
      all_goals (go_ret; refine ⟨congrArg (fun b => Ending.returned (Value.bool b)) ?_, (Below.refl _ _).alloc (Nat.le_refl _) _⟩; rw [Hl.out]; (rw [Bool.eq_iff_iff]; first | (simp; done) | (simp; omega) | (simp_all; done) | (trace_state; fail)))
    · have he : (t.toList == []) = false := by rw [hte, decide_eq_false h0]
      clear hte
      go_enter Tryz.func123, Tryz.ntmps123
      go_wp2_with fail
      all_goals (go_ret; refine ⟨congrArg (fun b => Ending.returned (Value.bool b)) ?_, (Below.refl _ _).alloc (Nat.le_refl _) _⟩; rw [Hl.out]; (rw [Bool.eq_iff_iff]; first | (simp; done) | (simp; omega) | (simp_all; done) | (trace_state; fail)))
  by_cases h2 : k = 2
  · subst h2
    have Hl := Lib.hid (show Vl.leafC 2 t i ni l = (decide (t.size = 0) && decide (ni = 0) && decide (l.length = 0)) from rfl)
    generalize Vl.leafC 2 t i ni l = r at *
    generalize l.length = n at *
    clear HA HS hk
    by_cases h0 : t.size = 0
    · have he : (t.toList == []) = true := by rw [hte, decide_eq_true h0]
      clear hte
      go_enter Tryz.func123, Tryz.ntmps123
      go_wp2_with fail
      all_goals (go_ret; refine ⟨congrArg (fun b => Ending.returned (Value.bool b)) ?_, (Below.refl _ _).alloc (Nat.le_refl _) _⟩; rw [Hl.out]; (rw [Bool.eq_iff_iff]; first | (simp; done) | (simp; omega) | (simp_all; done) | (trace_state; fail)))
    · have he : (t.toList == []) = false := by rw [hte, decide_eq_false h0]
      clear hte
      go_enter Tryz.func123, Tryz.ntmps123
      go_wp2_with fail
      all_goals (go_ret; refine ⟨congrArg (fun b => Ending.returned (Value.bool b)) ?_, (Below.refl _ _).alloc (Nat.le_refl _) _⟩; rw [Hl.out]; (rw [Bool.eq_iff_iff]; first | (simp; done) | (simp; omega) | (simp_all; done) | (trace_state; fail)))
  by_cases h3 : k = 3
  · subst h3
    have Hl := Lib.hid (show Vl.leafC 3 t i ni l = ((decide (i = 0) || decide (i = 1)) && (decide (t.size = 0) && decide (ni = 0) && decide (l.length = 0))) from rfl)
    generalize Vl.leafC 3 t i ni l = r at *
    generalize l.length = n at *
    clear HA HS hk
    by_cases h0 : t.size = 0
    · have he : (t.toList == []) = true := by rw [hte, decide_eq_true h0]
      clear hte
      go_enter Tryz.func123, Tryz.ntmps123
      go_wp2_with fail
      all_goals (go_ret; refine ⟨congrArg (fun b => Ending.returned (Value.bool b)) ?_, (Below.refl _ _).alloc (Nat.le_refl _) _⟩; rw [Hl.out]; (rw [Bool.eq_iff_iff]; first | (simp; done) | (simp; omega) | (simp_all; done) | (trace_state; fail)))
    · have he : (t.toList == []) = false := by rw [hte, decide_eq_false h0]
      clear hte
      go_enter Tryz.func123, Tryz.ntmps123
      go_wp2_with fail
      all_goals (go_ret; refine ⟨congrArg (fun b => Ending.returned (Value.bool b)) ?_, (Below.refl _ _).alloc (Nat.le_refl _) _⟩; rw [Hl.out]; (rw [Bool.eq_iff_iff]; first | (simp; done) | (simp; omega) | (simp_all; done) | (trace_state; fail)))
  by_cases h4 : k = 4
  · subst h4
    have Hl := Lib.hid (show Vl.leafC 4 t i ni l = (decide (t.size = 0) && decide (i = 0) && decide (l.length = 0)) from rfl)
    generalize Vl.leafC 4 t i ni l = r at *
    generalize l.length = n at *
    clear HA HS hk
    by_cases h0 : t.size = 0
    · have he : (t.toList == []) = true := by rw [hte, decide_eq_true h0]
      clear hte
      go_enter Tryz.func123, Tryz.ntmps123
      go_wp2_with fail
      all_goals (go_ret; refine ⟨congrArg (fun b => Ending.returned (Value.bool b)) ?_, (Below.refl _ _).alloc (Nat.le_refl _) _⟩; rw [Hl.out]; (rw [Bool.eq_iff_iff]; first | (simp; done) | (simp; omega) | (simp_all; done) | (trace_state; fail)))
    · have he : (t.toList == []) = false := by rw [hte, decide_eq_false h0]
      clear hte
      go_enter Tryz.func123, Tryz.ntmps123
      go_wp2_with fail
      all_goals (go_ret; refine ⟨congrArg (fun b => Ending.returned (Value.bool b)) ?_, (Below.refl _ _).alloc (Nat.le_refl _) _⟩; rw [Hl.out]; (rw [Bool.eq_iff_iff]; first | (simp; done) | (simp; omega) | (simp_all; done) | (trace_state; fail)))
  by_cases h5 : k = 5
  · subst h5
    have Hl := Lib.hid (show Vl.leafC 5 t i ni l = (decide (t.size = 0) && decide (i = 0) && decide (l.length = ni) && Vl.namesOk l) from rfl)
    generalize Vl.leafC 5 t i ni l = r at *
    have Hc := Lib.hid (fun W (h : Below w.heap.size w W) => namesRight_any pn cn l W hm HS.out (HA.out.below h))
    generalize l.length = n at *
    by_cases h0 : t.size = 0
    · have he : (t.toList == []) = true := by rw [hte, decide_eq_true h0]
      clear hte
      by_cases hgo : i = 0 ∧ n = ni
      · obtain ⟨rfl, rfl⟩ := hgo
        have hr : r = Vl.namesOk l := by rw [Hl.out, decide_eq_true h0]; simp
        clear Hl HA HS
        go_enter Tryz.func123, Tryz.ntmps123
        go_wp2_with fail
        refine (Hc.out _ ((Below.refl _ _).alloc (Nat.le_refl _) _)).mono ?_
        rintro e w1 ⟨rfl, rfl⟩
        go_wp2_with fail
        go_ret
        exact ⟨by rw [hr]; rfl, (Below.refl _ _).alloc (Nat.le_refl _) _⟩
      · have hr : r = false := by
          rw [Hl.out, decide_eq_true h0, Bool.true_and]
          by_cases h1 : i = 0
          · rw [decide_eq_false (fun e => hgo ⟨h1, e⟩), Bool.and_false, Bool.false_and]
          · rw [decide_eq_false h1, Bool.false_and, Bool.false_and]
        by_cases h1 : i = 0
        · have hne : ¬ n = ni := fun e => hgo ⟨h1, e⟩
          have hne2 : ((n : Int) == (ni : Int)) = false := beq_eq_false_iff_ne.2 (by omega)
          clear Hl HA HS Hc hgo
          go_enter Tryz.func123, Tryz.ntmps123
          go_wp2_with fail
          go_ret
          exact ⟨by rw [hr]; rfl, (Below.refl _ _).alloc (Nat.le_refl _) _⟩
        · clear Hl HA HS Hc hgo
          go_enter Tryz.func123, Tryz.ntmps123
          go_wp2_with fail
          go_ret
          exact ⟨by rw [hr]; rfl, (Below.refl _ _).alloc (Nat.le_refl _) _⟩
    · have he : (t.toList == []) = false := by rw [hte, decide_eq_false h0]
      have hr : r = false := by rw [Hl.out, decide_eq_false h0, Bool.false_and, Bool.false_and, Bool.false_and]
      clear hte Hl HA HS Hc
      go_enter Tryz.func123, Tryz.ntmps123
      go_wp2_with fail
      go_ret
      exact ⟨by rw [hr]; rfl, (Below.refl _ _).alloc (Nat.le_refl _) _⟩
  · have hr : Vl.leafC k t i ni l = false := by unfold Vl.leafC; split <;> first | contradiction | rfl
    have e1 : ((k : Int) == 1) = false := beq_eq_false_iff_ne.2 (by omega)
    have e2 : ((k : Int) == 2) = false := beq_eq_false_iff_ne.2 (by omega)
    have e3 : ((k : Int) == 3) = false := beq_eq_false_iff_ne.2 (by omega)
    have e4 : ((k : Int) == 4) = false := beq_eq_false_iff_ne.2 (by omega)
    have e5 : ((k : Int) == 5) = false := beq_eq_false_iff_ne.2 (by omega)
    rw [hr]
    clear hr hte HA HS
    go_enter Tryz.func123, Tryz.ntmps123
    go_wp2_with fail
    go_ret
    exact ⟨rfl, (Below.refl _ _).alloc (Nat.le_refl _) _⟩
end Go.Proofs.YteiccjakaabfnaaGreatDoor
