/-
  Plain mathematics of a block device that loses its power: what it has, and what each call makes of it. No condition but those that the theorems state.
  What a device's value reads as; the walks of block's smallest calls (holds, spend) and of Check. Conditions: a device's lists and numbers are of a size that a machine holds.
  slices.Equal at texts, whatever the two lists are. Conditions: each has at most 4096 texts.
  The walk of the document's comparison of two lists of texts (bellmanref01.SameTexts), where they are one. No condition but that a length fits an int.
  The walk of the document's comparison of two lists of tokens (bellmanref10.Same), where they are one. No condition but that a length fits an int.
-/
import Derived.Test.YteiccjakaabfnaaGreatDoorZ52
import Derived.Test.YteiccjakaabfnaaGreatDoorRows
import Derived.Test.YteiccjakaabfnaaGreatDoorShelf
import Derived.Test.YteiccjakaabfnaaGreatDoorZ53
import Derived.Deep.RegionHeld3
import Derived.Deep.Cut
import Derived.Deep.CutRange
namespace Go.Proofs.YteiccjakaabfnaaGreatDoor.Wp

/-- A device: its blocks, what waits for them, how many writes its power does yet, and whether it is down. -/
structure Dev where
  bl : List ByteArray
  ws : List (Int × ByteArray)
  fu : Int
  dn : Bool

def Dev.zero : Dev := ⟨[], [], 0, false⟩
def goodB (b : ByteArray) : Bool := b.size == 64
def goodW (n : Nat) (w : Int × ByteArray) : Bool := decide (0 ≤ w.1) && decide (w.1 < (n : Int)) && goodB w.2
def Dev.fit (d : Dev) : Bool := decide (d.bl.length ≤ 4096) && decide (d.ws.length ≤ 4096) && decide (-1 ≤ d.fu)
def Dev.ok (d : Dev) : Bool := d.fit && d.bl.all goodB && d.ws.all (goodW d.bl.length)
def Dev.chk (d : Dev) : Int := if d.ok then 0 else 2

/-- What an int64 may be, and how long a list may be. -/
structure Dev.Fits (d : Dev) : Prop where
  bl : d.bl.length ≤ 140737488351232
  ws : d.ws.length ≤ 140737488351232
  fu : I64 d.fu
  bs : ∀ x ∈ d.bl, x.size ≤ 9223372036854775807
  wa : ∀ x ∈ d.ws, I64 x.1
  wb : ∀ x ∈ d.ws, x.2.size ≤ 9223372036854775807

theorem Dev.ok_iff (d : Dev) : d.ok = true ↔ (d.bl.length ≤ 4096 ∧ d.ws.length ≤ 4096 ∧ -1 ≤ d.fu) ∧ (∀ x ∈ d.bl, x.size = 64) ∧ ∀ x ∈ d.ws, 0 ≤ x.1 ∧ x.1 < (d.bl.length : Int) ∧ x.2.size = 64 := by
  simp only [Dev.ok, Dev.fit, goodB, goodW, Bool.and_eq_true, decide_eq_true_eq, List.all_eq_true, beq_iff_eq]
  constructor
  · rintro ⟨⟨⟨⟨h1, h2⟩, h3⟩, h4⟩, h5⟩
    exact ⟨⟨h1, h2, h3⟩, h4, fun x hx => ⟨(h5 x hx).1.1, (h5 x hx).1.2, (h5 x hx).2⟩⟩
  · rintro ⟨⟨h1, h2, h3⟩, h4, h5⟩
    exact ⟨⟨⟨⟨h1, h2⟩, h3⟩, h4⟩, fun x hx => ⟨⟨(h5 x hx).1, (h5 x hx).2.1⟩, (h5 x hx).2.2⟩⟩
theorem Dev.chk_ok {d : Dev} (h : d.ok = true) : d.chk = 0 := if_pos h
theorem Dev.chk_bad {d : Dev} (h : d.ok = false) : d.chk = 2 := by unfold Dev.chk; rw [h]; rfl
theorem Dev.bad_of_fit {d : Dev} (h : ¬ (d.bl.length ≤ 4096 ∧ d.ws.length ≤ 4096 ∧ -1 ≤ d.fu)) : d.ok = false := by
  cases hk : d.ok with
  | false => rfl
  | true => exact absurd ((Dev.ok_iff d).1 hk).1 h
theorem Dev.bad_of_bl {d : Dev} (k : Nat) (hk : k < d.bl.length) (h : d.bl[k].size ≠ 64) : d.ok = false := by
  cases hk2 : d.ok with
  | false => rfl
  | true => exact absurd (((Dev.ok_iff d).1 hk2).2.1 _ (List.getElem_mem hk)) h
theorem Dev.bad_of_ws {d : Dev} (k : Nat) (hk : k < d.ws.length) (h : ¬ (0 ≤ d.ws[k].1 ∧ d.ws[k].1 < (d.bl.length : Int) ∧ d.ws[k].2.size = 64)) : d.ok = false := by
  cases hk2 : d.ok with
  | false => rfl
  | true => exact absurd (((Dev.ok_iff d).1 hk2).2.2 _ (List.getElem_mem hk)) h
theorem Dev.ok_of {d : Dev} (h : d.bl.length ≤ 4096 ∧ d.ws.length ≤ 4096 ∧ -1 ≤ d.fu) (h1 : ∀ j (hj : j < d.bl.length), d.bl[j].size = 64) (h2 : ∀ j (hj : j < d.ws.length), 0 ≤ d.ws[j].1 ∧ d.ws[j].1 < (d.bl.length : Int) ∧ d.ws[j].2.size = 64) : d.ok = true := by
  rw [Dev.ok_iff]
  refine ⟨h, ?_, ?_⟩
  · intro x hx
    obtain ⟨j, hj, rfl⟩ := List.getElem_of_mem hx
    exact h1 j hj
  · intro x hx
    obtain ⟨j, hj, rfl⟩ := List.getElem_of_mem hx
    exact h2 j hj

/-- What a block has: the last that waits for it, or else what stands in it. -/
def nth (l : List ByteArray) (i : Nat) : ByteArray := l[i]?.getD ByteArray.empty
def hasF (at_ : Int) (ws : List (Int × ByteArray)) (s : ByteArray) : ByteArray := ws.foldl (fun s w => if w.1 = at_ then w.2 else s) s
def Dev.has (d : Dev) (at_ : Int) : ByteArray := hasF at_ d.ws (nth d.bl at_.toNat)
def setAll (bl : List ByteArray) (ws : List (Int × ByteArray)) : List ByteArray := ws.foldl (fun bl w => bl.set w.1.toNat w.2) bl
def Dev.hasAll (d : Dev) : List ByteArray := setAll d.bl d.ws

theorem setAll_length (bl : List ByteArray) (ws : List (Int × ByteArray)) : (setAll bl ws).length = bl.length := by
  induction ws generalizing bl with
  | nil => rfl
  | cons w ws ih => simp only [setAll, List.foldl_cons] at ih ⊢; rw [ih]; simp
theorem setAll_snoc (bl : List ByteArray) (ws : List (Int × ByteArray)) (w : Int × ByteArray) : setAll bl (ws ++ [w]) = (setAll bl ws).set w.1.toNat w.2 := by simp [setAll]
theorem setAll_take (bl : List ByteArray) (ws : List (Int × ByteArray)) (k : Nat) (hk : k < ws.length) : setAll bl (ws.take (k + 1)) = (setAll bl (ws.take k)).set (ws[k].1).toNat ws[k].2 := by
  rw [List.take_succ_eq_append_getElem hk, setAll_snoc]
theorem hasF_take (a : Int) (ws : List (Int × ByteArray)) (s : ByteArray) (k : Nat) (hk : k < ws.length) : hasF a (ws.take (k + 1)) s = if ws[k].1 = a then ws[k].2 else hasF a (ws.take k) s := by
  unfold hasF
  rw [List.take_succ_eq_append_getElem hk, List.foldl_append]
  rfl
theorem hasF_drop (a : Int) (ws : List (Int × ByteArray)) (s : ByteArray) (h : ∀ x ∈ ws, x.1 ≠ a) : hasF a ws s = s := by
  induction ws generalizing s with
  | nil => rfl
  | cons w ws ih =>
    simp only [hasF, List.foldl_cons]
    rw [if_neg (h w (by simp))]
    exact ih s (fun x hx => h x (by simp [hx]))
theorem hasF_found (a : Int) (ws : List (Int × ByteArray)) (s : ByteArray) (k : Nat) (hk : k < ws.length) (h1 : ws[k].1 = a) (h2 : ∀ j (hj : j < ws.length), k < j → ws[j].1 ≠ a) : hasF a ws s = ws[k].2 := by
  have e : ws = ws.take (k + 1) ++ ws.drop (k + 1) := (List.take_append_drop _ _).symm
  have h3 : hasF a ws s = hasF a (ws.drop (k + 1)) (hasF a (ws.take (k + 1)) s) := by
    conv => lhs; rw [e]
    simp only [hasF, List.foldl_append]
  rw [h3, hasF_take a ws s k hk, if_pos h1]
  apply hasF_drop
  intro x hx
  obtain ⟨j, hj, rfl⟩ := List.getElem_of_mem hx
  rw [List.length_drop] at hj
  rw [List.getElem_drop]
  exact h2 (k + 1 + j) (by omega) (by omega)
theorem hasF_none (a : Int) (ws : List (Int × ByteArray)) (s : ByteArray) (h2 : ∀ j (hj : j < ws.length), ws[j].1 ≠ a) : hasF a ws s = s := by
  apply hasF_drop
  intro x hx
  obtain ⟨j, hj, rfl⟩ := List.getElem_of_mem hx
  exact h2 j hj
theorem nth_get (l : List ByteArray) (i : Nat) (h : i < l.length) : nth l i = l[i] := by simp [nth, h]
theorem nth_set (l : List ByteArray) (i j : Nat) (x : ByteArray) (h : j < l.length) : nth (l.set i x) j = if i = j then x else nth l j := by
  unfold nth
  rw [List.getElem?_set]
  by_cases e : i = j
  · subst e; simp [h]
  · simp [e]
/-- Each block of all that a device has is what the device has there. -/
theorem setAll_nth (bl : List ByteArray) (ws : List (Int × ByteArray)) (a : Int) (h0 : 0 ≤ a) (h1 : a < (bl.length : Int)) (hw : ∀ x ∈ ws, 0 ≤ x.1) : nth (setAll bl ws) a.toNat = hasF a ws (nth bl a.toNat) := by
  induction ws generalizing bl with
  | nil => rfl
  | cons w ws ih =>
    simp only [setAll, List.foldl_cons, hasF] at ih ⊢
    rw [ih (bl.set w.1.toNat w.2) (by simpa using h1) (fun x hx => hw x (by simp [hx]))]
    congr 1
    rw [nth_set _ _ _ _ (by omega)]
    have := hw w (by simp)
    by_cases e : w.1 = a
    · rw [if_pos e, if_pos (by rw [e])]
    · rw [if_neg e, if_neg (by omega)]

/-- A block's data, filled up with zero bytes, and over them some first bytes of others. -/
def laidL (block data : List UInt8) (n : Nat) : List UInt8 := data.take n ++ (block ++ List.replicate (64 - block.length) 0).drop n
def laid (block data : ByteArray) (n : Nat) : ByteArray := B (laidL block.data.toList data.data.toList n)
def clamp (k : Int) : Nat := (min (max k 0) 64).toNat
def tearAll : List ByteArray → List (Int × ByteArray) → List Int → List ByteArray
  | bl, [], _ => bl
  | bl, w :: ws, ks => tearAll (bl.set w.1.toNat (laid (nth bl w.1.toNat) w.2 (clamp (ks.headD 0)))) ws ks.tail

def inside (d : Dev) (at_ : Int) : Bool := decide (0 ≤ at_) && decide (at_ < (d.bl.length : Int))
def Dev.spend (d : Dev) : Dev × Int := if d.fu = 0 then ({ d with dn := true }, 9) else if d.fu = -1 then (d, 0) else ({ d with fu := d.fu - 1 }, 0)
def Dev.read (d : Dev) (at_ : Int) : ByteArray × Int := if d.ok = false then (B [], 2) else if d.dn then (B [], 9) else if inside d at_ then (d.has at_, 0) else (B [], 1)
/-- A write to a device that is right. -/
def Dev.write1 (d : Dev) (at_ : Int) (data : ByteArray) : Dev × Int :=
  if d.dn then (d, 9) else if inside d at_ = false then (d, 1) else if 64 < data.size then (d, 12) else if d.ws.length = 4096 then (d, 8)
  else Dev.spend { d with ws := d.ws ++ [(at_, laid (B []) data data.size)] }
def Dev.write (d : Dev) (at_ : Int) (data : ByteArray) : Dev × Int := if d.ok = false then (Dev.zero, 2) else d.write1 at_ data
def Dev.sync1 (d : Dev) : Dev × Int := if d.dn then (d, 9) else if d.spend.2 = 0 then ({ d.spend.1 with bl := d.hasAll, ws := [] }, 0) else (d.spend.1, d.spend.2)
def Dev.sync (d : Dev) : Dev × Int := if d.ok = false then (Dev.zero, 2) else d.sync1
def Dev.crash (d : Dev) (keep : List Int) : Dev × Int := if d.ok = false then (Dev.zero, 2) else (⟨tearAll d.bl d.ws keep, [], -1, false⟩, 0)
def Dev.same (d x : Dev) : Bool × Int := if d.ok = false then (false, 2) else if x.ok = false then (false, 2) else (decide (d.hasAll = x.hasAll), 0)
def zeros : ByteArray := laid (B []) (B []) 0
def Dev.make (n : Nat) : Dev := ⟨List.replicate n zeros, [], -1, false⟩
end Go.Proofs.YteiccjakaabfnaaGreatDoor.Wp
namespace Go.Proofs.YteiccjakaabfnaaGreatDoor
open Go.RowKit

/-- The slice of waits whose first cell is at p reads as l: two cells each. -/
def Wp.AtW (w : World) (p : Option Addr) (l : List (Int × ByteArray)) : Prop :=
  l = [] ∨ ∃ b off, p = some ⟨b, off, none⟩ ∧ ∀ i (h : i < l.length), w.cell? ⟨b, off + i * 2, none⟩ = some (.int .i64 l[i].1) ∧ w.cell? ⟨b, off + i * 2 + 1, none⟩ = some (.string l[i].2)
theorem Wp.AtW.below {w w' : World} {p : Option Addr} {l : List (Int × ByteArray)} (h : Wp.AtW w p l) (hb : Below w.heap.size w w') : Wp.AtW w' p l := by
  rcases h with h | ⟨b, off, hp, hc⟩
  · exact Or.inl h
  · exact Or.inr ⟨b, off, hp, fun i hi => ⟨(hb.cell (World.block_lt_of_cell? w _ (hc i hi).1)).trans (hc i hi).1, (hb.cell (World.block_lt_of_cell? w _ (hc i hi).2)).trans (hc i hi).2⟩⟩
theorem Wp.AtW.get {w : World} {p : Option Addr} {l : List (Int × ByteArray)} (h : Wp.AtW w p l) (k : Nat) (hk : k < l.length) :
    ∃ b off, p = some ⟨b, off, none⟩ ∧ w.cell? ⟨b, off + k * 2, none⟩ = some (.int .i64 l[k].1) ∧ w.cell? ⟨b, off + k * 2 + 1, none⟩ = some (.string l[k].2) := by
  rcases h with h | ⟨b, off, hp, hc⟩
  · subst h; simp at hk
  · exact ⟨b, off, hp, hc k hk⟩

/-- The value of a device, its slices at these places. -/
def Wp.devV (pb : Option Addr) (cb : Nat) (pw : Option Addr) (cw : Nat) (d : Wp.Dev) : Value := .agg #[.slice pb d.bl.length cb, .slice pw d.ws.length cw, .int .i64 d.fu, .bool d.dn]
/-- A value reads as a device. -/
def Wp.DevAt (w : World) (v : Value) (d : Wp.Dev) : Prop := ∃ pb cb pw cw, v = Wp.devV pb cb pw cw d ∧ Wp.At Wp.mkT w pb d.bl ∧ Wp.AtW w pw d.ws
theorem Wp.DevAt.below {w w' : World} {v : Value} {d : Wp.Dev} (h : Wp.DevAt w v d) (hb : Below w.heap.size w w') : Wp.DevAt w' v d := by
  obtain ⟨pb, cb, pw, cw, rfl, h1, h2⟩ := h
  exact ⟨pb, cb, pw, cw, rfl, h1.below hb, h2.below hb⟩
theorem Wp.DevAt.zero (w : World) : Wp.DevAt w (.agg #[.slice none 0 0, .slice none 0 0, .int .i64 0, .bool false]) Wp.Dev.zero := ⟨none, 0, none, 0, rfl, Or.inl rfl, Or.inl rfl⟩
theorem below_thenD {w0 w1 w2 : World} (h1 : Below w0.heap.size w0 w1) (h2 : Below w1.heap.size w1 w2) (_ : w0.heap.size ≤ w1.heap.size) : Below w0.heap.size w0 w2 := h1.trans (h2.mono h1.size)

end Go.Proofs.YteiccjakaabfnaaGreatDoor
namespace Go.Proofs.YteiccjakaabfnaaGreatDoor
open Go.RowKit

theorem Wp.below_drews {B : Nat} {a w : World} (h : Below B a w) (q : Nat) : Below B a (w.drewN q) := by
  induction q with
  | zero => exact h
  | succ q ih => exact ih.drew
end Go.Proofs.YteiccjakaabfnaaGreatDoor
namespace Go.Proofs.YteiccjakaabfnaaGreatDoor
open Go.RowKit

set_option maxRecDepth 100000 in
set_option maxHeartbeats 1000000 in
/-- Two slices that read as one list are the same. -/
theorem same_texts (p1 p2 : Option Addr) (c1 c2 : Nat) (l : List ByteArray) (w : World) (hm : l.length ≤ 9223372036854775807) (h1 : Wp.At Wp.mkT w p1 l) (h2 : Wp.At Wp.mkT w p2 l) :
    Calls Tryz.prog 23 #[.slice p1 l.length c1, .slice p2 l.length c2] w fun e w' => e = .returned (.bool true) ∧ Below w.heap.size w w' := by
  have H1 := Lib.hid h1
  have H2 := Lib.hid h2
  obtain ⟨n, hn⟩ : ∃ n, n = l.length := ⟨_, rfl⟩
  have Hn := Lib.hid hn
  rw [← hn] at hm ⊢
  clear h1 h2 hn
  go_enter Tryz.func23, Tryz.ntmps23
  go_wp2_with fail
  go_loopw [5, 13] (fun _ t wr => ∃ k : Nat, k ≤ n ∧ t = .int .i64 k ∧ Below w.heap.size w wr) (fun _ t _ => n - (intOf t).toNat)
  case atStart => exact ⟨0, Nat.zero_le _, rfl, Below.refl _ _⟩
  case round =>
    obtain ⟨k, hk, rfl, hB⟩ := hrel
    by_cases hlt : k < n
    · have hkl : k < l.length := by rw [← Hn.out]; exact hlt
      obtain ⟨b1, o1, rfl, hc1⟩ := (H1.out.below hB).get k hkl
      obtain ⟨b2, o2, rfl, hc2⟩ := (H2.out.below hB).get k hkl
      obtain ⟨x, hx⟩ : ∃ x, x = l[k] := ⟨_, rfl⟩
      rw [← hx] at hc1 hc2
      simp only [Wp.mkT] at hc1 hc2
      have hlt2 : (k : Int) < (n : Int) := by omega
      have hk0 : (0 : Int) ≤ (k : Int) := by omega
      clear hx hkl
      go_wp2_with fail
      go_quiet (fail)
      go_wp2_with fail
      refine ⟨⟨k + 1, by omega, by go_num, Wp.below_drews hB _⟩, by simp [intOf]; omega⟩
    · obtain rfl : k = n := by omega
      go_wp2_with fail
      go_ret
      exact ⟨rfl, hB⟩
end Go.Proofs.YteiccjakaabfnaaGreatDoor
namespace Go.Proofs.YteiccjakaabfnaaGreatDoor
open Go.RowKit

/-- A token of a row: its cells, and that they read so. -/
theorem Sc.At.cells {w : World} {p : Option Addr} {l : List Sc.T} (h : Sc.At w p l) (k : Nat) (hk : k < l.length) : ∃ b off pn cn, p = some ⟨b, off, none⟩ ∧ w.cell? ⟨b, off + k * 3, none⟩ = some (.int .u8 (l[k].kind : Nat)) ∧ w.cell? ⟨b, off + k * 3 + 1, none⟩ = some (.string l[k].text) ∧ w.cell? ⟨b, off + k * 3 + 2, none⟩ = some (.slice pn l[k].path.length cn) ∧ Wp.At Wp.mkT w pn l[k].path ∧ l[k].path.length ≤ 140737488351232 := by
  obtain ⟨b, off, c0, c1, c2, hp, ⟨e0, e1, e2⟩, y, hy, pn, cn, hv, ⟨_, _, f3, _⟩, hat⟩ := h k hk
  have hyk : y = l[k] := (Option.some.inj ((List.getElem?_eq_getElem hk).symm.trans hy)).symm
  subst hyk
  simp only [Value.agg.injEq, Array.mk.injEq, List.cons.injEq, and_true] at hv
  obtain ⟨rfl, rfl, rfl⟩ := hv
  exact ⟨b, off, pn, cn, hp, e0, e1, e2, hat, f3⟩
end Go.Proofs.YteiccjakaabfnaaGreatDoor
