/-
  What nodes read as; rows of nodes of the call's own. No condition but those that the theorems state.
  The walks of slices.IndexFunc and slices.ContainsFunc at nodes, with whatever closure: one that writes a variable of its own too. Condition: what each call of the closure hands back, and keeps.
  The walks of tree's smallest calls: opens, holdsRight. No condition.
  The walk of tree's shaped. Condition: lists are of a size that a machine holds.
-/
import Derived.Test.YteajjlilpikdeaaGreatDoorScAt
import Derived.Test.YteajjlilpikdeaaGreatDoorNdM
import Derived.Test.YteajjlilpikdeaaGreatDoorVlIndex
import Derived.Test.YteajjlilpikdeaaGreatDoorVlKit
namespace Go.Proofs.YteajjlilpikdeaaGreatDoor
open Go.RowKit

/-- What a node's parts are: of a size that a machine holds. -/
def Nd.Fits (k : Nat) (t : ByteArray) (p : List ByteArray) (nk ne cp ck ce : Nat) : Prop :=
  k ≤ 255 ∧ t.size ≤ 140737488351232 ∧ p.length ≤ 140737488351232 ∧ nk ≤ 140737488351232 ∧ ne ≤ 140737488351232 ∧ (∀ s ∈ p, s.size ≤ 140737488351232) ∧ p.length ≤ cp ∧ nk ≤ ck ∧ ne ≤ ce
mutual
/-- A value reads as a node. -/
def Nd.At (w : World) (v : Value) : Nd.N → Prop
  | .mk k t p kids els => ∃ pp cp pk ck pe ce, v = .agg #[.int .u8 (k : Nat), .string t, .slice pp p.length cp, .slice pk kids.length ck, .slice pe els.length ce] ∧
      Nd.Fits k t p kids.length els.length cp ck ce ∧ Wp.At Wp.mkT w pp p ∧ Nd.RowF w pk 0 kids ∧ Nd.RowF w pe 0 els
/-- Nodes side by side, from that place on. -/
def Nd.RowF (w : World) (p : Option Addr) (i : Nat) : List Nd.N → Prop
  | [] => True
  | x :: l => (∃ b off c0 c1 c2 c3 c4, p = some ⟨b, off, none⟩ ∧ Vl.Five w b (off + i * 5) c0 c1 c2 c3 c4 ∧ Nd.At w (.agg #[c0, c1, c2, c3, c4]) x) ∧ Nd.RowF w p (i + 1) l
end
theorem Nd.At.eq (w : World) (v : Value) (x : Nd.N) : Nd.At w v x ↔ ∃ pp cp pk ck pe ce, v = .agg #[.int .u8 (x.kind : Nat), .string x.text, .slice pp x.path.length cp, .slice pk x.kids.length ck, .slice pe x.els.length ce] ∧
    Nd.Fits x.kind x.text x.path x.kids.length x.els.length cp ck ce ∧ Wp.At Wp.mkT w pp x.path ∧ Nd.RowF w pk 0 x.kids ∧ Nd.RowF w pe 0 x.els := by
  cases x with
  | mk k t p kids els => rw [Nd.At]; rfl
/-- What is known of each node of a row. -/
def Nd.G (w : World) (l : List Nd.N) (i : Nat) (v : Value) : Prop := ∃ y, l[i]? = some y ∧ Nd.At w v y
/-- Nodes side by side. -/
def Nd.Row (w : World) (p : Option Addr) (l : List Nd.N) : Prop := Vl.RowIs w p l.length (Nd.G w l)
theorem Nd.row_from (w : World) (p : Option Addr) : ∀ (l : List Nd.N) (i : Nat), Nd.RowF w p i l ↔ ∀ j, j < l.length → ∃ b off c0 c1 c2 c3 c4, p = some ⟨b, off, none⟩ ∧ Vl.Five w b (off + (i + j) * 5) c0 c1 c2 c3 c4 ∧ ∃ y, l[j]? = some y ∧ Nd.At w (.agg #[c0, c1, c2, c3, c4]) y
  | [], i => by rw [Nd.RowF]; simp
  | x :: l, i => by
    rw [Nd.RowF, Nd.row_from w p l (i + 1)]
    constructor
    · rintro ⟨⟨b, off, c0, c1, c2, c3, c4, hp, h5, ha⟩, h⟩ j hj
      cases j with
      | zero => exact ⟨b, off, c0, c1, c2, c3, c4, hp, h5, x, rfl, ha⟩
      | succ j =>
        obtain ⟨b, off, c0, c1, c2, c3, c4, hp, h5, y, hy, ha⟩ := h j (by simpa using hj)
        exact ⟨b, off, c0, c1, c2, c3, c4, hp, by rw [show i + (j + 1) = i + 1 + j by omega]; exact h5, y, hy, ha⟩
    · intro h
      refine ⟨?_, fun j hj => ?_⟩
      · obtain ⟨b, off, c0, c1, c2, c3, c4, hp, h5, y, hy, ha⟩ := h 0 (by simp)
        cases hy
        exact ⟨b, off, c0, c1, c2, c3, c4, hp, h5, ha⟩
      · obtain ⟨b, off, c0, c1, c2, c3, c4, hp, h5, y, hy, ha⟩ := h (j + 1) (by simpa using hj)
        exact ⟨b, off, c0, c1, c2, c3, c4, hp, by rw [show i + 1 + j = i + (j + 1) by omega]; exact h5, y, hy, ha⟩
theorem Nd.row_iff (w : World) (p : Option Addr) (l : List Nd.N) : Nd.RowF w p 0 l ↔ Nd.Row w p l := by
  rw [Nd.row_from]
  unfold Nd.Row Vl.RowIs Nd.G
  simp only [Nat.zero_add]
/-- What lies in blocks that stay reads as it did. -/
def Nd.Keeps (w w' : World) : Prop := ∀ a : Addr, ∀ v, w.cell? a = some v → w'.cell? a = some v
theorem Nd.keeps_below {w w' : World} (h : Below w.heap.size w w') : Nd.Keeps w w' := fun _ _ e => (h.cell (World.block_lt_of_cell? w _ e)).trans e
theorem Nd.texts_keep {w w' : World} (hk : Nd.Keeps w w') {p : Option Addr} {l : List ByteArray} (h : Wp.At Wp.mkT w p l) : Wp.At Wp.mkT w' p l := by
  rcases h with h | ⟨b, off, e, hc⟩
  · exact Or.inl h
  · exact Or.inr ⟨b, off, e, fun i hi => hk _ _ (hc i hi)⟩
theorem Nd.five_keep {w w' : World} (hk : Nd.Keeps w w') {b o : Nat} {c0 c1 c2 c3 c4 : Value} (h : Vl.Five w b o c0 c1 c2 c3 c4) : Vl.Five w' b o c0 c1 c2 c3 c4 :=
  ⟨hk _ _ h.1, hk _ _ h.2.1, hk _ _ h.2.2.1, hk _ _ h.2.2.2.1, hk _ _ h.2.2.2.2⟩
mutual
theorem Nd.at_keep {w w' : World} (hk : Nd.Keeps w w') : ∀ (x : Nd.N) (v : Value), Nd.At w v x → Nd.At w' v x
  | .mk k t p kids els, v, h => by
    rw [Nd.At] at h ⊢
    obtain ⟨pp, cp, pk, ck, pe, ce, e, hf, hp, h1, h2⟩ := h
    exact ⟨pp, cp, pk, ck, pe, ce, e, hf, Nd.texts_keep hk hp, Nd.rowF_keep hk kids pk 0 h1, Nd.rowF_keep hk els pe 0 h2⟩
theorem Nd.rowF_keep {w w' : World} (hk : Nd.Keeps w w') : ∀ (l : List Nd.N) (p : Option Addr) (i : Nat), Nd.RowF w p i l → Nd.RowF w' p i l
  | [], _, _, _ => by rw [Nd.RowF]; trivial
  | x :: l, p, i, h => by
    rw [Nd.RowF] at h ⊢
    obtain ⟨⟨b, off, c0, c1, c2, c3, c4, hp, h5, ha⟩, h2⟩ := h
    exact ⟨⟨b, off, c0, c1, c2, c3, c4, hp, Nd.five_keep hk h5, Nd.at_keep hk x _ ha⟩, Nd.rowF_keep hk l p (i + 1) h2⟩
end
theorem Nd.At.below {w w' : World} {v : Value} {x : Nd.N} (h : Nd.At w v x) (hb : Below w.heap.size w w') : Nd.At w' v x := Nd.at_keep (Nd.keeps_below hb) x v h
theorem Nd.Row.below {w w' : World} {p : Option Addr} {l : List Nd.N} (h : Nd.Row w p l) (hb : Below w.heap.size w w') : Nd.Row w' p l :=
  (Nd.row_iff _ _ _).1 (Nd.rowF_keep (Nd.keeps_below hb) l p 0 ((Nd.row_iff _ _ _).2 h))
theorem Nd.Row.nil (w : World) (p : Option Addr) : Nd.Row w p [] := fun i hi => by simp at hi
theorem Nd.At.shape {w : World} {u : Value} {y : Nd.N} (h : Nd.At w u y) : ∃ (k : Nat) (t : ByteArray) (pp : Option Addr) (np cp : Nat) (pk : Option Addr) (nk ck : Nat) (pe : Option Addr) (ne ce : Nat), u = .agg #[.int .u8 k, .string t, .slice pp np cp, .slice pk nk ck, .slice pe ne ce] := by
  rw [Nd.At.eq] at h
  obtain ⟨pp, cp, pk, ck, pe, ce, rfl, _⟩ := h
  exact ⟨_, _, _, _, _, _, _, _, _, _, _, rfl⟩
/-- The node at a place of a row, opened. -/
theorem Nd.Row.get {w : World} {p : Option Addr} {l : List Nd.N} (h : Nd.Row w p l) (i : Nat) (hi : i < l.length) :
    ∃ b off pp cp pk ck pe ce, p = some ⟨b, off, none⟩ ∧ Vl.Five w b (off + i * 5) (.int .u8 (l[i].kind : Nat)) (.string l[i].text) (.slice pp l[i].path.length cp) (.slice pk l[i].kids.length ck) (.slice pe l[i].els.length ce) ∧
      Nd.Fits l[i].kind l[i].text l[i].path l[i].kids.length l[i].els.length cp ck ce ∧ Wp.At Wp.mkT w pp l[i].path ∧ Nd.Row w pk l[i].kids ∧ Nd.Row w pe l[i].els := by
  obtain ⟨b, off, c0, c1, c2, c3, c4, hp, h5, y, hy, ha⟩ := h i hi
  obtain rfl : y = l[i] := (Option.some.inj ((List.getElem?_eq_getElem hi).symm.trans hy)).symm
  rw [Nd.At.eq] at ha
  obtain ⟨pp, cp, pk, ck, pe, ce, e, hf, hq, h1, h2⟩ := ha
  simp only [Value.agg.injEq, Array.mk.injEq, List.cons.injEq, and_true] at e
  obtain ⟨rfl, rfl, rfl, rfl, rfl⟩ := e
  exact ⟨b, off, pp, cp, pk, ck, pe, ce, hp, h5, hf, hq, (Nd.row_iff _ _ _).1 h1, (Nd.row_iff _ _ _).1 h2⟩
end Go.Proofs.YteajjlilpikdeaaGreatDoor
namespace Go.Proofs.YteajjlilpikdeaaGreatDoor
open Go.RowKit Go.Lib Go.Shelf

set_option maxHeartbeats 2000000 in
set_option maxRecDepth 100000 in
theorem nd_index (n : Nat) (p : Option Addr) (c : Nat) (g : Nat) (lb : Array Value) (eg : ∀ args w, (callFunc g args).run Tryz.prog w = .ok (.enter g args) w) (w : World) (P : Nat → Bool) (I : Nat → World → Prop) (G : Nat → Value → Prop) (hn : n ≤ 140737488351232)
    (hA : ∀ k W, I k W → Vl.RowIs W p n G)
    (hc : ∀ k, k < n → (∀ j, j < k → P j = false) → ∀ v W, G k v → I k W → Calls Tryz.prog g (#[v] ++ lb) W fun e w' => e = .returned (.bool (P k)) ∧ I (k + 1) w')
    (h0 : I 0 w) : Calls Tryz.prog 150 #[.slice p n c, .func (.func g) #[] lb] w (Vl.Idx n P I) := by
  have HA := Lib.hid hA
  have HC := Lib.hid hc
  have H0 := Lib.hid h0
  clear hA hc h0
  go_enter Tryz.func150, Tryz.ntmps150
  go_wp2
  go_loopg [5, 8] n (fun gg _ s8 wr => ∃ kk : Nat, kk ≤ n ∧ n - kk ≤ gg ∧ s8 = .int .i64 kk ∧ Aside (I kk wr) ∧ Aside (∀ j, j < kk → P j = false))
  case atStart => exact ⟨0, Nat.zero_le _, by omega, rfl, H0.out, fun j hj => absurd hj (Nat.not_lt_zero _)⟩
  case round =>
    obtain ⟨kk, hkk, hg, rfl, BI, A⟩ := hrel
    by_cases hlt : kk < n
    · have hltz : (kk : Int) < (n : Int) := by omega
      obtain ⟨b, off, c0, c1, c2, c3, c4, rfl, ⟨e0, e1, e2, e3, e4⟩, hG⟩ := HA.out kk wr BI.out kk hlt
      have hcall := HC.out kk hlt A.out _ wr hG BI.out
      clear hG
      cases hq : P kk with
      | true =>
        rw [hq] at hcall
        have HK := Lib.hid hcall
        have HQ := Lib.hid hq
        clear hcall hq
        go_wp2_with fail
        refine HK.out.mono ?_
        rintro e w' ⟨rfl, hb'⟩
        clear e0 e1 e2 e3 e4
        go_wp2_with fail
        go_ret
        exact Or.inl ⟨kk, hlt, HQ.out, A.out, rfl, hb'⟩
      | false =>
        rw [hq] at hcall
        have HK := Lib.hid hcall
        have HQ := Lib.hid hq
        clear hcall hq
        go_wp2_with fail
        refine HK.out.mono ?_
        rintro e w' ⟨rfl, hb'⟩
        clear e0 e1 e2 e3 e4
        go_wp2_with fail
        go_roundg (n - (kk + 1))
        case measure => omega
        case rel =>
          refine ⟨kk + 1, by omega, by omega, by go_num, hb', (show Aside _ from fun j hj => ?_)⟩
          by_cases e : j = kk
          · subst e; exact HQ.out
          · exact A.out j (by omega)
    · have hltz : ¬ (kk : Int) < (n : Int) := by omega
      have : kk = n := by omega
      subst this
      go_wp2
      go_ret
      exact Or.inr ⟨A.out, rfl, BI.out⟩
set_option maxRecDepth 100000 in
theorem nd_contains (n : Nat) (p : Option Addr) (c : Nat) (g : Nat) (lb : Array Value) (eg : ∀ args w, (callFunc g args).run Tryz.prog w = .ok (.enter g args) w) (w : World) (P : Nat → Bool) (I : Nat → World → Prop) (G : Nat → Value → Prop) (hn : n ≤ 140737488351232)
    (hA : ∀ k W, I k W → Vl.RowIs W p n G)
    (hc : ∀ k, k < n → (∀ j, j < k → P j = false) → ∀ v W, G k v → I k W → Calls Tryz.prog g (#[v] ++ lb) W fun e w' => e = .returned (.bool (P k)) ∧ I (k + 1) w')
    (h0 : I 0 w) : Calls Tryz.prog 126 #[.slice p n c, .func (.func g) #[] lb] w (Vl.Any n P I) := by
  have H1 := Lib.hid (nd_index n p c g lb eg w P I G hn hA hc h0)
  clear hA hc h0 eg
  go_enter Tryz.func126, Tryz.ntmps126
  go_wp2_with fail
  refine H1.out.mono ?_
  rintro e w' (⟨k, h1, h2, h3, rfl, h4⟩ | ⟨h1, rfl, h2⟩)
  · have hk : (0 : Int) ≤ (k : Int) := by omega
    have H3 := Lib.hid h3
    have h2' := Lib.hid h2
    clear h2 h3
    go_wp2_with fail
    go_ret
    exact Or.inl ⟨k, h1, h2'.out, H3.out, rfl, h4⟩
  · have h1' := Lib.hid h1
    clear h1
    go_wp2_with fail
    go_ret
    exact Or.inr ⟨h1'.out, rfl, h2⟩
end Go.Proofs.YteajjlilpikdeaaGreatDoor
namespace Go.Proofs.YteajjlilpikdeaaGreatDoor
open Go.RowKit

set_option maxRecDepth 100000 in
theorem ndOpens_any (k : Nat) (w : World) :
    Calls Tryz.prog 92 #[.int .u8 k] w fun e w' => e = .returned (.bool (Nd.opens k)) ∧ w' = w := by
  by_cases h3 : k = 3
  · subst h3
    go_enter Tryz.func92, Tryz.ntmps92
    go_wp2_with fail
    go_ret
    exact ⟨rfl, rfl⟩
  · by_cases h5 : k = 5
    · subst h5
      go_enter Tryz.func92, Tryz.ntmps92
      go_wp2_with fail
      go_ret
      exact ⟨rfl, rfl⟩
    · have e : Nd.opens k = false := by unfold Nd.opens; rw [decide_eq_false h3, decide_eq_false h5]; rfl
      have q3 : ((k : Int) == 3) = false := beq_eq_false_iff_ne.2 (by omega)
      have q5 : ((k : Int) == 5) = false := beq_eq_false_iff_ne.2 (by omega)
      rw [e]
      go_enter Tryz.func92, Tryz.ntmps92
      go_wp2_with fail
      go_ret
      exact ⟨rfl, rfl⟩
theorem Nd.holds_other {k nk ne : Nat} (h1 : k ≠ 1) (h2 : k ≠ 2) (h3 : k ≠ 3) (h5 : k ≠ 5) : Nd.holds k nk ne = false := by
  unfold Nd.holds
  split <;> first | rfl | contradiction
set_option maxRecDepth 100000 in
theorem ndHolds_any (k : Nat) (t : ByteArray) (pp : Option Addr) (np cp : Nat) (pk : Option Addr) (nk ck : Nat) (pe : Option Addr) (ne ce : Nat) (w : World) :
    Calls Tryz.prog 125 #[.agg #[.int .u8 k, .string t, .slice pp np cp, .slice pk nk ck, .slice pe ne ce]] w fun e w' => e = .returned (.bool (Nd.holds k nk ne)) ∧ Below w.heap.size w w' := by
  by_cases h1 : k = 1
  · subst h1
    have Hl := Lib.hid (show Nd.holds 1 nk ne = (decide (nk = 0) && decide (ne = 0)) from rfl)
    generalize Nd.holds 1 nk ne = r at *
    go_enter Tryz.func125, Tryz.ntmps125
    go_wp2_with fail
    all_goals (go_ret; refine ⟨congrArg (fun b => Ending.returned (Value.bool b)) ?_, (Below.refl _ _).alloc (Nat.le_refl _) _⟩; rw [Hl.out]; (rw [Bool.eq_iff_iff]; first | (simp; done) | (simp; omega) | (simp_all; done) | (trace_state; fail)))
  by_cases h2 : k = 2
  · subst h2
    have Hl := Lib.hid (show Nd.holds 2 nk ne = (decide (nk = 0) && decide (ne = 0)) from rfl)
    generalize Nd.holds 2 nk ne = r at *
    go_enter Tryz.func125, Tryz.ntmps125
    go_wp2_with fail
    all_goals (go_ret; refine ⟨congrArg (fun b => Ending.returned (Value.bool b)) ?_, (Below.refl _ _).alloc (Nat.le_refl _) _⟩; rw [Hl.out]; (rw [Bool.eq_iff_iff]; first | (simp; done) | (simp; omega) | (simp_all; done) | (trace_state; fail)))
  by_cases h3 : k = 3
  · subst h3
    go_enter Tryz.func125, Tryz.ntmps125
    go_wp2_with fail
    go_ret
    exact ⟨rfl, (Below.refl _ _).alloc (Nat.le_refl _) _⟩
  by_cases h5 : k = 5
  · subst h5
    have Hl := Lib.hid (show Nd.holds 5 nk ne = decide (ne = 0) from rfl)
    generalize Nd.holds 5 nk ne = r at *
    go_enter Tryz.func125, Tryz.ntmps125
    go_wp2_with fail
    all_goals (go_ret; refine ⟨congrArg (fun b => Ending.returned (Value.bool b)) ?_, (Below.refl _ _).alloc (Nat.le_refl _) _⟩; rw [Hl.out]; (rw [Bool.eq_iff_iff]; first | (simp; done) | (simp; omega) | (simp_all; done) | (trace_state; fail)))
  rw [Nd.holds_other h1 h2 h3 h5]
  have q1 : ((k : Int) == 1) = false := beq_eq_false_iff_ne.2 (by omega)
  have q2 : ((k : Int) == 2) = false := beq_eq_false_iff_ne.2 (by omega)
  have q3 : ((k : Int) == 3) = false := beq_eq_false_iff_ne.2 (by omega)
  have q5 : ((k : Int) == 5) = false := beq_eq_false_iff_ne.2 (by omega)
  go_enter Tryz.func125, Tryz.ntmps125
  go_wp2_with fail
  go_ret
  exact ⟨rfl, (Below.refl _ _).alloc (Nat.le_refl _) _⟩
end Go.Proofs.YteajjlilpikdeaaGreatDoor
namespace Go.Proofs.YteajjlilpikdeaaGreatDoor
open Go.RowKit

/-- The room behind so many; whether the next one is wrong. -/
def Nd.sAt (f : Nd.N → Int → Bool × Int) : List Nd.N → Int → Nat → Int
  | _, r, 0 => r
  | [], r, _ + 1 => r
  | x :: l, r, k + 1 => Nd.sAt f l (f x r).2 k
def Nd.pAt (f : Nd.N → Int → Bool × Int) (l : List Nd.N) (r : Int) (k : Nat) : Bool := match l[k]? with
  | none => false
  | some x => !(f x (Nd.sAt f l r k)).1
theorem Nd.sAt_zero (f : Nd.N → Int → Bool × Int) (l : List Nd.N) (r : Int) : Nd.sAt f l r 0 = r := by cases l <;> rfl
theorem Nd.sAt_succ (f : Nd.N → Int → Bool × Int) : ∀ (l : List Nd.N) (r : Int) (k : Nat) (h : k < l.length), Nd.sAt f l r (k + 1) = (f l[k] (Nd.sAt f l r k)).2
  | x :: l, r, 0, _ => by
    show Nd.sAt f l (f x r).2 0 = _
    rw [Nd.sAt_zero, Nd.sAt_zero]
    rfl
  | x :: l, r, k + 1, h => by rw [Nd.sAt, Nd.sAt_succ f l _ k (by simpa using h), Nd.sAt]; rfl
theorem Nd.pAt_get (f : Nd.N → Int → Bool × Int) (l : List Nd.N) (r : Int) (k : Nat) (h : k < l.length) : Nd.pAt f l r k = !(f l[k] (Nd.sAt f l r k)).1 := by
  unfold Nd.pAt
  rw [List.getElem?_eq_getElem h]
theorem Nd.pAt_succ (f : Nd.N → Int → Bool × Int) (x : Nd.N) (l : List Nd.N) (r : Int) (k : Nat) : Nd.pAt f (x :: l) r (k + 1) = Nd.pAt f l (f x r).2 k := by
  unfold Nd.pAt
  rw [List.getElem?_cons_succ, Nd.sAt]
theorem Nd.goAll_hit (f : Nd.N → Int → Bool × Int) : ∀ (l : List Nd.N) (r : Int) (k : Nat), k < l.length → Nd.pAt f l r k = true → (∀ j, j < k → Nd.pAt f l r j = false) → Nd.goAll f l r = (false, Nd.sAt f l r (k + 1))
  | x :: l, r, 0, _, hp, _ => by
    rw [Nd.pAt_get f _ _ 0 (by simp), Nd.sAt_zero] at hp
    rw [Nd.sAt, Nd.sAt_zero, Nd.goAll]
    simp only [List.getElem_cons_zero, Bool.not_eq_true'] at hp
    rcases hx : f x r with ⟨b, r'⟩
    rw [hx] at hp
    cases b
    · rfl
    · cases hp
  | x :: l, r, k + 1, h, hp, hj => by
    have h0 := hj 0 (by omega)
    rw [Nd.pAt_get f _ _ 0 (by simp), Nd.sAt_zero] at h0
    simp only [List.getElem_cons_zero, Bool.not_eq_false'] at h0
    rw [Nd.pAt_succ] at hp
    have ih := Nd.goAll_hit f l (f x r).2 k (by simpa using h) hp (fun j hjk => by have := hj (j + 1) (by omega); rwa [Nd.pAt_succ] at this)
    rw [Nd.sAt, ← ih, Nd.goAll]
    rcases hx : f x r with ⟨b, r'⟩
    rw [hx] at h0
    cases b
    · cases h0
    · rfl
theorem Nd.goAll_all (f : Nd.N → Int → Bool × Int) : ∀ (l : List Nd.N) (r : Int), (∀ j, j < l.length → Nd.pAt f l r j = false) → Nd.goAll f l r = (true, Nd.sAt f l r l.length)
  | [], r, _ => by rw [Nd.goAll, List.length_nil, Nd.sAt_zero]
  | x :: l, r, hj => by
    have h0 := hj 0 (by simp)
    rw [Nd.pAt_get f _ _ 0 (by simp), Nd.sAt_zero] at h0
    simp only [List.getElem_cons_zero, Bool.not_eq_false'] at h0
    have ih := Nd.goAll_all f l (f x r).2 (fun j hjk => by have := hj (j + 1) (by simpa using hjk); rwa [Nd.pAt_succ] at this)
    rw [List.length_cons, Nd.sAt, ← ih, Nd.goAll]
    rcases hx : f x r with ⟨b, r'⟩
    rw [hx] at h0
    cases b
    · cases h0
    · rfl
theorem Nd.goN_ok {m : Nat} {x : Nd.N} {r : Int} (h : 0 ≤ r) (hg : (Nd.goN (Nd.go m) x r).1 = true) : 0 ≤ (Nd.goN (Nd.go m) x r).2 ∧ (Nd.goN (Nd.go m) x r).2 ≤ r := by
  unfold Nd.goN at hg ⊢
  split at hg
  · rename_i hh
    rw [if_pos hh]
    obtain ⟨k1, k2⟩ := Nd.go_ok m x.kids r h
    rcases hk : Nd.go m x.kids r with ⟨b, r'⟩
    rw [hk] at hg k1 k2
    cases b
    · cases hg
    · obtain ⟨_, o2⟩ := k1.1 rfl
      have e := k2 rfl
      simp only at e hg ⊢
      obtain ⟨m1, m2⟩ := Nd.go_ok m x.els r' (by omega)
      have := (m1.1 hg).2
      have := m2 hg
      omega
  · cases hg
theorem Nd.sAt_bd (m : Nat) : ∀ (l : List Nd.N) (r : Int) (k : Nat), 0 ≤ r → k ≤ l.length → (∀ j, j < k → Nd.pAt (Nd.goN (Nd.go m)) l r j = false) → 0 ≤ Nd.sAt (Nd.goN (Nd.go m)) l r k ∧ Nd.sAt (Nd.goN (Nd.go m)) l r k ≤ r
  | l, r, 0, h, _, _ => by rw [Nd.sAt_zero]; omega
  | [], r, k + 1, _, h, _ => by simp at h
  | x :: l, r, k + 1, h, hk, hj => by
    have h0 := hj 0 (by omega)
    rw [Nd.pAt_get _ _ _ 0 (by simp), Nd.sAt_zero] at h0
    simp only [List.getElem_cons_zero, Bool.not_eq_false'] at h0
    obtain ⟨o1, o2⟩ := Nd.goN_ok h h0
    have ih := Nd.sAt_bd m l (Nd.goN (Nd.go m) x r).2 k o1 (by simpa using hk) (fun j hjk => by have := hj (j + 1) (by omega); rwa [Nd.pAt_succ] at this)
    rw [Nd.sAt]
    omega
/-- The post of shaped: what is handed back, and what room is left. -/
def Nd.ShapePost (d : Nat) (l : List Nd.N) (r : Int) (g : Nat) (w : World) (e : Ending) (w' : World) : Prop :=
  e = .returned (.bool (Nd.go d l r).1) ∧ w.grownBy w' (some g) ∧ w'.heap[g]? = some (.cells #[.int .i64 (Nd.go d l r).2] 3 (0, 0))
set_option maxRecDepth 100000 in
set_option maxHeartbeats 2000000 in
/-- The closure: of one node. -/
theorem shaped1_any (m : Nat) (x : Nd.N) (v : Value) (w0 W : World) (gl gr g : Nat) (r : Int) (hm : m ≤ 8) (hr : 0 ≤ r) (hA : Nd.At w0 v x) (hB : Below w0.heap.size w0 W) (hgw : w0.heap.size ≤ g)
    (hl : W.heap[gl]? = some (.cells #[.int .i64 ((m : Int) + 1)] 3 (0, 0))) (hp : W.heap[gr]? = some (.cells #[.pointer (some ⟨g, 0, none⟩)] 106 (0, 0))) (hgc : W.heap[g]? = some (.cells #[.int .i64 r] 3 (0, 0)))
    (hgl : gl ≠ g) (hgr : gr ≠ g)
    (ihc : ∀ (l : List Nd.N) (q : Option Addr) (c : Nat) (W2 : World) (r2 : Int), l.length ≤ 140737488351232 → 0 ≤ r2 → r2 ≤ r → Nd.Row w0 q l → Below w0.heap.size w0 W2 → W2.heap[g]? = some (.cells #[.int .i64 r2] 3 (0, 0)) → Calls Tryz.prog 95 #[.slice q l.length c, .int .i64 (m : Nat), .pointer (some ⟨g, 0, none⟩)] W2 (Nd.ShapePost m l r2 g W2)) :
    Calls Tryz.prog 124 (#[v] ++ #[.pointer (some ⟨gl, 0, none⟩), .pointer (some ⟨gr, 0, none⟩)]) W fun e w' => e = .returned (.bool (!(Nd.goN (Nd.go m) x r).1)) ∧ W.grownBy w' (some g) ∧ w'.heap[g]? = some (.cells #[.int .i64 (Nd.goN (Nd.go m) x r).2] 3 (0, 0)) := by
  rw [Nd.At.eq] at hA
  obtain ⟨pp, cp, pk, ck, pe, ce, rfl, hf, -, hk, he⟩ := hA
  rw [Nd.row_iff] at hk he
  obtain ⟨-, -, -, f4, f5, -, -, -, -⟩ := hf
  have hgg := (Array.getElem?_eq_some_iff.1 hgc).1
  have hll := (Array.getElem?_eq_some_iff.1 hl).1
  have hrl := (Array.getElem?_eq_some_iff.1 hp).1
  have hal := (Below.refl W.heap.size W).alloc (Nat.le_refl _) (.cells #[.int .u8 (x.kind : Nat), .string x.text, .slice pp x.path.length cp, .slice pk x.kids.length ck, .slice pe x.els.length ce] 44)
  have hnew := Vl.new W (.cells #[.int .u8 (x.kind : Nat), .string x.text, .slice pp x.path.length cp, .slice pk x.kids.length ck, .slice pe x.els.length ce] 44)
  have hwr : IntKind.i64.wrap ((m : Int) + 1 - 1) = (m : Int) := by rw [IntWalk.i64_in _ (by omega)]; omega
  have CH := Lib.hid (fun W => ndHolds_any x.kind x.text pp x.path.length cp pk x.kids.length ck pe x.els.length ce W)
  have C1 := Lib.hid (fun W2 r2 h1 h2 h3 h4 => ihc x.kids pk ck W2 r2 f4 h1 h2 hk h3 h4)
  have C2 := Lib.hid (fun W2 r2 h1 h2 h3 h4 => ihc x.els pe ce W2 r2 f5 h1 h2 he h3 h4)
  have HK := Lib.hid (Nd.go_ok m x.kids r hr)
  -- what lies below, in each later world
  have HL := Lib.hid (fun (w' : World) (h : W.grownBy w' (some g)) => (⟨(h.block gl hll (fun e => hgl (by cases e; rfl))).trans hl, (h.block gr hrl (fun e => hgr (by cases e; rfl))).trans hp⟩ : w'.heap[gl]? = some (.cells #[.int .i64 ((m : Int) + 1)] 3 (0, 0)) ∧ w'.heap[gr]? = some (.cells #[.pointer (some ⟨g, 0, none⟩)] 106 (0, 0))))
  have HN := Lib.hid (fun (w' : World) (h : (W.alloc (.cells #[.int .u8 (x.kind : Nat), .string x.text, .slice pp x.path.length cp, .slice pk x.kids.length ck, .slice pe x.els.length ce] 44)).grownBy w' (some g)) => Vl.five_of ((h.block W.heap.size (by rw [World.size_alloc]; omega) (fun e => by cases e; omega)).trans hnew))
  have HA := Lib.hid (fun (w' : World) (h : (W.alloc (.cells #[.int .u8 (x.kind : Nat), .string x.text, .slice pp x.path.length cp, .slice pk x.kids.length ck, .slice pe x.els.length ce] 44)).grownBy w' (some g)) => grownBy_trans (grownBy_of hal (some g)) h)
  have HBl := Lib.hid (fun (w' : World) (h : W.grownBy w' (some g)) => below_grownBy hB h hgw hB.size)
  clear hnew
  obtain ⟨G, hG⟩ : ∃ G, G = Nd.goN (Nd.go m) x r := ⟨_, rfl⟩
  rw [← hG]
  unfold Nd.goN at hG
  obtain ⟨G1, hG1⟩ : ∃ G1, G1 = Nd.go m x.kids r := ⟨_, rfl⟩
  rw [← hG1] at HK hG
  unfold Nd.ShapePost at C1 C2
  have E1 := Lib.hid hG1
  have Hgc := Lib.hid hgc
  have Hal := Lib.hid hal
  have HG := Lib.hid hG
  clear hG1 hgc hl hp hB hal ihc hk he hG
  generalize hh : Nd.holds x.kind x.kids.length x.els.length = H at *
  clear hh
  generalize x.kids.length = nk at *
  generalize x.els.length = ne at *
  generalize x.path.length = np at *
  generalize x.kind = k at *
  generalize x.text = t at *
  show Calls Tryz.prog 124 #[.agg #[.int .u8 (k : Nat), .string t, .slice pp np cp, .slice pk nk ck, .slice pe ne ce], .pointer (some ⟨gl, 0, none⟩), .pointer (some ⟨gr, 0, none⟩)] W _
  obtain ⟨n0, n1, n2, n3, n4⟩ := HN.out _ (grownBy_refl _ _)
  go_enter Tryz.func124, Tryz.ntmps124
  go_wp2_with fail
  refine (CH.out _).mono ?_
  rintro e w1 ⟨rfl, hb⟩
  have hg1 := grownBy_of hb (some g)
  rw [World.size_alloc] at hb
  have H1 := Lib.hid hg1
  have hgc1 := Lib.hid (((hb.block g (by omega)).trans (Vl.past _ _ _ hgg)).trans Hgc.out)
  clear hb hg1 n0 n1 n2 n3 n4 CH
  obtain ⟨n0, n1, n2, n3, n4⟩ := HN.out w1 H1.out
  have hlr := HL.out w1 (HA.out w1 H1.out)
  obtain ⟨l0, -⟩ := Vl.one_of hlr.1
  obtain ⟨p0, -⟩ := Vl.one_of hlr.2
  clear hlr
  cases H with
  | false =>
    have hG := HG.out
    rw [if_neg (by decide)] at hG
    subst hG
    go_wp2_with fail
    go_ret
    exact ⟨rfl, HA.out w1 H1.out, hgc1.out⟩
  | true =>
    have hG := HG.out
    rw [if_pos rfl] at hG
    have h1 := C1.out w1 r hr (Int.le_refl _) (HBl.out _ (HA.out w1 H1.out)) hgc1.out
    rw [← E1.out] at h1
    have D1 := Lib.hid h1
    have HG2 := Lib.hid hG
    clear h1 hG C1
    go_wp2_with fail
    refine D1.out.mono ?_
    rintro e w2 ⟨rfl, hg2, hc2⟩
    have H2 := Lib.hid (grownBy_trans H1.out hg2)
    have hgc2 := Lib.hid hc2
    clear hg2 hc2 n0 n1 n2 n3 n4 l0 p0 D1
    obtain ⟨n0, n1, n2, n3, n4⟩ := HN.out w2 H2.out
    have hlr := HL.out w2 (HA.out w2 H2.out)
    obtain ⟨l0, -⟩ := Vl.one_of hlr.1
    obtain ⟨p0, -⟩ := Vl.one_of hlr.2
    clear hlr
    obtain ⟨b1, r1⟩ := G1
    cases b1 with
    | false =>
      have hG := HG2.out
      simp only at hG
      subst hG
      go_wp2_with fail
      go_ret
      exact ⟨rfl, HA.out w2 H2.out, hgc2.out⟩
    | true =>
      have hG := HG2.out
      simp only at hG
      have hr1 : 0 ≤ r1 ∧ r1 ≤ r := by
        obtain ⟨k1, k2⟩ := HK.out
        have := (k1.1 rfl).2
        have e2 : r1 = _ := k2 rfl
        omega
      have h1 := C2.out w2 r1 hr1.1 hr1.2 (HBl.out _ (HA.out w2 H2.out)) hgc2.out
      rw [← hG] at h1
      have D2 := Lib.hid h1
      clear h1 hG C2 hr1 HK E1 HG HG2
      go_wp2_with fail
      refine D2.out.mono ?_
      rintro e w3 ⟨rfl, hg3, hc3⟩
      have H3 := Lib.hid (grownBy_trans H2.out hg3)
      have hgc3 := Lib.hid hc3
      clear hg3 hc3 n0 n1 n2 n3 n4 l0 p0 D2
      go_wp2_with fail
      go_ret
      exact ⟨rfl, HA.out w3 H3.out, hgc3.out⟩
/-- The world behind the first line: two boxes stand, and the room is less. -/
structure Nd.Boxed (w W : World) (g d : Nat) (r : Int) : Prop where
  size : W.heap.size = w.heap.size + 2
  grown : w.grownBy W (some g)
  room : W.heap[g]? = some (.cells #[.int .i64 r] 3 (0, 0))
  lev : W.heap[w.heap.size]? = some (.cells #[.int .i64 (d : Nat)] 3 (0, 0))
  ptr : W.heap[w.heap.size + 1]? = some (.cells #[.pointer (some ⟨g, 0, none⟩)] 106 (0, 0))
theorem Nd.boxed (w : World) (g d : Nat) (r r' : Int) (hg : w.heap[g]? = some (.cells #[.int .i64 r] 3 (0, 0))) :
    Nd.Boxed w (((w.setCell ⟨g, 0, none⟩ (.int .i64 r')).alloc (.cells #[.int .i64 (d : Nat)] 3)).alloc (.cells #[.pointer (some ⟨g, 0, none⟩)] 106)) g d r' := by
  have hgl : g < w.heap.size := (Array.getElem?_eq_some_iff.1 hg).1
  have hs : (w.setCell ⟨g, 0, none⟩ (.int .i64 r')).heap.size = w.heap.size := World.size_setCell _ _ _
  refine ⟨by simp only [World.size_alloc, hs], ?_, ?_, ?_, ?_⟩
  · exact grownBy_trans (Vl.set1_grown _ _ _ _) (grownBy_of (((Below.refl _ _).alloc (Nat.le_refl _) _).alloc (by rw [World.size_alloc]; omega) _) (some g))
  · rw [Vl.past _ _ _ (by rw [World.size_alloc, hs]; omega), Vl.past _ _ _ (by rw [hs]; omega)]
    exact (Lib.heap_setCell_same (i := 0) hg (.int .i64 r')).trans rfl
  · rw [Vl.past _ _ _ (by rw [World.size_alloc, hs]; omega)]
    exact Vl.newAt _ _ _ hs.symm
  · exact Vl.newAt _ _ _ (by rw [World.size_alloc, hs])
set_option maxRecDepth 100000 in
set_option maxHeartbeats 2000000 in
theorem shaped_body (d : Nat) (l : List Nd.N) (q : Option Addr) (c : Nat) (w0 w : World) (g : Nat) (r : Int) (hd : d ≤ 8) (hr0 : 0 ≤ r) (hr1 : r ≤ 256) (hn : l.length ≤ 140737488351232) (hA : Nd.Row w0 q l) (hB : Below w0.heap.size w0 w) (hg : w0.heap.size ≤ g) (hgc : w.heap[g]? = some (.cells #[.int .i64 r] 3 (0, 0)))
    (ih : ∀ m, d = m + 1 → ∀ (l : List Nd.N) (q : Option Addr) (c : Nat) (W2 : World) (r2 : Int), l.length ≤ 140737488351232 → 0 ≤ r2 → r2 ≤ 256 → Nd.Row w0 q l → Below w0.heap.size w0 W2 → W2.heap[g]? = some (.cells #[.int .i64 r2] 3 (0, 0)) → Calls Tryz.prog 95 #[.slice q l.length c, .int .i64 (m : Nat), .pointer (some ⟨g, 0, none⟩)] W2 (Nd.ShapePost m l r2 g W2)) :
    Calls Tryz.prog 95 #[.slice q l.length c, .int .i64 (d : Nat), .pointer (some ⟨g, 0, none⟩)] w (Nd.ShapePost d l r g w) := by
  have hbad : (r - (l.length : Int) < 0 ∨ d = 0 ∧ 0 < l.length) → Nd.go d l r = (false, r - l.length) := fun h => by
    cases d with
    | zero => rw [Nd.go, if_pos (by rcases h with h | h; exact Or.inl h; exact Or.inr h.2)]
    | succ d => rw [Nd.go, if_pos (by rcases h with h | h; exact h; exact absurd h.1 (by omega))]
  have hgood : ¬ (r - (l.length : Int) < 0 ∨ d = 0 ∧ 0 < l.length) → ∃ m, m ≤ 8 ∧ (0 < l.length → d = m + 1) ∧ Nd.go d l r = Nd.goAll (Nd.goN (Nd.go m)) l (r - l.length) := fun h => by
    cases d with
    | zero =>
      obtain rfl : l = [] := List.length_eq_zero_iff.1 (by omega)
      refine ⟨0, by omega, fun h => absurd h (by simp), ?_⟩
      rw [Nd.go, if_neg (by simpa using h)]
      rfl
    | succ d => exact ⟨d, by omega, fun _ => rfl, by rw [Nd.go, if_neg (fun h2 => h (Or.inl h2))]⟩
  have hpost : ∀ b r' W', Nd.go d l r = (b, r') → w.grownBy W' (some g) → W'.heap[g]? = some (.cells #[.int .i64 r'] 3 (0, 0)) → Nd.ShapePost d l r g w (.returned (.bool b)) W' := fun b r' W' h0 h1 h2 => ⟨by rw [h0], h1, by rw [h0]; exact h2⟩
  have hbx := Nd.boxed w g d r (r - l.length) hgc
  generalize Nd.ShapePost d l r g w = Post at *
  generalize Nd.go d l r = T at *
  have Hpost := Lib.hid hpost
  have Hbad := Lib.hid hbad
  have Hgood := Lib.hid hgood
  have HA := Lib.hid hA
  have Hih := Lib.hid ih
  clear hpost hbad hgood hA ih
  generalize hni : l.length = n at *
  have Hni := Lib.hid hni
  clear hni
  obtain ⟨g0, g1⟩ := Vl.one_of hgc
  have hgl : g < w.heap.size := (Array.getElem?_eq_some_iff.1 hgc).1
  have Hbx := Lib.hid hbx
  have HB := Lib.hid hB
  clear hbx hgc hB
  go_enter Tryz.func95, Tryz.ntmps95
  go_upto_region 2 with fail
  generalize (((w.setCell ⟨g, 0, none⟩ (.int .i64 (r - (n : Int)))).alloc (.cells #[.int .i64 (d : Nat)] 3)).alloc (.cells #[.pointer (some ⟨g, 0, none⟩)] 106)) = W at *
  obtain ⟨b1, b2, b3, b4, b5⟩ := Hbx.out
  obtain ⟨m0, -⟩ := Vl.one_of b4
  obtain ⟨n0, -⟩ := Vl.one_of b5
  obtain ⟨r0, -⟩ := Vl.one_of b3
  have Hgr := Lib.hid b2
  have Hroom := Lib.hid b3
  have HbW := Lib.hid (below_grownBy HB.out b2 hg HB.out.size)
  have Hb4 := Lib.hid b4
  have Hb5 := Lib.hid b5
  have Hsz := Lib.hid b1
  clear b1 b2 b3 b4 b5 Hbx g0 g1 HB
  by_cases e1 : r - (n : Int) < 0
  · have hT := Lib.hid (Hbad.out (Or.inl e1))
    clear Hih Hgood Hbad HA
    go_wp2_with fail
    exact Hpost.out false _ _ hT.out Hgr.out Hroom.out
  · by_cases e2 : d = 0 ∧ 0 < n
    · have hT := Lib.hid (Hbad.out (Or.inr e2))
      obtain ⟨e3, e4⟩ := e2
      have e5 : ((d : Int) == 0) = true := by rw [beq_iff_eq]; omega
      have e6 : (0 : Int) < (n : Int) := by omega
      clear Hih Hgood Hbad HA e3 e4
      go_wp2_with fail
      exact Hpost.out false _ _ hT.out Hgr.out Hroom.out
    · obtain ⟨m, hm8, hdm, hT'⟩ := Hgood.out (fun h => h.elim e1 e2)
      have hT := Lib.hid hT'
      have hn0 : n = 0 ∨ 0 < n := by omega
      have hcon := nd_contains n q c 124 #[.pointer (some ⟨w.heap.size, 0, none⟩), .pointer (some ⟨w.heap.size + 1, 0, none⟩)] (enters_of Tryz.func124 (by kernel_rfl) rfl) W (Nd.pAt (Nd.goN (Nd.go m)) l (r - n))
        (fun k V => W.grownBy V (some g) ∧ V.heap[g]? = some (.cells #[.int .i64 (Nd.sAt (Nd.goN (Nd.go m)) l (r - n) k)] 3 (0, 0))) (Nd.G w0 l) hn
        (fun k V hI => by
          have hV := below_grownBy HbW.out hI.1 hg HbW.out.size
          intro i hi
          obtain ⟨b, off, c0, c1, c2, c3, c4, x1, x2, y, hy, x3⟩ := HA.out i (by rw [Hni.out]; exact hi)
          exact ⟨b, off, c0, c1, c2, c3, c4, x1, x2.below hV, y, hy, x3⟩)
        (fun k hk hpre v V hG hI => by
          obtain ⟨y, hy, hAy⟩ := hG
          obtain ⟨hql, hye⟩ := List.getElem?_eq_some_iff.1 hy
          obtain ⟨bd0, bd1⟩ := Nd.sAt_bd m l (r - n) k (by omega) (by omega) hpre
          rw [Nd.pAt_get _ _ _ k hql, Nd.sAt_succ _ _ _ k hql, hye]
          have hd1 := hdm (by omega)
          have hgs := (Array.getElem?_eq_some_iff.1 Hroom.out).1
          have hl4 : V.heap[w.heap.size]? = some (.cells #[.int .i64 ((m : Int) + 1)] 3 (0, 0)) := ((hI.1.block _ (by have := Hsz.out; omega) (by simp; omega)).trans Hb4.out).trans (by rw [hd1]; rfl)
          refine (shaped1_any m y v w0 V w.heap.size (w.heap.size + 1) g _ hm8 bd0 hAy (below_grownBy HbW.out hI.1 hg HbW.out.size) hg hl4 ((hI.1.block _ (by have := Hsz.out; omega) (by simp; omega)).trans Hb5.out) hI.2 (by omega) (by omega) (fun l2 q2 c2 W2 r2 a1 a2 a3 a4 a5 a6 => Hih.out m hd1 l2 q2 c2 W2 r2 a1 a2 (by omega) a4 a5 a6)).mono ?_
          rintro e w' ⟨rfl, h1, h2⟩
          exact ⟨rfl, grownBy_trans hI.1 h1, h2⟩)
        ⟨grownBy_refl _ _, by rw [Nd.sAt_zero]; exact Hroom.out⟩
      have HCon := Lib.hid hcon
      have HE2 := Lib.hid e2
      clear hcon Hih Hgood Hbad HA hdm hT' e2 Hb4 Hb5
      have e3 : ((d : Int) == 0) = true ∧ ¬ (0 : Int) < (n : Int) ∨ ((d : Int) == 0) = false := by
        have := HE2.out
        by_cases hd0 : d = 0
        · left
          exact ⟨by rw [beq_iff_eq]; omega, by omega⟩
        · right
          exact beq_eq_false_iff_ne.2 (by omega)
      rcases e3 with ⟨e3, e4⟩ | e3
      all_goals
        go_wp2_with fail
        refine HCon.out.mono ?_
        rintro e w6 (⟨k, q1', q2', q3', rfl, qg, qr⟩ | ⟨q1', rfl, qg, qr⟩)
        · have hfin := Nd.goAll_hit (Nd.goN (Nd.go m)) l (r - n) k (by rw [Hni.out]; exact q1') q2' q3'
          have HF := Lib.hid (hT.out.trans hfin)
          have HG6 := Lib.hid (grownBy_trans Hgr.out qg)
          have HR6 := Lib.hid qr
          clear q3' hfin qg qr q2'
          go_wp2_with fail
          exact Hpost.out _ _ _ HF.out HG6.out HR6.out
        · have hfin := Nd.goAll_all (Nd.goN (Nd.go m)) l (r - n) (by rw [Hni.out]; exact q1')
          rw [Hni.out] at hfin
          have HF := Lib.hid (hT.out.trans hfin)
          have HG6 := Lib.hid (grownBy_trans Hgr.out qg)
          have HR6 := Lib.hid qr
          clear hfin qg qr q1'
          go_wp2_with fail
          exact Hpost.out _ _ _ HF.out HG6.out HR6.out
theorem shaped_any : ∀ (d : Nat) (l : List Nd.N) (q : Option Addr) (c : Nat) (w0 w : World) (g : Nat) (r : Int), d ≤ 8 → 0 ≤ r → r ≤ 256 → l.length ≤ 140737488351232 → Nd.Row w0 q l → Below w0.heap.size w0 w → w0.heap.size ≤ g → w.heap[g]? = some (.cells #[.int .i64 r] 3 (0, 0)) →
    Calls Tryz.prog 95 #[.slice q l.length c, .int .i64 (d : Nat), .pointer (some ⟨g, 0, none⟩)] w (Nd.ShapePost d l r g w)
  | 0, l, q, c, w0, w, g, r, hd, h0, h1, hn, hA, hB, hg, hc => shaped_body 0 l q c w0 w g r hd h0 h1 hn hA hB hg hc (fun m hm => by cases hm)
  | d + 1, l, q, c, w0, w, g, r, hd, h0, h1, hn, hA, hB, hg, hc => shaped_body (d + 1) l q c w0 w g r hd h0 h1 hn hA hB hg hc
      (fun m hm l2 q2 c2 W2 r2 a1 a2 a3 a4 a5 a6 => by cases hm; exact shaped_any d l2 q2 c2 w0 W2 g r2 (by omega) a2 a3 a1 a4 a5 hg a6)
end Go.Proofs.YteajjlilpikdeaaGreatDoor
