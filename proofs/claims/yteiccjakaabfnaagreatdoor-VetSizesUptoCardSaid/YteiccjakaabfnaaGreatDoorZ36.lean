/-
  The walks of slices.IndexFunc and slices.ContainsFunc at values, with whatever closure: one that writes a variable of its own too. Condition: what each call of the closure hands back, and keeps.
  What nodes read as; rows of nodes of the call's own. No condition but those that the theorems state.
  The walks of slices.IndexFunc and slices.ContainsFunc at nodes, with whatever closure: one that writes a variable of its own too. Condition: what each call of the closure hands back, and keeps.
  The walks of tree's smallest calls: opens, holdsRight. No condition.
  The places of nodes, in the order of the tokens: what vet's walk tells of. No condition.
-/
import Derived.Test.YteiccjakaabfnaaGreatDoorZ47
import Derived.Deep.LoopGhost
import Derived.Lib.Walk
import Derived.Shelf.Abstract
import Derived.Test.YteiccjakaabfnaaGreatDoorZ53
import Derived.Test.YteiccjakaabfnaaGreatDoorNdPlain
namespace Go.Proofs.YteiccjakaabfnaaGreatDoor
open Go.RowKit Go.Lib Go.Shelf

/-- The five cells of each value of a row, and what is known of it. -/
def Vl.RowIs (W : World) (p : Option Addr) (n : Nat) (G : Nat → Value → Prop) : Prop :=
  ∀ i, i < n → ∃ b off c0 c1 c2 c3 c4, p = some ⟨b, off, none⟩ ∧ Vl.Five W b (off + i * 5) c0 c1 c2 c3 c4 ∧ G i (.agg #[c0, c1, c2, c3, c4])
/-- How a search ends: at the first place at which the closure says yes, or behind the last one. -/
def Vl.Idx (n : Nat) (P : Nat → Bool) (I : Nat → World → Prop) (e : Ending) (w' : World) : Prop :=
  (∃ k, k < n ∧ P k = true ∧ (∀ j, j < k → P j = false) ∧ e = .returned (.int .i64 k) ∧ I (k + 1) w') ∨ ((∀ j, j < n → P j = false) ∧ e = .returned (.int .i64 (-1)) ∧ I n w')
def Vl.Any (n : Nat) (P : Nat → Bool) (I : Nat → World → Prop) (e : Ending) (w' : World) : Prop :=
  (∃ k, k < n ∧ P k = true ∧ (∀ j, j < k → P j = false) ∧ e = .returned (.bool true) ∧ I (k + 1) w') ∨ ((∀ j, j < n → P j = false) ∧ e = .returned (.bool false) ∧ I n w')
set_option maxHeartbeats 2000000 in
set_option maxRecDepth 100000 in
theorem vl_index (n : Nat) (p : Option Addr) (c : Nat) (g : Nat) (lb : Array Value) (eg : ∀ args w, (callFunc g args).run Tryz.prog w = .ok (.enter g args) w) (w : World) (P : Nat → Bool) (I : Nat → World → Prop) (G : Nat → Value → Prop) (hn : n ≤ 140737488351232)
    (hA : ∀ k W, I k W → Vl.RowIs W p n G)
    (hc : ∀ k, k < n → (∀ j, j < k → P j = false) → ∀ v W, G k v → I k W → Calls Tryz.prog g (#[v] ++ lb) W fun e w' => e = .returned (.bool (P k)) ∧ I (k + 1) w')
    (h0 : I 0 w) : Calls Tryz.prog 195 #[.slice p n c, .func (.func g) #[] lb] w (Vl.Idx n P I) := by
  have HA := Lib.hid hA
  have HC := Lib.hid hc
  have H0 := Lib.hid h0
  clear hA hc h0
  go_enter Tryz.func195, Tryz.ntmps195
  go_wp2
  go_loopg [5, 8] n (fun gg _ s8 wr => ∃ kk : Nat, kk ≤ n ∧ n - kk ≤ gg ∧ s8 = .int .i64 kk ∧ Aside (I kk wr) ∧ Aside (∀ j, j < kk → P j = false))
  case atStart => exact ⟨0, Nat.zero_le _, by omega, rfl, H0.out, fun j hj => absurd hj (Nat.not_lt_zero _)⟩
  case round =>
    obtain ⟨kk, hkk, hg, rfl, BI, A⟩ := hrel
    by_cases hlt : kk < n
    · have hltz : (kk : Int) < (n : Int) := by omega
      obtain ⟨b, off, c0, c1, c2, c3, c4, rfl, ⟨e0, e1, e2, e3, e4⟩, hG⟩ := HA.out kk wr BI.out kk hlt
      have hcall := HC.out kk hlt A.out _ wr hG BI.out
      clear hG
      cases hq : P kk with
      | true =>
        rw [hq] at hcall
        have HK := Lib.hid hcall
        have HQ := Lib.hid hq
        clear hcall hq
        go_wp2_with fail
        refine HK.out.mono ?_
        rintro e w' ⟨rfl, hb'⟩
        clear e0 e1 e2 e3 e4
        go_wp2_with fail
        go_ret
        exact Or.inl ⟨kk, hlt, HQ.out, A.out, rfl, hb'⟩
      | false =>
        rw [hq] at hcall
        have HK := Lib.hid hcall
        have HQ := Lib.hid hq
        clear hcall hq
        go_wp2_with fail
        refine HK.out.mono ?_
        rintro e w' ⟨rfl, hb'⟩
        clear e0 e1 e2 e3 e4
        go_wp2_with fail
        go_roundg (n - (kk + 1))
        case measure => omega
        case rel =>
          refine ⟨kk + 1, by omega, by omega, by go_num, hb', (show Aside _ from fun j hj => ?_)⟩
          by_cases e : j = kk
          · subst e; exact HQ.out
          · exact A.out j (by omega)
    · have hltz : ¬ (kk : Int) < (n : Int) := by omega
      have : kk = n := by omega
      subst this
      go_wp2
      go_ret
      exact Or.inr ⟨A.out, rfl, BI.out⟩
set_option maxRecDepth 100000 in
theorem vl_contains (n : Nat) (p : Option Addr) (c : Nat) (g : Nat) (lb : Array Value) (eg : ∀ args w, (callFunc g args).run Tryz.prog w = .ok (.enter g args) w) (w : World) (P : Nat → Bool) (I : Nat → World → Prop) (G : Nat → Value → Prop) (hn : n ≤ 140737488351232)
    (hA : ∀ k W, I k W → Vl.RowIs W p n G)
    (hc : ∀ k, k < n → (∀ j, j < k → P j = false) → ∀ v W, G k v → I k W → Calls Tryz.prog g (#[v] ++ lb) W fun e w' => e = .returned (.bool (P k)) ∧ I (k + 1) w')
    (h0 : I 0 w) : Calls Tryz.prog 125 #[.slice p n c, .func (.func g) #[] lb] w (Vl.Any n P I) := by
  have H1 := Lib.hid (vl_index n p c g lb eg w P I G hn hA hc h0)
  clear hA hc h0 eg
  go_enter Tryz.func125, Tryz.ntmps125
  go_wp2_with fail
  refine H1.out.mono ?_
  rintro e w' (⟨k, h1, h2, h3, rfl, h4⟩ | ⟨h1, rfl, h2⟩)
  · have hk : (0 : Int) ≤ (k : Int) := by omega
    have H3 := Lib.hid h3
    have h2' := Lib.hid h2
    clear h2 h3
    go_wp2_with fail
    go_ret
    exact Or.inl ⟨k, h1, h2'.out, H3.out, rfl, h4⟩
  · have h1' := Lib.hid h1
    clear h1
    go_wp2_with fail
    go_ret
    exact Or.inr ⟨h1'.out, rfl, h2⟩
end Go.Proofs.YteiccjakaabfnaaGreatDoor
namespace Go.Proofs.YteiccjakaabfnaaGreatDoor
open Go.RowKit

/-- What a node's parts are: of a size that a machine holds. -/
def Nd.Fits (k : Nat) (t : ByteArray) (p : List ByteArray) (nk ne cp ck ce : Nat) : Prop :=
  k ≤ 255 ∧ t.size ≤ 140737488351232 ∧ p.length ≤ 140737488351232 ∧ nk ≤ 140737488351232 ∧ ne ≤ 140737488351232 ∧ (∀ s ∈ p, s.size ≤ 140737488351232) ∧ p.length ≤ cp ∧ nk ≤ ck ∧ ne ≤ ce
mutual
/-- A value reads as a node. -/
def Nd.At (w : World) (v : Value) : Nd.N → Prop
  | .mk k t p kids els => ∃ pp cp pk ck pe ce, v = .agg #[.int .u8 (k : Nat), .string t, .slice pp p.length cp, .slice pk kids.length ck, .slice pe els.length ce] ∧
      Nd.Fits k t p kids.length els.length cp ck ce ∧ Wp.At Wp.mkT w pp p ∧ Nd.RowF w pk 0 kids ∧ Nd.RowF w pe 0 els
/-- Nodes side by side, from that place on. -/
def Nd.RowF (w : World) (p : Option Addr) (i : Nat) : List Nd.N → Prop
  | [] => True
  | x :: l => (∃ b off c0 c1 c2 c3 c4, p = some ⟨b, off, none⟩ ∧ Vl.Five w b (off + i * 5) c0 c1 c2 c3 c4 ∧ Nd.At w (.agg #[c0, c1, c2, c3, c4]) x) ∧ Nd.RowF w p (i + 1) l
end
theorem Nd.At.eq (w : World) (v : Value) (x : Nd.N) : Nd.At w v x ↔ ∃ pp cp pk ck pe ce, v = .agg #[.int .u8 (x.kind : Nat), .string x.text, .slice pp x.path.length cp, .slice pk x.kids.length ck, .slice pe x.els.length ce] ∧
    Nd.Fits x.kind x.text x.path x.kids.length x.els.length cp ck ce ∧ Wp.At Wp.mkT w pp x.path ∧ Nd.RowF w pk 0 x.kids ∧ Nd.RowF w pe 0 x.els := by
  cases x with
  | mk k t p kids els => rw [Nd.At]; rfl
/-- What is known of each node of a row. -/
def Nd.G (w : World) (l : List Nd.N) (i : Nat) (v : Value) : Prop := ∃ y, l[i]? = some y ∧ Nd.At w v y
/-- Nodes side by side. -/
def Nd.Row (w : World) (p : Option Addr) (l : List Nd.N) : Prop := Vl.RowIs w p l.length (Nd.G w l)
theorem Nd.row_from (w : World) (p : Option Addr) : ∀ (l : List Nd.N) (i : Nat), Nd.RowF w p i l ↔ ∀ j, j < l.length → ∃ b off c0 c1 c2 c3 c4, p = some ⟨b, off, none⟩ ∧ Vl.Five w b (off + (i + j) * 5) c0 c1 c2 c3 c4 ∧ ∃ y, l[j]? = some y ∧ Nd.At w (.agg #[c0, c1, c2, c3, c4]) y
  | [], i => by rw [Nd.RowF]; simp
  | x :: l, i => by
    rw [Nd.RowF, Nd.row_from w p l (i + 1)]
    constructor
    · rintro ⟨⟨b, off, c0, c1, c2, c3, c4, hp, h5, ha⟩, h⟩ j hj
      cases j with
      | zero => exact ⟨b, off, c0, c1, c2, c3, c4, hp, h5, x, rfl, ha⟩
      | succ j =>
        obtain ⟨b, off, c0, c1, c2, c3, c4, hp, h5, y, hy, ha⟩ := h j (by simpa using hj)
        exact ⟨b, off, c0, c1, c2, c3, c4, hp, by rw [show i + (j + 1) = i + 1 + j by omega]; exact h5, y, hy, ha⟩
    · intro h
      refine ⟨?_, fun j hj => ?_⟩
      · obtain ⟨b, off, c0, c1, c2, c3, c4, hp, h5, y, hy, ha⟩ := h 0 (by simp)
        cases hy
        exact ⟨b, off, c0, c1, c2, c3, c4, hp, h5, ha⟩
      · obtain ⟨b, off, c0, c1, c2, c3, c4, hp, h5, y, hy, ha⟩ := h (j + 1) (by simpa using hj)
        exact ⟨b, off, c0, c1, c2, c3, c4, hp, by rw [show i + 1 + j = i + (j + 1) by omega]; exact h5, y, hy, ha⟩
theorem Nd.row_iff (w : World) (p : Option Addr) (l : List Nd.N) : Nd.RowF w p 0 l ↔ Nd.Row w p l := by
  rw [Nd.row_from]
  unfold Nd.Row Vl.RowIs Nd.G
  simp only [Nat.zero_add]
/-- What lies in blocks that stay reads as it did. -/
def Nd.Keeps (w w' : World) : Prop := ∀ a : Addr, ∀ v, w.cell? a = some v → w'.cell? a = some v
theorem Nd.keeps_below {w w' : World} (h : Below w.heap.size w w') : Nd.Keeps w w' := fun _ _ e => (h.cell (World.block_lt_of_cell? w _ e)).trans e
theorem Nd.texts_keep {w w' : World} (hk : Nd.Keeps w w') {p : Option Addr} {l : List ByteArray} (h : Wp.At Wp.mkT w p l) : Wp.At Wp.mkT w' p l := by
  rcases h with h | ⟨b, off, e, hc⟩
  · exact Or.inl h
  · exact Or.inr ⟨b, off, e, fun i hi => hk _ _ (hc i hi)⟩
theorem Nd.five_keep {w w' : World} (hk : Nd.Keeps w w') {b o : Nat} {c0 c1 c2 c3 c4 : Value} (h : Vl.Five w b o c0 c1 c2 c3 c4) : Vl.Five w' b o c0 c1 c2 c3 c4 :=
  ⟨hk _ _ h.1, hk _ _ h.2.1, hk _ _ h.2.2.1, hk _ _ h.2.2.2.1, hk _ _ h.2.2.2.2⟩
mutual
theorem Nd.at_keep {w w' : World} (hk : Nd.Keeps w w') : ∀ (x : Nd.N) (v : Value), Nd.At w v x → Nd.At w' v x
  | .mk k t p kids els, v, h => by
    rw [Nd.At] at h ⊢
    obtain ⟨pp, cp, pk, ck, pe, ce, e, hf, hp, h1, h2⟩ := h
    exact ⟨pp, cp, pk, ck, pe, ce, e, hf, Nd.texts_keep hk hp, Nd.rowF_keep hk kids pk 0 h1, Nd.rowF_keep hk els pe 0 h2⟩
theorem Nd.rowF_keep {w w' : World} (hk : Nd.Keeps w w') : ∀ (l : List Nd.N) (p : Option Addr) (i : Nat), Nd.RowF w p i l → Nd.RowF w' p i l
  | [], _, _, _ => by rw [Nd.RowF]; trivial
  | x :: l, p, i, h => by
    rw [Nd.RowF] at h ⊢
    obtain ⟨⟨b, off, c0, c1, c2, c3, c4, hp, h5, ha⟩, h2⟩ := h
    exact ⟨⟨b, off, c0, c1, c2, c3, c4, hp, Nd.five_keep hk h5, Nd.at_keep hk x _ ha⟩, Nd.rowF_keep hk l p (i + 1) h2⟩
end
theorem Nd.At.below {w w' : World} {v : Value} {x : Nd.N} (h : Nd.At w v x) (hb : Below w.heap.size w w') : Nd.At w' v x := Nd.at_keep (Nd.keeps_below hb) x v h
theorem Nd.Row.below {w w' : World} {p : Option Addr} {l : List Nd.N} (h : Nd.Row w p l) (hb : Below w.heap.size w w') : Nd.Row w' p l :=
  (Nd.row_iff _ _ _).1 (Nd.rowF_keep (Nd.keeps_below hb) l p 0 ((Nd.row_iff _ _ _).2 h))
theorem Nd.Row.nil (w : World) (p : Option Addr) : Nd.Row w p [] := fun i hi => by simp at hi
theorem Nd.At.shape {w : World} {u : Value} {y : Nd.N} (h : Nd.At w u y) : ∃ (k : Nat) (t : ByteArray) (pp : Option Addr) (np cp : Nat) (pk : Option Addr) (nk ck : Nat) (pe : Option Addr) (ne ce : Nat), u = .agg #[.int .u8 k, .string t, .slice pp np cp, .slice pk nk ck, .slice pe ne ce] := by
  rw [Nd.At.eq] at h
  obtain ⟨pp, cp, pk, ck, pe, ce, rfl, _⟩ := h
  exact ⟨_, _, _, _, _, _, _, _, _, _, _, rfl⟩
/-- The node at a place of a row, opened. -/
theorem Nd.Row.get {w : World} {p : Option Addr} {l : List Nd.N} (h : Nd.Row w p l) (i : Nat) (hi : i < l.length) :
    ∃ b off pp cp pk ck pe ce, p = some ⟨b, off, none⟩ ∧ Vl.Five w b (off + i * 5) (.int .u8 (l[i].kind : Nat)) (.string l[i].text) (.slice pp l[i].path.length cp) (.slice pk l[i].kids.length ck) (.slice pe l[i].els.length ce) ∧
      Nd.Fits l[i].kind l[i].text l[i].path l[i].kids.length l[i].els.length cp ck ce ∧ Wp.At Wp.mkT w pp l[i].path ∧ Nd.Row w pk l[i].kids ∧ Nd.Row w pe l[i].els := by
  obtain ⟨b, off, c0, c1, c2, c3, c4, hp, h5, y, hy, ha⟩ := h i hi
  obtain rfl : y = l[i] := (Option.some.inj ((List.getElem?_eq_getElem hi).symm.trans hy)).symm
  rw [Nd.At.eq] at ha
  obtain ⟨pp, cp, pk, ck, pe, ce, e, hf, hq, h1, h2⟩ := ha
  simp only [Value.agg.injEq, Array.mk.injEq, List.cons.injEq, and_true] at e
  obtain ⟨rfl, rfl, rfl, rfl, rfl⟩ := e
  exact ⟨b, off, pp, cp, pk, ck, pe, ce, hp, h5, hf, hq, (Nd.row_iff _ _ _).1 h1, (Nd.row_iff _ _ _).1 h2⟩
end Go.Proofs.YteiccjakaabfnaaGreatDoor
namespace Go.Proofs.YteiccjakaabfnaaGreatDoor
open Go.RowKit Go.Lib Go.Shelf

set_option maxHeartbeats 2000000 in
set_option maxRecDepth 100000 in
theorem nd_index (n : Nat) (p : Option Addr) (c : Nat) (g : Nat) (lb : Array Value) (eg : ∀ args w, (callFunc g args).run Tryz.prog w = .ok (.enter g args) w) (w : World) (P : Nat → Bool) (I : Nat → World → Prop) (G : Nat → Value → Prop) (hn : n ≤ 140737488351232)
    (hA : ∀ k W, I k W → Vl.RowIs W p n G)
    (hc : ∀ k, k < n → (∀ j, j < k → P j = false) → ∀ v W, G k v → I k W → Calls Tryz.prog g (#[v] ++ lb) W fun e w' => e = .returned (.bool (P k)) ∧ I (k + 1) w')
    (h0 : I 0 w) : Calls Tryz.prog 229 #[.slice p n c, .func (.func g) #[] lb] w (Vl.Idx n P I) := by
  have HA := Lib.hid hA
  have HC := Lib.hid hc
  have H0 := Lib.hid h0
  clear hA hc h0
  go_enter Tryz.func229, Tryz.ntmps229
  go_wp2
  go_loopg [5, 8] n (fun gg _ s8 wr => ∃ kk : Nat, kk ≤ n ∧ n - kk ≤ gg ∧ s8 = .int .i64 kk ∧ Aside (I kk wr) ∧ Aside (∀ j, j < kk → P j = false))
  case atStart => exact ⟨0, Nat.zero_le _, by omega, rfl, H0.out, fun j hj => absurd hj (Nat.not_lt_zero _)⟩
  case round =>
    obtain ⟨kk, hkk, hg, rfl, BI, A⟩ := hrel
    by_cases hlt : kk < n
    · have hltz : (kk : Int) < (n : Int) := by omega
      obtain ⟨b, off, c0, c1, c2, c3, c4, rfl, ⟨e0, e1, e2, e3, e4⟩, hG⟩ := HA.out kk wr BI.out kk hlt
      have hcall := HC.out kk hlt A.out _ wr hG BI.out
      clear hG
      cases hq : P kk with
      | true =>
        rw [hq] at hcall
        have HK := Lib.hid hcall
        have HQ := Lib.hid hq
        clear hcall hq
        go_wp2_with fail
        refine HK.out.mono ?_
        rintro e w' ⟨rfl, hb'⟩
        clear e0 e1 e2 e3 e4
        go_wp2_with fail
        go_ret
        exact Or.inl ⟨kk, hlt, HQ.out, A.out, rfl, hb'⟩
      | false =>
        rw [hq] at hcall
        have HK := Lib.hid hcall
        have HQ := Lib.hid hq
        clear hcall hq
        go_wp2_with fail
        refine HK.out.mono ?_
        rintro e w' ⟨rfl, hb'⟩
        clear e0 e1 e2 e3 e4
        go_wp2_with fail
        go_roundg (n - (kk + 1))
        case measure => omega
        case rel =>
          refine ⟨kk + 1, by omega, by omega, by go_num, hb', (show Aside _ from fun j hj => ?_)⟩
          by_cases e : j = kk
          · subst e; exact HQ.out
          · exact A.out j (by omega)
    · have hltz : ¬ (kk : Int) < (n : Int) := by omega
      have : kk = n := by omega
      subst this
      go_wp2
      go_ret
      exact Or.inr ⟨A.out, rfl, BI.out⟩
set_option maxRecDepth 100000 in
theorem nd_contains (n : Nat) (p : Option Addr) (c : Nat) (g : Nat) (lb : Array Value) (eg : ∀ args w, (callFunc g args).run Tryz.prog w = .ok (.enter g args) w) (w : World) (P : Nat → Bool) (I : Nat → World → Prop) (G : Nat → Value → Prop) (hn : n ≤ 140737488351232)
    (hA : ∀ k W, I k W → Vl.RowIs W p n G)
    (hc : ∀ k, k < n → (∀ j, j < k → P j = false) → ∀ v W, G k v → I k W → Calls Tryz.prog g (#[v] ++ lb) W fun e w' => e = .returned (.bool (P k)) ∧ I (k + 1) w')
    (h0 : I 0 w) : Calls Tryz.prog 179 #[.slice p n c, .func (.func g) #[] lb] w (Vl.Any n P I) := by
  have H1 := Lib.hid (nd_index n p c g lb eg w P I G hn hA hc h0)
  clear hA hc h0 eg
  go_enter Tryz.func179, Tryz.ntmps179
  go_wp2_with fail
  refine H1.out.mono ?_
  rintro e w' (⟨k, h1, h2, h3, rfl, h4⟩ | ⟨h1, rfl, h2⟩)
  · have hk : (0 : Int) ≤ (k : Int) := by omega
    have H3 := Lib.hid h3
    have h2' := Lib.hid h2
    clear h2 h3
    go_wp2_with fail
    go_ret
    exact Or.inl ⟨k, h1, h2'.out, H3.out, rfl, h4⟩
  · have h1' := Lib.hid h1
    clear h1
    go_wp2_with fail
    go_ret
    exact Or.inr ⟨h1'.out, rfl, h2⟩
end Go.Proofs.YteiccjakaabfnaaGreatDoor
namespace Go.Proofs.YteiccjakaabfnaaGreatDoor
open Go.RowKit

set_option maxRecDepth 100000 in
theorem ndOpens_any (k : Nat) (w : World) :
    Calls Tryz.prog 180 #[.int .u8 k] w fun e w' => e = .returned (.bool (Nd.opens k)) ∧ w' = w := by
  by_cases h3 : k = 3
  · subst h3
    go_enter Tryz.func180, Tryz.ntmps180
    go_wp2_with fail
    go_ret
    exact ⟨rfl, rfl⟩
  · by_cases h5 : k = 5
    · subst h5
      go_enter Tryz.func180, Tryz.ntmps180
      go_wp2_with fail
      go_ret
      exact ⟨rfl, rfl⟩
    · have e : Nd.opens k = false := by unfold Nd.opens; rw [decide_eq_false h3, decide_eq_false h5]; rfl
      have q3 : ((k : Int) == 3) = false := beq_eq_false_iff_ne.2 (by omega)
      have q5 : ((k : Int) == 5) = false := beq_eq_false_iff_ne.2 (by omega)
      rw [e]
      go_enter Tryz.func180, Tryz.ntmps180
      go_wp2_with fail
      go_ret
      exact ⟨rfl, rfl⟩
theorem Nd.holds_other {k nk ne : Nat} (h1 : k ≠ 1) (h2 : k ≠ 2) (h3 : k ≠ 3) (h5 : k ≠ 5) : Nd.holds k nk ne = false := by
  unfold Nd.holds
  split <;> first | rfl | contradiction
set_option maxRecDepth 100000 in
theorem ndHolds_any (k : Nat) (t : ByteArray) (pp : Option Addr) (np cp : Nat) (pk : Option Addr) (nk ck : Nat) (pe : Option Addr) (ne ce : Nat) (w : World) :
    Calls Tryz.prog 178 #[.agg #[.int .u8 k, .string t, .slice pp np cp, .slice pk nk ck, .slice pe ne ce]] w fun e w' => e = .returned (.bool (Nd.holds k nk ne)) ∧ Below w.heap.size w w' := by
  by_cases h1 : k = 1
  · subst h1
    have Hl := Lib.hid (show Nd.holds 1 nk ne = (decide (nk = 0) && decide (ne = 0)) from rfl)
    generalize Nd.holds 1 nk ne = r at *
    go_enter Tryz.func178, Tryz.ntmps178
    go_wp2_with fail
    all_goals (go_ret; refine ⟨congrArg (fun b => Ending.returned (Value.bool b)) ?_, (Below.refl _ _).alloc (Nat.le_refl _) _⟩; rw [Hl.out]; (rw [Bool.eq_iff_iff]; first | (simp; done) | (simp; omega) | (simp_all; done) | (trace_state; fail)))
  by_cases h2 : k = 2
  · subst h2
    have Hl := Lib.hid (show Nd.holds 2 nk ne = (decide (nk = 0) && decide (ne = 0)) from rfl)
    generalize Nd.holds 2 nk ne = r at *
    go_enter Tryz.func178, Tryz.ntmps178
    go_wp2_with fail
    all_goals (go_ret; refine ⟨congrArg (fun b => Ending.returned (Value.bool b)) ?_, (Below.refl _ _).alloc (Nat.le_refl _) _⟩; rw [Hl.out]; (rw [Bool.eq_iff_iff]; first | (simp; done) | (simp; omega) | (simp_all; done) | (trace_state; fail)))
  by_cases h3 : k = 3
  · subst h3
    go_enter Tryz.func178, Tryz.ntmps178
    go_wp2_with fail
    go_ret
    exact ⟨rfl, (Below.refl _ _).alloc (Nat.le_refl _) _⟩
  by_cases h5 : k = 5
  · subst h5
    have Hl := Lib.hid (show Nd.holds 5 nk ne = decide (ne = 0) from rfl)
    generalize Nd.holds 5 nk ne = r at *
    go_enter Tryz.func178, Tryz.ntmps178
    go_wp2_with fail
    all_goals (go_ret; refine ⟨congrArg (fun b => Ending.returned (Value.bool b)) ?_, (Below.refl _ _).alloc (Nat.le_refl _) _⟩; rw [Hl.out]; (rw [Bool.eq_iff_iff]; first | (simp; done) | (simp; omega) | (simp_all; done) | (trace_state; fail)))
  rw [Nd.holds_other h1 h2 h3 h5]
  have q1 : ((k : Int) == 1) = false := beq_eq_false_iff_ne.2 (by omega)
  have q2 : ((k : Int) == 2) = false := beq_eq_false_iff_ne.2 (by omega)
  have q3 : ((k : Int) == 3) = false := beq_eq_false_iff_ne.2 (by omega)
  have q5 : ((k : Int) == 5) = false := beq_eq_false_iff_ne.2 (by omega)
  go_enter Tryz.func178, Tryz.ntmps178
  go_wp2_with fail
  go_ret
  exact ⟨rfl, (Below.refl _ _).alloc (Nat.le_refl _) _⟩
end Go.Proofs.YteiccjakaabfnaaGreatDoor
namespace Go.Proofs.YteiccjakaabfnaaGreatDoor

/-- A node at its level; whether it is within a TokEach's Kids. -/
structure Vt.P where
  node : Nd.N
  lev : Nat
  ie : Bool
mutual
def Vt.visN (lev : Nat) (ie : Bool) : Nd.N → List Vt.P
  | .mk k t p kids els => ⟨.mk k t p kids els, lev, ie⟩ :: (Vt.visL (lev + 1) (ie || k == 5) kids ++ Vt.visL (lev + 1) ie els)
def Vt.visL (lev : Nat) (ie : Bool) : List Nd.N → List Vt.P
  | [] => []
  | n :: l => Vt.visN lev ie n ++ Vt.visL lev ie l
end
theorem Vt.visL_nil (lev : Nat) (ie : Bool) : Vt.visL lev ie [] = [] := by rw [Vt.visL]
theorem Vt.visL_cons (lev : Nat) (ie : Bool) (n : Nd.N) (l : List Nd.N) : Vt.visL lev ie (n :: l) = Vt.visN lev ie n ++ Vt.visL lev ie l := by rw [Vt.visL]
theorem Vt.visN_eq (lev : Nat) (ie : Bool) : ∀ n : Nd.N, Vt.visN lev ie n = ⟨n, lev, ie⟩ :: (Vt.visL (lev + 1) (ie || n.kind == 5) n.kids ++ Vt.visL (lev + 1) ie n.els)
  | .mk _ _ _ _ _ => by rw [Vt.visN]; rfl
theorem Vt.visL_append (lev : Nat) (ie : Bool) (a b : List Nd.N) : Vt.visL lev ie (a ++ b) = Vt.visL lev ie a ++ Vt.visL lev ie b := by
  induction a with
  | nil => rw [Vt.visL_nil]; rfl
  | cons x a ih => rw [List.cons_append, Vt.visL_cons, Vt.visL_cons, ih, List.append_assoc]
theorem Vt.visL_snoc (lev : Nat) (ie : Bool) (l : List Nd.N) (k : Nat) (h : k < l.length) : Vt.visL lev ie (l.take (k + 1)) = Vt.visL lev ie (l.take k) ++ Vt.visN lev ie l[k] := by
  rw [List.take_succ_eq_append_getElem h, Vt.visL_append, Vt.visL_cons, Vt.visL_nil, List.append_nil]
mutual
/-- There are as many places as nodes. -/
theorem Vt.visN_len (lev : Nat) (ie : Bool) : ∀ n : Nd.N, (Vt.visN lev ie n).length = n.cnt
  | .mk k t p kids els => by
    rw [Vt.visN, Nd.N.cnt, List.length_cons, List.length_append, Vt.visL_len _ _ kids, Vt.visL_len _ _ els]
theorem Vt.visL_len (lev : Nat) (ie : Bool) : ∀ l : List Nd.N, (Vt.visL lev ie l).length = Nd.cntL l
  | [] => by rw [Vt.visL, Nd.cntL]; rfl
  | n :: l => by rw [Vt.visL, Nd.cntL, List.length_append, Vt.visN_len _ _ n, Vt.visL_len _ _ l]
end
end Go.Proofs.YteiccjakaabfnaaGreatDoor
