
/-
  The walk of tree's shaped. Condition: lists are of a size that a machine holds.
-/
import Derived.Test.YteiccjakaabfnaaGreatDoorZ36
namespace Go.Proofs.YteiccjakaabfnaaGreatDoor
open Go.RowKit

/-- The room behind so many; whether the next one is wrong. -/
def Nd.sAt (f : Nd.N → Int → Bool × Int) : List Nd.N → Int → Nat → Int
  | _, r, 0 => r
  | [], r, _ + 1 => r
  | x :: l, r, k + 1 => Nd.sAt f l (f x r).2 k
def Nd.pAt (f : Nd.N → Int → Bool × Int) (l : List Nd.N) (r : Int) (k : Nat) : Bool := match l[k]? with
  | none => false
  | some x => !(f x (Nd.sAt f l r k)).1
theorem Nd.sAt_zero (f : Nd.N → Int → Bool × Int) (l : List Nd.N) (r : Int) : Nd.sAt f l r 0 = r := by cases l <;> rfl
theorem Nd.sAt_succ (f : Nd.N → Int → Bool × Int) : ∀ (l : List Nd.N) (r : Int) (k : Nat) (h : k < l.length), Nd.sAt f l r (k + 1) = (f l[k] (Nd.sAt f l r k)).2
  | x :: l, r, 0, _ => by
    show Nd.sAt f l (f x r).2 0 = _
    rw [Nd.sAt_zero, Nd.sAt_zero]
    rfl
  | x :: l, r, k + 1, h => by rw [Nd.sAt, Nd.sAt_succ f l _ k (by simpa using h), Nd.sAt]; rfl
theorem Nd.pAt_get (f : Nd.N → Int → Bool × Int) (l : List Nd.N) (r : Int) (k : Nat) (h : k < l.length) : Nd.pAt f l r k = !(f l[k] (Nd.sAt f l r k)).1 := by
  unfold Nd.pAt
  rw [List.getElem?_eq_getElem h]
theorem Nd.pAt_succ (f : Nd.N → Int → Bool × Int) (x : Nd.N) (l : List Nd.N) (r : Int) (k : Nat) : Nd.pAt f (x :: l) r (k + 1) = Nd.pAt f l (f x r).2 k := by
  unfold Nd.pAt
  rw [List.getElem?_cons_succ, Nd.sAt]
theorem Nd.goAll_hit (f : Nd.N → Int → Bool × Int) : ∀ (l : List Nd.N) (r : Int) (k : Nat), k < l.length → Nd.pAt f l r k = true → (∀ j, j < k → Nd.pAt f l r j = false) → Nd.goAll f l r = (false, Nd.sAt f l r (k + 1))
  | x :: l, r, 0, _, hp, _ => by
    rw [Nd.pAt_get f _ _ 0 (by simp), Nd.sAt_zero] at hp
    rw [Nd.sAt, Nd.sAt_zero, Nd.goAll]
    simp only [List.getElem_cons_zero, Bool.not_eq_true'] at hp
    rcases hx : f x r with ⟨b, r'⟩
    rw [hx] at hp
    cases b
    · rfl
    · cases hp
  | x :: l, r, k + 1, h, hp, hj => by
    have h0 := hj 0 (by omega)
    rw [Nd.pAt_get f _ _ 0 (by simp), Nd.sAt_zero] at h0
    simp only [List.getElem_cons_zero, Bool.not_eq_false'] at h0
    rw [Nd.pAt_succ] at hp
    have ih := Nd.goAll_hit f l (f x r).2 k (by simpa using h) hp (fun j hjk => by have := hj (j + 1) (by omega); rwa [Nd.pAt_succ] at this)
    rw [Nd.sAt, ← ih, Nd.goAll]
    rcases hx : f x r with ⟨b, r'⟩
    rw [hx] at h0
    cases b
    · cases h0
    · rfl
theorem Nd.goAll_all (f : Nd.N → Int → Bool × Int) : ∀ (l : List Nd.N) (r : Int), (∀ j, j < l.length → Nd.pAt f l r j = false) → Nd.goAll f l r = (true, Nd.sAt f l r l.length)
  | [], r, _ => by rw [Nd.goAll, List.length_nil, Nd.sAt_zero]
  | x :: l, r, hj => by
    have h0 := hj 0 (by simp)
    rw [Nd.pAt_get f _ _ 0 (by simp), Nd.sAt_zero] at h0
    simp only [List.getElem_cons_zero, Bool.not_eq_false'] at h0
    have ih := Nd.goAll_all f l (f x r).2 (fun j hjk => by have := hj (j + 1) (by simpa using hjk); rwa [Nd.pAt_succ] at this)
    rw [List.length_cons, Nd.sAt, ← ih, Nd.goAll]
    rcases hx : f x r with ⟨b, r'⟩
    rw [hx] at h0
    cases b
    · cases h0
    · rfl
theorem Nd.goN_ok {m : Nat} {x : Nd.N} {r : Int} (h : 0 ≤ r) (hg : (Nd.goN (Nd.go m) x r).1 = true) : 0 ≤ (Nd.goN (Nd.go m) x r).2 ∧ (Nd.goN (Nd.go m) x r).2 ≤ r := by
  unfold Nd.goN at hg ⊢
  split at hg
  · rename_i hh
    rw [if_pos hh]
    obtain ⟨k1, k2⟩ := Nd.go_ok m x.kids r h
    rcases hk : Nd.go m x.kids r with ⟨b, r'⟩
    rw [hk] at hg k1 k2
    cases b
    · cases hg
    · obtain ⟨_, o2⟩ := k1.1 rfl
      have e := k2 rfl
      simp only at e hg ⊢
      obtain ⟨m1, m2⟩ := Nd.go_ok m x.els r' (by omega)
      have := (m1.1 hg).2
      have := m2 hg
      omega
  · cases hg
theorem Nd.sAt_bd (m : Nat) : ∀ (l : List Nd.N) (r : Int) (k : Nat), 0 ≤ r → k ≤ l.length → (∀ j, j < k → Nd.pAt (Nd.goN (Nd.go m)) l r j = false) → 0 ≤ Nd.sAt (Nd.goN (Nd.go m)) l r k ∧ Nd.sAt (Nd.goN (Nd.go m)) l r k ≤ r
  | l, r, 0, h, _, _ => by rw [Nd.sAt_zero]; omega
  | [], r, k + 1, _, h, _ => by simp at h
  | x :: l, r, k + 1, h, hk, hj => by
    have h0 := hj 0 (by omega)
    rw [Nd.pAt_get _ _ _ 0 (by simp), Nd.sAt_zero] at h0
    simp only [List.getElem_cons_zero, Bool.not_eq_false'] at h0
    obtain ⟨o1, o2⟩ := Nd.goN_ok h h0
    have ih := Nd.sAt_bd m l (Nd.goN (Nd.go m) x r).2 k o1 (by simpa using hk) (fun j hjk => by have := hj (j + 1) (by omega); rwa [Nd.pAt_succ] at this)
    rw [Nd.sAt]
    omega
/-- The post of shaped: what is handed back, and what room is left. -/
def Nd.ShapePost (d : Nat) (l : List Nd.N) (r : Int) (g : Nat) (w : World) (e : Ending) (w' : World) : Prop :=
  e = .returned (.bool (Nd.go d l r).1) ∧ w.grownBy w' (some g) ∧ w'.heap[g]? = some (.cells #[.int .i64 (Nd.go d l r).2] 3 (0, 0))
set_option maxRecDepth 100000 in
set_option maxHeartbeats 2000000 in
/-- The closure: of one node. -/
theorem shaped1_any (m : Nat) (x : Nd.N) (v : Value) (w0 W : World) (gl gr g : Nat) (r : Int) (hm : m ≤ 8) (hr : 0 ≤ r) (hA : Nd.At w0 v x) (hB : Below w0.heap.size w0 W) (hgw : w0.heap.size ≤ g)
    (hl : W.heap[gl]? = some (.cells #[.int .i64 ((m : Int) + 1)] 3 (0, 0))) (hp : W.heap[gr]? = some (.cells #[.pointer (some ⟨g, 0, none⟩)] 113 (0, 0))) (hgc : W.heap[g]? = some (.cells #[.int .i64 r] 3 (0, 0)))
    (hgl : gl ≠ g) (hgr : gr ≠ g)
    (ihc : ∀ (l : List Nd.N) (q : Option Addr) (c : Nat) (W2 : World) (r2 : Int), l.length ≤ 140737488351232 → 0 ≤ r2 → r2 ≤ r → Nd.Row w0 q l → Below w0.heap.size w0 W2 → W2.heap[g]? = some (.cells #[.int .i64 r2] 3 (0, 0)) → Calls Tryz.prog 113 #[.slice q l.length c, .int .i64 (m : Nat), .pointer (some ⟨g, 0, none⟩)] W2 (Nd.ShapePost m l r2 g W2)) :
    Calls Tryz.prog 177 (#[v] ++ #[.pointer (some ⟨gl, 0, none⟩), .pointer (some ⟨gr, 0, none⟩)]) W fun e w' => e = .returned (.bool (!(Nd.goN (Nd.go m) x r).1)) ∧ W.grownBy w' (some g) ∧ w'.heap[g]? = some (.cells #[.int .i64 (Nd.goN (Nd.go m) x r).2] 3 (0, 0)) := by
  rw [Nd.At.eq] at hA
  obtain ⟨pp, cp, pk, ck, pe, ce, rfl, hf, -, hk, he⟩ := hA
  rw [Nd.row_iff] at hk he
  obtain ⟨-, -, -, f4, f5, -, -, -, -⟩ := hf
  have hgg := (Array.getElem?_eq_some_iff.1 hgc).1
  have hll := (Array.getElem?_eq_some_iff.1 hl).1
  have hrl := (Array.getElem?_eq_some_iff.1 hp).1
  have hal := (Below.refl W.heap.size W).alloc (Nat.le_refl _) (.cells #[.int .u8 (x.kind : Nat), .string x.text, .slice pp x.path.length cp, .slice pk x.kids.length ck, .slice pe x.els.length ce] 37)
  have hnew := Vl.new W (.cells #[.int .u8 (x.kind : Nat), .string x.text, .slice pp x.path.length cp, .slice pk x.kids.length ck, .slice pe x.els.length ce] 37)
  have hwr : IntKind.i64.wrap ((m : Int) + 1 - 1) = (m : Int) := by rw [IntWalk.i64_in _ (by omega)]; omega
  have CH := Lib.hid (fun W => ndHolds_any x.kind x.text pp x.path.length cp pk x.kids.length ck pe x.els.length ce W)
  have C1 := Lib.hid (fun W2 r2 h1 h2 h3 h4 => ihc x.kids pk ck W2 r2 f4 h1 h2 hk h3 h4)
  have C2 := Lib.hid (fun W2 r2 h1 h2 h3 h4 => ihc x.els pe ce W2 r2 f5 h1 h2 he h3 h4)
  have HK := Lib.hid (Nd.go_ok m x.kids r hr)
  -- what lies below, in each later world
  have HL := Lib.hid (fun (w' : World) (h : W.grownBy w' (some g)) => (⟨(h.block gl hll (fun e => hgl (by cases e; rfl))).trans hl, (h.block gr hrl (fun e => hgr (by cases e; rfl))).trans hp⟩ : w'.heap[gl]? = some (.cells #[.int .i64 ((m : Int) + 1)] 3 (0, 0)) ∧ w'.heap[gr]? = some (.cells #[.pointer (some ⟨g, 0, none⟩)] 113 (0, 0))))
  have HN := Lib.hid (fun (w' : World) (h : (W.alloc (.cells #[.int .u8 (x.kind : Nat), .string x.text, .slice pp x.path.length cp, .slice pk x.kids.length ck, .slice pe x.els.length ce] 37)).grownBy w' (some g)) => Vl.five_of ((h.block W.heap.size (by rw [World.size_alloc]; omega) (fun e => by cases e; omega)).trans hnew))
  have HA := Lib.hid (fun (w' : World) (h : (W.alloc (.cells #[.int .u8 (x.kind : Nat), .string x.text, .slice pp x.path.length cp, .slice pk x.kids.length ck, .slice pe x.els.length ce] 37)).grownBy w' (some g)) => grownBy_trans (grownBy_of hal (some g)) h)
  have HBl := Lib.hid (fun (w' : World) (h : W.grownBy w' (some g)) => below_grownBy hB h hgw hB.size)
  clear hnew
  obtain ⟨G, hG⟩ : ∃ G, G = Nd.goN (Nd.go m) x r := ⟨_, rfl⟩
  rw [← hG]
  unfold Nd.goN at hG
  obtain ⟨G1, hG1⟩ : ∃ G1, G1 = Nd.go m x.kids r := ⟨_, rfl⟩
  rw [← hG1] at HK hG
  unfold Nd.ShapePost at C1 C2
  have E1 := Lib.hid hG1
  have Hgc := Lib.hid hgc
  have Hal := Lib.hid hal
  have HG := Lib.hid hG
  clear hG1 hgc hl hp hB hal ihc hk he hG
  generalize hh : Nd.holds x.kind x.kids.length x.els.length = H at *
  clear hh
  generalize x.kids.length = nk at *
  generalize x.els.length = ne at *
  generalize x.path.length = np at *
  generalize x.kind = k at *
  generalize x.text = t at *
  show Calls Tryz.prog 177 #[.agg #[.int .u8 (k : Nat), .string t, .slice pp np cp, .slice pk nk ck, .slice pe ne ce], .pointer (some ⟨gl, 0, none⟩), .pointer (some ⟨gr, 0, none⟩)] W _
  obtain ⟨n0, n1, n2, n3, n4⟩ := HN.out _ (grownBy_refl _ _)
  go_enter Tryz.func177, Tryz.ntmps177
  go_wp2_with fail
  refine (CH.out _).mono ?_
  rintro e w1 ⟨rfl, hb⟩
  have hg1 := grownBy_of hb (some g)
  rw [World.size_alloc] at hb
  have H1 := Lib.hid hg1
  have hgc1 := Lib.hid (((hb.block g (by omega)).trans (Vl.past _ _ _ hgg)).trans Hgc.out)
  clear hb hg1 n0 n1 n2 n3 n4 CH
  obtain ⟨n0, n1, n2, n3, n4⟩ := HN.out w1 H1.out
  have hlr := HL.out w1 (HA.out w1 H1.out)
  obtain ⟨l0, -⟩ := Vl.one_of hlr.1
  obtain ⟨p0, -⟩ := Vl.one_of hlr.2
  clear hlr
  cases H with
  | false =>
    have hG := HG.out
    rw [if_neg (by decide)] at hG
    subst hG
    go_wp2_with fail
    go_ret
    exact ⟨rfl, HA.out w1 H1.out, hgc1.out⟩
  | true =>
    have hG := HG.out
    rw [if_pos rfl] at hG
    have h1 := C1.out w1 r hr (Int.le_refl _) (HBl.out _ (HA.out w1 H1.out)) hgc1.out
    rw [← E1.out] at h1
    have D1 := Lib.hid h1
    have HG2 := Lib.hid hG
    clear h1 hG C1
    go_wp2_with fail
    refine D1.out.mono ?_
    rintro e w2 ⟨rfl, hg2, hc2⟩
    have H2 := Lib.hid (grownBy_trans H1.out hg2)
    have hgc2 := Lib.hid hc2
    clear hg2 hc2 n0 n1 n2 n3 n4 l0 p0 D1
    obtain ⟨n0, n1, n2, n3, n4⟩ := HN.out w2 H2.out
    have hlr := HL.out w2 (HA.out w2 H2.out)
    obtain ⟨l0, -⟩ := Vl.one_of hlr.1
    obtain ⟨p0, -⟩ := Vl.one_of hlr.2
    clear hlr
    obtain ⟨b1, r1⟩ := G1
    cases b1 with
    | false =>
      have hG := HG2.out
      simp only at hG
      subst hG
      go_wp2_with fail
      go_ret
      exact ⟨rfl, HA.out w2 H2.out, hgc2.out⟩
    | true =>
      have hG := HG2.out
      simp only at hG
      have hr1 : 0 ≤ r1 ∧ r1 ≤ r := by
        obtain ⟨k1, k2⟩ := HK.out
        have := (k1.1 rfl).2
        have e2 : r1 = _ := k2 rfl
        omega
      have h1 := C2.out w2 r1 hr1.1 hr1.2 (HBl.out _ (HA.out w2 H2.out)) hgc2.out
      rw [← hG] at h1
      have D2 := Lib.hid h1
      clear h1 hG C2 hr1 HK E1 HG HG2
      go_wp2_with fail
      refine D2.out.mono ?_
      rintro e w3 ⟨rfl, hg3, hc3⟩
      have H3 := Lib.hid (grownBy_trans H2.out hg3)
      have hgc3 := Lib.hid hc3
      clear hg3 hc3 n0 n1 n2 n3 n4 l0 p0 D2
      go_wp2_with fail
      go_ret
      exact ⟨rfl, HA.out w3 H3.out, hgc3.out⟩
/-- The world behind the first line: two boxes stand, and the room is less. -/
structure Nd.Boxed (w W : World) (g d : Nat) (r : Int) : Prop where
  size : W.heap.size = w.heap.size + 2
  grown : w.grownBy W (some g)
  room : W.heap[g]? = some (.cells #[.int .i64 r] 3 (0, 0))
  lev : W.heap[w.heap.size]? = some (.cells #[.int .i64 (d : Nat)] 3 (0, 0))
  ptr : W.heap[w.heap.size + 1]? = some (.cells #[.pointer (some ⟨g, 0, none⟩)] 113 (0, 0))
theorem Nd.boxed (w : World) (g d : Nat) (r r' : Int) (hg : w.heap[g]? = some (.cells #[.int .i64 r] 3 (0, 0))) :
    Nd.Boxed w (((w.setCell ⟨g, 0, none⟩ (.int .i64 r')).alloc (.cells #[.int .i64 (d : Nat)] 3)).alloc (.cells #[.pointer (some ⟨g, 0, none⟩)] 113)) g d r' := by
  have hgl : g < w.heap.size := (Array.getElem?_eq_some_iff.1 hg).1
  have hs : (w.setCell ⟨g, 0, none⟩ (.int .i64 r')).heap.size = w.heap.size := World.size_setCell _ _ _
  refine ⟨by simp only [World.size_alloc, hs], ?_, ?_, ?_, ?_⟩
  · exact grownBy_trans (Vl.set1_grown _ _ _ _) (grownBy_of (((Below.refl _ _).alloc (Nat.le_refl _) _).alloc (by rw [World.size_alloc]; omega) _) (some g))
  · rw [Vl.past _ _ _ (by rw [World.size_alloc, hs]; omega), Vl.past _ _ _ (by rw [hs]; omega)]
    exact (Lib.heap_setCell_same (i := 0) hg (.int .i64 r')).trans rfl
  · rw [Vl.past _ _ _ (by rw [World.size_alloc, hs]; omega)]
    exact Vl.newAt _ _ _ hs.symm
  · exact Vl.newAt _ _ _ (by rw [World.size_alloc, hs])
set_option maxRecDepth 100000 in
set_option maxHeartbeats 2000000 in
theorem shaped_body (d : Nat) (l : List Nd.N) (q : Option Addr) (c : Nat) (w0 w : World) (g : Nat) (r : Int) (hd : d ≤ 8) (hr0 : 0 ≤ r) (hr1 : r ≤ 256) (hn : l.length ≤ 140737488351232) (hA : Nd.Row w0 q l) (hB : Below w0.heap.size w0 w) (hg : w0.heap.size ≤ g) (hgc : w.heap[g]? = some (.cells #[.int .i64 r] 3 (0, 0)))
    (ih : ∀ m, d = m + 1 → ∀ (l : List Nd.N) (q : Option Addr) (c : Nat) (W2 : World) (r2 : Int), l.length ≤ 140737488351232 → 0 ≤ r2 → r2 ≤ 256 → Nd.Row w0 q l → Below w0.heap.size w0 W2 → W2.heap[g]? = some (.cells #[.int .i64 r2] 3 (0, 0)) → Calls Tryz.prog 113 #[.slice q l.length c, .int .i64 (m : Nat), .pointer (some ⟨g, 0, none⟩)] W2 (Nd.ShapePost m l r2 g W2)) :
    Calls Tryz.prog 113 #[.slice q l.length c, .int .i64 (d : Nat), .pointer (some ⟨g, 0, none⟩)] w (Nd.ShapePost d l r g w) := by
  have hbad : (r - (l.length : Int) < 0 ∨ d = 0 ∧ 0 < l.length) → Nd.go d l r = (false, r - l.length) := fun h => by
    cases d with
    | zero => rw [Nd.go, if_pos (by rcases h with h | h; exact Or.inl h; exact Or.inr h.2)]
    | succ d => rw [Nd.go, if_pos (by rcases h with h | h; exact h; exact absurd h.1 (by omega))]
  have hgood : ¬ (r - (l.length : Int) < 0 ∨ d = 0 ∧ 0 < l.length) → ∃ m, m ≤ 8 ∧ (0 < l.length → d = m + 1) ∧ Nd.go d l r = Nd.goAll (Nd.goN (Nd.go m)) l (r - l.length) := fun h => by
    cases d with
    | zero =>
      obtain rfl : l = [] := List.length_eq_zero_iff.1 (by omega)
      refine ⟨0, by omega, fun h => absurd h (by simp), ?_⟩
      rw [Nd.go, if_neg (by simpa using h)]
      rfl
    | succ d => exact ⟨d, by omega, fun _ => rfl, by rw [Nd.go, if_neg (fun h2 => h (Or.inl h2))]⟩
  have hpost : ∀ b r' W', Nd.go d l r = (b, r') → w.grownBy W' (some g) → W'.heap[g]? = some (.cells #[.int .i64 r'] 3 (0, 0)) → Nd.ShapePost d l r g w (.returned (.bool b)) W' := fun b r' W' h0 h1 h2 => ⟨by rw [h0], h1, by rw [h0]; exact h2⟩
  have hbx := Nd.boxed w g d r (r - l.length) hgc
  generalize Nd.ShapePost d l r g w = Post at *
  generalize Nd.go d l r = T at *
  have Hpost := Lib.hid hpost
  have Hbad := Lib.hid hbad
  have Hgood := Lib.hid hgood
  have HA := Lib.hid hA
  have Hih := Lib.hid ih
  clear hpost hbad hgood hA ih
  generalize hni : l.length = n at *
  have Hni := Lib.hid hni
  clear hni
  obtain ⟨g0, g1⟩ := Vl.one_of hgc
  have hgl : g < w.heap.size := (Array.getElem?_eq_some_iff.1 hgc).1
  have Hbx := Lib.hid hbx
  have HB := Lib.hid hB
  clear hbx hgc hB
  go_enter Tryz.func113, Tryz.ntmps113
  go_upto_region 2 with fail
  generalize (((w.setCell ⟨g, 0, none⟩ (.int .i64 (r - (n : Int)))).alloc (.cells #[.int .i64 (d : Nat)] 3)).alloc (.cells #[.pointer (some ⟨g, 0, none⟩)] 113)) = W at *
  obtain ⟨b1, b2, b3, b4, b5⟩ := Hbx.out
  obtain ⟨m0, -⟩ := Vl.one_of b4
  obtain ⟨n0, -⟩ := Vl.one_of b5
  obtain ⟨r0, -⟩ := Vl.one_of b3
  have Hgr := Lib.hid b2
  have Hroom := Lib.hid b3
  have HbW := Lib.hid (below_grownBy HB.out b2 hg HB.out.size)
  have Hb4 := Lib.hid b4
  have Hb5 := Lib.hid b5
  have Hsz := Lib.hid b1
  clear b1 b2 b3 b4 b5 Hbx g0 g1 HB
  by_cases e1 : r - (n : Int) < 0
  · have hT := Lib.hid (Hbad.out (Or.inl e1))
    clear Hih Hgood Hbad HA
    go_wp2_with fail
    exact Hpost.out false _ _ hT.out Hgr.out Hroom.out
  · by_cases e2 : d = 0 ∧ 0 < n
    · have hT := Lib.hid (Hbad.out (Or.inr e2))
      obtain ⟨e3, e4⟩ := e2
      have e5 : ((d : Int) == 0) = true := by rw [beq_iff_eq]; omega
      have e6 : (0 : Int) < (n : Int) := by omega
      clear Hih Hgood Hbad HA e3 e4
      go_wp2_with fail
      exact Hpost.out false _ _ hT.out Hgr.out Hroom.out
    · obtain ⟨m, hm8, hdm, hT'⟩ := Hgood.out (fun h => h.elim e1 e2)
      have hT := Lib.hid hT'
      have hn0 : n = 0 ∨ 0 < n := by omega
      have hcon := nd_contains n q c 177 #[.pointer (some ⟨w.heap.size, 0, none⟩), .pointer (some ⟨w.heap.size + 1, 0, none⟩)] (enters_of Tryz.func177 (by kernel_rfl) rfl) W (Nd.pAt (Nd.goN (Nd.go m)) l (r - n))
        (fun k V => W.grownBy V (some g) ∧ V.heap[g]? = some (.cells #[.int .i64 (Nd.sAt (Nd.goN (Nd.go m)) l (r - n) k)] 3 (0, 0))) (Nd.G w0 l) hn
        (fun k V hI => by
          have hV := below_grownBy HbW.out hI.1 hg HbW.out.size
          intro i hi
          obtain ⟨b, off, c0, c1, c2, c3, c4, x1, x2, y, hy, x3⟩ := HA.out i (by rw [Hni.out]; exact hi)
          exact ⟨b, off, c0, c1, c2, c3, c4, x1, x2.below hV, y, hy, x3⟩)
        (fun k hk hpre v V hG hI => by
          obtain ⟨y, hy, hAy⟩ := hG
          obtain ⟨hql, hye⟩ := List.getElem?_eq_some_iff.1 hy
          obtain ⟨bd0, bd1⟩ := Nd.sAt_bd m l (r - n) k (by omega) (by omega) hpre
          rw [Nd.pAt_get _ _ _ k hql, Nd.sAt_succ _ _ _ k hql, hye]
          have hd1 := hdm (by omega)
          have hgs := (Array.getElem?_eq_some_iff.1 Hroom.out).1
          have hl4 : V.heap[w.heap.size]? = some (.cells #[.int .i64 ((m : Int) + 1)] 3 (0, 0)) := ((hI.1.block _ (by have := Hsz.out; omega) (by simp; omega)).trans Hb4.out).trans (by rw [hd1]; rfl)
          refine (shaped1_any m y v w0 V w.heap.size (w.heap.size + 1) g _ hm8 bd0 hAy (below_grownBy HbW.out hI.1 hg HbW.out.size) hg hl4 ((hI.1.block _ (by have := Hsz.out; omega) (by simp; omega)).trans Hb5.out) hI.2 (by omega) (by omega) (fun l2 q2 c2 W2 r2 a1 a2 a3 a4 a5 a6 => Hih.out m hd1 l2 q2 c2 W2 r2 a1 a2 (by omega) a4 a5 a6)).mono ?_
          rintro e w' ⟨rfl, h1, h2⟩
          exact ⟨rfl, grownBy_trans hI.1 h1, h2⟩)
        ⟨grownBy_refl _ _, by rw [Nd.sAt_zero]; exact Hroom.out⟩
      have HCon := Lib.hid hcon
      have HE2 := Lib.hid e2
      clear hcon Hih Hgood Hbad HA hdm hT' e2 Hb4 Hb5
      have e3 : ((d : Int) == 0) = true ∧ ¬ (0 : Int) < (n : Int) ∨ ((d : Int) == 0) = false := by
        have := HE2.out
        by_cases hd0 : d = 0
        · left
          exact ⟨by rw [beq_iff_eq]; omega, by omega⟩
        · right
          exact beq_eq_false_iff_ne.2 (by omega)
      rcases e3 with ⟨e3, e4⟩ | e3
      all_goals
        go_wp2_with fail
        refine HCon.out.mono ?_
        rintro e w6 (⟨k, q1', q2', q3', rfl, qg, qr⟩ | ⟨q1', rfl, qg, qr⟩)
        · have hfin := Nd.goAll_hit (Nd.goN (Nd.go m)) l (r - n) k (by rw [Hni.out]; exact q1') q2' q3'
          have HF := Lib.hid (hT.out.trans hfin)
          have HG6 := Lib.hid (grownBy_trans Hgr.out qg)
          have HR6 := Lib.hid qr
          clear q3' hfin qg qr q2'
          go_wp2_with fail
          exact Hpost.out _ _ _ HF.out HG6.out HR6.out
        · have hfin := Nd.goAll_all (Nd.goN (Nd.go m)) l (r - n) (by rw [Hni.out]; exact q1')
          rw [Hni.out] at hfin
          have HF := Lib.hid (hT.out.trans hfin)
          have HG6 := Lib.hid (grownBy_trans Hgr.out qg)
          have HR6 := Lib.hid qr
          clear hfin qg qr q1'
          go_wp2_with fail
          exact Hpost.out _ _ _ HF.out HG6.out HR6.out
theorem shaped_any : ∀ (d : Nat) (l : List Nd.N) (q : Option Addr) (c : Nat) (w0 w : World) (g : Nat) (r : Int), d ≤ 8 → 0 ≤ r → r ≤ 256 → l.length ≤ 140737488351232 → Nd.Row w0 q l → Below w0.heap.size w0 w → w0.heap.size ≤ g → w.heap[g]? = some (.cells #[.int .i64 r] 3 (0, 0)) →
    Calls Tryz.prog 113 #[.slice q l.length c, .int .i64 (d : Nat), .pointer (some ⟨g, 0, none⟩)] w (Nd.ShapePost d l r g w)
  | 0, l, q, c, w0, w, g, r, hd, h0, h1, hn, hA, hB, hg, hc => shaped_body 0 l q c w0 w g r hd h0 h1 hn hA hB hg hc (fun m hm => by cases hm)
  | d + 1, l, q, c, w0, w, g, r, hd, h0, h1, hn, hA, hB, hg, hc => shaped_body (d + 1) l q c w0 w g r hd h0 h1 hn hA hB hg hc
      (fun m hm l2 q2 c2 W2 r2 a1 a2 a3 a4 a5 a6 => by cases hm; exact shaped_any d l2 q2 c2 w0 W2 g r2 (by omega) a2 a3 a1 a4 a5 hg a6)
end Go.Proofs.YteiccjakaabfnaaGreatDoor
