
/-
  The walks of value's right and Check. Condition: a value's texts and lists are of a size that a machine holds.
-/
import Derived.Test.YteiccjakaabfnaaGreatDoorZ47
import Derived.Test.YteiccjakaabfnaaGreatDoorZ36
import Derived.Test.YteiccjakaabfnaaGreatDoorZ53
namespace Go.Proofs.YteiccjakaabfnaaGreatDoor
open Go.RowKit

/-- The room behind so many; whether the next one is wrong. -/
def Vl.sAt (f : Vl.V → Int → Bool × Int) : List Vl.V → Int → Nat → Int
  | _, r, 0 => r
  | [], r, _ + 1 => r
  | x :: l, r, k + 1 => Vl.sAt f l (f x r).2 k
def Vl.pAt (f : Vl.V → Int → Bool × Int) (l : List Vl.V) (r : Int) (k : Nat) : Bool := match l[k]? with
  | none => false
  | some x => !(f x (Vl.sAt f l r k)).1
theorem Vl.sAt_zero (f : Vl.V → Int → Bool × Int) (l : List Vl.V) (r : Int) : Vl.sAt f l r 0 = r := by cases l <;> rfl
theorem Vl.sAt_succ (f : Vl.V → Int → Bool × Int) : ∀ (l : List Vl.V) (r : Int) (k : Nat) (h : k < l.length), Vl.sAt f l r (k + 1) = (f l[k] (Vl.sAt f l r k)).2
  | x :: l, r, 0, _ => by
    show Vl.sAt f l (f x r).2 0 = _
    rw [Vl.sAt_zero, Vl.sAt_zero]
    rfl
  | x :: l, r, k + 1, h => by rw [Vl.sAt, Vl.sAt_succ f l _ k (by simpa using h), Vl.sAt]; rfl
theorem Vl.pAt_get (f : Vl.V → Int → Bool × Int) (l : List Vl.V) (r : Int) (k : Nat) (h : k < l.length) : Vl.pAt f l r k = !(f l[k] (Vl.sAt f l r k)).1 := by
  unfold Vl.pAt
  rw [List.getElem?_eq_getElem h]
theorem Vl.pAt_succ (f : Vl.V → Int → Bool × Int) (x : Vl.V) (l : List Vl.V) (r : Int) (k : Nat) : Vl.pAt f (x :: l) r (k + 1) = Vl.pAt f l (f x r).2 k := by
  unfold Vl.pAt
  rw [List.getElem?_cons_succ, Vl.sAt]
theorem Vl.goAll_hit (f : Vl.V → Int → Bool × Int) : ∀ (l : List Vl.V) (r : Int) (k : Nat), k < l.length → Vl.pAt f l r k = true → (∀ j, j < k → Vl.pAt f l r j = false) → Vl.goAll f l r = (false, Vl.sAt f l r (k + 1))
  | x :: l, r, 0, _, hp, _ => by
    rw [Vl.pAt_get f _ _ 0 (by simp), Vl.sAt_zero] at hp
    rw [Vl.sAt, Vl.sAt_zero, Vl.goAll]
    simp only [List.getElem_cons_zero, Bool.not_eq_true'] at hp
    rcases hx : f x r with ⟨b, r'⟩
    rw [hx] at hp
    cases b
    · rfl
    · cases hp
  | x :: l, r, k + 1, h, hp, hj => by
    have h0 := hj 0 (by omega)
    rw [Vl.pAt_get f _ _ 0 (by simp), Vl.sAt_zero] at h0
    simp only [List.getElem_cons_zero, Bool.not_eq_false'] at h0
    rw [Vl.pAt_succ] at hp
    have ih := Vl.goAll_hit f l (f x r).2 k (by simpa using h) hp (fun j hjk => by have := hj (j + 1) (by omega); rwa [Vl.pAt_succ] at this)
    rw [Vl.sAt, ← ih, Vl.goAll]
    rcases hx : f x r with ⟨b, r'⟩
    rw [hx] at h0
    cases b
    · cases h0
    · rfl
theorem Vl.goAll_all (f : Vl.V → Int → Bool × Int) : ∀ (l : List Vl.V) (r : Int), (∀ j, j < l.length → Vl.pAt f l r j = false) → Vl.goAll f l r = (true, Vl.sAt f l r l.length)
  | [], r, _ => by rw [Vl.goAll, List.length_nil, Vl.sAt_zero]
  | x :: l, r, hj => by
    have h0 := hj 0 (by simp)
    rw [Vl.pAt_get f _ _ 0 (by simp), Vl.sAt_zero] at h0
    simp only [List.getElem_cons_zero, Bool.not_eq_false'] at h0
    have ih := Vl.goAll_all f l (f x r).2 (fun j hjk => by have := hj (j + 1) (by simpa using hjk); rwa [Vl.pAt_succ] at this)
    rw [List.length_cons, Vl.sAt, ← ih, Vl.goAll]
    rcases hx : f x r with ⟨b, r'⟩
    rw [hx] at h0
    cases b
    · cases h0
    · rfl
theorem Vl.sAt_bd (m : Nat) : ∀ (l : List Vl.V) (r : Int) (k : Nat), 0 ≤ r → k ≤ l.length → (∀ j, j < k → Vl.pAt (Vl.go m) l r j = false) → 0 ≤ Vl.sAt (Vl.go m) l r k ∧ Vl.sAt (Vl.go m) l r k ≤ r
  | l, r, 0, h, _, _ => by rw [Vl.sAt_zero]; omega
  | [], r, k + 1, _, h, _ => by simp at h
  | x :: l, r, k + 1, h, hk, hj => by
    have h0 := hj 0 (by omega)
    rw [Vl.pAt_get _ _ _ 0 (by simp), Vl.sAt_zero] at h0
    simp only [List.getElem_cons_zero, Bool.not_eq_false'] at h0
    obtain ⟨o1, o2⟩ := Vl.go_ok m x r
    have e := o2 h0
    have hc := (o1.1 h0).2
    have ih := Vl.sAt_bd m l (Vl.go m x r).2 k (by omega) (by simpa using hk) (fun j hjk => by have := hj (j + 1) (by omega); rwa [Vl.pAt_succ] at this)
    rw [Vl.sAt]
    omega
/-- The post of right: what is handed back, and what room is left. -/
def Vl.RightPost (l : Nat) (x : Vl.V) (r : Int) (g : Nat) (w : World) (e : Ending) (w' : World) : Prop :=
  e = .returned (.bool (Vl.go l x r).1) ∧ w.grownBy w' (some g) ∧ w'.heap[g]? = some (.cells #[.int .i64 (Vl.go l x r).2] 3 (0, 0))
/-- The world behind the first line: the room is one less, and three boxes stand. -/
structure Vl.Boxed (w W : World) (g l : Nat) (r : Int) (v0 v1 v2 v3 v4 : Value) : Prop where
  size : W.heap.size = w.heap.size + 3
  grown : w.grownBy W (some g)
  room : W.heap[g]? = some (.cells #[.int .i64 (r - 1)] 3 (0, 0))
  box : W.heap[w.heap.size]? = some (.cells #[v0, v1, v2, v3, v4] 42 (0, 0))
  lev : W.heap[w.heap.size + 1]? = some (.cells #[.int .i64 (l : Nat)] 3 (0, 0))
  ptr : W.heap[w.heap.size + 2]? = some (.cells #[.pointer (some ⟨g, 0, none⟩)] 113 (0, 0))
theorem Vl.boxed (w : World) (g l : Nat) (r : Int) (v0 v1 v2 v3 v4 : Value) (hg : w.heap[g]? = some (.cells #[.int .i64 r] 3 (0, 0))) :
    Vl.Boxed w ((((w.setCell ⟨g, 0, none⟩ (.int .i64 (r - 1))).alloc (.cells #[v0, v1, v2, v3, v4] 42)).alloc (.cells #[.int .i64 (l : Nat)] 3)).alloc (.cells #[.pointer (some ⟨g, 0, none⟩)] 113)) g l r v0 v1 v2 v3 v4 := by
  have hgl : g < w.heap.size := (Array.getElem?_eq_some_iff.1 hg).1
  have hs : (w.setCell ⟨g, 0, none⟩ (.int .i64 (r - 1))).heap.size = w.heap.size := World.size_setCell _ _ _
  refine ⟨by simp only [World.size_alloc, hs], ?_, ?_, ?_, ?_, ?_⟩
  · refine ⟨rfl, rfl, rfl, by simp only [World.size_alloc, hs]; omega, fun k hk hne => ?_⟩
    rw [Vl.past _ _ _ (by simp only [World.size_alloc, hs]; omega), Vl.past _ _ _ (by simp only [World.size_alloc, hs]; omega), Vl.past _ _ _ (by rw [hs]; omega)]
    exact Below.heap_setCell w ⟨g, 0, none⟩ _ k (fun e => hne (by rw [e]))
  · rw [Vl.past _ _ _ (by simp only [World.size_alloc, hs]; omega), Vl.past _ _ _ (by simp only [World.size_alloc, hs]; omega), Vl.past _ _ _ (by rw [hs]; omega)]
    exact (Lib.heap_setCell_same (i := 0) hg (.int .i64 (r - 1))).trans rfl
  · rw [Vl.past _ _ _ (by simp only [World.size_alloc, hs]; omega), Vl.past _ _ _ (by simp only [World.size_alloc, hs]; omega)]
    exact Vl.newAt _ _ _ hs.symm
  · rw [Vl.past _ _ _ (by simp only [World.size_alloc, hs]; omega)]
    exact Vl.newAt _ _ _ (by simp only [World.size_alloc, hs])
  · exact Vl.newAt _ _ _ (by simp only [World.size_alloc, hs])
/-- What is known of each item. -/
def Vl.G (d : Nat) (w0 : World) (items : List Vl.V) (i : Nat) (v : Value) : Prop := ∃ y, items[i]? = some y ∧ Vl.At d w0 v y
theorem Vl.rowIs {d : Nat} {w0 : World} {pi : Option Addr} {items : List Vl.V} (hi : items = [] ∨ ∃ b off, pi = some ⟨b, off, none⟩ ∧ ∀ i (h : i < items.length), ∃ c0 c1 c2 c3 c4, Vl.Five w0 b (off + i * 5) c0 c1 c2 c3 c4 ∧ Vl.At d w0 (.agg #[c0, c1, c2, c3, c4]) items[i])
    (W : World) (hb : Below w0.heap.size w0 W) : Vl.RowIs W pi items.length (Vl.G d w0 items) := by
  intro i h
  rcases hi with hi | ⟨b, off, hp, hc⟩
  · subst hi; simp at h
  · obtain ⟨c0, c1, c2, c3, c4, h5, ha⟩ := hc i h
    exact ⟨b, off, c0, c1, c2, c3, c4, hp, h5.below hb, items[i], List.getElem?_eq_getElem h, ha⟩
set_option maxRecDepth 100000 in
set_option maxHeartbeats 1000000 in
theorem right1_any (m : Nat) (x : Vl.V) (v : Value) (w0 W : World) (gl gr g : Nat) (r : Int) (hm : m + 1 ≤ 8) (d : Nat) (hA : Vl.At d w0 v x) (hl : W.heap[gl]? = some (.cells #[.int .i64 (m + 1 : Nat)] 3 (0, 0))) (hp : W.heap[gr]? = some (.cells #[.pointer (some ⟨g, 0, none⟩)] 113 (0, 0)))
    (ihc : ∀ W2, Below W.heap.size W W2 → Calls Tryz.prog 80 #[v, .int .i64 (m : Nat), .pointer (some ⟨g, 0, none⟩)] W2 (Vl.RightPost m x r g W2)) :
    Calls Tryz.prog 124 (#[v] ++ #[.pointer (some ⟨gl, 0, none⟩), .pointer (some ⟨gr, 0, none⟩)]) W fun e w' => e = .returned (.bool (!(Vl.go m x r).1)) ∧ W.grownBy w' (some g) ∧ w'.heap[g]? = some (.cells #[.int .i64 (Vl.go m x r).2] 3 (0, 0)) := by
  cases d with
  | zero => exact hA.elim
  | succ d =>
    obtain ⟨pi, ci, pn, cn, rfl, -, -, -⟩ := hA
    have hgl := (Array.getElem?_eq_some_iff.1 hl).1
    have hgr := (Array.getElem?_eq_some_iff.1 hp).1
    obtain ⟨l0, _⟩ := Vl.one_of hl
    obtain ⟨p0, _⟩ := Vl.one_of hp
    have hcall := Lib.hid (ihc _ ((Below.refl _ W).alloc (Nat.le_refl _) (.cells #[.int .u8 (x.kind : Nat), .string x.text, .int .i64 x.num, .slice pi x.items.length ci, .slice pn x.names.length cn] 42)))
    have hwr : IntKind.i64.wrap ((m : Int) + 1 - 1) = (m : Int) := by rw [IntWalk.i64_in _ (by omega)]; omega
    have Hgrow := Lib.hid (fun W' (h : (W.alloc (.cells #[.int .u8 (x.kind : Nat), .string x.text, .int .i64 x.num, .slice pi x.items.length ci, .slice pn x.names.length cn] 42)).grownBy W' (some g)) => grownBy_trans (World.grownBy_alloc W _ (some g)) h)
    clear hl hp ihc
    obtain ⟨T, hT⟩ : ∃ T, T = Vl.go m x r := ⟨_, rfl⟩
    unfold Vl.RightPost at hcall
    rw [← hT] at hcall ⊢
    clear hT
    generalize x.items.length = ni at *
    generalize x.names.length = nn at *
    generalize x.kind = k at *
    generalize x.text = t at *
    generalize x.num = i at *
    show Calls Tryz.prog 124 #[.agg #[.int .u8 (k : Nat), .string t, .int .i64 i, .slice pi ni ci, .slice pn nn cn], .pointer (some ⟨gl, 0, none⟩), .pointer (some ⟨gr, 0, none⟩)] W _
    go_enter Tryz.func124, Tryz.ntmps124
    go_wp2_with fail
    refine hcall.out.mono ?_
    rintro e w' ⟨rfl, h1, h2⟩
    have H1 := Lib.hid h1
    clear h1
    go_wp2_with fail
    go_ret
    exact ⟨rfl, Hgrow.out _ H1.out, h2⟩
set_option maxRecDepth 100000 in
set_option maxHeartbeats 2000000 in
theorem right_body (l d : Nat) (x : Vl.V) (v : Value) (w0 w : World) (g : Nat) (r : Int) (hl8 : l ≤ 8) (hr0 : 0 ≤ r) (hr1 : r ≤ 256) (hA : Vl.At (d + 1) w0 v x) (hB : Below w0.heap.size w0 w) (hg : w0.heap.size ≤ g) (hgc : w.heap[g]? = some (.cells #[.int .i64 r] 3 (0, 0)))
    (ih : ∀ m, l = m + 1 → ∀ (x : Vl.V) (v : Value) (W : World) (r : Int), 0 ≤ r → r ≤ 256 → Vl.At d w0 v x → Below w0.heap.size w0 W → W.heap[g]? = some (.cells #[.int .i64 r] 3 (0, 0)) → Calls Tryz.prog 80 #[v, .int .i64 (m : Nat), .pointer (some ⟨g, 0, none⟩)] W (Vl.RightPost m x r g W)) :
    Calls Tryz.prog 80 #[v, .int .i64 (l : Nat), .pointer (some ⟨g, 0, none⟩)] w (Vl.RightPost l x r g w) := by
  obtain ⟨pi, ci, pn, cn, rfl, ⟨q1, q2, q3, q4, q5, q6⟩, hn, hi⟩ := hA
  have hrow := Vl.rowIs hi
  have hfr := fun W (h : Below w0.heap.size w0 W) => fieldsRight_any x.kind x.text x.num pi x.items.length ci pn cn x.names W q1 q2 q3 q4 q5 q6 (hn.below h)
  have hbad : (l = 0 ∨ r - 1 < 0 ∨ (x.items.length : Int) > r - 1 ∨ Vl.leafC x.kind x.text x.num x.items.length x.names = false) → Vl.go l x r = (false, r - 1) := fun h => by
    cases l with
    | zero => rfl
    | succ l => rw [Vl.go, if_pos (by rcases h with h | h | h | h; exact absurd h (by omega); exact Or.inl h; exact Or.inr (Or.inl h); exact Or.inr (Or.inr h))]
  have hgood : ∀ m, l = m + 1 → ¬ (r - 1 < 0 ∨ (x.items.length : Int) > r - 1 ∨ Vl.leafC x.kind x.text x.num x.items.length x.names = false) → Vl.go l x r = Vl.goAll (Vl.go m) x.items (r - 1) := fun m hm h => by
    subst hm
    rw [Vl.go]
    exact if_neg h
  have hpost : ∀ b r' W', Vl.go l x r = (b, r') → w.grownBy W' (some g) → W'.heap[g]? = some (.cells #[.int .i64 r'] 3 (0, 0)) → Vl.RightPost l x r g w (.returned (.bool b)) W' := fun b r' W' h0 h1 h2 => ⟨by rw [h0], h1, by rw [h0]; exact h2⟩
  have hbx := Vl.boxed w g l r (.int .u8 (x.kind : Nat)) (.string x.text) (.int .i64 x.num) (.slice pi x.items.length ci) (.slice pn x.names.length cn) hgc
  generalize Vl.RightPost l x r g w = Post at *
  generalize Vl.go l x r = T at *
  have Hpost := Lib.hid hpost
  have Hbad := Lib.hid hbad
  have Hgood := Lib.hid hgood
  have Hfr := Lib.hid hfr
  have Hi := Lib.hid hrow
  have Hih := Lib.hid ih
  clear hpost hbad hgood hfr hi hrow ih hn q6
  generalize hlf : Vl.leafC x.kind x.text x.num x.items.length x.names = lf at *
  clear hlf
  generalize hni : x.items.length = ni at *
  have Hni := Lib.hid hni
  clear hni
  generalize x.names.length = nn at *
  generalize x.kind = k at *
  generalize x.text = t at *
  generalize x.num = i at *
  obtain ⟨g0, g1⟩ := Vl.one_of hgc
  have hgl : g < w.heap.size := (Array.getElem?_eq_some_iff.1 hgc).1
  have hgl1 : g < w.heap.size + 1 := by omega
  have hgl2 : g < w.heap.size + 1 + 1 := by omega
  have Hbx := Lib.hid hbx
  clear hbx hgc
  go_enter Tryz.func80, Tryz.ntmps80
  go_upto_region 2 with fail
  generalize ((((w.setCell ⟨g, 0, none⟩ (.int .i64 (r - 1))).alloc (.cells #[.int .u8 (k : Nat), .string t, .int .i64 i, .slice pi ni ci, .slice pn nn cn] 42)).alloc (.cells #[.int .i64 (l : Nat)] 3)).alloc (.cells #[.pointer (some ⟨g, 0, none⟩)] 113)) = W at *
  obtain ⟨b1, b2, b3, b4, b5, b6⟩ := Hbx.out
  have Hgr := Lib.hid b2
  have Hroom := Lib.hid b3
  have hbW : Below w0.heap.size w0 W := below_grownBy hB b2 hg hB.size
  obtain ⟨k0, k1, k2, k3, k4⟩ := Vl.five_of b4
  obtain ⟨m0, _⟩ := Vl.one_of b5
  obtain ⟨n0, _⟩ := Vl.one_of b6
  obtain ⟨r0, _⟩ := Vl.one_of b3
  have Hb4 := Lib.hid b4
  have Hb5 := Lib.hid b5
  have Hb6 := Lib.hid b6
  have HbW := Lib.hid hbW
  have HB := Lib.hid hB
  have Hb2 := Lib.hid b2
  clear b2 b3 b4 b5 b6 Hbx g0 g1 hgl1 hgl2 hbW hB
  by_cases hl0 : l = 0
  · have e0 : ((l : Int) == 0) = true := by rw [beq_iff_eq]; omega
    have hT := Lib.hid (Hbad.out (Or.inl hl0))
    clear Hih Hgood Hfr Hi Hbad
    go_quiet (fail)
    go_wp2_with fail
    exact Hpost.out false (r - 1) _ hT.out (grownBy_drewN Hgr.out _) Hroom.out
  · have e0 : ((l : Int) == 0) = false := beq_eq_false_iff_ne.2 (by omega)
    by_cases hr : r = 0
    · have d1 : decide (r - 1 < 0) = true := decide_eq_true (by omega)
      have hT := Lib.hid (Hbad.out (Or.inr (Or.inl (by omega))))
      clear Hih Hgood Hfr Hi Hbad
      go_quiet (fail)
      go_wp2_with fail
      exact Hpost.out false (r - 1) _ hT.out (grownBy_drewN Hgr.out _) Hroom.out
    · have hr2 : ¬ r - 1 < 0 := by omega
      have d1 : decide (r - 1 < 0) = false := decide_eq_false (by omega)
      by_cases hlen : r - 1 < (ni : Int)
      · have d2 : decide (r - 1 < (ni : Int)) = true := decide_eq_true (by omega)
        have hT := Lib.hid (Hbad.out (Or.inr (Or.inr (Or.inl (by omega)))))
        clear Hih Hgood Hfr Hi Hbad
        go_quiet (fail)
        go_wp2_with fail
        exact Hpost.out false (r - 1) _ hT.out (grownBy_drewN Hgr.out _) Hroom.out
      · have d2 : decide (r - 1 < (ni : Int)) = false := decide_eq_false hlen
        have HFr := Lib.hid (Hfr.out _ HbW.out.drew)
        have hx0 : w.heap.size < W.heap.size := by omega
        have hx1 : w.heap.size + 1 < W.heap.size := by omega
        have hx2 : w.heap.size + 1 + 1 < W.heap.size := by omega
        have hxg : g < W.heap.size := by omega
        have HK : Hid (∀ w' : World, Below W.heap.size W w' → w'.cell? ⟨w.heap.size, 0, none⟩ = some (.int .u8 (k : Nat)) ∧ w'.cell? ⟨w.heap.size, 1, none⟩ = some (.string t) ∧ w'.cell? ⟨w.heap.size, 2, none⟩ = some (.int .i64 i) ∧ w'.cell? ⟨w.heap.size, 3, none⟩ = some (.slice pi ni ci) ∧ w'.cell? ⟨w.heap.size, 4, none⟩ = some (.slice pn nn cn) ∧ w'.cell? ⟨w.heap.size + 1, 0, none⟩ = some (.int .i64 (l : Nat)) ∧ w'.cell? ⟨w.heap.size + 1 + 1, 0, none⟩ = some (.pointer (some ⟨g, 0, none⟩)) ∧ w'.cell? ⟨g, 0, none⟩ = some (.int .i64 (r - 1))) := Lib.hid (fun w' h => ⟨(h.cell (p := ⟨w.heap.size, 0, none⟩) hx0).trans k0, (h.cell (p := ⟨w.heap.size, 1, none⟩) hx0).trans k1, (h.cell (p := ⟨w.heap.size, 2, none⟩) hx0).trans k2, (h.cell (p := ⟨w.heap.size, 3, none⟩) hx0).trans k3, (h.cell (p := ⟨w.heap.size, 4, none⟩) hx0).trans k4, (h.cell (p := ⟨w.heap.size + 1, 0, none⟩) hx1).trans m0, (h.cell (p := ⟨w.heap.size + 1 + 1, 0, none⟩) hx2).trans n0, (h.cell (p := ⟨g, 0, none⟩) hxg).trans r0⟩)
        have hAft : ∀ W', Below W.heap.size W W' → w.grownBy W' (some g) ∧ W'.heap[g]? = some (.cells #[.int .i64 (r - 1)] 3 (0, 0)) := fun W' h => ⟨grownBy_trans Hgr.out (grownBy_of h _), (h.block g (by omega)).trans Hroom.out⟩
        have HAft := Lib.hid hAft
        clear hAft
        cases lf with
        | false =>
          have hT := Lib.hid (Hbad.out (Or.inr (Or.inr (Or.inr rfl))))
          clear Hih Hgood Hi Hbad Hfr
          go_region_held3 (fun w' => w'.cell? ⟨w.heap.size, 0, none⟩ = some (.int .u8 (k : Nat)) ∧ w'.cell? ⟨w.heap.size, 1, none⟩ = some (.string t) ∧ w'.cell? ⟨w.heap.size, 2, none⟩ = some (.int .i64 i) ∧ w'.cell? ⟨w.heap.size, 3, none⟩ = some (.slice pi ni ci) ∧ w'.cell? ⟨w.heap.size, 4, none⟩ = some (.slice pn nn cn) ∧ w'.cell? ⟨w.heap.size + 1, 0, none⟩ = some (.int .i64 (l : Nat)) ∧ w'.cell? ⟨w.heap.size + 1 + 1, 0, none⟩ = some (.pointer (some ⟨g, 0, none⟩)) ∧ w'.cell? ⟨g, 0, none⟩ = some (.int .i64 (r - 1)))
            (first | (go_keep; done) | (exact HK.out _ e7))
            (first
              | (go_at_call 123; (with_reducible refine (HFr.out).mono ?_); rintro e w5 ⟨rfl, hb5⟩; have e7 : Below W.heap.size W w5 := ((Below.refl _ W).drew.trans hb5)))
          have HE := Lib.hid e7
          clear e7 hb5
          go_wp2_with fail
          exact Hpost.out false (r - 1) _ hT.out (HAft.out _ HE.out).1 (HAft.out _ HE.out).2
        | true =>
          clear Hbad Hfr
          go_region_held3 (fun w' => w'.cell? ⟨w.heap.size, 0, none⟩ = some (.int .u8 (k : Nat)) ∧ w'.cell? ⟨w.heap.size, 1, none⟩ = some (.string t) ∧ w'.cell? ⟨w.heap.size, 2, none⟩ = some (.int .i64 i) ∧ w'.cell? ⟨w.heap.size, 3, none⟩ = some (.slice pi ni ci) ∧ w'.cell? ⟨w.heap.size, 4, none⟩ = some (.slice pn nn cn) ∧ w'.cell? ⟨w.heap.size + 1, 0, none⟩ = some (.int .i64 (l : Nat)) ∧ w'.cell? ⟨w.heap.size + 1 + 1, 0, none⟩ = some (.pointer (some ⟨g, 0, none⟩)) ∧ w'.cell? ⟨g, 0, none⟩ = some (.int .i64 (r - 1)))
            (first | (go_keep; done) | (exact HK.out _ e7))
            (first
              | (go_at_call 123; (with_reducible refine (HFr.out).mono ?_); rintro e w5 ⟨rfl, hb5⟩; have e7 : Below W.heap.size W w5 := ((Below.refl _ W).drew.trans hb5)))
          have HE := Lib.hid e7
          clear e7 hb5
          obtain ⟨m, rfl⟩ : ∃ m, l = m + 1 := ⟨l - 1, by omega⟩
          have hT := Lib.hid (Hgood.out m rfl (by rintro (h | h | h); omega; omega; cases h))
          have hB5 : Below w0.heap.size w0 w5 := HbW.out.trans (HE.out.mono (HbW.out.size))
          have HB5 := Lib.hid hB5
          have hlev := Lib.hid ((HE.out.block (w.heap.size + 1) hx1).trans Hb5.out)
          have hptr := Lib.hid ((HE.out.block (w.heap.size + 2) hx2).trans Hb6.out)
          have hroom5 := Lib.hid ((HE.out.block g hxg).trans Hroom.out)
          have hs5 : W.heap.size ≤ w5.heap.size := HE.out.size
          have hcon := vl_contains ni pi ci 124 #[.pointer (some ⟨w.heap.size + 1, 0, none⟩), .pointer (some ⟨w.heap.size + 1 + 1, 0, none⟩)] (enters_of Tryz.func124 (by kernel_rfl) rfl) w5 (Vl.pAt (Vl.go m) x.items (r - 1))
            (fun q V => w5.grownBy V (some g) ∧ V.heap[g]? = some (.cells #[.int .i64 (Vl.sAt (Vl.go m) x.items (r - 1) q)] 3 (0, 0))) (Vl.G d w0 x.items) q4
            (fun q V hI => Hi.out V (below_grownBy HB5.out hI.1 hg HB5.out.size))
            (fun q hq hpre v V hG hI => by
              obtain ⟨y, hy, hAy⟩ := hG
              obtain ⟨hql, hye⟩ := List.getElem?_eq_some_iff.1 hy
              obtain ⟨bd0, bd1⟩ := Vl.sAt_bd m x.items (r - 1) q (by omega) (by omega) hpre
              rw [Vl.pAt_get _ _ _ q hql, Vl.sAt_succ _ _ _ q hql, hye]
              have hV := below_grownBy HB5.out hI.1 hg HB5.out.size
              refine (right1_any m y v w0 V (w.heap.size + 1) (w.heap.size + 1 + 1) g _ hl8 d hAy ((hI.1.block _ (by omega) (by simp; omega)).trans hlev.out) ((hI.1.block _ (by omega) (by simp; omega)).trans hptr.out) (fun W2 h2 => Hih.out m rfl y v W2 _ bd0 (by omega) hAy (hV.trans (h2.mono hV.size)) ((h2.block g (Array.getElem?_eq_some_iff.1 hI.2).1).trans hI.2))).mono ?_
              rintro e w' ⟨rfl, h1, h2⟩
              exact ⟨rfl, grownBy_trans hI.1 h1, h2⟩)
            ⟨grownBy_refl _ _, by rw [Vl.sAt_zero]; exact hroom5.out⟩
          have HCon := Lib.hid hcon
          obtain ⟨k0', k1', k2', k3', k4', m0', n0', r0'⟩ := HK.out _ HE.out
          clear hcon hlev hptr hB5 Hi Hih Hgood k0 k1 k2 k3 k4 m0 n0 r0
          go_wp2_with fail
          refine HCon.out.mono ?_
          rintro e w6 (⟨q, q1', q2', q3', rfl, qg, qr⟩ | ⟨q1', rfl, qg, qr⟩)
          · have hfin := Vl.goAll_hit (Vl.go m) x.items (r - 1) q (by rw [Hni.out]; exact q1') q2' q3'
            have HF := Lib.hid (hT.out.trans hfin)
            have HG6 := Lib.hid (grownBy_trans (HAft.out _ HE.out).1 qg)
            have HR6 := Lib.hid qr
            clear q3' hfin qg qr q2'
            go_wp2_with fail
            exact Hpost.out _ _ _ HF.out HG6.out HR6.out
          · have hfin := Vl.goAll_all (Vl.go m) x.items (r - 1) (by rw [Hni.out]; exact q1')
            have HF := Lib.hid (hT.out.trans hfin)
            have HG6 := Lib.hid (grownBy_trans (HAft.out _ HE.out).1 qg)
            have HR6 := Lib.hid (by rw [Hni.out]; exact qr : w6.heap[g]? = some (.cells #[.int .i64 (Vl.sAt (Vl.go m) x.items (r - 1) x.items.length)] 3 (0, 0)))
            clear hfin qg qr q1'
            go_wp2_with fail
            exact Hpost.out _ _ _ HF.out HG6.out HR6.out
/-- right, of whatever value. -/
theorem right_any : ∀ (l d : Nat) (x : Vl.V) (v : Value) (w0 w : World) (g : Nat) (r : Int), l ≤ 8 → 0 ≤ r → r ≤ 256 → Vl.At d w0 v x → Below w0.heap.size w0 w → w0.heap.size ≤ g → w.heap[g]? = some (.cells #[.int .i64 r] 3 (0, 0)) →
    Calls Tryz.prog 80 #[v, .int .i64 (l : Nat), .pointer (some ⟨g, 0, none⟩)] w (Vl.RightPost l x r g w)
  | _, 0, _, _, _, _, _, _, _, _, _, h, _, _, _ => h.elim
  | 0, d + 1, x, v, w0, w, g, r, hl, h0, h1, hA, hB, hg, hc => right_body 0 d x v w0 w g r hl h0 h1 hA hB hg hc (fun m hm => by cases hm)
  | l + 1, d + 1, x, v, w0, w, g, r, hl, h0, h1, hA, hB, hg, hc => right_body (l + 1) d x v w0 w g r hl h0 h1 hA hB hg hc
      (fun m hm y u W r2 q0 q1 hAy hBW hcW => by cases hm; exact right_any l d y u w0 W g r2 (by omega) q0 q1 hAy hBW hg hcW)
end Go.Proofs.YteiccjakaabfnaaGreatDoor
