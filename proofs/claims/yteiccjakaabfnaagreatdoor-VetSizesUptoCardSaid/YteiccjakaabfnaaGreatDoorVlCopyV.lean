
/-
  The walks of value's copyEach at values, and of copied: a value in memory of its own. Conditions: a value's texts and lists are of a size that a machine holds; at most 100000 items and names.
-/
import Derived.Test.YteiccjakaabfnaaGreatDoorZ51
import Derived.Test.YteiccjakaabfnaaGreatDoorVlRight
import Derived.Deep.LoopGhost
namespace Go.Proofs.YteiccjakaabfnaaGreatDoor
open Go.RowKit

/-- What is read off blocks of the call's own alone, but for one. -/
def Vl.Off (d B : Nat) (W : World) (blk : Option Nat) (u : Value) (y : Vl.V) : Prop := ∀ W' : World, (∀ j, B ≤ j → j < W.heap.size → some j ≠ blk → W'.heap[j]? = W.heap[j]?) → Vl.At d W' u y
theorem Vl.Off.at {d B : Nat} {W : World} {blk : Option Nat} {u : Value} {y : Vl.V} (h : Vl.Off d B W blk u y) : Vl.At d W u y := h W (fun _ _ _ _ => rfl)
/-- A row of values of the call's own. -/
def Vl.OwnRow (d B : Nat) (W : World) (v : Value) (n : Nat) (l : List Vl.V) : Prop :=
  ∃ cs, W.ownsRow B 42 5 v n cs ∧ l.length = n ∧ ∀ i y, l[i]? = some y → ∃ c0 c1 c2 c3 c4, cs[i * 5]? = some c0 ∧ cs[i * 5 + 1]? = some c1 ∧ cs[i * 5 + 2]? = some c2 ∧ cs[i * 5 + 3]? = some c3 ∧ cs[i * 5 + 4]? = some c4 ∧ Vl.Off d B W v.ownBlock (.agg #[c0, c1, c2, c3, c4]) y
/-- Within a deep value: not too many. -/
def Vl.few : Nat → Vl.V → Prop
  | 0, _ => True
  | d + 1, x => x.items.length ≤ 100000 ∧ x.names.length ≤ 100000 ∧ ∀ y ∈ x.items, Vl.few d y
theorem Vl.OwnRow.nil (d B : Nat) (W : World) : Vl.OwnRow d B W (.slice none 0 0) 0 [] := ⟨[], World.ownsRow_nil _ _ _ _, rfl, fun i y h => by simp at h⟩
theorem Vl.OwnRow.grow {d B : Nat} {wr w1 w2 : World} {v v' u : Value} {k : Nat} {l : List Vl.V} {y : Vl.V} {cs : List Value} {c0 c1 c2 c3 c4 : Value} (hs : l.length = k)
    (hO : wr.ownsRow B 42 5 v k cs) (hk : ∀ i y, l[i]? = some y → ∃ c0 c1 c2 c3 c4, cs[i * 5]? = some c0 ∧ cs[i * 5 + 1]? = some c1 ∧ cs[i * 5 + 2]? = some c2 ∧ cs[i * 5 + 3]? = some c3 ∧ cs[i * 5 + 4]? = some c4 ∧ Vl.Off d B wr v.ownBlock (.agg #[c0, c1, c2, c3, c4]) y)
    (hB : B ≤ wr.heap.size) (hb : Below wr.heap.size wr w1) (hu : u = .agg #[c0, c1, c2, c3, c4]) (hn : Vl.Off d wr.heap.size w1 none u y) (o : Obj)
    (hown : w2.ownsRow B 42 5 v' (k + 1) (cs ++ [c0, c1, c2, c3, c4])) (hgr : (w1.alloc o).grownBy w2 v.ownBlock) (hat : v'.ownBlock = v.ownBlock ∨ v'.ownBlock = some (w1.heap.size + 1)) : Vl.OwnRow d B w2 v' (k + 1) (l ++ [y]) := by
  have hlt := hO.lt
  have hs1 := hb.size
  have hs2 : w1.heap.size + 1 ≤ w2.heap.size := by have := hgr.size; rwa [World.size_alloc] at this
  have hclen : cs.length = k * 5 := hO.1
  have hkeep : ∀ j, j < w1.heap.size → some j ≠ v.ownBlock → w2.heap[j]? = w1.heap[j]? := fun j hj hne => (hgr.block j (by rw [World.size_alloc]; omega) hne).trans (Vl.past _ _ _ hj)
  have hne' : ∀ j, j < w1.heap.size → some j ≠ v.ownBlock → some j ≠ v'.ownBlock := fun j hj hne => by
    rcases hat with h | h
    · rw [h]; exact hne
    · rw [h]; intro e; cases e; omega
  refine ⟨_, hown, by rw [List.length_append, hs]; rfl, fun i z hz => ?_⟩
  by_cases hi : i < k
  · rw [List.getElem?_append_left (by omega)] at hz
    obtain ⟨a0, a1, a2, a3, a4, e0, e1, e2, e3, e4, hoff⟩ := hk i z hz
    refine ⟨a0, a1, a2, a3, a4, ?_, ?_, ?_, ?_, ?_, fun W' hW => hoff W' (fun j h1 h2 h3 => ?_)⟩
    · rw [List.getElem?_append_left (by omega)]; exact e0
    · rw [List.getElem?_append_left (by omega)]; exact e1
    · rw [List.getElem?_append_left (by omega)]; exact e2
    · rw [List.getElem?_append_left (by omega)]; exact e3
    · rw [List.getElem?_append_left (by omega)]; exact e4
    · have hj1 : j < w1.heap.size := by omega
      exact (hW j h1 (by omega) (hne' j hj1 h3)).trans ((hkeep j hj1 h3).trans (hb.block j h2))
  · have hik : i = k := by
      obtain ⟨h, _⟩ := List.getElem?_eq_some_iff.1 hz
      rw [List.length_append, hs] at h
      simp at h
      omega
    subst hik
    rw [← hs, List.getElem?_concat_length] at hz
    cases hz
    have key : ∀ j q, (cs ++ [c0, c1, c2, c3, c4])[i * 5 + j]? = q ↔ [c0, c1, c2, c3, c4][j]? = q := fun j q => by
      rw [List.getElem?_append_right (by omega), hclen, Nat.add_sub_cancel_left]
    refine ⟨c0, c1, c2, c3, c4, (key 0 _).2 rfl, (key 1 _).2 rfl, (key 2 _).2 rfl, (key 3 _).2 rfl, (key 4 _).2 rfl, fun W' hW => ?_⟩
    rw [← hu]
    refine hn W' (fun j h1 h2 _ => ?_)
    have h3 : some j ≠ v.ownBlock := fun e => by have := (hlt j e.symm).2; omega
    exact (hW j (by omega) (by omega) (hne' j h2 h3)).trans (hkeep j h2 h3)
theorem Vl.At.shape {d : Nat} {w : World} {u : Value} {y : Vl.V} (h : Vl.At d w u y) : ∃ (k : Nat) (t : ByteArray) (i : Int) (pi : Option Addr) (ni ci : Nat) (pn : Option Addr) (nn cn : Nat), u = .agg #[.int .u8 k, .string t, .int .i64 i, .slice pi ni ci, .slice pn nn cn] := by
  cases d with
  | zero => exact h.elim
  | succ d =>
    obtain ⟨pi, ci, pn, cn, rfl, _⟩ := h
    exact ⟨_, _, _, _, _, _, _, _, _, rfl⟩
theorem below_grown5 {w w' w0 : World} {base : Nat} {e : TypeId} {size : Nat} {v : Value} {n : Nat} {xs : List Value} (hb : Below w0.heap.size w0 w) (ho : w.ownsRow base e size v n xs) (hbase : w0.heap.size ≤ base) (hg : w.grownBy w' v.ownBlock) : Below w0.heap.size w0 w' :=
  hb.grown hg hb.size (fun k hk => Nat.le_trans hbase (ho.lt k hk).1)
theorem Vl.RowIs.mono {W : World} {p : Option Addr} {n : Nat} {G G' : Nat → Value → Prop} (h : Vl.RowIs W p n G) (hG : ∀ i v, G i v → G' i v) : Vl.RowIs W p n G' := fun i hi => by
  obtain ⟨b, off, c0, c1, c2, c3, c4, e, h5, hg⟩ := h i hi
  exact ⟨b, off, c0, c1, c2, c3, c4, e, h5, hG i _ hg⟩
/-- What copying a value hands back. -/
def Vl.Copied (d : Nat) (y : Vl.V) (w : World) (e : Ending) (w' : World) : Prop := ∃ u, e = .returned u ∧ Vl.Off d w.heap.size w' none u y ∧ Below w.heap.size w w'
set_option maxRecDepth 100000 in
set_option maxHeartbeats 2000000 in
theorem copyEachV_any (d : Nat) (p : Option Addr) (c : Nat) (l : List Vl.V) (w : World) (hm : l.length ≤ 100000) (hrow : ∀ W, Below w.heap.size w W → Vl.RowIs W p l.length (Vl.G d w l))
    (ihc : ∀ y ∈ l, ∀ u W, Vl.At d w u y → Below w.heap.size w W → Calls Tryz.prog 84 #[u] W (Vl.Copied d y W)) :
    Calls Tryz.prog 131 #[.slice p l.length c, .func (.func 84) #[] #[]] w fun e w' => ∃ v, e = .returned v ∧ Vl.OwnRow d w.heap.size w' v l.length l ∧ Below w.heap.size w w' := by
  have HR := Lib.hid hrow
  have HI := Lib.hid ihc
  obtain ⟨n, hn⟩ : ∃ n, n = l.length := ⟨_, rfl⟩
  have HN := Lib.hid hn
  rw [← hn] at hm ⊢
  clear hrow hn ihc
  have eg := enters_of Tryz.func84 (by kernel_rfl) rfl
  obtain ⟨i0, hi, hz0, hz1, hz2⟩ := Vl.infoVal
  go_enter Tryz.func131, Tryz.ntmps131
  go_wp2_with fail
  go_loopw [5, 7, 10] (fun v _ t wr => ∃ k : Nat, k ≤ n ∧ t = .int .i64 k ∧ Hid (Vl.OwnRow d w.heap.size wr v k (l.take k)) ∧ Below w.heap.size w wr) (fun _ _ t _ => n - (intOf t).toNat)
  case atStart => exact ⟨0, Nat.zero_le _, rfl, Lib.hid (Vl.OwnRow.nil _ _ _), Below.refl _ _⟩
  case round =>
    obtain ⟨k, hk, rfl, HO, hB⟩ := hrel
    by_cases hlt : k < n
    · obtain ⟨b, off, c0, c1, c2, c3, c4, rfl, ⟨e0, e1, e2, e3, e4⟩, y, hy, hAy⟩ := HR.out _ hB k (by rw [← HN.out]; exact hlt)
      obtain ⟨k1, t1, i1, pi1, ni1, ci1, pn1, nn1, cn1, hsh⟩ := hAy.shape
      simp only [Value.agg.injEq, Array.mk.injEq, List.cons.injEq, and_true] at hsh
      obtain ⟨rfl, rfl, rfl, rfl, rfl⟩ := hsh
      have Htk := Lib.hid (show l.take (k + 1) = l.take k ++ [y] by rw [List.take_add_one, hy]; rfl)
      have Hlk := Lib.hid (show (l.take k).length = k by have := HN.out; rw [List.length_take]; omega)
      have hcall := HI.out y (List.mem_of_getElem? hy) _ (wr.alloc (.cells #[.int .u8 (k1 : Nat), .string t1, .int .i64 i1, .slice pi1 ni1 ci1, .slice pn1 nn1 cn1] 42)) hAy (hB.alloc hB.size _)
      have HC := Lib.hid hcall
      have HB := Lib.hid hB
      have hwr : w.heap.size ≤ wr.heap.size := hB.size
      obtain ⟨cs, g1, g2, g3⟩ := HO.out
      have HG := Lib.hid g3
      have HO2 := Lib.hid g1
      clear hcall hAy hy HO g1 g2 g3
      go_wp2_with fail
      refine HC.out.mono ?_
      rintro e w1 ⟨u, rfl, hoff, hb1⟩
      obtain ⟨k2, t2, i2, pi2, ni2, ci2, pn2, nn2, cn2, rfl⟩ := hoff.at.shape
      rw [World.size_alloc] at hb1 hoff
      have hbw : Below wr.heap.size wr w1 := ((Below.refl _ wr).alloc (Nat.le_refl _) (.cells #[.int .u8 (k1 : Nat), .string t1, .int .i64 i1, .slice pi1 ni1 ci1, .slice pn1 nn1 cn1] 42)).trans (hb1.mono (by omega))
      have hs1 : wr.heap.size + 1 ≤ w1.heap.size := by have := hb1.size; rwa [World.size_alloc] at this
      have Hoff := Lib.hid (fun W' h => hoff W' (fun j h1 h2 h3 => h j (by omega) h2 h3) : Vl.Off d wr.heap.size w1 none _ y)
      have HO1 := Lib.hid ((ownsRow_below HO2.out hbw).alloc (.cells #[.int .u8 (k2 : Nat), .string t2, .int .i64 i2, .slice pi2 ni2 ci2, .slice pn2 nn2 cn2] 42))
      have Hbw := Lib.hid hbw
      have HB1 := Lib.hid ((HB.out.trans (hbw.mono hwr)).alloc (by omega) (.cells #[.int .u8 (k2 : Nat), .string t2, .int .i64 i2, .slice pi2 ni2 ci2, .slice pn2 nn2 cn2] 42))
      have Hnew := Lib.hid (Vl.five_of (Vl.new w1 (.cells #[.int .u8 (k2 : Nat), .string t2, .int .i64 i2, .slice pi2 ni2 ci2, .slice pn2 nn2 cn2] 42)))
      clear hoff hb1 hbw e0 e1 e2 e3 e4 HB hB HC
      go_wp2_with (at_builtin; refine Vl.listApp _ rfl _ _ 40 rfl w.heap.size 42 i0 _ 5 80 Tryz.underlying40 hi hz0 hz1 hz2 rfl (by decide) _ k _ rfl HO1.out ⟨w1.heap.size, 0, none⟩ 1 1 [.int .u8 (k2 : Nat), .string t2, .int .i64 i2, .slice pi2 ni2 ci2, .slice pn2 nn2 cn2] rfl rfl ?c1 ?c2 ?c3 ?c4 ?c5 ?_)
      case c1 =>
        intro j q hq
        obtain ⟨n0, n1, n2, n3, n4⟩ := Hnew.out
        match j, hq with
        | 0, hq => cases hq; exact n0
        | 1, hq => cases hq; exact n1
        | 2, hq => cases hq; exact n2
        | 3, hq => cases hq; exact n3
        | 4, hq => cases hq; exact n4
        | j + 5, hq => simp at hq
      case c2 => intro q hq; simp at hq; rcases hq with rfl | rfl | rfl | rfl | rfl <;> rfl
      case c3 => unfold maxLen; omega
      case c4 => omega
      case c5 => exact HB1.out.size
      intro v' w2 hown hgrow hat
      have HB2 := Lib.hid (below_grown5 HB1.out HO1.out (Nat.le_refl _) hgrow)
      have HOw := Lib.hid (Vl.OwnRow.grow Hlk.out HO2.out HG.out hwr Hbw.out rfl Hoff.out _ hown hgrow hat)
      clear hown hgrow HO1 HB1 hat HO2 HG Hbw Hoff Hnew
      go_wp2_with fail
      refine ⟨⟨k + 1, by omega, by go_num, Lib.hid (by rw [Htk.out]; exact HOw.out), HB2.out⟩, by simp [intOf]; omega⟩
    · obtain rfl : k = n := by omega
      have HO1 := Lib.hid (show Vl.OwnRow d w.heap.size wr _ k l by have := HO.out; rwa [HN.out, List.take_length, ← HN.out] at this)
      go_wp2_with fail
      go_ret
      exact ⟨_, rfl, HO1.out, hB⟩
/-- Items that read as values. -/
def Vl.Its (d : Nat) (W : World) (p : Option Addr) (l : List Vl.V) : Prop :=
  l = [] ∨ ∃ b off, p = some ⟨b, off, none⟩ ∧ ∀ i (h : i < l.length), ∃ c0 c1 c2 c3 c4, Vl.Five W b (off + i * 5) c0 c1 c2 c3 c4 ∧ Vl.At d W (.agg #[c0, c1, c2, c3, c4]) l[i]
/-- The value that a row of copies reads as. -/
theorem Vl.OwnRow.off {d B : Nat} {W : World} {v : Value} {n : Nat} {l : List Vl.V} (h : Vl.OwnRow d B W v n l) : ∃ p c, v = .slice p n c ∧ ∀ W' : World, (∀ j, B ≤ j → j < W.heap.size → W'.heap[j]? = W.heap[j]?) → Vl.Its d W' p l := by
  obtain ⟨cs, hO, hs, hk⟩ := h
  rcases hO.2 with ⟨hv, h0⟩ | ⟨g, cap, cur, hv, hg, hc, hn, hm, hcs, ht⟩
  · subst h0
    exact ⟨none, 0, hv, fun W' _ => Or.inl (List.length_eq_zero_iff.1 hs)⟩
  · subst hv
    refine ⟨some ⟨g, 0, none⟩, cap, rfl, fun W' hW => Or.inr ⟨g, 0, rfl, fun i hi => ?_⟩⟩
    have hgl := (Array.getElem?_eq_some_iff.1 hc).1
    obtain ⟨c0, c1, c2, c3, c4, e0, e1, e2, e3, e4, hoff⟩ := hk i l[i] (List.getElem?_eq_getElem hi)
    have key : ∀ j q, cs[j]? = some q → W'.cell? ⟨g, 0 + j, none⟩ = some q := fun j q hq => by
      rw [Nat.zero_add, Lib.cell_of_heap ((hW g hg hgl).trans hc), ← Array.getElem?_toList]
      rw [← ht] at hq
      obtain ⟨hjl, _⟩ := List.getElem?_eq_some_iff.1 hq
      rw [List.length_take] at hjl
      rwa [List.getElem?_take_of_lt (by omega)] at hq
    refine ⟨c0, c1, c2, c3, c4, ⟨key _ _ e0, key _ _ e1, key _ _ e2, key _ _ e3, key _ _ e4⟩, hoff W' (fun j h1 h2 _ => hW j h1 h2)⟩
theorem Vl.texts_off {B : Nat} {W : World} {v : Value} {n : Nat} {l : List ByteArray} (h : W.ownsRow B 9 1 v n (l.map Wp.mkT)) : ∃ p c, v = .slice p n c ∧ ∀ W' : World, (∀ j, B ≤ j → j < W.heap.size → W'.heap[j]? = W.heap[j]?) → Wp.At Wp.mkT W' p l := by
  obtain rfl : n = l.length := by have := h.1; rw [List.length_map, Nat.mul_one] at this; exact this.symm
  obtain ⟨p, c, rfl, ha⟩ := owns_at h
  refine ⟨p, c, rfl, fun W' hW => ?_⟩
  rcases h.2 with ⟨hv, h0⟩ | ⟨g, cap, cur, hv, hg, hc, hn, hm, hcs, ht⟩
  · exact Or.inl (List.length_eq_zero_iff.1 h0)
  · rcases ha with ha | ⟨b, off, hp, hcell⟩
    · exact Or.inl ha
    · cases hv
      cases hp
      exact Or.inr ⟨g, 0, rfl, fun i hi => (World.cell?_of_block (hW g hg (Array.getElem?_eq_some_iff.1 hc).1)).trans (hcell i hi)⟩
set_option maxRecDepth 100000 in
set_option maxHeartbeats 2000000 in
theorem copied_any : ∀ (d : Nat) (x : Vl.V) (v : Value) (w : World), Vl.At d w v x → Vl.few d x → Calls Tryz.prog 84 #[v] w (Vl.Copied d x w)
  | 0, _, _, _, h, _ => h.elim
  | d + 1, x, v, w, hA, hF => by
    have ih := copied_any d
    obtain ⟨pi, ci, pn, cn, rfl, ⟨q1, q2, q3, q4, q5, q6⟩, hn, hi⟩ := hA
    obtain ⟨f1, f2, f3⟩ := hF
    have hrow := Vl.rowIs hi
    have HcI := Lib.hid (fun W (h : Below w.heap.size w W) => copyEachV_any d pi ci x.items W f1 (fun W2 h2 => Vl.RowIs.mono (hrow W2 (h.trans (h2.mono h.size))) (fun i v ⟨y, e, ha⟩ => ⟨y, e, ha.below h⟩))
      (fun y hy u W2 ha h2 => ih y u W2 (ha.below h2) (f3 y hy)))
    have HcN := Lib.hid (fun W (h : Below w.heap.size w W) => copyEachS_any pn cn x.names W f2 q6 (hn.below h))
    have HcT := Lib.hid (fun W => vlClone_any x.text W (by omega))
    have Hend := Lib.hid (fun (W' : World) pi' ci' pn' cn' (e1 : Vl.Its d W' pi' x.items) (e2 : Wp.At Wp.mkT W' pn' x.names) => (show Vl.At (d + 1) W' (.agg #[.int .u8 (x.kind : Nat), .string x.text, .int .i64 x.num, .slice pi' x.items.length ci', .slice pn' x.names.length cn']) x from ⟨pi', ci', pn', cn', rfl, ⟨q1, q2, q3, q4, q5, q6⟩, e2, e1⟩))
    clear hrow hi hn ih f1 f2 f3 q6
    generalize x.items.length = ni at *
    generalize x.names.length = nn at *
    generalize x.kind = k at *
    generalize x.text = t at *
    generalize x.num = i at *
    have hx0 := Lib.hid (show ((w.alloc (.cells #[.int .u8 (k : Nat), .string t, .int .i64 i, .slice pi ni ci, .slice pn nn cn] 42)).alloc (.cells #[.int .u8 0, .string ⟨#[]⟩, .int .i64 0, .slice none 0 0, .slice none 0 0] 42)).heap[w.heap.size]? = some (.cells #[.int .u8 (k : Nat), .string t, .int .i64 i, .slice pi ni ci, .slice pn nn cn] 42 (0, 0)) by rw [Vl.past _ _ _ (by simp)]; exact Vl.new _ _)
    have hr0 := Lib.hid (Vl.newAt (w.alloc (.cells #[.int .u8 (k : Nat), .string t, .int .i64 i, .slice pi ni ci, .slice pn nn cn] 42)) (.cells #[.int .u8 0, .string ⟨#[]⟩, .int .i64 0, .slice none 0 0, .slice none 0 0] 42) (w.heap.size + 1) (by simp))
    have hb0 := Lib.hid (((Below.refl w.heap.size w).alloc (Nat.le_refl _) (.cells #[.int .u8 (k : Nat), .string t, .int .i64 i, .slice pi ni ci, .slice pn nn cn] 42)).alloc (by simp) (.cells #[.int .u8 0, .string ⟨#[]⟩, .int .i64 0, .slice none 0 0, .slice none 0 0] 42))
    have hs0 : ((w.alloc (.cells #[.int .u8 (k : Nat), .string t, .int .i64 i, .slice pi ni ci, .slice pn nn cn] 42)).alloc (.cells #[.int .u8 0, .string ⟨#[]⟩, .int .i64 0, .slice none 0 0, .slice none 0 0] 42)).heap.size = w.heap.size + 2 := by simp
    have Hs0 := Lib.hid hs0
    clear hs0
    go_enter Tryz.func84, Tryz.ntmps84
    go_wp2_with fail
    refine (HcT.out _).mono ?_
    rintro e w1 ⟨rfl, hb1⟩
    have hz1 : w.heap.size + 2 ≤ w1.heap.size := by have := hb1.size; rwa [Hs0.out] at this
    have hx1 := (hb1.block w.heap.size (by rw [Hs0.out]; omega)).trans hx0.out
    have hr1 := (hb1.block (w.heap.size + 1) (by rw [Hs0.out]; omega)).trans hr0.out
    have hB1 := hb0.out.trans (hb1.mono (by rw [Hs0.out]; omega))
    obtain ⟨m0, m1, m2, m3, m4⟩ := Vl.five_of hx1
    obtain ⟨n0, n1, n2, n3, n4⟩ := Vl.fiveF_of hx1
    have X2 := Lib.hid ((Lib.heap_setCell_same (i := 1) hx1 (.string t)).trans rfl : (w1.setCell ⟨w.heap.size, 1, none⟩ (.string t)).heap[w.heap.size]? = some (.cells #[.int .u8 (k : Nat), .string t, .int .i64 i, .slice pi ni ci, .slice pn nn cn] 42 (0, 0)))
    have R2 := Lib.hid ((Below.heap_setCell w1 ⟨w.heap.size, 1, none⟩ (.string t) (w.heap.size + 1) (by simp)).trans hr1)
    have B2 := Lib.hid (hB1.setCell (p := ⟨w.heap.size, 1, none⟩) (Nat.le_refl _) (.string t))
    have hz2 : w.heap.size + 2 ≤ (w1.setCell ⟨w.heap.size, 1, none⟩ (.string t)).heap.size := by rw [World.size_setCell]; exact hz1
    have Hx1 := Lib.hid hx1
    clear hb1 hr1 hB1 hx1 hx0 hr0 hb0 Hs0 hz1
    go_upto_region 2 with fail
    generalize (w1.setCell ⟨w.heap.size, 1, none⟩ (.string t)) = W2 at *
    clear m0 m1 m2 m3 m4 n0 n1 n2 n3 n4 Hx1
    obtain ⟨m0, m1, m2, m3, m4⟩ := Vl.five_of X2.out
    go_wp2_with fail
    refine (HcN.out _ B2.out).mono ?_
    rintro e w3 ⟨v3, rfl, ho3, hb3⟩
    obtain ⟨p3, c3, rfl, hoff3⟩ := Vl.texts_off ho3
    have Hoff3 := Lib.hid hoff3
    have hs3 : W2.heap.size ≤ w3.heap.size := hb3.size
    have hx3 := (hb3.block w.heap.size (by omega)).trans X2.out
    have hr3 := (hb3.block (w.heap.size + 1) (by omega)).trans R2.out
    have hB3 := B2.out.trans (hb3.mono (by omega))
    clear m0 m1 m2 m3 m4
    obtain ⟨m0, m1, m2, m3, m4⟩ := Vl.five_of hx3
    obtain ⟨n0, n1, n2, n3, n4⟩ := Vl.fiveF_of hx3
    have X4 := Lib.hid ((Lib.heap_setCell_same (i := 4) hx3 (.slice p3 nn c3)).trans rfl : (w3.setCell ⟨w.heap.size, 4, none⟩ (.slice p3 nn c3)).heap[w.heap.size]? = some (.cells #[.int .u8 (k : Nat), .string t, .int .i64 i, .slice pi ni ci, .slice p3 nn c3] 42 (0, 0)))
    have R4 := Lib.hid ((Below.heap_setCell w3 ⟨w.heap.size, 4, none⟩ (.slice p3 nn c3) (w.heap.size + 1) (by simp)).trans hr3)
    have B4 := Lib.hid (hB3.setCell (p := ⟨w.heap.size, 4, none⟩) (Nat.le_refl _) (.slice p3 nn c3))
    have hs4 : (w3.setCell ⟨w.heap.size, 4, none⟩ (.slice p3 nn c3)).heap.size = w3.heap.size := World.size_setCell _ _ _
    have K4 := Lib.hid (fun j (hj : j ≠ w.heap.size) => Below.heap_setCell w3 ⟨w.heap.size, 4, none⟩ (.slice p3 nn c3) j hj)
    clear hb3 hr3 hB3 hx3 ho3 hoff3 X2 R2 B2
    go_upto_region 3 with fail
    generalize (w3.setCell ⟨w.heap.size, 4, none⟩ (.slice p3 nn c3)) = W4 at *
    clear m0 m1 m2 m3 m4 n0 n1 n2 n3 n4
    obtain ⟨m0, m1, m2, m3, m4⟩ := Vl.five_of X4.out
    go_wp2_with fail
    refine (HcI.out _ B4.out).mono ?_
    rintro e w5 ⟨v5, rfl, ho5, hb5⟩
    have hni : ni = ni := rfl
    obtain ⟨p5, c5, rfl, hoff5⟩ := ho5.off
    have Hoff5 := Lib.hid hoff5
    have hs5 : W4.heap.size ≤ w5.heap.size := hb5.size
    have hx5 := (hb5.block w.heap.size (by omega)).trans X4.out
    have hr5 := (hb5.block (w.heap.size + 1) (by omega)).trans R4.out
    have hB5 := B4.out.trans (hb5.mono (by omega))
    have K5 := Lib.hid hb5
    clear m0 m1 m2 m3 m4
    obtain ⟨m0, m1, m2, m3, m4⟩ := Vl.five_of hx5
    obtain ⟨n0, n1, n2, n3, n4⟩ := Vl.fiveF_of hx5
    have X6 := Lib.hid ((Lib.heap_setCell_same (i := 3) hx5 (.slice p5 ni c5)).trans rfl : (w5.setCell ⟨w.heap.size, 3, none⟩ (.slice p5 ni c5)).heap[w.heap.size]? = some (.cells #[.int .u8 (k : Nat), .string t, .int .i64 i, .slice p5 ni c5, .slice p3 nn c3] 42 (0, 0)))
    have R6 := Lib.hid ((Below.heap_setCell w5 ⟨w.heap.size, 3, none⟩ (.slice p5 ni c5) (w.heap.size + 1) (by simp)).trans hr5)
    have B6 := Lib.hid (hB5.setCell (p := ⟨w.heap.size, 3, none⟩) (Nat.le_refl _) (.slice p5 ni c5))
    have hs6 : (w5.setCell ⟨w.heap.size, 3, none⟩ (.slice p5 ni c5)).heap.size = w5.heap.size := World.size_setCell _ _ _
    have K6 := Lib.hid (fun j (hj : j ≠ w.heap.size) => Below.heap_setCell w5 ⟨w.heap.size, 3, none⟩ (.slice p5 ni c5) j hj)
    clear hb5 hr5 hB5 hx5 ho5 hoff5 X4 R4 B4
    go_upto_region 4 with fail
    generalize (w5.setCell ⟨w.heap.size, 3, none⟩ (.slice p5 ni c5)) = W6 at *
    clear m0 m1 m2 m3 m4 n0 n1 n2 n3 n4
    obtain ⟨m0, m1, m2, m3, m4⟩ := Vl.five_of X6.out
    obtain ⟨r0, r1, r2, r3, r4⟩ := Vl.five_of R6.out
    obtain ⟨n0, n1, n2, n3, n4⟩ := Vl.fiveF_of R6.out
    go_wp2_with fail
    refine bodyPost_ret (Vl.ret1 rfl _ _ (w.heap.size + 1) 42 _ _ rfl (Vl.set5 R6.out _ _ _ _ _) Tryz.underlying42 rfl (by kernel_rfl)) rfl ?_
    refine ⟨_, rfl, fun W' hW => ?_, ?_⟩
    · rw [Vl.set5_size] at hW
      have hW6 : ∀ j, w.heap.size + 2 ≤ j → j < W6.heap.size → W'.heap[j]? = W6.heap[j]? := fun j h1 h2 => (hW j (by omega) h2 (by simp)).trans (Vl.set5_rest _ _ _ _ _ _ _ j (by omega))
      refine Hend.out W' p5 c5 p3 c3 (Hoff5.out W' (fun j h1 h2 => (hW6 j (by omega) (by omega)).trans (K6.out j (by omega)))) (Hoff3.out W' (fun j h1 h2 => ?_))
      exact (hW6 j (by omega) (by omega)).trans ((K6.out j (by omega)).trans ((K5.out.block j (by omega)).trans (K4.out j (by omega))))
    · exact below_grownBy B6.out (Vl.set5_grown _ _ _ _ _ _ _) (by omega) (by omega)
end Go.Proofs.YteiccjakaabfnaaGreatDoor
