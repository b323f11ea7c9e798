/-
  The walks of value's copyEach: texts, and values, copied into memory of their own. Conditions: at most 100000 of them; each call of the function that copies hands back what it was given, in new memory.
  Rows of tokens that share what nodes have; a token put behind one. Condition: rows are short.
-/
import Derived.Test.YteiccjakaabfnaaGreatDoorZ28
import Derived.Test.YteiccjakaabfnaaGreatDoorShelf
import Derived.Maps.AppendAt
import Derived.OwnWalk
import Derived.Test.YteiccjakaabfnaaGreatDoorNdShape
namespace Go.Proofs.YteiccjakaabfnaaGreatDoor
open Go.RowKit

theorem vlClone_any (s : ByteArray) (w : World) (hs : s.size ≤ 281474976710656) :
    Calls Tryz.prog 48 #[.string s] w fun e w' => e = .returned (.string s) ∧ Below w.heap.size w w' := by
  go_enter Tryz.func48, Tryz.ntmps48
  go_wp2_with fail
  refine (Tryz.stringslite_Clone s w hs).mono ?_
  rintro e w' ⟨rfl, hb⟩
  go_wp2_with fail
  go_ret
  exact ⟨rfl, hb⟩
theorem Vl.infoText : ∃ i, Tryz.prog.info? 9 = some i ∧ i.zero = some (.string ⟨#[]⟩) ∧ i.size = 1 ∧ i.bytes = 16 := info_parts (by kernel_rfl)
theorem Vl.infoVal : ∃ i, Tryz.prog.info? 42 = some i ∧ i.zero = some (.agg #[.int .u8 0, .string ⟨#[]⟩, .int .i64 0, .slice none 0 0, .slice none 0 0]) ∧ i.size = 5 ∧ i.bytes = 80 := info_parts (by kernel_rfl)
/-- append onto a row of the call's own: and where the row lies then. -/
theorem Vl.listApp {P : Program} (w : World) {ops : Array Oper} {rest : List Oper} {o : Oper} {a : Act} {Q : Exit → Act → World → Prop} (hgd : o.guard = none) (s x : Operand) (t : TypeId)
    (ho : o.op = .call { callee := .builtin .append, args := #[s, x], argTypes := #[t, t] })
    (base : Nat) (e : TypeId) (i : TypeInfo) (z : Value) (size bytes : Nat) (ht : P.underlying t = some (.slice e)) (hi : P.info? e = some i) (hz : i.zero = some z)
    (hsize : i.size = size) (hby : i.bytes = bytes) (hzs : z.cells.size = size) (hsz : 0 < size)
    (v : Value) (n : Nat) (xs : List Value) (hs : a.eval s = v) (hown : w.ownsRow base e size v n xs)
    (ad : Addr) (m c : Nat) (news : List Value) (hx : a.eval x = .slice (some ad) m c) (hl : news.length = m * size) (hnews : ∀ j u, news[j]? = some u → w.cell? (ad.add j) = some u) (h1 : ∀ u ∈ news, u.oneCell' = true)
    (h63 : n + m ≤ maxLen) (hbytes : (n + m) * bytes ≤ 140737488355328) (hbase : base ≤ w.heap.size)
    (h : ∀ v' w', w'.ownsRow base e size v' (n + m) (xs ++ news) → w.grownBy w' v.ownBlock → (v'.ownBlock = v.ownBlock ∨ v'.ownBlock = some w.heap.size) → wpList P ops Q rest (a.put o.dst v') w') : wpList P ops Q (o :: rest) a w := by
  refine wpList_plain hgd fun K hK => ?_
  obtain ⟨v', w', hr, h2, h3, _, h5⟩ := run_append_own_at (P := P) w base t o.type e i z size bytes ht hi hz hsize hby hzs hsz v n xs hown ad m c news hl hnews h1 h63 hbytes hbase
  unfold Oper.wp
  simp [execOp, ho, resolve, invoke, builtin, hs, hx, hr, Result.andThen]
  exact hK _ _ (h v' w' h2 h3 h5)
set_option maxRecDepth 100000 in
set_option maxHeartbeats 1000000 in
/-- Texts. -/
theorem copyEachS_any (p : Option Addr) (c : Nat) (l : List ByteArray) (w : World) (hm : l.length ≤ 100000) (hs : ∀ s ∈ l, s.size ≤ 140737488351232) (hA : Wp.At Wp.mkT w p l) :
    Calls Tryz.prog 130 #[.slice p l.length c, .func (.func 48) #[] #[]] w fun e w' => ∃ v, e = .returned v ∧ w'.ownsRow w.heap.size 9 1 v l.length (l.map Wp.mkT) ∧ Below w.heap.size w w' := by
  have HA := Lib.hid hA
  have HS := Lib.hid hs
  obtain ⟨n, hn⟩ : ∃ n, n = l.length := ⟨_, rfl⟩
  have HN := Lib.hid hn
  rw [← hn] at hm ⊢
  clear hA hs hn
  have eg := enters_of Tryz.func48 (by kernel_rfl) rfl
  obtain ⟨i0, hi, hz0, hz1, hz2⟩ := Vl.infoText
  go_enter Tryz.func130, Tryz.ntmps130
  go_wp2_with fail
  go_loopw [5, 7, 10] (fun v _ t wr => ∃ k : Nat, k ≤ n ∧ t = .int .i64 k ∧ Hid (wr.ownsRow w.heap.size 9 1 v k ((l.take k).map Wp.mkT)) ∧ Below w.heap.size w wr) (fun _ _ t _ => n - (intOf t).toNat)
  case atStart => exact ⟨0, Nat.zero_le _, rfl, Lib.hid (World.ownsRow_nil _ _ _ _), Below.refl _ _⟩
  case round =>
    obtain ⟨k, hk, rfl, HO, hB⟩ := hrel
    by_cases hlt : k < n
    · have hkl : k < l.length := by rw [← HN.out]; exact hlt
      obtain ⟨b, off, rfl, hcell⟩ := (HA.out.below hB).get k hkl
      rw [show Wp.mkT l[k] = Value.string l[k] from rfl] at hcell
      have hsx := HS.out l[k] (List.getElem_mem _)
      have Htk := Lib.hid (show (l.take (k + 1)).map Wp.mkT = (l.take k).map Wp.mkT ++ [.string l[k]] by rw [List.take_succ_eq_append_getElem hkl, List.map_append]; rfl)
      generalize l[k] = x at *
      have HB := Lib.hid hB
      clear hkl
      go_wp2_with fail
      refine (vlClone_any x wr (by omega)).mono ?_
      rintro e w1 ⟨rfl, hb1⟩
      have HO1 := Lib.hid ((ownsRow_below HO.out hb1).alloc (.cells #[.string x] 9))
      have HB1 := Lib.hid ((HB.out.trans (hb1.mono HB.out.size)).alloc (by have := hb1.size; have := HB.out.size; omega) (.cells #[.string x] 9))
      clear hcell hb1 HO HB hB
      go_wp2_with (at_builtin; refine Vl.listApp _ rfl _ _ 23 rfl w.heap.size 9 i0 _ 1 16 Tryz.underlying23 hi hz0 hz1 hz2 rfl (by decide) _ k _ rfl HO1.out ⟨w1.heap.size, 0, none⟩ 1 1 [.string x] rfl rfl ?c1 ?c2 ?c3 ?c4 ?c5 ?_)
      case c1 => exact cell_one_new _ _ _
      case c2 => simp [Value.oneCell']
      case c3 => unfold maxLen; omega
      case c4 => omega
      case c5 => exact HB1.out.size
      intro v' w2 hown hgrow _
      have HB2 := Lib.hid (below_grown HB1.out HO1.out (Nat.le_refl _) hgrow)
      have HO2 := Lib.hid hown
      clear hown hgrow HO1 HB1
      go_wp2_with fail
      refine ⟨⟨k + 1, by omega, by go_num, Lib.hid (by rw [Htk.out, List.map_take]; exact HO2.out), HB2.out⟩, by simp [intOf]; omega⟩
    · obtain rfl : k = n := by omega
      have HO1 := Lib.hid (show wr.ownsRow w.heap.size 9 1 _ k (l.map Wp.mkT) by have := HO.out; rwa [HN.out, List.take_length, ← HN.out] at this)
      go_wp2_with fail
      go_ret
      exact ⟨_, rfl, HO1.out, hB⟩
end Go.Proofs.YteiccjakaabfnaaGreatDoor
namespace Go.Proofs.YteiccjakaabfnaaGreatDoor
open Go.RowKit

theorem Nd.toks_snoc (l : List Nd.N) (k : Nat) (h : k < l.length) : Nd.toksL (l.take (k + 1)) = Nd.toksL (l.take k) ++ l[k].toks := by
  rw [List.take_succ_eq_append_getElem h, Nd.toksL_append, Nd.toksL_cons, Nd.toksL_nil, List.append_nil]
theorem Nd.toks_take (l : List Nd.N) (k : Nat) : (Nd.toksL (l.take k)).length ≤ (Nd.toksL l).length := by
  conv => rhs; rw [← List.take_append_drop k l, Nd.toksL_append, List.length_append]
  omega
/-- A row of tokens of the call's own, that share what there was at first. -/
def Nd.TRow (w0 : World) (B : Nat) (W : World) (v : Value) (l : List Sc.T) : Prop :=
  ∃ cs, W.ownsRow B 110 3 v l.length cs ∧ ∀ i y, l[i]? = some y → ∃ c0 c1 c2, cs[i * 3]? = some c0 ∧ cs[i * 3 + 1]? = some c1 ∧ cs[i * 3 + 2]? = some c2 ∧ Sc.Tok w0 (.agg #[c0, c1, c2]) y
theorem Nd.TRow.nil (w0 : World) (B : Nat) (W : World) : Nd.TRow w0 B W (.slice none 0 0) [] := ⟨[], World.ownsRow_nil _ _ _ _, fun i y h => by simp at h⟩
theorem Nd.TRow.lt {w0 W : World} {B : Nat} {v : Value} {l : List Sc.T} (h : Nd.TRow w0 B W v l) : ∀ k, v.ownBlock = some k → B ≤ k ∧ k < W.heap.size := by
  obtain ⟨cs, h1, _⟩ := h
  exact h1.lt
theorem Nd.TRow.below {w0 W W' : World} {B : Nat} {v : Value} {l : List Sc.T} (h : Nd.TRow w0 B W v l) (hb : Below W.heap.size W W') : Nd.TRow w0 B W' v l := by
  obtain ⟨cs, h1, h2⟩ := h
  exact ⟨cs, ownsRow_below h1 hb, h2⟩
theorem Nd.TRow.at {w0 W : World} {B : Nat} {v : Value} {l : List Sc.T} (h : Nd.TRow w0 B W v l) (hb : Below w0.heap.size w0 W) : ∃ p c, v = .slice p l.length c ∧ Sc.At W p l := by
  obtain ⟨cs, hown, hk⟩ := h
  rcases hown.2 with ⟨hv, h0⟩ | ⟨g, cap, cur, hv, hg, hc, hn, hm, hs, ht⟩
  · refine ⟨none, 0, by rw [hv, h0], fun i hi => by omega⟩
  · refine ⟨some ⟨g, 0, none⟩, cap, hv, fun i hi => ?_⟩
    obtain ⟨y, hy⟩ : ∃ y, l[i]? = some y := ⟨_, List.getElem?_eq_getElem (by omega)⟩
    obtain ⟨c0, c1, c2, e0, e1, e2, htok⟩ := hk i y hy
    have key : ∀ j c, j < 3 → cs[i * 3 + j]? = some c → W.cell? ⟨g, 0 + i * 3 + j, none⟩ = some c := fun j c hj e => by
      rw [Lib.cell_of_heap hc, Nat.zero_add, ← Array.getElem?_toList, ← e, ← ht]
      rw [List.getElem?_take_of_lt (by omega)]
    exact ⟨g, 0, c0, c1, c2, rfl, ⟨key 0 c0 (by omega) e0, key 1 c1 (by omega) e1, key 2 c2 (by omega) e2⟩, y, hy, htok.below hb⟩
/-- A world behind a call that puts more behind a row. -/
def Nd.Grew (W : World) (v : Value) (W' : World) (v' : Value) : Prop := W.grownBy W' v.ownBlock ∧ (v'.ownBlock = v.ownBlock ∨ ∀ k, v'.ownBlock = some k → W.heap.size ≤ k)
theorem Nd.Grew.refl (W : World) (v : Value) : Nd.Grew W v W v := ⟨grownBy_refl _ _, Or.inl rfl⟩
theorem Nd.Grew.of {W W' : World} (v : Value) (h : Below W.heap.size W W') : Nd.Grew W v W' v := ⟨grownBy_of h _, Or.inl rfl⟩
theorem Nd.Grew.trans {a b c : World} {u v x : Value} (h : Nd.Grew a u b v) (k : Nd.Grew b v c x) : Nd.Grew a u c x := by
  refine ⟨⟨k.1.os.trans h.1.os, k.1.tape.trans h.1.tape, k.1.output.trans h.1.output, Nat.le_trans h.1.size k.1.size, fun i hi hne => (k.1.block i (Nat.lt_of_lt_of_le hi h.1.size) (fun e => ?_)).trans (h.1.block i hi hne)⟩, ?_⟩
  · rcases h.2 with h2 | h2
    · exact hne (by rw [← h2]; exact e)
    · have := h2 i e.symm
      omega
  · rcases k.2 with k2 | k2
    · rw [k2]; exact h.2
    · exact Or.inr fun j hj => Nat.le_trans h.1.size (k2 j hj)
theorem Nd.Grew.box {W W' : World} {v v' : Value} (h : Nd.Grew W v W' v') {bx : Nat} {o : Obj} (hb : W.heap[bx]? = some o) (hne : v.ownBlock ≠ some bx) : W'.heap[bx]? = some o ∧ v'.ownBlock ≠ some bx := by
  have hlt := (Array.getElem?_eq_some_iff.1 hb).1
  refine ⟨(h.1.block bx hlt (fun e => hne e.symm)).trans hb, fun e => ?_⟩
  rcases h.2 with h2 | h2
  · exact hne (by rw [← h2]; exact e)
  · have := h2 bx e
    omega
theorem Nd.Grew.below {w0 W W' : World} {B : Nat} {v v' : Value} {l : List Sc.T} (h : Nd.Grew W v W' v') (hT : Nd.TRow w0 B W v l) (hB : w0.heap.size ≤ B) (hb : Below w0.heap.size w0 W) : Below w0.heap.size w0 W' :=
  hb.grown h.1 hb.size (fun k hk => Nat.le_trans hB (hT.lt k hk).1)
/-- append of one token. -/
theorem Nd.tokApp {ops : Array Oper} {rest : List Oper} {o : Oper} {a : Act} {w : World} {Q : Exit → Act → World → Prop} (hgd : o.guard = none) (s x : Operand) (ho : o.op = .call { callee := .builtin .append, args := #[s, x], argTypes := #[104, 104] })
    (w0 : World) (B : Nat) (v : Value) (l : List Sc.T) (g : Nat) (c0 c1 c2 : Value) (y : Sc.T) (hs : a.eval s = v) (hx : a.eval x = .slice (some ⟨g, 0, none⟩) 1 1) (hT : Nd.TRow w0 B w v l) (hg : w.heap[g]? = some (.cells #[c0, c1, c2] 110 (0, 0))) (hy : Sc.Tok w0 (.agg #[c0, c1, c2]) y)
    (hl : l.length ≤ 1000000) (hB : B ≤ w.heap.size)
    (h : ∀ v' w', Nd.TRow w0 B w' v' (l ++ [y]) → Nd.Grew w v w' v' → wpList Tryz.prog ops Q rest (a.put o.dst v') w') : wpList Tryz.prog ops Q (o :: rest) a w := by
  obtain ⟨i0, hi, hz0, hz1, hz2⟩ := Sc.infoTok
  obtain ⟨cs, hown, hk⟩ := hT
  have hclen : cs.length = l.length * 3 := hown.1
  obtain ⟨n0, n1, n2⟩ := Sc.three_of hg
  have hy' := hy
  obtain ⟨pn, cn, e, -, -⟩ := hy'
  simp only [Value.agg.injEq, Array.mk.injEq, List.cons.injEq, and_true] at e
  obtain ⟨e0, e1, e2⟩ := e
  refine Vl.listApp w hgd s x 104 ho B 110 i0 _ 3 48 Tryz.underlying104 hi hz0 hz1 hz2 rfl (by decide) v l.length cs hs hown ⟨g, 0, none⟩ 1 1 [c0, c1, c2] hx rfl ?_ ?_ (by unfold maxLen; omega) (by omega) hB ?_
  · intro j q hq
    match j, hq with
    | 0, hq => cases hq; exact n0
    | 1, hq => cases hq; exact n1
    | 2, hq => cases hq; exact n2
    | j + 3, hq => simp at hq
  · intro q hq; simp at hq; rcases hq with rfl | rfl | rfl
    · rw [e0]; rfl
    · rw [e1]; rfl
    · rw [e2]; rfl
  · intro v' w' hown' hgr hat
    refine h v' w' ⟨_, by rw [List.length_append]; exact hown', fun i z hz => ?_⟩ ⟨hgr, hat.imp id fun e k hk2 => ?_⟩
    · by_cases hil : i < l.length
      · rw [List.getElem?_append_left hil] at hz
        obtain ⟨a0, a1, a2, f0, f1, f2, htk⟩ := hk i z hz
        refine ⟨a0, a1, a2, ?_, ?_, ?_, htk⟩
        · rw [List.getElem?_append_left (by omega)]; exact f0
        · rw [List.getElem?_append_left (by omega)]; exact f1
        · rw [List.getElem?_append_left (by omega)]; exact f2
      · have hik : i = l.length := by
          obtain ⟨h, _⟩ := List.getElem?_eq_some_iff.1 hz
          rw [List.length_append] at h
          simp at h
          omega
        subst hik
        rw [List.getElem?_concat_length] at hz
        cases hz
        have key : ∀ j q, (cs ++ [c0, c1, c2])[l.length * 3 + j]? = q ↔ [c0, c1, c2][j]? = q := fun j q => by
          rw [List.getElem?_append_right (by omega), hclen, Nat.add_sub_cancel_left]
        exact ⟨_, _, _, (key 0 _).2 rfl, (key 1 _).2 rfl, (key 2 _).2 rfl, hy⟩
    · rw [e] at hk2
      cases hk2
      exact Nat.le_refl _
theorem Nd.endAt (w : World) : Sc.Tok w (.agg #[.int .u8 6, .string ⟨#[]⟩, .slice none 0 0]) Nd.tEnd :=
  ⟨none, 0, rfl, ⟨⟨by decide, Nat.le_refl _⟩, by decide, by decide, fun s h => by cases h⟩, Or.inl rfl⟩
theorem Nd.elseAt (w : World) : Sc.Tok w (.agg #[.int .u8 4, .string ⟨#[]⟩, .slice none 0 0]) Nd.tElse :=
  ⟨none, 0, rfl, ⟨⟨by decide, Nat.le_refl _⟩, by decide, by decide, fun s h => by cases h⟩, Or.inl rfl⟩
/-- A node's own token. -/
theorem Nd.tok_of {w : World} {k : Nat} {t : ByteArray} {p : List ByteArray} {nk ne cp ck ce : Nat} {pp : Option Addr} (hf : Nd.Fits k t p nk ne cp ck ce) (hp : Wp.At Wp.mkT w pp p) : Sc.Tok w (.agg #[.int .u8 k, .string t, .slice pp p.length cp]) ⟨k, t, p⟩ := by
  obtain ⟨f1, f2, f3, _, _, f6, f7, _, _⟩ := hf
  exact ⟨pp, cp, rfl, ⟨⟨f1, f7⟩, f2, f3, f6⟩, hp⟩
end Go.Proofs.YteiccjakaabfnaaGreatDoor
