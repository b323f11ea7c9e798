/-
  The walks of value's copyEach: texts, and values, copied into memory of their own. Conditions: at most 100000 of them; each call of the function that copies hands back what it was given, in new memory.
  Rows of tokens that share what nodes have; a token put behind one. Condition: rows are short.
  The walk of tree's put: the tokens of nodes that are shaped, put behind those that there are. Condition: there are few.
-/
import Derived.Test.YteiccjakaabfnaaGreatDoorZ53
import Derived.Test.YteiccjakaabfnaaGreatDoorShelf
import Derived.Maps.AppendAt
import Derived.OwnWalk
import Derived.Test.YteiccjakaabfnaaGreatDoorNdShape
namespace Go.Proofs.YteiccjakaabfnaaGreatDoor
open Go.RowKit

theorem vlClone_any (s : ByteArray) (w : World) (hs : s.size ≤ 281474976710656) :
    Calls Tryz.prog 48 #[.string s] w fun e w' => e = .returned (.string s) ∧ Below w.heap.size w w' := by
  go_enter Tryz.func48, Tryz.ntmps48
  go_wp2_with fail
  refine (Tryz.stringslite_Clone s w hs).mono ?_
  rintro e w' ⟨rfl, hb⟩
  go_wp2_with fail
  go_ret
  exact ⟨rfl, hb⟩
theorem Vl.infoText : ∃ i, Tryz.prog.info? 9 = some i ∧ i.zero = some (.string ⟨#[]⟩) ∧ i.size = 1 ∧ i.bytes = 16 := info_parts (by kernel_rfl)
theorem Vl.infoVal : ∃ i, Tryz.prog.info? 42 = some i ∧ i.zero = some (.agg #[.int .u8 0, .string ⟨#[]⟩, .int .i64 0, .slice none 0 0, .slice none 0 0]) ∧ i.size = 5 ∧ i.bytes = 80 := info_parts (by kernel_rfl)
/-- append onto a row of the call's own: and where the row lies then. -/
theorem Vl.listApp {P : Program} (w : World) {ops : Array Oper} {rest : List Oper} {o : Oper} {a : Act} {Q : Exit → Act → World → Prop} (hgd : o.guard = none) (s x : Operand) (t : TypeId)
    (ho : o.op = .call { callee := .builtin .append, args := #[s, x], argTypes := #[t, t] })
    (base : Nat) (e : TypeId) (i : TypeInfo) (z : Value) (size bytes : Nat) (ht : P.underlying t = some (.slice e)) (hi : P.info? e = some i) (hz : i.zero = some z)
    (hsize : i.size = size) (hby : i.bytes = bytes) (hzs : z.cells.size = size) (hsz : 0 < size)
    (v : Value) (n : Nat) (xs : List Value) (hs : a.eval s = v) (hown : w.ownsRow base e size v n xs)
    (ad : Addr) (m c : Nat) (news : List Value) (hx : a.eval x = .slice (some ad) m c) (hl : news.length = m * size) (hnews : ∀ j u, news[j]? = some u → w.cell? (ad.add j) = some u) (h1 : ∀ u ∈ news, u.oneCell' = true)
    (h63 : n + m ≤ maxLen) (hbytes : (n + m) * bytes ≤ 140737488355328) (hbase : base ≤ w.heap.size)
    (h : ∀ v' w', w'.ownsRow base e size v' (n + m) (xs ++ news) → w.grownBy w' v.ownBlock → (v'.ownBlock = v.ownBlock ∨ v'.ownBlock = some w.heap.size) → wpList P ops Q rest (a.put o.dst v') w') : wpList P ops Q (o :: rest) a w := by
  refine wpList_plain hgd fun K hK => ?_
  obtain ⟨v', w', hr, h2, h3, _, h5⟩ := run_append_own_at (P := P) w base t o.type e i z size bytes ht hi hz hsize hby hzs hsz v n xs hown ad m c news hl hnews h1 h63 hbytes hbase
  unfold Oper.wp
  simp [execOp, ho, resolve, invoke, builtin, hs, hx, hr, Result.andThen]
  exact hK _ _ (h v' w' h2 h3 h5)
set_option maxRecDepth 100000 in
set_option maxHeartbeats 1000000 in
/-- Texts. -/
theorem copyEachS_any (p : Option Addr) (c : Nat) (l : List ByteArray) (w : World) (hm : l.length ≤ 100000) (hs : ∀ s ∈ l, s.size ≤ 140737488351232) (hA : Wp.At Wp.mkT w p l) :
    Calls Tryz.prog 130 #[.slice p l.length c, .func (.func 48) #[] #[]] w fun e w' => ∃ v, e = .returned v ∧ w'.ownsRow w.heap.size 9 1 v l.length (l.map Wp.mkT) ∧ Below w.heap.size w w' := by
  have HA := Lib.hid hA
  have HS := Lib.hid hs
  obtain ⟨n, hn⟩ : ∃ n, n = l.length := ⟨_, rfl⟩
  have HN := Lib.hid hn
  rw [← hn] at hm ⊢
  clear hA hs hn
  have eg := enters_of Tryz.func48 (by kernel_rfl) rfl
  obtain ⟨i0, hi, hz0, hz1, hz2⟩ := Vl.infoText
  go_enter Tryz.func130, Tryz.ntmps130
  go_wp2_with fail
  go_loopw [5, 7, 10] (fun v _ t wr => ∃ k : Nat, k ≤ n ∧ t = .int .i64 k ∧ Hid (wr.ownsRow w.heap.size 9 1 v k ((l.take k).map Wp.mkT)) ∧ Below w.heap.size w wr) (fun _ _ t _ => n - (intOf t).toNat)
  case atStart => exact ⟨0, Nat.zero_le _, rfl, Lib.hid (World.ownsRow_nil _ _ _ _), Below.refl _ _⟩
  case round =>
    obtain ⟨k, hk, rfl, HO, hB⟩ := hrel
    by_cases hlt : k < n
    · have hkl : k < l.length := by rw [← HN.out]; exact hlt
      obtain ⟨b, off, rfl, hcell⟩ := (HA.out.below hB).get k hkl
      rw [show Wp.mkT l[k] = Value.string l[k] from rfl] at hcell
      have hsx := HS.out l[k] (List.getElem_mem _)
      have Htk := Lib.hid (show (l.take (k + 1)).map Wp.mkT = (l.take k).map Wp.mkT ++ [.string l[k]] by rw [List.take_succ_eq_append_getElem hkl, List.map_append]; rfl)
      generalize l[k] = x at *
      have HB := Lib.hid hB
      clear hkl
      go_wp2_with fail
      refine (vlClone_any x wr (by omega)).mono ?_
      rintro e w1 ⟨rfl, hb1⟩
      have HO1 := Lib.hid ((ownsRow_below HO.out hb1).alloc (.cells #[.string x] 9))
      have HB1 := Lib.hid ((HB.out.trans (hb1.mono HB.out.size)).alloc (by have := hb1.size; have := HB.out.size; omega) (.cells #[.string x] 9))
      clear hcell hb1 HO HB hB
      go_wp2_with (at_builtin; refine Vl.listApp _ rfl _ _ 23 rfl w.heap.size 9 i0 _ 1 16 Tryz.underlying23 hi hz0 hz1 hz2 rfl (by decide) _ k _ rfl HO1.out ⟨w1.heap.size, 0, none⟩ 1 1 [.string x] rfl rfl ?c1 ?c2 ?c3 ?c4 ?c5 ?_)
      case c1 => exact cell_one_new _ _ _
      case c2 => simp [Value.oneCell']
      case c3 => unfold maxLen; omega
      case c4 => omega
      case c5 => exact HB1.out.size
      intro v' w2 hown hgrow _
      have HB2 := Lib.hid (below_grown HB1.out HO1.out (Nat.le_refl _) hgrow)
      have HO2 := Lib.hid hown
      clear hown hgrow HO1 HB1
      go_wp2_with fail
      refine ⟨⟨k + 1, by omega, by go_num, Lib.hid (by rw [Htk.out, List.map_take]; exact HO2.out), HB2.out⟩, by simp [intOf]; omega⟩
    · obtain rfl : k = n := by omega
      have HO1 := Lib.hid (show wr.ownsRow w.heap.size 9 1 _ k (l.map Wp.mkT) by have := HO.out; rwa [HN.out, List.take_length, ← HN.out] at this)
      go_wp2_with fail
      go_ret
      exact ⟨_, rfl, HO1.out, hB⟩
end Go.Proofs.YteiccjakaabfnaaGreatDoor
namespace Go.Proofs.YteiccjakaabfnaaGreatDoor
open Go.RowKit

theorem Nd.toks_snoc (l : List Nd.N) (k : Nat) (h : k < l.length) : Nd.toksL (l.take (k + 1)) = Nd.toksL (l.take k) ++ l[k].toks := by
  rw [List.take_succ_eq_append_getElem h, Nd.toksL_append, Nd.toksL_cons, Nd.toksL_nil, List.append_nil]
theorem Nd.toks_take (l : List Nd.N) (k : Nat) : (Nd.toksL (l.take k)).length ≤ (Nd.toksL l).length := by
  conv => rhs; rw [← List.take_append_drop k l, Nd.toksL_append, List.length_append]
  omega
/-- A row of tokens of the call's own, that share what there was at first. -/
def Nd.TRow (w0 : World) (B : Nat) (W : World) (v : Value) (l : List Sc.T) : Prop :=
  ∃ cs, W.ownsRow B 110 3 v l.length cs ∧ ∀ i y, l[i]? = some y → ∃ c0 c1 c2, cs[i * 3]? = some c0 ∧ cs[i * 3 + 1]? = some c1 ∧ cs[i * 3 + 2]? = some c2 ∧ Sc.Tok w0 (.agg #[c0, c1, c2]) y
theorem Nd.TRow.nil (w0 : World) (B : Nat) (W : World) : Nd.TRow w0 B W (.slice none 0 0) [] := ⟨[], World.ownsRow_nil _ _ _ _, fun i y h => by simp at h⟩
theorem Nd.TRow.lt {w0 W : World} {B : Nat} {v : Value} {l : List Sc.T} (h : Nd.TRow w0 B W v l) : ∀ k, v.ownBlock = some k → B ≤ k ∧ k < W.heap.size := by
  obtain ⟨cs, h1, _⟩ := h
  exact h1.lt
theorem Nd.TRow.below {w0 W W' : World} {B : Nat} {v : Value} {l : List Sc.T} (h : Nd.TRow w0 B W v l) (hb : Below W.heap.size W W') : Nd.TRow w0 B W' v l := by
  obtain ⟨cs, h1, h2⟩ := h
  exact ⟨cs, ownsRow_below h1 hb, h2⟩
theorem Nd.TRow.at {w0 W : World} {B : Nat} {v : Value} {l : List Sc.T} (h : Nd.TRow w0 B W v l) (hb : Below w0.heap.size w0 W) : ∃ p c, v = .slice p l.length c ∧ Sc.At W p l := by
  obtain ⟨cs, hown, hk⟩ := h
  rcases hown.2 with ⟨hv, h0⟩ | ⟨g, cap, cur, hv, hg, hc, hn, hm, hs, ht⟩
  · refine ⟨none, 0, by rw [hv, h0], fun i hi => by omega⟩
  · refine ⟨some ⟨g, 0, none⟩, cap, hv, fun i hi => ?_⟩
    obtain ⟨y, hy⟩ : ∃ y, l[i]? = some y := ⟨_, List.getElem?_eq_getElem (by omega)⟩
    obtain ⟨c0, c1, c2, e0, e1, e2, htok⟩ := hk i y hy
    have key : ∀ j c, j < 3 → cs[i * 3 + j]? = some c → W.cell? ⟨g, 0 + i * 3 + j, none⟩ = some c := fun j c hj e => by
      rw [Lib.cell_of_heap hc, Nat.zero_add, ← Array.getElem?_toList, ← e, ← ht]
      rw [List.getElem?_take_of_lt (by omega)]
    exact ⟨g, 0, c0, c1, c2, rfl, ⟨key 0 c0 (by omega) e0, key 1 c1 (by omega) e1, key 2 c2 (by omega) e2⟩, y, hy, htok.below hb⟩
/-- A world behind a call that puts more behind a row. -/
def Nd.Grew (W : World) (v : Value) (W' : World) (v' : Value) : Prop := W.grownBy W' v.ownBlock ∧ (v'.ownBlock = v.ownBlock ∨ ∀ k, v'.ownBlock = some k → W.heap.size ≤ k)
theorem Nd.Grew.refl (W : World) (v : Value) : Nd.Grew W v W v := ⟨grownBy_refl _ _, Or.inl rfl⟩
theorem Nd.Grew.of {W W' : World} (v : Value) (h : Below W.heap.size W W') : Nd.Grew W v W' v := ⟨grownBy_of h _, Or.inl rfl⟩
theorem Nd.Grew.trans {a b c : World} {u v x : Value} (h : Nd.Grew a u b v) (k : Nd.Grew b v c x) : Nd.Grew a u c x := by
  refine ⟨⟨k.1.os.trans h.1.os, k.1.tape.trans h.1.tape, k.1.output.trans h.1.output, Nat.le_trans h.1.size k.1.size, fun i hi hne => (k.1.block i (Nat.lt_of_lt_of_le hi h.1.size) (fun e => ?_)).trans (h.1.block i hi hne)⟩, ?_⟩
  · rcases h.2 with h2 | h2
    · exact hne (by rw [← h2]; exact e)
    · have := h2 i e.symm
      omega
  · rcases k.2 with k2 | k2
    · rw [k2]; exact h.2
    · exact Or.inr fun j hj => Nat.le_trans h.1.size (k2 j hj)
theorem Nd.Grew.box {W W' : World} {v v' : Value} (h : Nd.Grew W v W' v') {bx : Nat} {o : Obj} (hb : W.heap[bx]? = some o) (hne : v.ownBlock ≠ some bx) : W'.heap[bx]? = some o ∧ v'.ownBlock ≠ some bx := by
  have hlt := (Array.getElem?_eq_some_iff.1 hb).1
  refine ⟨(h.1.block bx hlt (fun e => hne e.symm)).trans hb, fun e => ?_⟩
  rcases h.2 with h2 | h2
  · exact hne (by rw [← h2]; exact e)
  · have := h2 bx e
    omega
theorem Nd.Grew.below {w0 W W' : World} {B : Nat} {v v' : Value} {l : List Sc.T} (h : Nd.Grew W v W' v') (hT : Nd.TRow w0 B W v l) (hB : w0.heap.size ≤ B) (hb : Below w0.heap.size w0 W) : Below w0.heap.size w0 W' :=
  hb.grown h.1 hb.size (fun k hk => Nat.le_trans hB (hT.lt k hk).1)
/-- append of one token. -/
theorem Nd.tokApp {ops : Array Oper} {rest : List Oper} {o : Oper} {a : Act} {w : World} {Q : Exit → Act → World → Prop} (hgd : o.guard = none) (s x : Operand) (ho : o.op = .call { callee := .builtin .append, args := #[s, x], argTypes := #[104, 104] })
    (w0 : World) (B : Nat) (v : Value) (l : List Sc.T) (g : Nat) (c0 c1 c2 : Value) (y : Sc.T) (hs : a.eval s = v) (hx : a.eval x = .slice (some ⟨g, 0, none⟩) 1 1) (hT : Nd.TRow w0 B w v l) (hg : w.heap[g]? = some (.cells #[c0, c1, c2] 110 (0, 0))) (hy : Sc.Tok w0 (.agg #[c0, c1, c2]) y)
    (hl : l.length ≤ 1000000) (hB : B ≤ w.heap.size)
    (h : ∀ v' w', Nd.TRow w0 B w' v' (l ++ [y]) → Nd.Grew w v w' v' → wpList Tryz.prog ops Q rest (a.put o.dst v') w') : wpList Tryz.prog ops Q (o :: rest) a w := by
  obtain ⟨i0, hi, hz0, hz1, hz2⟩ := Sc.infoTok
  obtain ⟨cs, hown, hk⟩ := hT
  have hclen : cs.length = l.length * 3 := hown.1
  obtain ⟨n0, n1, n2⟩ := Sc.three_of hg
  have hy' := hy
  obtain ⟨pn, cn, e, -, -⟩ := hy'
  simp only [Value.agg.injEq, Array.mk.injEq, List.cons.injEq, and_true] at e
  obtain ⟨e0, e1, e2⟩ := e
  refine Vl.listApp w hgd s x 104 ho B 110 i0 _ 3 48 Tryz.underlying104 hi hz0 hz1 hz2 rfl (by decide) v l.length cs hs hown ⟨g, 0, none⟩ 1 1 [c0, c1, c2] hx rfl ?_ ?_ (by unfold maxLen; omega) (by omega) hB ?_
  · intro j q hq
    match j, hq with
    | 0, hq => cases hq; exact n0
    | 1, hq => cases hq; exact n1
    | 2, hq => cases hq; exact n2
    | j + 3, hq => simp at hq
  · intro q hq; simp at hq; rcases hq with rfl | rfl | rfl
    · rw [e0]; rfl
    · rw [e1]; rfl
    · rw [e2]; rfl
  · intro v' w' hown' hgr hat
    refine h v' w' ⟨_, by rw [List.length_append]; exact hown', fun i z hz => ?_⟩ ⟨hgr, hat.imp id fun e k hk2 => ?_⟩
    · by_cases hil : i < l.length
      · rw [List.getElem?_append_left hil] at hz
        obtain ⟨a0, a1, a2, f0, f1, f2, htk⟩ := hk i z hz
        refine ⟨a0, a1, a2, ?_, ?_, ?_, htk⟩
        · rw [List.getElem?_append_left (by omega)]; exact f0
        · rw [List.getElem?_append_left (by omega)]; exact f1
        · rw [List.getElem?_append_left (by omega)]; exact f2
      · have hik : i = l.length := by
          obtain ⟨h, _⟩ := List.getElem?_eq_some_iff.1 hz
          rw [List.length_append] at h
          simp at h
          omega
        subst hik
        rw [List.getElem?_concat_length] at hz
        cases hz
        have key : ∀ j q, (cs ++ [c0, c1, c2])[l.length * 3 + j]? = q ↔ [c0, c1, c2][j]? = q := fun j q => by
          rw [List.getElem?_append_right (by omega), hclen, Nat.add_sub_cancel_left]
        exact ⟨_, _, _, (key 0 _).2 rfl, (key 1 _).2 rfl, (key 2 _).2 rfl, hy⟩
    · rw [e] at hk2
      cases hk2
      exact Nat.le_refl _
theorem Nd.endAt (w : World) : Sc.Tok w (.agg #[.int .u8 6, .string ⟨#[]⟩, .slice none 0 0]) Nd.tEnd :=
  ⟨none, 0, rfl, ⟨⟨by decide, Nat.le_refl _⟩, by decide, by decide, fun s h => by cases h⟩, Or.inl rfl⟩
theorem Nd.elseAt (w : World) : Sc.Tok w (.agg #[.int .u8 4, .string ⟨#[]⟩, .slice none 0 0]) Nd.tElse :=
  ⟨none, 0, rfl, ⟨⟨by decide, Nat.le_refl _⟩, by decide, by decide, fun s h => by cases h⟩, Or.inl rfl⟩
/-- A node's own token. -/
theorem Nd.tok_of {w : World} {k : Nat} {t : ByteArray} {p : List ByteArray} {nk ne cp ck ce : Nat} {pp : Option Addr} (hf : Nd.Fits k t p nk ne cp ck ce) (hp : Wp.At Wp.mkT w pp p) : Sc.Tok w (.agg #[.int .u8 k, .string t, .slice pp p.length cp]) ⟨k, t, p⟩ := by
  obtain ⟨f1, f2, f3, _, _, f6, f7, _, _⟩ := hf
  exact ⟨pp, cp, rfl, ⟨⟨f1, f7⟩, f2, f3, f6⟩, hp⟩
end Go.Proofs.YteiccjakaabfnaaGreatDoor
namespace Go.Proofs.YteiccjakaabfnaaGreatDoor
open Go.RowKit

/-- What put hands back. -/
def Nd.PutPost (w0 : World) (B : Nat) (v : Value) (W : World) (out : List Sc.T) (e : Ending) (w' : World) : Prop := ∃ v', e = .returned v' ∧ Nd.TRow w0 B w' v' out ∧ Nd.Grew W v w' v'
set_option maxRecDepth 100000 in
/-- Of no nodes. -/
theorem put_nil (q : Option Addr) (c : Nat) (w0 : World) (B : Nat) (w : World) (v : Value) (acc : List Sc.T) (hT : Nd.TRow w0 B w v acc) :
    Calls Tryz.prog 114 #[v, .slice q ([] : List Nd.N).length c] w (Nd.PutPost w0 B v w (acc ++ Nd.toksL [])) := by
  rw [Nd.toksL_nil, List.append_nil]
  have HT := Lib.hid hT
  clear hT
  show Calls Tryz.prog 114 #[v, .slice q 0 c] w _
  go_enter Tryz.func114, Tryz.ntmps114
  go_wp2_with fail
  go_loopw [0, 6, 9] (fun v1 _ t wr => v1 = v ∧ t = .int .i64 0 ∧ wr = w) (fun _ _ _ _ => 0)
  case atStart => exact ⟨rfl, rfl, rfl⟩
  case round =>
    obtain ⟨rfl, rfl, rfl⟩ := hrel
    go_wp2_with fail
    go_ret
    exact ⟨_, rfl, HT.out, Nd.Grew.refl _ _⟩
set_option maxRecDepth 100000 in
set_option maxHeartbeats 4000000 in
theorem put_step (d : Nat) (l : List Nd.N) (q : Option Addr) (c : Nat) (w0 : World) (B : Nat) (w : World) (v : Value) (acc : List Sc.T) (hok : ∀ n ∈ l, Nd.okL d n.kids = true ∧ Nd.okL d n.els = true) (hn : l.length ≤ 140737488351232) (hA : Nd.Row w0 q l) (hB0 : w0.heap.size ≤ B) (hB : Below w0.heap.size w0 w) (hBw : B ≤ w.heap.size)
    (hT : Nd.TRow w0 B w v acc) (hlen : acc.length + (Nd.toksL l).length ≤ 1000)
    (ih : ∀ (l' : List Nd.N) (q' : Option Addr) (c' : Nat) (W : World) (u : Value) (acc' : List Sc.T), Nd.okL d l' = true → l'.length ≤ 140737488351232 → Nd.Row w0 q' l' → Below w0.heap.size w0 W → B ≤ W.heap.size → Nd.TRow w0 B W u acc' → acc'.length + (Nd.toksL l').length ≤ 1000 → Calls Tryz.prog 114 #[u, .slice q' l'.length c'] W (Nd.PutPost w0 B u W (acc' ++ Nd.toksL l'))) :
    Calls Tryz.prog 114 #[v, .slice q l.length c] w (Nd.PutPost w0 B v w (acc ++ Nd.toksL l)) := by
  have HOk := Lib.hid hok
  have HA := Lib.hid hA
  have HT0 := Lib.hid hT
  have HB := Lib.hid hB
  have Hlen := Lib.hid hlen
  have Hih := Lib.hid ih
  obtain ⟨n, hnl⟩ : ∃ n, n = l.length := ⟨_, rfl⟩
  rw [← hnl] at hn ⊢
  have HN := Lib.hid hnl
  obtain ⟨out, hout⟩ : ∃ out, out = acc ++ Nd.toksL l := ⟨_, rfl⟩
  rw [← hout]
  have HOut := Lib.hid hout
  clear hok hA hT hB hlen ih hnl hout
  go_enter Tryz.func114, Tryz.ntmps114
  go_wp2_with fail
  go_loopw [0, 6, 9] (fun v1 _ t wr => ∃ k : Nat, k ≤ n ∧ t = .int .i64 k ∧ Hid (Nd.TRow w0 B wr v1 (acc ++ Nd.toksL (l.take k))) ∧ Hid (Nd.Grew w v wr v1)) (fun _ _ t _ => n - (intOf t).toNat)
  case atStart => exact ⟨0, Nat.zero_le _, rfl, Lib.hid (by rw [List.take_zero, Nd.toksL_nil, List.append_nil]; exact HT0.out), Lib.hid (Nd.Grew.refl _ _)⟩
  case round =>
    obtain ⟨k, hk, rfl, HT, HG⟩ := hrel
    by_cases hlt : k < n
    · have hkl : k < l.length := by rw [← HN.out]; exact hlt
      have hBr := HG.out.below HT0.out hB0 HB.out
      have HBr := Lib.hid hBr
      obtain ⟨b, off, pp, cp, pk, ck, pe, ce, rfl, h5, hf, hp, hrk, hre⟩ := HA.out.get k hkl
      obtain ⟨e0, e1, e2, e3, e4⟩ := h5.below hBr
      have htk := Nd.tok_of hf hp
      have Htk := Lib.hid htk
      have hsn := Nd.toks_snoc l k hkl
      have htl := Nd.toks_take l (k + 1)
      rw [hsn, List.length_append] at htl
      have hok := HOk.out l[k] (List.getElem_mem hkl)
      obtain ⟨x, hx⟩ : ∃ x, x = l[k] := ⟨_, rfl⟩
      rw [← hx] at e0 e1 e2 e3 e4 Htk hsn htl hok hf hrk hre
      rw [Nd.N.toks_eq] at hsn htl
      obtain ⟨-, -, -, f4, f5, -, -, -, -⟩ := hf
      have Hsn := Lib.hid hsn
      have Htl := Lib.hid htl
      have C1 := Lib.hid (fun W u acc' h1 h2 h3 h4 => Hih.out x.kids pk ck W u acc' hok.1 f4 hrk h1 h2 h3 h4)
      have C2 := Lib.hid (fun W u acc' h1 h2 h3 h4 => Hih.out x.els pe ce W u acc' hok.2 f5 hre h1 h2 h3 h4)
      have hwr := HG.out.1.size
      have HX1 := Lib.hid ((Below.refl wr.heap.size wr).alloc (Nat.le_refl _) (.cells #[.int .u8 (x.kind : Nat), .string x.text, .slice pp x.path.length cp, .slice pk x.kids.length ck, .slice pe x.els.length ce] 37))
      have HV := Lib.hid (Vl.new wr (.cells #[.int .u8 (x.kind : Nat), .string x.text, .slice pp x.path.length cp, .slice pk x.kids.length ck, .slice pe x.els.length ce] 37))
      clear hBr hsn htl hx htk hok hp h5 hrk hre
      obtain ⟨v0, v1', v2', v3', v4'⟩ := Vl.five_of HV.out
      have HT2 := Lib.hid ((HT.out.below HX1.out).below ((Below.refl _ _).alloc (Nat.le_refl _) (.cells #[.int .u8 (x.kind : Nat), .string x.text, .slice pp x.path.length cp] 110)))
      have HX2 := Lib.hid ((Below.refl _ _).alloc (Nat.le_refl _) (.cells #[.int .u8 (x.kind : Nat), .string x.text, .slice pp x.path.length cp] 110) : Below (wr.alloc (.cells #[.int .u8 (x.kind : Nat), .string x.text, .slice pp x.path.length cp, .slice pk x.kids.length ck, .slice pe x.els.length ce] 37)).heap.size (wr.alloc (.cells #[.int .u8 (x.kind : Nat), .string x.text, .slice pp x.path.length cp, .slice pk x.kids.length ck, .slice pe x.els.length ce] 37)) _)
      have HV2 := Lib.hid (Vl.newAt (wr.alloc (.cells #[.int .u8 (x.kind : Nat), .string x.text, .slice pp x.path.length cp, .slice pk x.kids.length ck, .slice pe x.els.length ce] 37)) (.cells #[.int .u8 (x.kind : Nat), .string x.text, .slice pp x.path.length cp] 110) (wr.heap.size + 1) (by rw [World.size_alloc]))
      have HVb := Lib.hid ((Vl.past (wr.alloc (.cells #[.int .u8 (x.kind : Nat), .string x.text, .slice pp x.path.length cp, .slice pk x.kids.length ck, .slice pe x.els.length ce] 37)) (.cells #[.int .u8 (x.kind : Nat), .string x.text, .slice pp x.path.length cp] 110) wr.heap.size (by rw [World.size_alloc]; omega)).trans HV.out)
      have Hac := Lib.hid (show acc.length + ((Nd.toksL (l.take k)).length + _) ≤ 1000 from Nat.le_trans (Nat.add_le_add_left Htl.out _) Hlen.out)
      generalize hH : Nd.toksL (l.take k) = tk at *
      have Hne := Lib.hid (fun (j : Nat) (e : _ = some j) => (HT.out.lt j e).2)
      go_wp2_with (at_builtin; refine Nd.tokApp rfl _ _ rfl w0 B _ _ (wr.heap.size + 1) _ _ _ ⟨x.kind, x.text, x.path⟩ rfl rfl HT2.out HV2.out Htk.out ?t3 ?t4 ?_)
      case t3 => have := Hac.out; rw [List.length_append]; omega
      case t4 => simp only [World.size_alloc]; omega
      intro v2 w2 hT2 hg2
      have hbx := hg2.box HVb.out (fun e => by have := Hne.out _ e; omega)
      have HG2 := Lib.hid ((HG.out.trans ((Nd.Grew.of _ HX1.out).trans (Nd.Grew.of _ HX2.out))).trans hg2)
      have HTw2 := Lib.hid hT2
      have Hbx2 := Lib.hid hbx
      clear hT2 hg2 hbx v0 v1' v2' v3' v4' e0 e1 e2 e3 e4 HT2 HX1 HX2 HV HV2 HVb Hne
      obtain ⟨v0, v1', v2', v3', v4'⟩ := Vl.five_of Hbx2.out.1
      go_wp2_with fail
      refine (ndOpens_any _ _).mono ?_
      rintro e w2 ⟨rfl, rfl⟩
      cases hop : Nd.opens x.kind with
      | false =>
        have Hsn2 := Lib.hid (show Nd.toksL (l.take (k + 1)) = tk ++ [⟨x.kind, x.text, x.path⟩] by rw [Hsn.out, hop]; rfl)
        clear hop
        go_wp2_with fail
        exact ⟨⟨k + 1, by omega, by go_num, Lib.hid (by rw [Hsn2.out]; have := HTw2.out; (try simp only [List.append_assoc] at this); (try simp only [List.append_assoc]); exact this), HG2⟩, by simp [intOf]; omega⟩
      | true =>
        have hsn := Hsn.out
        have hac := Hac.out
        rw [hop, if_pos rfl] at hsn hac
        have Hsn2 := Lib.hid hsn
        have Hac2 := Lib.hid hac
        clear hop hsn hac Hsn Hac Htl
        generalize hne : x.els.length = ne at *
        have HNe := Lib.hid hne
        clear hne
        generalize x.kids.length = nk at *
        clear v0 v1' v2' v3' v4'
        have HCw3 := Lib.hid (C1.out w2 _ _ (HG2.out.below HT0.out hB0 HB.out) (by have := HG2.out.1.size; omega) HTw2.out (by have := Hac2.out; simp only [List.length_append, List.length_cons, List.length_nil] at this ⊢; omega))
        obtain ⟨v0, v1', v2', v3', v4'⟩ := Vl.five_of Hbx2.out.1
        go_wp2_with fail
        refine HCw3.out.mono ?_
        rintro e w3 ⟨v3, rfl, hTw3, hgw3⟩
        have Hbxw3 := Lib.hid (hgw3.box Hbx2.out.1 Hbx2.out.2)
        have HGw3 := Lib.hid (HG2.out.trans hgw3)
        have HTww3 := Lib.hid hTw3
        clear hTw3 hgw3 HCw3 v0 v1' v2' v3' v4'
        obtain ⟨v0, v1', v2', v3', v4'⟩ := Vl.five_of Hbxw3.out.1
        by_cases hz : ne = 0
        · have hz2 : ¬ (0 : Int) < (ne : Int) := by omega
          have Hsn3 := Lib.hid (show Nd.toksL (l.take (k + 1)) = tk ++ ⟨x.kind, x.text, x.path⟩ :: (Nd.toksL x.kids ++ [Nd.tEnd]) by
            rw [Hsn2.out, show x.els.isEmpty = true from List.isEmpty_iff.2 (List.length_eq_zero_iff.1 (HNe.out.trans hz))]; rfl)
          have Hac3 := Lib.hid (show acc.length + (tk.length + (1 + ((Nd.toksL x.kids).length + 1))) ≤ 1000 by have := Hac2.out; simp only [List.length_append, List.length_cons, List.length_nil] at this; omega)
          clear hz
          have HAw4 := Lib.hid ((Below.refl _ _).alloc (Nat.le_refl _) (.cells #[.int .u8 6, .string ⟨#[]⟩, .slice none 0 0] 110) : Below w3.heap.size w3 _)
          have HTw4 := Lib.hid (HTww3.out.below HAw4.out)
          have HVw4 := Lib.hid (Vl.new w3 (.cells #[.int .u8 6, .string ⟨#[]⟩, .slice none 0 0] 110))
          have HWw4 := Lib.hid (Vl.past w3 (.cells #[.int .u8 6, .string ⟨#[]⟩, .slice none 0 0] 110) wr.heap.size (Array.getElem?_eq_some_iff.1 Hbxw3.out.1).1 |>.trans Hbxw3.out.1)
          go_wp2_with (at_builtin; refine Nd.tokApp rfl _ _ rfl w0 B _ _ w3.heap.size _ _ _ Nd.tEnd rfl rfl HTw4.out HVw4.out (Nd.endAt _) ?w4t3 ?w4t4 ?_)
          case w4t3 => (have := Hac3.out; simp only [List.length_append, List.length_cons, List.length_nil]; omega)
          case w4t4 => rw [World.size_alloc]; have := HGw3.out.1.size; omega
          intro v4 w4 hTw4 hgw4
          have Hbxw4 := Lib.hid (hgw4.box HWw4.out Hbxw3.out.2)
          have HGw4 := Lib.hid ((HGw3.out.trans (Nd.Grew.of _ HAw4.out)).trans hgw4)
          have HTww4 := Lib.hid hTw4
          clear hTw4 hgw4 HAw4 HTw4 HVw4 HWw4
          go_wp2_with fail
          exact ⟨⟨k + 1, by omega, by go_num, Lib.hid (by rw [Hsn3.out]; have := HTww4.out; (try simp only [List.append_assoc, List.cons_append, List.nil_append] at this); (try simp only [List.append_assoc, List.cons_append, List.nil_append]); exact this), HGw4⟩, by simp [intOf]; omega⟩
        · have hz2 : (0 : Int) < (ne : Int) := by omega
          have Hsn3 := Lib.hid (show Nd.toksL (l.take (k + 1)) = tk ++ ⟨x.kind, x.text, x.path⟩ :: (Nd.toksL x.kids ++ (Nd.tElse :: (Nd.toksL x.els ++ [Nd.tEnd]))) by
            rw [Hsn2.out, show x.els.isEmpty = false from by cases hel : x.els with | nil => exact absurd (by rw [← HNe.out, hel]; rfl) hz | cons a b => rfl]; rfl)
          have Hac3 := Lib.hid (show acc.length + (tk.length + (1 + ((Nd.toksL x.kids).length + (1 + ((Nd.toksL x.els).length + 1))))) ≤ 1000 by
            have := Hac2.out
            rw [show x.els.isEmpty = false from by cases hel : x.els with | nil => exact absurd (by rw [← HNe.out, hel]; rfl) hz | cons a b => rfl] at this
            simp only [Bool.false_eq_true, if_false, List.length_append, List.length_cons, List.length_nil] at this
            omega)
          clear hz
          have HAw4 := Lib.hid ((Below.refl _ _).alloc (Nat.le_refl _) (.cells #[.int .u8 4, .string ⟨#[]⟩, .slice none 0 0] 110) : Below w3.heap.size w3 _)
          have HTw4 := Lib.hid (HTww3.out.below HAw4.out)
          have HVw4 := Lib.hid (Vl.new w3 (.cells #[.int .u8 4, .string ⟨#[]⟩, .slice none 0 0] 110))
          have HWw4 := Lib.hid (Vl.past w3 (.cells #[.int .u8 4, .string ⟨#[]⟩, .slice none 0 0] 110) wr.heap.size (Array.getElem?_eq_some_iff.1 Hbxw3.out.1).1 |>.trans Hbxw3.out.1)
          go_wp2_with (at_builtin; refine Nd.tokApp rfl _ _ rfl w0 B _ _ w3.heap.size _ _ _ Nd.tElse rfl rfl HTw4.out HVw4.out (Nd.elseAt _) ?w4t3 ?w4t4 ?_)
          case w4t3 => (have := Hac3.out; simp only [List.length_append, List.length_cons, List.length_nil]; omega)
          case w4t4 => rw [World.size_alloc]; have := HGw3.out.1.size; omega
          intro v4 w4 hTw4 hgw4
          have Hbxw4 := Lib.hid (hgw4.box HWw4.out Hbxw3.out.2)
          have HGw4 := Lib.hid ((HGw3.out.trans (Nd.Grew.of _ HAw4.out)).trans hgw4)
          have HTww4 := Lib.hid hTw4
          clear hTw4 hgw4 HAw4 HTw4 HVw4 HWw4
          clear v0 v1' v2' v3' v4'
          have HCw5 := Lib.hid (C2.out w4 _ _ (HGw4.out.below HT0.out hB0 HB.out) (by have := HGw4.out.1.size; omega) HTww4.out (by have := Hac3.out; simp only [List.length_append, List.length_cons, List.length_nil]; omega))
          obtain ⟨v0, v1', v2', v3', v4'⟩ := Vl.five_of Hbxw4.out.1
          go_wp2_with fail
          refine HCw5.out.mono ?_
          rintro e w5 ⟨v5, rfl, hTw5, hgw5⟩
          have Hbxw5 := Lib.hid (hgw5.box Hbxw4.out.1 Hbxw4.out.2)
          have HGw5 := Lib.hid (HGw4.out.trans hgw5)
          have HTww5 := Lib.hid hTw5
          clear hTw5 hgw5 HCw5 v0 v1' v2' v3' v4'
          obtain ⟨v0, v1', v2', v3', v4'⟩ := Vl.five_of Hbxw5.out.1
          have HAw6 := Lib.hid ((Below.refl _ _).alloc (Nat.le_refl _) (.cells #[.int .u8 6, .string ⟨#[]⟩, .slice none 0 0] 110) : Below w5.heap.size w5 _)
          have HTw6 := Lib.hid (HTww5.out.below HAw6.out)
          have HVw6 := Lib.hid (Vl.new w5 (.cells #[.int .u8 6, .string ⟨#[]⟩, .slice none 0 0] 110))
          have HWw6 := Lib.hid (Vl.past w5 (.cells #[.int .u8 6, .string ⟨#[]⟩, .slice none 0 0] 110) wr.heap.size (Array.getElem?_eq_some_iff.1 Hbxw5.out.1).1 |>.trans Hbxw5.out.1)
          go_wp2_with (at_builtin; refine Nd.tokApp rfl _ _ rfl w0 B _ _ w5.heap.size _ _ _ Nd.tEnd rfl rfl HTw6.out HVw6.out (Nd.endAt _) ?w6t3 ?w6t4 ?_)
          case w6t3 => (have := Hac3.out; simp only [List.length_append, List.length_cons, List.length_nil]; omega)
          case w6t4 => rw [World.size_alloc]; have := HGw5.out.1.size; omega
          intro v6 w6 hTw6 hgw6
          have Hbxw6 := Lib.hid (hgw6.box HWw6.out Hbxw5.out.2)
          have HGw6 := Lib.hid ((HGw5.out.trans (Nd.Grew.of _ HAw6.out)).trans hgw6)
          have HTww6 := Lib.hid hTw6
          clear hTw6 hgw6 HAw6 HTw6 HVw6 HWw6
          go_wp2_with fail
          exact ⟨⟨k + 1, by omega, by go_num, Lib.hid (by rw [Hsn3.out]; have := HTww6.out; (try simp only [List.append_assoc, List.cons_append, List.nil_append] at this); (try simp only [List.append_assoc, List.cons_append, List.nil_append]); exact this), HGw6⟩, by simp [intOf]; omega⟩
    · obtain rfl : k = n := by omega
      have HO1 := Lib.hid (show Nd.TRow w0 B wr _ out by have := HT.out; rwa [HN.out, List.take_length, ← HOut.out] at this)
      go_wp2_with fail
      go_ret
      exact ⟨_, rfl, HO1.out, HG.out⟩
theorem put_any : ∀ (d : Nat) (l : List Nd.N) (q : Option Addr) (c : Nat) (w0 : World) (B : Nat) (w : World) (v : Value) (acc : List Sc.T), Nd.okL d l = true → l.length ≤ 140737488351232 → Nd.Row w0 q l → w0.heap.size ≤ B → Below w0.heap.size w0 w → B ≤ w.heap.size →
    Nd.TRow w0 B w v acc → acc.length + (Nd.toksL l).length ≤ 1000 → Calls Tryz.prog 114 #[v, .slice q l.length c] w (Nd.PutPost w0 B v w (acc ++ Nd.toksL l))
  | 0, l, q, c, w0, B, w, v, acc, hd, hn, hA, hB0, hB, hBw, hT, hl => by
    rw [Nd.okL, List.isEmpty_iff] at hd
    subst hd
    exact put_step 0 [] q c w0 B w v acc (fun n h => by cases h) hn hA hB0 hB hBw hT hl (fun l' q' c' W u acc' h1 h2 h3 h4 h5 h6 h7 => by
      rw [Nd.okL, List.isEmpty_iff] at h1
      subst h1
      exact put_nil q' c' w0 B W u acc' h6)
  | d + 1, l, q, c, w0, B, w, v, acc, hd, hn, hA, hB0, hB, hBw, hT, hl => by
    rw [Nd.okL, List.all_eq_true] at hd
    refine put_step d l q c w0 B w v acc (fun n h => ?_) hn hA hB0 hB hBw hT hl (fun l' q' c' W u acc' h1 h2 h3 h4 h5 h6 h7 => put_any d l' q' c' w0 B W u acc' h1 h2 h3 hB0 h4 h5 h6 h7)
    have := hd n h
    rw [Bool.and_eq_true, Bool.and_eq_true] at this
    exact this.2
end Go.Proofs.YteiccjakaabfnaaGreatDoor
