/-
  What finding, putting and coding keep, as plain data. No condition but those that the theorems state.
  Contracts of value's calls that leave open how deep a value is. Condition: as the theorems state.
-/
import Derived.Test.YtckcbdnlligndaaDoorVlLives
namespace Go.Proofs.YtckcbdnlligndaaDoor

theorem Vl.Tab.below {w W : World} (h : Vl.Tab w) (hb : RowKit.Below w.heap.size w W) : Vl.Tab W := by
  unfold Vl.Tab Lib.TabIs World.var? at h ⊢
  obtain ⟨g, hg, h2⟩ := Option.bind_eq_some_iff.1 h
  rw [hg, Option.bind_some]
  split at h2
  · rename_i cs t fr hc
    rw [(hb.block g (Array.getElem?_eq_some_iff.1 hc).1).trans hc]
    exact h2
  · cases h2
namespace Vl
theorem okV_up : ∀ {l : Nat} {v : V}, okV l v = true → okV (l + 1) v = true
  | 0, _, h => by cases h
  | l + 1, v, h => by
    rw [okV, Bool.and_eq_true] at h
    rw [okV, Bool.and_eq_true]
    exact ⟨h.1, List.all_eq_true.2 fun y hy => okV_up (List.all_eq_true.1 h.2 y hy)⟩
theorem good_item {v x : V} (h : good v = true) (hx : x ∈ v.items) : good x = true := by
  unfold good at h ⊢
  rw [Bool.and_eq_true, decide_eq_true_eq] at h ⊢
  have h1 := h.1
  rw [okV, Bool.and_eq_true] at h1
  have hm := cntL_mem hx
  have hc := v.cnt_eq
  exact ⟨okV_up (List.all_eq_true.1 h1.2 x hx), by omega⟩
theorem find_good : ∀ {p : List ByteArray} {v x : V}, good v = true → find v p = some x → good x = true
  | [], v, x, h, e => by rw [find] at e; cases e; exact h
  | s :: p, v, x, h, e => by
    rw [find] at e
    split at e
    · cases e
    · split at e
      · cases e
      · rename_i i _ y hy
        exact find_good (good_item h (List.mem_of_getElem? hy)) e
theorem find_append : ∀ (a b : List ByteArray) (v : V), find v (a ++ b) = (find v a).bind (fun x => find x b)
  | [], b, v => by rw [List.nil_append, find]; rfl
  | s :: a, b, v => by
    rw [List.cons_append, find, find]
    split
    · rfl
    · split
      · rfl
      · exact find_append a b _
/-- A path finds what its rest finds in what its beginning finds. -/
theorem findR_append (v : V) (a b : List ByteArray) : findR v (a ++ b) = if (findR v a).2 = 0 then findR (findR v a).1 b else (zero, (findR v a).2) := by
  cases hg : good v with
  | false => rw [findR_bad hg, findR_bad hg]; rfl
  | true =>
    cases hf : find v a with
    | none =>
      rw [findR_none hg hf, findR_none (p := a ++ b) hg (by rw [find_append, hf]; rfl)]
      rfl
    | some x =>
      have hx := find_good hg hf
      rw [findR_some hg hf, if_pos rfl]
      cases hb : find x b with
      | none => rw [findR_none (p := a ++ b) hg (by rw [find_append, hf]; exact hb), findR_none hx hb]
      | some y => rw [findR_some (p := a ++ b) hg (by rw [find_append, hf]; exact hb), findR_some hx hb]
/-- What a name finds. -/
def look (ns : List ByteArray) (is : List V) (o : ByteArray) : Option V := (idx ns o).bind fun i => is[i]?
theorem find_one (v : V) (o : ByteArray) : find v [o] = look v.names v.items o := by
  rw [find]
  unfold look
  cases idx v.names o with
  | none => rfl
  | some i =>
    show (match v.items[i]? with | none => none | some x => find x []) = v.items[i]?
    cases v.items[i]? with
    | none => rfl
    | some x =>
      show find x [] = some x
      rw [find]
theorem look_ins : ∀ (a b : List ByteArray) (c d : List V) (s o : ByteArray) (x : V), a.length = c.length → o ≠ s → look (a ++ s :: b) (c ++ x :: d) o = look (a ++ b) (c ++ d) o
  | [], b, [], d, s, o, x, _, h => by
    unfold look
    rw [List.nil_append, List.nil_append, List.nil_append, List.nil_append, idx, if_neg (fun e => h e.symm)]
    cases idx b o <;> rfl
  | n :: a, b, y :: c, d, s, o, x, hl, h => by
    have ih := look_ins a b c d s o x (by simpa using hl) h
    unfold look at ih ⊢
    rw [List.cons_append, List.cons_append, List.cons_append, List.cons_append, idx, idx]
    by_cases hn : n = o
    · rw [if_pos hn, if_pos hn]; rfl
    · rw [if_neg hn, if_neg hn]
      cases h1 : idx (a ++ s :: b) o <;> cases h2 : idx (a ++ b) o <;> rw [h1, h2] at ih <;> simp at ih ⊢ <;> exact ih
  | [], _, _ :: _, _, _, _, _, hl, _ => by simp at hl
  | _ :: _, _, [], _, _, _, _, hl, _ => by simp at hl
theorem idx_get : ∀ {ns : List ByteArray} {o : ByteArray} {i : Nat}, idx ns o = some i → ns[i]? = some o
  | [], _, _, h => by cases h
  | n :: ns, o, i, h => by
    rw [idx] at h
    split at h
    · rename_i hn; cases h; rw [hn]; rfl
    · cases hi : idx ns o with
      | none => rw [hi] at h; cases h
      | some j =>
        rw [hi] at h
        cases h
        show ns[j]? = some o
        exact idx_get hi
theorem look_set {ns : List ByteArray} {is : List V} {k : Nat} {s o : ByteArray} {x : V} (hk : ns[k]? = some s) (h : o ≠ s) : look ns (is.set k x) o = look ns is o := by
  unfold look
  cases hi : idx ns o with
  | none => rfl
  | some i =>
    show (is.set k x)[i]? = is[i]?
    rw [List.getElem?_set_ne]
    intro e
    subst e
    have := idx_get hi
    rw [hk] at this
    exact h (Option.some.inj this).symm
theorem idx_at {ns : List ByteArray} {s : ByteArray} {k : Nat} (h1 : ∀ t (h : t < ns.length), t < k → ns[t] ≠ s) (h2 : ns[k]? = some s) : idx ns s = some k := by
  obtain ⟨hk, he⟩ := List.getElem?_eq_some_iff.1 h2
  exact idxI_some hk (fun j hj hjk e => h1 j hj hjk e.symm) he.symm
theorem lt_ne {a b : ByteArray} (h : ltB a b = true) : a ≠ b := fun e => by
  subst e
  have := bl_irrefl a.toList
  unfold ltB at h
  rw [this] at h
  cases h
/-- What was put in with a name. -/
theorem with_facts {v : V} {s : ByteArray} {x : V} (hn : namesOk v.names = true) (hl : v.names.length = v.items.length) :
    find (withV v s x) [s] = some x ∧ (∀ o, o ≠ s → find (withV v s x) [o] = find v [o]) ∧ withV (withV v s x) s x = withV v s x ∧ (withV v s x).kind = v.kind ∧ 0 < (withV v s x).items.length := by
  have hle := posN_le s v.names
  have hsp := posN_spec s hn
  cases hat : hasAt v.names (posN s v.names) s with
  | true =>
    obtain ⟨hk, he⟩ := hasAt_eq hat
    have hW : withV v s x = .mk v.kind v.text v.num (v.items.set (posN s v.names) x) v.names := by unfold withV; rw [if_pos hat]
    have hk2 : v.names[posN s v.names]? = some s := by rw [List.getElem?_eq_getElem hk, he]
    rw [hW]
    refine ⟨?_, fun o ho => ?_, ?_, rfl, ?_⟩
    · rw [find_one]
      show look v.names (v.items.set _ x) s = some x
      unfold look
      rw [idx_at (k := posN s v.names) (fun t h ht => lt_ne (by rw [hsp t h, decide_eq_true ht])) hk2]
      show (v.items.set _ x)[_]? = some x
      rw [List.getElem?_set_self (by omega)]
    · rw [find_one, find_one]
      exact look_set hk2 ho
    · have e : withV (.mk v.kind v.text v.num (v.items.set (posN s v.names) x) v.names) s x = if hasAt v.names (posN s v.names) s then .mk v.kind v.text v.num ((v.items.set (posN s v.names) x).set (posN s v.names) x) v.names else _ := rfl
      rw [e, if_pos hat, List.set_set]
    · show 0 < (v.items.set _ x).length
      rw [List.length_set]; omega
  | false =>
    have hW : withV v s x = .mk v.kind v.text v.num (v.items.take (posN s v.names) ++ x :: v.items.drop (posN s v.names)) (v.names.take (posN s v.names) ++ s :: v.names.drop (posN s v.names)) := by unfold withV; rw [if_neg (by rw [hat]; simp)]
    have hlt : (v.names.take (posN s v.names)).length = posN s v.names := by rw [List.length_take]; omega
    have hlt2 : (v.items.take (posN s v.names)).length = posN s v.names := by rw [List.length_take]; omega
    have hk2 : (v.names.take (posN s v.names) ++ s :: v.names.drop (posN s v.names))[posN s v.names]? = some s := by
      rw [List.getElem?_append_right (by omega), hlt, Nat.sub_self]; rfl
    have hbelow : ∀ t (h : t < (v.names.take (posN s v.names) ++ s :: v.names.drop (posN s v.names)).length), t < posN s v.names → ltB (v.names.take (posN s v.names) ++ s :: v.names.drop (posN s v.names))[t] s = true := fun t h ht => by
      rw [List.getElem_append_left (by omega), List.getElem_take, hsp t (by omega), decide_eq_true ht]
    have hpos : posN s (v.names.take (posN s v.names) ++ s :: v.names.drop (posN s v.names)) = posN s v.names := by
      have key : ∀ (a b : List ByteArray), (∀ n ∈ a, ltB n s = true) → posN s (a ++ s :: b) = a.length := by
        intro a b
        induction a with
        | nil =>
          intro _
          rw [List.nil_append, posN]
          have : ltB s s = false := bl_irrefl s.toList
          rw [this]
          rfl
        | cons n a ih =>
          intro ha
          rw [List.cons_append, posN, ha n (by simp), if_pos rfl, ih (fun m hm => ha m (by simp [hm])), List.length_cons]
      rw [key _ _ (fun n hn => by
        obtain ⟨j, hj, rfl⟩ := List.getElem_of_mem hn
        rw [List.getElem_take, hsp j (by omega), decide_eq_true (by omega)]), hlt]
    rw [hW]
    refine ⟨?_, fun o ho => ?_, ?_, rfl, ?_⟩
    · rw [find_one]
      show look (v.names.take (posN s v.names) ++ s :: v.names.drop (posN s v.names)) (v.items.take (posN s v.names) ++ x :: v.items.drop (posN s v.names)) s = some x
      unfold look
      rw [idx_at (k := posN s v.names) (fun t h ht => lt_ne (hbelow t h ht)) hk2]
      show (v.items.take (posN s v.names) ++ x :: v.items.drop (posN s v.names))[_]? = some x
      rw [List.getElem?_append_right (by omega), hlt2, Nat.sub_self]
      rfl
    · rw [find_one, find_one]
      have := look_ins (v.names.take (posN s v.names)) (v.names.drop (posN s v.names)) (v.items.take (posN s v.names)) (v.items.drop (posN s v.names)) s o x (by omega) ho
      rw [List.take_append_drop, List.take_append_drop] at this
      exact this
    · have hat2 : hasAt (v.names.take (posN s v.names) ++ s :: v.names.drop (posN s v.names)) (posN s v.names) s = true := by
        unfold hasAt
        rw [hk2]
        exact decide_eq_true rfl
      have e : withV (.mk v.kind v.text v.num (v.items.take (posN s v.names) ++ x :: v.items.drop (posN s v.names)) (v.names.take (posN s v.names) ++ s :: v.names.drop (posN s v.names))) s x =
          if hasAt (v.names.take (posN s v.names) ++ s :: v.names.drop (posN s v.names)) (posN s (v.names.take (posN s v.names) ++ s :: v.names.drop (posN s v.names))) s then .mk v.kind v.text v.num ((v.items.take (posN s v.names) ++ x :: v.items.drop (posN s v.names)).set (posN s (v.names.take (posN s v.names) ++ s :: v.names.drop (posN s v.names))) x) (v.names.take (posN s v.names) ++ s :: v.names.drop (posN s v.names)) else _ := rfl
      rw [e, hpos, if_pos hat2]
      congr 1
      rw [List.set_append_right _ _ (by omega), hlt2, Nat.sub_self]
      rfl
    · show 0 < (v.items.take _ ++ x :: v.items.drop _).length
      rw [List.length_append, List.length_cons]; omega
end Vl
end Go.Proofs.YtckcbdnlligndaaDoor
namespace Go.Proofs.YtckcbdnlligndaaDoor
open Go.RowKit

/-- A value reads so, of some depth. -/
def Vl.AtE (w : World) (v : Value) (x : Vl.V) : Prop := ∃ d, Vl.At d w v x
theorem Vl.AtE.below {w w' : World} {v : Value} {x : Vl.V} (h : Vl.AtE w v x) (hb : Below w.heap.size w w') : Vl.AtE w' v x := by
  obtain ⟨d, h⟩ := h
  exact ⟨d, h.below hb⟩
theorem Vl.AtE.shape {w : World} {v : Value} {x : Vl.V} (h : Vl.AtE w v x) : ∃ (k : Nat) (t : ByteArray) (i : Int) (pi : Option Addr) (ni ci : Nat) (pn : Option Addr) (nn cn : Nat), v = .agg #[.int .u8 k, .string t, .int .i64 i, .slice pi ni ci, .slice pn nn cn] := by
  obtain ⟨d, h⟩ := h
  exact h.shape
theorem Vl.AtE.zero (w : World) : Vl.AtE w (.agg #[.int .u8 0, .string ⟨#[]⟩, .int .i64 0, .slice none 0 0, .slice none 0 0]) Vl.zero := ⟨1, Vl.At.zero 0 w⟩
/-- A value that a call hands back. -/
def Vl.RE (x : Vl.V) (rest : List Value) (w : World) (e : Ending) (w' : World) : Prop := ∃ (k : Nat) (t : ByteArray) (i : Int) (pi : Option Addr) (ni ci : Nat) (pn : Option Addr) (nn cn : Nat), e = .returned (.tuple (List.toArray (.agg #[.int .u8 k, .string t, .int .i64 i, .slice pi ni ci, .slice pn nn cn] :: rest))) ∧ Vl.AtE w' (.agg #[.int .u8 k, .string t, .int .i64 i, .slice pi ni ci, .slice pn nn cn]) x ∧ Below w.heap.size w w'
theorem Vl.re_of {d : Nat} {x : Vl.V} {u : Value} {rest : List Value} {w w' : World} (h : Vl.At (d + 1) w' u x) (hb : Below w.heap.size w w') : Vl.RE x rest w (.returned (.tuple (List.toArray (u :: rest)))) w' := by
  obtain ⟨pi, ci, pn, cn, rfl, h2⟩ := h
  exact ⟨_, _, _, _, _, _, _, _, _, rfl, ⟨d + 1, pi, ci, pn, cn, rfl, h2⟩, hb⟩
theorem Vl.with_ofE {V X U : Vl.V} {c : Int} {v x : Value} {s : ByteArray} {W : World} (hs : s.size ≤ 140737488351232) (hv : Vl.AtE W v V) (hx : Vl.AtE W x X) (h : Vl.withR V s X = (U, c)) :
    Calls Tryd.prog 14 #[v, .string s, x] W (Vl.RE U [.int .i64 c] W) := by
  obtain ⟨d, hv⟩ := hv
  obtain ⟨e, hx⟩ := hx
  refine (vlWith_any (max d e) V X v x s W hs (hv.le (by omega)) (hx.le (by omega))).mono ?_
  rintro q W' ⟨u, rfl, h1, h2⟩
  rw [h] at h1 ⊢
  exact Vl.re_of h1 h2
theorem Vl.find_ofE {V U : Vl.V} {c : Int} {v : Value} {l : List ByteArray} {p : Option Addr} {cap : Nat} {W : World} (hl : l.length ≤ 140737488351232) (hv : Vl.AtE W v V) (hp : Wp.At Wp.mkT W p l) (h : Vl.findR V l = (U, c)) :
    Calls Tryd.prog 30 #[v, .slice p l.length cap] W (Vl.RE U [.int .i64 c] W) := by
  obtain ⟨d, hv⟩ := hv
  refine (vlFind_any d V v W hv.succ p cap l hl hp).mono ?_
  rintro q W' ⟨u, rfl, h1, h2⟩
  rw [h] at h1 ⊢
  exact Vl.re_of h1 h2
theorem Vl.same_ofE {x : Vl.V} {u v : Value} {W : World} (hu : Vl.AtE W u x) (hv : Vl.AtE W v x) : Calls Tryd.prog 17 #[u, v] W fun e w' => e = .returned (.bool true) ∧ Below W.heap.size W w' := by
  obtain ⟨d, hu⟩ := hu
  obtain ⟨e, hv⟩ := hv
  exact vlSame_any (max d e) x u v W (hu.le (by omega)) (hv.le (by omega))
theorem Vl.holds_ofE {V : Vl.V} {b : Bool} {c : Int} {v : Value} {W : World} (hv : Vl.AtE W v V) (h : Vl.holdsR V = (b, c)) : Calls Tryd.prog 45 #[v] W fun e w' => e = .returned (.tuple #[.bool b, .int .i64 c]) ∧ Below W.heap.size W w' := by
  obtain ⟨d, hv⟩ := hv
  have := vlHolds_any d V v W hv
  rw [h] at this
  exact this
end Go.Proofs.YtckcbdnlligndaaDoor
