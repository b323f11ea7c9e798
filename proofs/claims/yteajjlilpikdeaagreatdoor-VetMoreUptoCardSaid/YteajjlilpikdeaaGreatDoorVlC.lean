/-
  The walks of value's copyEach: texts, and values, copied into memory of their own. Conditions: at most 100000 of them; each call of the function that copies hands back what it was given, in new memory.
  The walks of value's copyEach at values, and of copied: a value in memory of its own. Conditions: a value's texts and lists are of a size that a machine holds; at most 100000 items and names.
-/
import Derived.Test.YteajjlilpikdeaaGreatDoorVlKit
import Derived.Test.YteajjlilpikdeaaGreatDoorShelf
import Derived.Maps.AppendAt
import Derived.OwnWalk
import Derived.Test.YteajjlilpikdeaaGreatDoorVlR
import Derived.Deep.LoopGhost
namespace Go.Proofs.YteajjlilpikdeaaGreatDoor
open Go.RowKit

theorem vlClone_any (s : ByteArray) (w : World) (hs : s.size ≤ 281474976710656) :
    Calls Tryz.prog 52 #[.string s] w fun e w' => e = .returned (.string s) ∧ Below w.heap.size w w' := by
  go_enter Tryz.func52, Tryz.ntmps52
  go_wp2_with fail
  refine (Tryz.stringslite_Clone s w hs).mono ?_
  rintro e w' ⟨rfl, hb⟩
  go_wp2_with fail
  go_ret
  exact ⟨rfl, hb⟩
theorem Vl.infoText : ∃ i, Tryz.prog.info? 9 = some i ∧ i.zero = some (.string ⟨#[]⟩) ∧ i.size = 1 ∧ i.bytes = 16 := info_parts (by kernel_rfl)
/-- append onto a row of the call's own: and where the row lies then. -/
theorem Vl.listApp {P : Program} (w : World) {ops : Array Oper} {rest : List Oper} {o : Oper} {a : Act} {Q : Exit → Act → World → Prop} (hgd : o.guard = none) (s x : Operand) (t : TypeId)
    (ho : o.op = .call { callee := .builtin .append, args := #[s, x], argTypes := #[t, t] })
    (base : Nat) (e : TypeId) (i : TypeInfo) (z : Value) (size bytes : Nat) (ht : P.underlying t = some (.slice e)) (hi : P.info? e = some i) (hz : i.zero = some z)
    (hsize : i.size = size) (hby : i.bytes = bytes) (hzs : z.cells.size = size) (hsz : 0 < size)
    (v : Value) (n : Nat) (xs : List Value) (hs : a.eval s = v) (hown : w.ownsRow base e size v n xs)
    (ad : Addr) (m c : Nat) (news : List Value) (hx : a.eval x = .slice (some ad) m c) (hl : news.length = m * size) (hnews : ∀ j u, news[j]? = some u → w.cell? (ad.add j) = some u) (h1 : ∀ u ∈ news, u.oneCell' = true)
    (h63 : n + m ≤ maxLen) (hbytes : (n + m) * bytes ≤ 140737488355328) (hbase : base ≤ w.heap.size)
    (h : ∀ v' w', w'.ownsRow base e size v' (n + m) (xs ++ news) → w.grownBy w' v.ownBlock → (v'.ownBlock = v.ownBlock ∨ v'.ownBlock = some w.heap.size) → wpList P ops Q rest (a.put o.dst v') w') : wpList P ops Q (o :: rest) a w := by
  refine wpList_plain hgd fun K hK => ?_
  obtain ⟨v', w', hr, h2, h3, _, h5⟩ := run_append_own_at (P := P) w base t o.type e i z size bytes ht hi hz hsize hby hzs hsz v n xs hown ad m c news hl hnews h1 h63 hbytes hbase
  unfold Oper.wp
  simp [execOp, ho, resolve, invoke, builtin, hs, hx, hr, Result.andThen]
  exact hK _ _ (h v' w' h2 h3 h5)
end Go.Proofs.YteajjlilpikdeaaGreatDoor
namespace Go.Proofs.YteajjlilpikdeaaGreatDoor
open Go.RowKit

/-- What is read off blocks of the call's own alone, but for one. -/
def Vl.Off (d B : Nat) (W : World) (blk : Option Nat) (u : Value) (y : Vl.V) : Prop := ∀ W' : World, (∀ j, B ≤ j → j < W.heap.size → some j ≠ blk → W'.heap[j]? = W.heap[j]?) → Vl.At d W' u y
theorem Vl.Off.at {d B : Nat} {W : World} {blk : Option Nat} {u : Value} {y : Vl.V} (h : Vl.Off d B W blk u y) : Vl.At d W u y := h W (fun _ _ _ _ => rfl)
/-- Within a deep value: not too many. -/
def Vl.few : Nat → Vl.V → Prop
  | 0, _ => True
  | d + 1, x => x.items.length ≤ 100000 ∧ x.names.length ≤ 100000 ∧ ∀ y ∈ x.items, Vl.few d y
theorem Vl.At.shape {d : Nat} {w : World} {u : Value} {y : Vl.V} (h : Vl.At d w u y) : ∃ (k : Nat) (t : ByteArray) (i : Int) (pi : Option Addr) (ni ci : Nat) (pn : Option Addr) (nn cn : Nat), u = .agg #[.int .u8 k, .string t, .int .i64 i, .slice pi ni ci, .slice pn nn cn] := by
  cases d with
  | zero => exact h.elim
  | succ d =>
    obtain ⟨pi, ci, pn, cn, rfl, _⟩ := h
    exact ⟨_, _, _, _, _, _, _, _, _, rfl⟩
theorem below_grown5 {w w' w0 : World} {base : Nat} {e : TypeId} {size : Nat} {v : Value} {n : Nat} {xs : List Value} (hb : Below w0.heap.size w0 w) (ho : w.ownsRow base e size v n xs) (hbase : w0.heap.size ≤ base) (hg : w.grownBy w' v.ownBlock) : Below w0.heap.size w0 w' :=
  hb.grown hg hb.size (fun k hk => Nat.le_trans hbase (ho.lt k hk).1)
theorem Vl.RowIs.mono {W : World} {p : Option Addr} {n : Nat} {G G' : Nat → Value → Prop} (h : Vl.RowIs W p n G) (hG : ∀ i v, G i v → G' i v) : Vl.RowIs W p n G' := fun i hi => by
  obtain ⟨b, off, c0, c1, c2, c3, c4, e, h5, hg⟩ := h i hi
  exact ⟨b, off, c0, c1, c2, c3, c4, e, h5, hG i _ hg⟩
/-- What copying a value hands back. -/
def Vl.Copied (d : Nat) (y : Vl.V) (w : World) (e : Ending) (w' : World) : Prop := ∃ u, e = .returned u ∧ Vl.Off d w.heap.size w' none u y ∧ Below w.heap.size w w'
/-- Items that read as values. -/
def Vl.Its (d : Nat) (W : World) (p : Option Addr) (l : List Vl.V) : Prop :=
  l = [] ∨ ∃ b off, p = some ⟨b, off, none⟩ ∧ ∀ i (h : i < l.length), ∃ c0 c1 c2 c3 c4, Vl.Five W b (off + i * 5) c0 c1 c2 c3 c4 ∧ Vl.At d W (.agg #[c0, c1, c2, c3, c4]) l[i]
theorem Vl.texts_off {B : Nat} {W : World} {v : Value} {n : Nat} {l : List ByteArray} (h : W.ownsRow B 9 1 v n (l.map Wp.mkT)) : ∃ p c, v = .slice p n c ∧ ∀ W' : World, (∀ j, B ≤ j → j < W.heap.size → W'.heap[j]? = W.heap[j]?) → Wp.At Wp.mkT W' p l := by
  obtain rfl : n = l.length := by have := h.1; rw [List.length_map, Nat.mul_one] at this; exact this.symm
  obtain ⟨p, c, rfl, ha⟩ := owns_at h
  refine ⟨p, c, rfl, fun W' hW => ?_⟩
  rcases h.2 with ⟨hv, h0⟩ | ⟨g, cap, cur, hv, hg, hc, hn, hm, hcs, ht⟩
  · exact Or.inl (List.length_eq_zero_iff.1 h0)
  · rcases ha with ha | ⟨b, off, hp, hcell⟩
    · exact Or.inl ha
    · cases hv
      cases hp
      exact Or.inr ⟨g, 0, rfl, fun i hi => (World.cell?_of_block (hW g hg (Array.getElem?_eq_some_iff.1 hc).1)).trans (hcell i hi)⟩
end Go.Proofs.YteajjlilpikdeaaGreatDoor
