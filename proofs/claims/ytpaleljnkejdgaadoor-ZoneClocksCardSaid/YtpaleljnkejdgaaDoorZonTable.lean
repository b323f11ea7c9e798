/-
  The table of the zones that have names: its cells, out of what the row lists of it. No condition but those that the theorems state.
-/
import Derived.Test.YtpaleljnkejdgaaDoorOpenZone
import Derived.LaidLaws
import Derived.Lib.LaidTab
namespace Go.Proofs.YtpaleljnkejdgaaDoor
open Go.Joins Go.ChangeShapes Go.WideShapes Go.RowKit Go.Deep

/-- The names, and their zones, in the table's order. -/
def Zt.nm : Nat → ByteArray
  | 0 => ⟨#[85, 84, 67]⟩
  | 1 => ⟨#[69, 117, 114, 111, 112, 101, 47, 76, 111, 110, 100, 111, 110]⟩
  | 2 => ⟨#[69, 117, 114, 111, 112, 101, 47, 66, 101, 114, 108, 105, 110]⟩
  | 3 => ⟨#[65, 109, 101, 114, 105, 99, 97, 47, 78, 101, 119, 95, 89, 111, 114, 107]⟩
  | 4 => ⟨#[65, 109, 101, 114, 105, 99, 97, 47, 76, 111, 115, 95, 65, 110, 103, 101, 108, 101, 115]⟩
  | 5 => ⟨#[65, 115, 105, 97, 47, 75, 111, 108, 107, 97, 116, 97]⟩
  | 6 => ⟨#[65, 115, 105, 97, 47, 84, 111, 107, 121, 111]⟩
  | 7 => ⟨#[65, 117, 115, 116, 114, 97, 108, 105, 97, 47, 83, 121, 100, 110, 101, 121]⟩
  | _ => ⟨#[]⟩
def Zt.zn : Nat → Wp.Zn
  | 0 => ⟨0, 0, ⟨0, 0, 0, 0⟩, ⟨0, 0, 0, 0⟩⟩
  | 1 => ⟨0, 60, ⟨3, 5, 0, 60⟩, ⟨10, 5, 0, 120⟩⟩
  | 2 => ⟨60, 60, ⟨3, 5, 0, 120⟩, ⟨10, 5, 0, 180⟩⟩
  | 3 => ⟨(-300), 60, ⟨3, 2, 0, 120⟩, ⟨11, 1, 0, 120⟩⟩
  | 4 => ⟨(-480), 60, ⟨3, 2, 0, 120⟩, ⟨11, 1, 0, 120⟩⟩
  | 5 => ⟨330, 0, ⟨0, 0, 0, 0⟩, ⟨0, 0, 0, 0⟩⟩
  | 6 => ⟨540, 0, ⟨0, 0, 0, 0⟩, ⟨0, 0, 0, 0⟩⟩
  | 7 => ⟨600, 60, ⟨10, 1, 0, 120⟩, ⟨4, 1, 0, 180⟩⟩
  | _ => Wp.Zn.zero
def Zt.row (i : Nat) : List Value := .string (Zt.nm i) :: (Wp.zoneC (Zt.zn i)).toList
def Zt.all : Array Value := #[.string ⟨#[85, 84, 67]⟩, .int .i64 0, .int .i64 0, .int .i64 0, .int .i64 0, .int .i64 0, .int .i64 0, .int .i64 0, .int .i64 0, .int .i64 0, .int .i64 0,
  .string ⟨#[69, 117, 114, 111, 112, 101, 47, 76, 111, 110, 100, 111, 110]⟩, .int .i64 0, .int .i64 60, .int .i64 3, .int .i64 5, .int .i64 0, .int .i64 60, .int .i64 10, .int .i64 5, .int .i64 0, .int .i64 120,
  .string ⟨#[69, 117, 114, 111, 112, 101, 47, 66, 101, 114, 108, 105, 110]⟩, .int .i64 60, .int .i64 60, .int .i64 3, .int .i64 5, .int .i64 0, .int .i64 120, .int .i64 10, .int .i64 5, .int .i64 0, .int .i64 180,
  .string ⟨#[65, 109, 101, 114, 105, 99, 97, 47, 78, 101, 119, 95, 89, 111, 114, 107]⟩, .int .i64 (-300), .int .i64 60, .int .i64 3, .int .i64 2, .int .i64 0, .int .i64 120, .int .i64 11, .int .i64 1, .int .i64 0, .int .i64 120,
  .string ⟨#[65, 109, 101, 114, 105, 99, 97, 47, 76, 111, 115, 95, 65, 110, 103, 101, 108, 101, 115]⟩, .int .i64 (-480), .int .i64 60, .int .i64 3, .int .i64 2, .int .i64 0, .int .i64 120, .int .i64 11, .int .i64 1, .int .i64 0, .int .i64 120,
  .string ⟨#[65, 115, 105, 97, 47, 75, 111, 108, 107, 97, 116, 97]⟩, .int .i64 330, .int .i64 0, .int .i64 0, .int .i64 0, .int .i64 0, .int .i64 0, .int .i64 0, .int .i64 0, .int .i64 0, .int .i64 0,
  .string ⟨#[65, 115, 105, 97, 47, 84, 111, 107, 121, 111]⟩, .int .i64 540, .int .i64 0, .int .i64 0, .int .i64 0, .int .i64 0, .int .i64 0, .int .i64 0, .int .i64 0, .int .i64 0, .int .i64 0,
  .string ⟨#[65, 117, 115, 116, 114, 97, 108, 105, 97, 47, 83, 121, 100, 110, 101, 121]⟩, .int .i64 600, .int .i64 60, .int .i64 10, .int .i64 1, .int .i64 0, .int .i64 120, .int .i64 4, .int .i64 1, .int .i64 0, .int .i64 180]
theorem Zt.all_rows : Zt.all.toList = Zt.row 0 ++ Zt.row 1 ++ Zt.row 2 ++ Zt.row 3 ++ Zt.row 4 ++ Zt.row 5 ++ Zt.row 6 ++ Zt.row 7 := by rfl

section
variable {H : Type} {enc : TypeId × Value → H} {W : World} {base : Nat} {sp : Nat → Bool} {hd : Bool} {n : Nat}
theorem Zt.intc {c : List Value} {z : Int} {p : List MemPlace} (h : DataW.trod enc Tryd.prog W base sp hd n 3 c = some (.lit (.int .i64 z), p)) : c = [.int .i64 z] := by
  obtain ⟨y, hy, hx, _⟩ := DataW.trod_int Tryd.underlying3 h
  simp only [Prod.mk.injEq, DataW.lit.injEq, Lit.int.injEq, true_and] at hx
  rw [hy, hx.1]
theorem Zt.strc {c : List Value} {l : List UInt8} {p : List MemPlace} (h : DataW.trod enc Tryd.prog W base sp hd n 9 c = some (.lit (.string l), p)) : c = [.string ⟨l.toArray⟩] := by
  obtain ⟨s, hy, hx, _⟩ := DataW.trod_string Tryd.underlying9 h
  simp only [Prod.mk.injEq, DataW.lit.injEq, Lit.string.injEq] at hx
  rw [hy, hx.1]
theorem Zt.fst_get {xs : List (DataW H × List MemPlace)} {l : List (DataW H)} (h : xs.map (·.1) = l) (i : Nat) {d : DataW H} (hd : l[i]? = some d) : ∃ p, xs[i]? = some (d, p) := by
  rw [← h, List.getElem?_map] at hd
  obtain ⟨x, hx, rfl⟩ := Option.map_eq_some_iff.1 hd
  exact ⟨x.2, hx⟩
theorem Zt.at_ (c : List Value) (o k : Nat) (l : List Value) (h : (c.drop o).take k = l) (i : Nat) (hi : i < k) : c[o + i]? = l[i]? := by
  rw [← h, List.getElem?_take_of_lt hi, List.getElem?_drop]
set_option maxRecDepth 100000 in
theorem Zt.swc {c : List Value} {s : Wp.Sw} {p : List MemPlace} (h : DataW.trod enc Tryd.prog W base sp hd n 46 c = some (.agg [.lit (.int .i64 s.mo), .lit (.int .i64 s.nth), .lit (.int .i64 s.wd), .lit (.int .i64 s.mi)], p)) : c = (Wp.swC s).toList := by
  obtain ⟨xs, m, _, hx, hlen, _, hg⟩ := DataW.trod_struct Tryd.underlying46 h
  have h1 : Tryd.prog.cellsOf 3 = 1 := by kernel_rfl
  have hl : c.length = 4 := hlen.trans (by kernel_rfl)
  simp only [Prod.mk.injEq, DataW.agg.injEq] at hx
  have hm := hx.1.symm
  obtain ⟨p0, e0⟩ := Zt.fst_get hm 0 rfl
  obtain ⟨p1, e1⟩ := Zt.fst_get hm 1 rfl
  obtain ⟨p2, e2⟩ := Zt.fst_get hm 2 rfl
  obtain ⟨p3, e3⟩ := Zt.fst_get hm 3 rfl
  have g0 : DataW.trod enc Tryd.prog W base sp hd m 3 ((c.drop 0).take (Tryd.prog.cellsOf 3)) = xs[0]? := hg 0 _ rfl
  have g1 : DataW.trod enc Tryd.prog W base sp hd m 3 ((c.drop 1).take (Tryd.prog.cellsOf 3)) = xs[1]? := hg 1 _ rfl
  have g2 : DataW.trod enc Tryd.prog W base sp hd m 3 ((c.drop 2).take (Tryd.prog.cellsOf 3)) = xs[2]? := hg 2 _ rfl
  have g3 : DataW.trod enc Tryd.prog W base sp hd m 3 ((c.drop 3).take (Tryd.prog.cellsOf 3)) = xs[3]? := hg 3 _ rfl
  rw [h1] at g0 g1 g2 g3
  have c0 := Zt.at_ _ _ _ _ (Zt.intc (g0.trans e0)) 0 (by omega)
  have c1 := Zt.at_ _ _ _ _ (Zt.intc (g1.trans e1)) 0 (by omega)
  have c2 := Zt.at_ _ _ _ _ (Zt.intc (g2.trans e2)) 0 (by omega)
  have c3 := Zt.at_ _ _ _ _ (Zt.intc (g3.trans e3)) 0 (by omega)
  apply List.ext_getElem?
  intro i
  match i with
  | 0 => exact c0
  | 1 => exact c1
  | 2 => exact c2
  | 3 => exact c3
  | i + 4 => rw [List.getElem?_eq_none (by omega), List.getElem?_eq_none (by simp [Wp.swC])]
def Zt.swD (s : Wp.Sw) : DataW H := .agg [.lit (.int .i64 s.mo), .lit (.int .i64 s.nth), .lit (.int .i64 s.wd), .lit (.int .i64 s.mi)]
def Zt.znD (z : Wp.Zn) : DataW H := .agg [.lit (.int .i64 z.base), .lit (.int .i64 z.save), Zt.swD z.fr, Zt.swD z.to]
def Zt.rowD (i : Nat) : DataW H := .agg [.lit (.string (Zt.nm i).data.toList), Zt.znD (Zt.zn i)]
set_option maxRecDepth 100000 in
theorem Zt.znc {c : List Value} {z : Wp.Zn} {p : List MemPlace} (h : DataW.trod enc Tryd.prog W base sp hd n 48 c = some (Zt.znD z, p)) : c = (Wp.zoneC z).toList := by
  obtain ⟨xs, m, _, hx, hlen, _, hg⟩ := DataW.trod_struct Tryd.underlying48 h
  have h1 : Tryd.prog.cellsOf 3 = 1 := by kernel_rfl
  have h4 : Tryd.prog.cellsOf 46 = 4 := by kernel_rfl
  have hl : c.length = 10 := hlen.trans (by kernel_rfl)
  unfold Zt.znD at hx
  simp only [Prod.mk.injEq, DataW.agg.injEq] at hx
  have hm := hx.1.symm
  obtain ⟨p0, e0⟩ := Zt.fst_get hm 0 rfl
  obtain ⟨p1, e1⟩ := Zt.fst_get hm 1 rfl
  obtain ⟨p2, e2⟩ := Zt.fst_get hm 2 rfl
  obtain ⟨p3, e3⟩ := Zt.fst_get hm 3 rfl
  have g0 : DataW.trod enc Tryd.prog W base sp hd m 3 ((c.drop 0).take (Tryd.prog.cellsOf 3)) = xs[0]? := hg 0 _ rfl
  have g1 : DataW.trod enc Tryd.prog W base sp hd m 3 ((c.drop 1).take (Tryd.prog.cellsOf 3)) = xs[1]? := hg 1 _ rfl
  have g2 : DataW.trod enc Tryd.prog W base sp hd m 46 ((c.drop 2).take (Tryd.prog.cellsOf 46)) = xs[2]? := hg 2 _ rfl
  have g3 : DataW.trod enc Tryd.prog W base sp hd m 46 ((c.drop 6).take (Tryd.prog.cellsOf 46)) = xs[3]? := hg 3 _ rfl
  rw [h1] at g0 g1
  rw [h4] at g2 g3
  have c0 := Zt.at_ _ _ _ _ (Zt.intc (g0.trans e0)) 0 (by omega)
  have c1 := Zt.at_ _ _ _ _ (Zt.intc (g1.trans e1)) 0 (by omega)
  have c2 := Zt.at_ _ _ _ _ (Zt.swc (g2.trans e2))
  have c3 := Zt.at_ _ _ _ _ (Zt.swc (g3.trans e3))
  apply List.ext_getElem?
  intro i
  match i with
  | 0 => exact c0
  | 1 => exact c1
  | 2 => exact c2 0 (by omega)
  | 3 => exact c2 1 (by omega)
  | 4 => exact c2 2 (by omega)
  | 5 => exact c2 3 (by omega)
  | 6 => exact c3 0 (by omega)
  | 7 => exact c3 1 (by omega)
  | 8 => exact c3 2 (by omega)
  | 9 => exact c3 3 (by omega)
  | i + 10 => rw [List.getElem?_eq_none (by omega), List.getElem?_eq_none (by simp [Wp.zoneC])]
set_option maxRecDepth 100000 in
theorem Zt.rowc {c : List Value} {i : Nat} {p : List MemPlace} (h : DataW.trod enc Tryd.prog W base sp hd n 103 c = some (Zt.rowD i, p)) : c = Zt.row i := by
  obtain ⟨xs, m, _, hx, hlen, _, hg⟩ := DataW.trod_struct Tryd.underlying103 h
  have h1 : Tryd.prog.cellsOf 9 = 1 := by kernel_rfl
  have h10 : Tryd.prog.cellsOf 48 = 10 := by kernel_rfl
  have hl : c.length = 11 := hlen.trans (by kernel_rfl)
  unfold Zt.rowD at hx
  simp only [Prod.mk.injEq, DataW.agg.injEq] at hx
  have hm := hx.1.symm
  obtain ⟨p0, e0⟩ := Zt.fst_get hm 0 rfl
  obtain ⟨p1, e1⟩ := Zt.fst_get hm 1 rfl
  have g0 : DataW.trod enc Tryd.prog W base sp hd m 9 ((c.drop 0).take (Tryd.prog.cellsOf 9)) = xs[0]? := hg 0 _ rfl
  have g1 : DataW.trod enc Tryd.prog W base sp hd m 48 ((c.drop 1).take (Tryd.prog.cellsOf 48)) = xs[1]? := hg 1 _ rfl
  rw [h1] at g0
  rw [h10] at g1
  have c0 := Zt.strc (g0.trans e0)
  have c1 := Zt.znc (g1.trans e1)
  have e : c = c.take 1 ++ (c.drop 1).take 10 := by
    rw [List.take_of_length_le (l := c.drop 1) (by rw [List.length_drop]; omega), List.take_append_drop]
  rw [List.drop_zero] at c0
  rw [e, c0, c1]
  rfl
set_option maxRecDepth 100000 in
theorem Zt.allc {c : List Value} {p : List MemPlace} (h : DataW.trod enc Tryd.prog W base sp hd n 104 c = some (.agg [Zt.rowD 0, Zt.rowD 1, Zt.rowD 2, Zt.rowD 3, Zt.rowD 4, Zt.rowD 5, Zt.rowD 6, Zt.rowD 7], p)) : c = Zt.all.toList := by
  obtain ⟨xs, m, _, hx, hlen, _, hg⟩ := DataW.trod_array Tryd.underlying104 h
  have h11 : Tryd.prog.cellsOf 103 = 11 := by kernel_rfl
  have hl : c.length = 88 := hlen.trans (by kernel_rfl)
  rw [h11] at hg
  simp only [Prod.mk.injEq, DataW.agg.injEq] at hx
  have hm := hx.1.symm
  have key : ∀ i, i < 8 → ∀ d, [Zt.rowD 0, Zt.rowD 1, Zt.rowD 2, Zt.rowD 3, Zt.rowD 4, Zt.rowD 5, Zt.rowD 6, Zt.rowD (H := H) 7][i]? = some d → ∃ p, DataW.trod enc Tryd.prog W base sp hd m 103 ((c.drop (i * 11)).take 11) = some (d, p) := by
    intro i hi d hd
    obtain ⟨p, e⟩ := Zt.fst_get hm i hd
    exact ⟨p, (hg i hi).trans e⟩
  obtain ⟨_, r0⟩ := key 0 (by omega) _ rfl
  obtain ⟨_, r1⟩ := key 1 (by omega) _ rfl
  obtain ⟨_, r2⟩ := key 2 (by omega) _ rfl
  obtain ⟨_, r3⟩ := key 3 (by omega) _ rfl
  obtain ⟨_, r4⟩ := key 4 (by omega) _ rfl
  obtain ⟨_, r5⟩ := key 5 (by omega) _ rfl
  obtain ⟨_, r6⟩ := key 6 (by omega) _ rfl
  obtain ⟨_, r7⟩ := key 7 (by omega) _ rfl
  have s : ∀ k, c.drop (k * 11) = (c.drop (k * 11)).take 11 ++ c.drop ((k + 1) * 11) := fun k => by
    have := (List.take_append_drop 11 (c.drop (k * 11))).symm
    rw [List.drop_drop] at this
    rw [show (k + 1) * 11 = k * 11 + 11 by omega]
    exact this
  have e : c = (c.drop (0 * 11)).take 11 ++ ((c.drop (1 * 11)).take 11 ++ ((c.drop (2 * 11)).take 11 ++ ((c.drop (3 * 11)).take 11 ++ ((c.drop (4 * 11)).take 11 ++ ((c.drop (5 * 11)).take 11 ++ ((c.drop (6 * 11)).take 11 ++ ((c.drop (7 * 11)).take 11 ++ c.drop (8 * 11)))))))) := by
    rw [← s 7, ← s 6, ← s 5, ← s 4, ← s 3, ← s 2, ← s 1, ← s 0]
    simp
  rw [e, Zt.rowc r0, Zt.rowc r1, Zt.rowc r2, Zt.rowc r3, Zt.rowc r4, Zt.rowc r5, Zt.rowc r6, Zt.rowc r7, List.drop_of_length_le (by omega), Zt.all_rows]
  simp only [List.append_assoc, List.append_nil]
end

/-- The table, in its block. -/
def Zt.Laid (w : World) : Prop := ∃ t fr, w.heap[0]? = some (.cells Zt.all t fr)
theorem Zt.Laid.below {w w' : World} (h : Zt.Laid w) (hb : Below w.heap.size w w') : Zt.Laid w' := by
  obtain ⟨t, fr, hh⟩ := h
  have : 0 < w.heap.size := (Array.getElem?_eq_some_iff.1 hh).1
  exact ⟨t, fr, (hb.block _ this).trans hh⟩
theorem Zt.gNamed : Tryd.prog.globalNamed "bellman/zone.named" = some 0 := by kernel_rfl
theorem Zt.gType : (Tryd.prog.globals[0]?).map (·.type) = some 104 := by kernel_rfl
set_option maxRecDepth 100000 in
theorem Zt.laid_of {W : World} {cs : Array Value} {fuel : Nat} {p : List MemPlace} (hv : W.var? Tryd.prog "bellman/zone.named" = some cs)
    (h : DataW.trod (fun _ => ()) Tryd.prog W 0 (fun _ => true) false fuel 104 cs.toList = some (Rows.laid_bellman_zone_named, p)) : Zt.Laid W := by
  have hc : cs.toList = Zt.all.toList := Zt.allc (p := p) (h.trans rfl)
  have hc2 : cs = Zt.all := Array.toList_inj.1 hc
  subst hc2
  simp only [World.var?, Zt.gNamed, Option.bind_some] at hv
  split at hv
  · next c t fr hh =>
    simp only [Option.some.injEq] at hv
    subst hv
    exact ⟨t, fr, hh⟩
  · cases hv
end Go.Proofs.YtpaleljnkejdgaaDoor
