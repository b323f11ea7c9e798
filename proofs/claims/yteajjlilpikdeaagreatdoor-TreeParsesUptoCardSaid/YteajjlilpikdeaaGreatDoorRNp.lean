/-
  The walk of the document's nodes of tokens: the nodes up to a token that belongs to none of them, and what is from that on, or none. Condition: the tokens are right, and of a number that the walks hold.
  The walks of the document's answer for nodes: leaf and right. Condition: lists are of a size that a machine holds.
  The walks of the document's Nodes and Parse. Conditions: tokens are of a number that the walks hold, the text of a size that a machine holds.
-/
import Derived.Test.YteajjlilpikdeaaGreatDoorNdNodes
import Derived.Test.YteajjlilpikdeaaGreatDoorOwnOne
import Derived.Test.YteajjlilpikdeaaGreatDoorNdS
import Derived.Test.YteajjlilpikdeaaGreatDoorRScCheck
import Derived.Test.YteajjlilpikdeaaGreatDoorRScT
import Derived.Test.YteajjlilpikdeaaGreatDoorNdParseW
namespace Go.Proofs.YteajjlilpikdeaaGreatDoor
open Go.RowKit

theorem Nd.strTy2 : Ow.Ty 35 9 (.string ⟨#[]⟩) := ⟨Tryz.underlying35, by obtain ⟨i, h1, h2, h3, h4⟩ : ∃ i, Tryz.prog.info? 9 = some i ∧ i.zero = some (.string ⟨#[]⟩) ∧ i.size = 1 ∧ i.bytes = 16 := info_parts (by kernel_rfl); exact ⟨i, h1, h2, h3, by omega⟩, rfl⟩
/-- A block of another type is not a row's. -/
theorem Ow.apart2 {w : World} {base q : Nat} {e t : TypeId} {size : Nat} {v : Value} {n : Nat} {xs : List Value} {cs : Array Value} {fr : Nat × Nat} (hO : w.ownsRow base e size v n xs) (h : w.heap[q]? = some (.cells cs t fr)) (hne : t ≠ e) : some q ≠ v.ownBlock := by
  intro heq
  rcases hO.2 with ⟨rfl, _⟩ | ⟨g, cap, cur, rfl, hg, hc, _⟩
  · simp [Value.ownBlock] at heq
  · simp [Value.ownBlock] at heq
    subst heq
    rw [hc] at h
    cases h
    exact hne rfl
theorem Ow.kept2 {w w' : World} {base q : Nat} {e t : TypeId} {size : Nat} {v : Value} {n : Nat} {xs : List Value} {cs : Array Value} {fr : Nat × Nat} (hO : w.ownsRow base e size v n xs) (hg : w.grownBy w' v.ownBlock) (h : w.heap[q]? = some (.cells cs t fr)) (hne : t ≠ e) : w'.heap[q]? = some (.cells cs t fr) :=
  (hg.block q (Array.getElem?_eq_some_iff.1 h).1 (Ow.apart2 hO h hne)).trans h
/-- append of one node. -/
theorem Nd.nodeApp2 {ops : Array Oper} {rest : List Oper} {o : Oper} {a : Act} {Q : Exit → Act → World → Prop} (hgd : o.guard = none) (s x : Operand) (ho : o.op = .call { callee := .builtin .append, args := #[s, x], argTypes := #[23, 23] })
    (w0 wr w1 : World) (v : Value) (out : List Nd.N) (g : Nat) (c0 c1 c2 c3 c4 : Value) (y : Nd.N) (hs : a.eval s = v) (hx : a.eval x = .slice (some ⟨g, 0, none⟩) 1 1) (hgw : g = w1.heap.size)
    (hO : Nd.OwnRow w0.heap.size wr v out.length out) (hB0 : Below w0.heap.size w0 wr) (hb : Below wr.heap.size wr w1) (hn : Nd.Off wr.heap.size w1 none (.agg #[c0, c1, c2, c3, c4]) y) (hl : out.length ≤ 100000000)
    (h : ∀ v' w', Nd.OwnRow w0.heap.size w' v' (out ++ [y]).length (out ++ [y]) → Below w0.heap.size w0 w' → wpList Tryz.prog ops Q rest (a.put o.dst v') w') : wpList Tryz.prog ops Q (o :: rest) a (w1.alloc (.cells #[c0, c1, c2, c3, c4] 44)) := by
  subst hgw
  obtain ⟨i0, hi, hz0, hz1, hz2⟩ := Nd.infoNode
  obtain ⟨cs, hown, _, hk⟩ := hO
  have hs1 := hb.size
  have hs0 := hB0.size
  have hown1 := (ownsRow_below hown hb).alloc (.cells #[c0, c1, c2, c3, c4] 44)
  obtain ⟨n0, n1, n2, n3, n4⟩ := Vl.five_of (Vl.new w1 (.cells #[c0, c1, c2, c3, c4] 44))
  obtain ⟨k', t', pp', np', cp', pk', nk', ck', pe', ne', ce', e⟩ := hn.at.shape
  simp only [Value.agg.injEq, Array.mk.injEq, List.cons.injEq, and_true] at e
  obtain ⟨e0, e1, e2, e3, e4⟩ := e
  refine Vl.listApp _ hgd s x 23 ho w0.heap.size 44 i0 _ 5 96 Tryz.underlying23 hi hz0 hz1 hz2 rfl (by decide) v out.length cs hs hown1 ⟨w1.heap.size, 0, none⟩ 1 1 [c0, c1, c2, c3, c4] hx rfl ?_ ?_ (by unfold maxLen; omega) (by omega) (by rw [World.size_alloc]; omega) ?_
  · intro j q hq
    match j, hq with
    | 0, hq => cases hq; exact n0
    | 1, hq => cases hq; exact n1
    | 2, hq => cases hq; exact n2
    | 3, hq => cases hq; exact n3
    | 4, hq => cases hq; exact n4
    | j + 5, hq => simp at hq
  · intro q hq
    simp at hq
    rcases hq with rfl | rfl | rfl | rfl | rfl
    · rw [e0]; rfl
    · rw [e1]; rfl
    · rw [e2]; rfl
    · rw [e3]; rfl
    · rw [e4]; rfl
  · intro v' w' hown' hgr hat
    rw [World.size_alloc] at hat
    refine h v' w' ?_ (below_grown5 ((hB0.trans (hb.mono hs0)).alloc (by omega) _) hown1 (Nat.le_refl _) hgr)
    rw [List.length_append]
    exact Nd.OwnRow.grow rfl hown hk hs0 hb rfl hn _ hown' hgr hat
/-- Nodes ahead of what is found. -/
def Nd.cat (out : List Nd.N) : Option (List Nd.N × List Sc.T) → Option (List Nd.N × List Sc.T)
  | none => none
  | some (ms, r) => some (out ++ ms, r)
theorem Nd.cat_nil (R : Option (List Nd.N × List Sc.T)) : Nd.cat [] R = R := by cases R <;> rfl
theorem Nd.cat_cat (a b : List Nd.N) (R : Option (List Nd.N × List Sc.T)) : Nd.cat a (Nd.cat b R) = Nd.cat (a ++ b) R := by
  cases R with
  | none => rfl
  | some x => simp [Nd.cat]
theorem Nd.pR_nilR (g : Nat) : Nd.pR (g + 1) [] = some ([], []) := by rw [Nd.pR]
theorem Nd.pR_stopR {g : Nat} {t : Sc.T} {l : List Sc.T} (hk : t.kind = 4 ∨ t.kind = 6) : Nd.pR (g + 1) (t :: l) = some ([], t :: l) := by rw [Nd.pR, if_pos hk]
theorem Nd.pR_leafR {g : Nat} {t : Sc.T} {l : List Sc.T} (hk : ¬ (t.kind = 4 ∨ t.kind = 6)) (ho : Nd.opens t.kind = false) : Nd.pR (g + 1) (t :: l) = Nd.cat [.mk t.kind t.text t.path [] []] (Nd.pR g l) := by
  rw [Nd.pR, if_neg hk, if_neg (by rw [ho]; decide)]
  cases Nd.pR g l <;> rfl
/-- What follows behind what is told otherwise. -/
def Nd.aft (g : Nat) (t : Sc.T) (kids els : List Nd.N) (r2 : List Sc.T) : Option (List Nd.N × List Sc.T) := if Nd.hd r2 = 6 then Nd.cat [.mk t.kind t.text t.path kids els] (Nd.pR g r2.tail) else none
def Nd.mid2 (g : Nat) (t : Sc.T) (kids : List Nd.N) (r : List Sc.T) : Option (List Nd.N × List Sc.T) := match (if t.kind = 3 ∧ Nd.hd r = 4 then Nd.pR g r.tail else some ([], r)) with
  | none => none
  | some (els, r2) => Nd.aft g t kids els r2
theorem Nd.pR_tagR {g : Nat} {t : Sc.T} {l : List Sc.T} (hk : ¬ (t.kind = 4 ∨ t.kind = 6)) (ho : Nd.opens t.kind = true) : Nd.pR (g + 1) (t :: l) = match Nd.pR g l with
    | none => none
    | some (kids, r) => Nd.mid2 g t kids r := by
  rw [Nd.pR, if_neg hk, if_pos ho]
  rcases Nd.pR g l with _ | ⟨kids, r⟩
  · rfl
  · unfold Nd.mid2
    simp only
    rcases (if t.kind = 3 ∧ Nd.hd r = 4 then Nd.pR g r.tail else some ([], r)) with _ | ⟨els, r2⟩
    · rfl
    · unfold Nd.aft
      simp only
      split
      · cases Nd.pR g r2.tail <;> rfl
      · rfl
/-- What nodes hands back. -/
def Nd.RNPost (R : Option (List Nd.N × List Sc.T)) (w0 w : World) (e : Ending) (w' : World) : Prop := match R with
  | none => e = .returned (.tuple #[.slice none 0 0, .slice none 0 0, .int .i64 7]) ∧ Below w.heap.size w w'
  | some (ns, r) => ∃ v p c, e = .returned (.tuple #[v, .slice p r.length c, .int .i64 0]) ∧ Nd.OwnRow w.heap.size w' v ns.length ns ∧ Below w.heap.size w w' ∧ Sc.At w0 p r ∧ r.length ≤ c ∧ c ≤ 9223372036854775807
def Nd.RNC (m : Nat) : Prop := ∀ (f : Nat) (l : List Sc.T) (q : Option Addr) (c : Nat) (w0 w : World), l.length = m → m < f → m ≤ 1048576 → (∀ t ∈ l, Sc.okT t = true) → Sc.At w0 q l → Below w0.heap.size w0 w → l.length ≤ c → c ≤ 9223372036854775807 → Calls Tryz.prog 49 #[.slice q l.length c] w (Nd.RNPost (Nd.pR f l) w0 w)
/-- A row's block alone bears it. -/
theorem Nd.texts_blk {B : Nat} {W : World} {v : Value} {n : Nat} {l : List ByteArray} (h : W.ownsRow B 9 1 v n (l.map Wp.mkT)) : ∃ p c, v = .slice p l.length c ∧ l.length ≤ c ∧ ∀ W' : World, (∀ j, v.ownBlock = some j → W'.heap[j]? = W.heap[j]?) → Wp.At Wp.mkT W' p l := by
  have hn : n = l.length := by have := h.1; rw [List.length_map, Nat.mul_one] at this; exact this.symm
  subst hn
  rcases h.2 with ⟨rfl, h0⟩ | ⟨g, cap, cur, rfl, hg, hc, hcap, hm, hs, ht⟩
  · refine ⟨none, 0, by rw [h0], by omega, fun W' _ => Or.inl (List.length_eq_zero_iff.1 h0)⟩
  · refine ⟨some ⟨g, 0, none⟩, cap, rfl, hcap, fun W' hW => Or.inr ⟨g, 0, rfl, fun i hi => ?_⟩⟩
    have hc2 : W'.heap[g]? = _ := (hW g rfl).trans hc
    rw [Lib.cell_of_heap hc2, Nat.zero_add, ← Array.getElem?_toList]
    have h1 : (l.map Wp.mkT)[i]? = some (Wp.mkT l[i]) := by rw [List.getElem?_map, List.getElem?_eq_getElem hi]; rfl
    rw [← ht] at h1
    obtain ⟨hjl, _⟩ := List.getElem?_eq_some_iff.1 h1
    rw [List.length_take] at hjl
    rwa [List.getElem?_take_of_lt (by omega)] at h1
/-- Nodes and what is left are no more than the tokens. -/
theorem Nd.pR_len : ∀ (f : Nat) (l : List Sc.T) (ns : List Nd.N) (r : List Sc.T), Nd.pR f l = some (ns, r) → ns.length + r.length ≤ l.length
  | 0, _, _, _, h => by cases h
  | f + 1, [], ns, r, h => by
    rw [Nd.pR_nilR] at h
    cases h
    simp
  | f + 1, t :: l, ns, r, h => by
    by_cases hk : t.kind = 4 ∨ t.kind = 6
    · rw [Nd.pR_stopR hk] at h
      cases h
      simp
    · have keyc : ∀ (x : Nd.N) (l' : List Sc.T), Nd.cat [x] (Nd.pR f l') = some (ns, r) → ns.length + r.length ≤ l'.length + 1 := fun x l' h => by
        rcases hp : Nd.pR f l' with _ | ⟨ms, r'⟩
        · rw [hp] at h; cases h
        · rw [hp] at h
          have := Nd.pR_len f l' ms r' hp
          cases h
          simp
          omega
      cases ho : Nd.opens t.kind with
      | false =>
        rw [Nd.pR_leafR hk ho] at h
        exact keyc _ _ h
      | true =>
        rw [Nd.pR_tagR hk ho] at h
        rcases hp : Nd.pR f l with _ | ⟨kids, r1⟩
        · rw [hp] at h; cases h
        · rw [hp] at h
          have h1 := Nd.pR_len f l kids r1 hp
          simp only at h
          have keya : ∀ (els : List Nd.N) (r2 : List Sc.T), r2.length ≤ l.length → Nd.aft f t kids els r2 = some (ns, r) → ns.length + r.length ≤ (t :: l).length := fun els r2 hl h => by
            unfold Nd.aft at h
            split at h
            · have := keyc _ _ h
              rw [List.length_tail] at this
              rw [List.length_cons]
              omega
            · cases h
          unfold Nd.mid2 at h
          by_cases h34 : t.kind = 3 ∧ Nd.hd r1 = 4
          · rw [if_pos h34] at h
            rcases he : Nd.pR f r1.tail with _ | ⟨els, r2⟩
            · rw [he] at h; cases h
            · rw [he] at h
              have h2 := Nd.pR_len f r1.tail els r2 he
              rw [List.length_tail] at h2
              exact keya els r2 (by omega) h
          · rw [if_neg h34] at h
            exact keya [] r1 (by omega) h
set_option maxRecDepth 100000 in
set_option maxHeartbeats 40000000 in
theorem rnodes_step (m : Nat) (ih : ∀ k, k < m → Nd.RNC k) : Nd.RNC m := by
  intro f l q c w0 w hlm hmf hm hok hA h0 hlc hc47
  subst hlm
  have H0 := Lib.hid h0
  have Hih := Lib.hid ih
  have HA := Lib.hid hA
  have Hok := Lib.hid hok
  have HR0 : Hid (Nd.pR f l = Nd.cat [] (Nd.pR f l)) := Lib.hid (Nd.cat_nil _).symm
  have Hmf := Lib.hid hmf
  obtain ⟨n, hn⟩ : ∃ n, n = l.length := ⟨_, rfl⟩
  rw [← hn] at hlc hm Hih Hmf ⊢
  have HN := Lib.hid hn
  generalize hRR : Nd.pR f l = R at *
  have HRR := Lib.hid hRR
  clear ih hA hok hn h0 hmf hRR
  go_enter Tryz.func49, Tryz.ntmps49
  go_wp2_with fail
  go_loopw [0, 5, 6, 7, 8, 9, 10] (fun s0 v5 _ _ _ _ _ wr => ∃ (g : Nat) (l' : List Sc.T) (out : List Nd.N) (p' : Option Addr) (c' : Nat), l'.length < g ∧ l'.length ≤ n ∧ s0 = .slice p' l'.length c' ∧ l'.length ≤ c' ∧ c' ≤ 9223372036854775807 ∧ Hid (out.length + l'.length ≤ n) ∧ Hid (Sc.At w0 p' l') ∧ Hid (∀ t ∈ l', Sc.okT t = true) ∧ Hid (R = Nd.cat out (Nd.pR g l')) ∧ Hid (Nd.OwnRow w.heap.size wr v5 out.length out) ∧ Hid (Below w.heap.size w wr)) (fun s0 _ _ _ _ _ _ _ => match s0 with | .slice _ n _ => n | _ => 0)
  case atStart => exact ⟨f, l, [], q, c, by rw [← HN.out]; exact Hmf.out, by rw [← HN.out]; exact Nat.le_refl _, by rw [HN.out], by rw [← HN.out]; exact hlc, hc47, Lib.hid (by rw [List.length_nil, Nat.zero_add, ← HN.out]; exact Nat.le_refl _), HA, Hok, Lib.hid (by rw [HRR.out]; exact HR0.out), Lib.hid (Nd.OwnRow.nil _ _), Lib.hid (Below.refl _ _)⟩
  case round =>
    obtain ⟨g, l', out, p', c', hgf, hln, rfl, hlc', hc47', Hcn, HA', Hok', HR, HO, HB⟩ := hrel
    have h0r := H0.out.trans (HB.out.mono H0.out.size)
    have H0r := Lib.hid h0r
    obtain ⟨g', rfl⟩ : ∃ g', g = g' + 1 := ⟨g - 1, by omega⟩
    cases l' with
    | nil =>
      have hR := HR.out
      rw [Nd.pR_nilR] at hR
      have hR : R = some (out, []) := by rw [hR]; simp [Nd.cat]
      subst hR
      clear HR HA HA' Hok Hok' Hih h0r HRR HR0
      go_wp2_with fail
      go_ret3
      exact ⟨_, _, _, rfl, HO.out, HB.out, Sc.At.nil _ _, hlc', hc47'⟩
    | cons t l2 =>
      obtain ⟨b, off, pn, cn, rfl, e0, e1, e2, hpt, hft⟩ := Nd.at_head (HA'.out.below h0r)
      clear h0r
      by_cases hk : t.kind = 4 ∨ t.kind = 6
      · have hR := HR.out
        rw [Nd.pR_stopR hk] at hR
        have hR : R = some (out, t :: l2) := by rw [hR]; simp [Nd.cat]
        subst hR
        have hpos : (0 : Int) < ((t :: l2).length : Int) := by rw [List.length_cons]; omega
        have hpos2 : 0 < (t :: l2).length := by rw [List.length_cons]; omega
        generalize hkd : t.kind = kd at *
        have q46 : ((kd : Int) != 4) = false ∨ ((kd : Int) != 4) = true ∧ ((kd : Int) != 6) = false := by
          rcases hk with h | h
          · left; rw [h]; rfl
          · right; exact ⟨by rw [h]; rfl, by rw [h]; rfl⟩
        clear HR HA Hok Hok' Hih hk hft hpt e1 e2 HRR HR0 hkd
        obtain ⟨nx, hnx⟩ : ∃ nx, nx = (t :: l2).length := ⟨_, rfl⟩
        have HNX := Lib.hid hnx
        rw [← hnx] at hpos hpos2 hlc' ⊢
        clear hnx
        rcases q46 with q4 | ⟨q4, q6⟩
        all_goals
          go_wp2_with fail
          go_ret3
          exact ⟨_, _, _, by rw [HNX.out]; rfl, HO.out, HB.out, HA'.out, by first | exact hlc' | (rw [← HNX.out]; exact hlc'), hc47'⟩
      · have q4 : ((t.kind : Int) != 4) = true := by rw [bne_iff_ne]; omega
        have q6 : ((t.kind : Int) != 6) = true := by rw [bne_iff_ne]; omega
        have hpos : (0 : Int) < ((t :: l2).length : Int) := by rw [List.length_cons]; omega
        have hpos2 : 0 < (t :: l2).length := by rw [List.length_cons]; omega
        have hpl := Nd.okT_path (Hok'.out t (by simp))
        obtain ⟨⟨f1, f2⟩, f3, f4, f5⟩ := hft
        have Hm := Lib.hid (show (t :: l2).length = l2.length + 1 from rfl)
        have hwz := HB.out.size
        have HX := Lib.hid ((Below.refl wr.heap.size wr).alloc (Nat.le_refl _) (.cells #[.int .u8 (t.kind : Nat), .string t.text, .slice pn t.path.length cn] 46))
        have HVt0 := Vl.new wr (.cells #[.int .u8 (t.kind : Nat), .string t.text, .slice pn t.path.length cn] 46)
        have HOn := Lib.hid (HO.out.below HX.out)
        have HP := Lib.hid ((hpt.below HX.out))
        have HBn := Lib.hid (HB.out.trans (HX.out.mono HB.out.size))
        generalize hmm : (t :: l2).length = m at *
        go_wp2_with fail
        obtain ⟨bt, hbt⟩ : ∃ bt, bt = wr.heap.size := ⟨_, rfl⟩
        have hwbt : w.heap.size ≤ bt := by rw [hbt]; exact hwz
        have hsz : (wr.alloc (.cells #[.int .u8 (t.kind : Nat), .string t.text, .slice pn t.path.length cn] 46)).heap.size = bt + 1 := by rw [World.size_alloc, hbt]
        rw [← hbt] at HVt0 ⊢
        obtain ⟨wn, hwn⟩ : ∃ wn, wn = wr.alloc (.cells #[.int .u8 (t.kind : Nat), .string t.text, .slice pn t.path.length cn] 46) := ⟨_, rfl⟩
        rw [← hwn] at HVt0 hsz HOn HP HBn ⊢
        have hblt : bt < wn.heap.size := by omega
        have HVt := Lib.hid HVt0
        have H0n := Lib.hid (H0.out.trans (HBn.out.mono H0.out.size))
        clear hwn hbt HVt0 hsz HX HO HB H0r hwz e0 e1 e2 hpt hpos hmm
        have HKt := Lib.hid (fun (W : World) (h : W.heap[bt]? = some (.cells #[.int .u8 (t.kind : Nat), .string t.text, .slice pn t.path.length cn] 46)) => Sc.three_of h)
        have HKb := Lib.hid (fun (W : World) (h : Below wn.heap.size wn W) => (h.block bt hblt).trans HVt.out)
        obtain ⟨k0, k1, k2⟩ := HKt.out wn HVt.out
        have HKp : Hid (∀ w' : World, Below wn.heap.size wn w' → (fun w' => w'.cell? ⟨bt, 0, none⟩ = some (.int .u8 (t.kind : Nat)) ∧ w'.cell? ⟨bt, 1, none⟩ = some (.string t.text) ∧ w'.cell? ⟨bt, 2, none⟩ = some (.slice pn t.path.length cn)) w') := Lib.hid (fun w' h => HKt.out _ (HKb.out _ h))
        have Hpl : Hid (t.path.length ≤ 3000000) := Lib.hid (by omega)
        go_region_held3 (fun w' => w'.cell? ⟨bt, 0, none⟩ = some (.int .u8 (t.kind : Nat)) ∧ w'.cell? ⟨bt, 1, none⟩ = some (.string t.text) ∧ w'.cell? ⟨bt, 2, none⟩ = some (.slice pn t.path.length cn))
          (first | (with_reducible exact HKp.out _ (ea)) | (with_reducible exact HKp.out _ (ea.alloc ea.size _)) | (with_reducible exact HKp.out _ ((Below.refl _ wn).drew)) | (with_reducible exact HKp.out _ ((Ow.a2 wn (.cells #[] 9)))) | (with_reducible exact HKp.out _ ((Ow.a2 wn (.cells #[.int .u8 0, .string ⟨#[]⟩, .slice none 0 0, .slice none 0 0, .slice none 0 0] 44)))) | (with_reducible exact HKp.out _ ((Ow.b2 wn (.cells #[] 9) (.cells #[.int .u8 0, .string ⟨#[]⟩, .slice none 0 0, .slice none 0 0, .slice none 0 0] 44)))) | (with_reducible exact HKp.out _ ((Ow.b2 wn (.cells #[.int .u8 0, .string ⟨#[]⟩, .slice none 0 0, .slice none 0 0, .slice none 0 0] 44) (.cells #[] 9)))) | (exact HKp.out _ ((below_grownBy ea (Vl.set5_grown _ _ _ _ _ _ _) (by first | exact Nat.le_refl _ | omega) ea.size))) | (go_keep; done))
          (first
            | (refine Ow.step (mk := Wp.mkT) rfl _ _ _ rfl (fun _ => rfl) Nd.strTy2 [] t.path (.slice (some ⟨wn.heap.size, 0, none⟩) 0 0) _ _ _ wn.heap.size rfl rfl (Ow.a1 wn 9) (HP.out.below (Ow.a2 wn (.cells #[] 9))) rfl (Nat.zero_le _) Hpl.out (Ow.a2 wn (.cells #[] 9)).size ?_; intro va wa hoa hga; have ea := Ow.grown (Ow.a2 wn (.cells #[] 9)) (Ow.a1 wn 9) hga (Ow.a2 wn (.cells #[] 9)).size; rw [List.nil_append] at hoa; have hap : ∀ (q : Nat) (cs : Array Value) (fr : Nat × Nat), wa.heap[q]? = some (.cells cs 44 fr) → some q ≠ va.ownBlock := fun q cs fr h => Ow.apart2 hoa h (by decide); obtain ⟨pq, cq, rfl, hcq, hoff⟩ := Nd.texts_blk hoa; have hlt := hoa.lt; have s9 := ea.size)
            | (refine Ow.step (mk := Wp.mkT) rfl _ _ _ rfl (fun _ => rfl) Nd.strTy2 [] t.path (.slice (some ⟨wn.heap.size, 0, none⟩) 0 0) _ _ _ wn.heap.size rfl rfl (Ow.b1 wn 9 (.cells #[.int .u8 0, .string ⟨#[]⟩, .slice none 0 0, .slice none 0 0, .slice none 0 0] 44)) (HP.out.below (Ow.b2 wn (.cells #[] 9) (.cells #[.int .u8 0, .string ⟨#[]⟩, .slice none 0 0, .slice none 0 0, .slice none 0 0] 44))) rfl (Nat.zero_le _) Hpl.out (Ow.b2 wn (.cells #[] 9) (.cells #[.int .u8 0, .string ⟨#[]⟩, .slice none 0 0, .slice none 0 0, .slice none 0 0] 44)).size ?_; intro va wa hoa hga; have ea := Ow.grown (Ow.b2 wn (.cells #[] 9) (.cells #[.int .u8 0, .string ⟨#[]⟩, .slice none 0 0, .slice none 0 0, .slice none 0 0] 44)) (Ow.b1 wn 9 (.cells #[.int .u8 0, .string ⟨#[]⟩, .slice none 0 0, .slice none 0 0, .slice none 0 0] 44)) hga (Ow.b2 wn (.cells #[] 9) (.cells #[.int .u8 0, .string ⟨#[]⟩, .slice none 0 0, .slice none 0 0, .slice none 0 0] 44)).size; have hx : wa.heap[wn.heap.size + 1]? = some (.cells #[.int .u8 0, .string ⟨#[]⟩, .slice none 0 0, .slice none 0 0, .slice none 0 0] 44) := Ow.kept2 (Ow.b1 wn 9 (.cells #[.int .u8 0, .string ⟨#[]⟩, .slice none 0 0, .slice none 0 0, .slice none 0 0] 44)) hga (show (((wn.alloc (.cells #[] 9)).alloc (.cells #[.int .u8 0, .string ⟨#[]⟩, .slice none 0 0, .slice none 0 0, .slice none 0 0] 44)).drew).heap[wn.heap.size + 1]? = some (.cells #[.int .u8 0, .string ⟨#[]⟩, .slice none 0 0, .slice none 0 0, .slice none 0 0] 44) from Vl.newAt (wn.alloc (.cells #[] 9)) (.cells #[.int .u8 0, .string ⟨#[]⟩, .slice none 0 0, .slice none 0 0, .slice none 0 0] 44) (wn.heap.size + 1) (by rw [World.size_alloc])) (by decide); rw [List.nil_append] at hoa; have hap : ∀ (q : Nat) (cs : Array Value) (fr : Nat × Nat), wa.heap[q]? = some (.cells cs 44 fr) → some q ≠ va.ownBlock := fun q cs fr h => Ow.apart2 hoa h (by decide); obtain ⟨pq, cq, rfl, hcq, hoff⟩ := Nd.texts_blk hoa; have hlt := hoa.lt; have s9 := ea.size; obtain ⟨y0, y1, y2, y3, y4⟩ := Vl.five_of hx; obtain ⟨z0, z1, z2, z3, z4⟩ := Vl.fiveF_of hx)
            | (refine Ow.step (mk := Wp.mkT) rfl _ _ _ rfl (fun _ => rfl) Nd.strTy2 [] t.path (.slice (some ⟨wn.heap.size + 1, 0, none⟩) 0 0) _ _ _ wn.heap.size rfl rfl (Ow.c1 wn 9 (.cells #[.int .u8 0, .string ⟨#[]⟩, .slice none 0 0, .slice none 0 0, .slice none 0 0] 44)) (HP.out.below (Ow.b2 wn (.cells #[.int .u8 0, .string ⟨#[]⟩, .slice none 0 0, .slice none 0 0, .slice none 0 0] 44) (.cells #[] 9))) rfl (Nat.zero_le _) Hpl.out (Ow.b2 wn (.cells #[.int .u8 0, .string ⟨#[]⟩, .slice none 0 0, .slice none 0 0, .slice none 0 0] 44) (.cells #[] 9)).size ?_; intro va wa hoa hga; have ea := Ow.grown (Ow.b2 wn (.cells #[.int .u8 0, .string ⟨#[]⟩, .slice none 0 0, .slice none 0 0, .slice none 0 0] 44) (.cells #[] 9)) (Ow.c1 wn 9 (.cells #[.int .u8 0, .string ⟨#[]⟩, .slice none 0 0, .slice none 0 0, .slice none 0 0] 44)) hga (Ow.b2 wn (.cells #[.int .u8 0, .string ⟨#[]⟩, .slice none 0 0, .slice none 0 0, .slice none 0 0] 44) (.cells #[] 9)).size; have hx : wa.heap[wn.heap.size]? = some (.cells #[.int .u8 0, .string ⟨#[]⟩, .slice none 0 0, .slice none 0 0, .slice none 0 0] 44) := Ow.kept2 (Ow.c1 wn 9 (.cells #[.int .u8 0, .string ⟨#[]⟩, .slice none 0 0, .slice none 0 0, .slice none 0 0] 44)) hga (show (((wn.alloc (.cells #[.int .u8 0, .string ⟨#[]⟩, .slice none 0 0, .slice none 0 0, .slice none 0 0] 44)).alloc (.cells #[] 9)).drew).heap[wn.heap.size]? = some (.cells #[.int .u8 0, .string ⟨#[]⟩, .slice none 0 0, .slice none 0 0, .slice none 0 0] 44) from (Vl.past (wn.alloc (.cells #[.int .u8 0, .string ⟨#[]⟩, .slice none 0 0, .slice none 0 0, .slice none 0 0] 44)) (.cells #[] 9) wn.heap.size (by rw [World.size_alloc]; omega)).trans (Vl.new wn (.cells #[.int .u8 0, .string ⟨#[]⟩, .slice none 0 0, .slice none 0 0, .slice none 0 0] 44))) (by decide); rw [List.nil_append] at hoa; have hap : ∀ (q : Nat) (cs : Array Value) (fr : Nat × Nat), wa.heap[q]? = some (.cells cs 44 fr) → some q ≠ va.ownBlock := fun q cs fr h => Ow.apart2 hoa h (by decide); obtain ⟨pq, cq, rfl, hcq, hoff⟩ := Nd.texts_blk hoa; have hlt := hoa.lt; have s9 := ea.size; obtain ⟨y0, y1, y2, y3, y4⟩ := Vl.five_of hx; obtain ⟨z0, z1, z2, z3, z4⟩ := Vl.fiveF_of hx))
        focus
          obtain ⟨bx, hbe⟩ : ∃ bx, bx = wa.heap.size := ⟨_, rfl⟩
          have HBX := Lib.hid (show (wa.alloc (.cells #[.int .u8 (t.kind : Nat), .string t.text, .slice pq t.path.length cq, .slice none 0 0, .slice none 0 0] 44)).heap[bx]? = some (.cells #[.int .u8 (t.kind : Nat), .string t.text, .slice pq t.path.length cq, .slice none 0 0, .slice none 0 0] 44) by rw [hbe]; exact Vl.new wa (.cells #[.int .u8 (t.kind : Nat), .string t.text, .slice pq t.path.length cq, .slice none 0 0, .slice none 0 0] 44))
          have HBl := Lib.hid (ea.alloc ea.size (.cells #[.int .u8 (t.kind : Nat), .string t.text, .slice pq t.path.length cq, .slice none 0 0, .slice none 0 0] 44))
          have HPo := Lib.hid (show Nd.Rd wn.heap.size (wa.alloc (.cells #[.int .u8 (t.kind : Nat), .string t.text, .slice pq t.path.length cq, .slice none 0 0, .slice none 0 0] 44)) (some bx) (fun W' => Wp.At Wp.mkT W' pq t.path) from fun W' hW => hoff W' (fun j e => (hW j (hlt j e).1 (by rw [World.size_alloc]; have := (hlt j e).2; omega) (fun e2 => by cases e2; have := (hlt _ e).2; omega)).trans (Vl.past _ _ _ (hlt j e).2)))
          have Hbx := Lib.hid (show wn.heap.size ≤ bx by omega)
          rw [← hbe]
          clear hbe
          generalize (wa.alloc (.cells #[.int .u8 (t.kind : Nat), .string t.text, .slice pq t.path.length cq, .slice none 0 0, .slice none 0 0] 44)) = W5 at *
        rotate_left 1
        focus
          obtain ⟨bx, hbe⟩ : ∃ bx, bx = wn.heap.size + 1 := ⟨_, rfl⟩
          have HBX := Lib.hid (show (((((wa.setCell ⟨wn.heap.size + 1, 0, none⟩ (.int .u8 (t.kind : Nat))).setCell ⟨wn.heap.size + 1, 1, none⟩ (.string t.text)).setCell ⟨wn.heap.size + 1, 2, none⟩ (.slice pq t.path.length cq)).setCell ⟨wn.heap.size + 1, 3, none⟩ (.slice none 0 0)).setCell ⟨wn.heap.size + 1, 4, none⟩ (.slice none 0 0)).heap[bx]? = some (.cells #[.int .u8 (t.kind : Nat), .string t.text, .slice pq t.path.length cq, .slice none 0 0, .slice none 0 0] 44) by rw [hbe]; exact Vl.set5 hx (.int .u8 (t.kind : Nat)) (.string t.text) (.slice pq t.path.length cq) (.slice none 0 0) (.slice none 0 0))
          have HBl := Lib.hid (below_grownBy ea (Vl.set5_grown wa (wn.heap.size + 1) (.int .u8 (t.kind : Nat)) (.string t.text) (.slice pq t.path.length cq) (.slice none 0 0) (.slice none 0 0)) (by omega) ea.size)
          have HPo := Lib.hid (show Nd.Rd wn.heap.size (((((wa.setCell ⟨wn.heap.size + 1, 0, none⟩ (.int .u8 (t.kind : Nat))).setCell ⟨wn.heap.size + 1, 1, none⟩ (.string t.text)).setCell ⟨wn.heap.size + 1, 2, none⟩ (.slice pq t.path.length cq)).setCell ⟨wn.heap.size + 1, 3, none⟩ (.slice none 0 0)).setCell ⟨wn.heap.size + 1, 4, none⟩ (.slice none 0 0)) (some bx) (fun W' => Wp.At Wp.mkT W' pq t.path) from fun W' hW => hoff W' (fun j e => (hW j (hlt j e).1 (by rw [Vl.set5_size]; exact (hlt j e).2) (fun e2 => hap _ _ _ hx (by rw [← hbe, ← e2]; exact e.symm))).trans (Vl.set5_rest _ _ _ _ _ _ _ j (fun e2 => hap _ _ _ hx (by rw [← e2]; exact e.symm)))))
          have Hbx := Lib.hid (show wn.heap.size ≤ bx by omega)
          generalize hW5 : (((((wa.setCell ⟨wn.heap.size + 1, 0, none⟩ (.int .u8 (t.kind : Nat))).setCell ⟨wn.heap.size + 1, 1, none⟩ (.string t.text)).setCell ⟨wn.heap.size + 1, 2, none⟩ (.slice pq t.path.length cq)).setCell ⟨wn.heap.size + 1, 3, none⟩ (.slice none 0 0)).setCell ⟨wn.heap.size + 1, 4, none⟩ (.slice none 0 0)) = W5 at *
          rw [← hbe]
          clear hbe hW5
        rotate_left 1
        focus
          obtain ⟨bx, hbe⟩ : ∃ bx, bx = wn.heap.size := ⟨_, rfl⟩
          have HBX := Lib.hid (show (((((wa.setCell ⟨wn.heap.size, 0, none⟩ (.int .u8 (t.kind : Nat))).setCell ⟨wn.heap.size, 1, none⟩ (.string t.text)).setCell ⟨wn.heap.size, 2, none⟩ (.slice pq t.path.length cq)).setCell ⟨wn.heap.size, 3, none⟩ (.slice none 0 0)).setCell ⟨wn.heap.size, 4, none⟩ (.slice none 0 0)).heap[bx]? = some (.cells #[.int .u8 (t.kind : Nat), .string t.text, .slice pq t.path.length cq, .slice none 0 0, .slice none 0 0] 44) by rw [hbe]; exact Vl.set5 hx (.int .u8 (t.kind : Nat)) (.string t.text) (.slice pq t.path.length cq) (.slice none 0 0) (.slice none 0 0))
          have HBl := Lib.hid (below_grownBy ea (Vl.set5_grown wa (wn.heap.size) (.int .u8 (t.kind : Nat)) (.string t.text) (.slice pq t.path.length cq) (.slice none 0 0) (.slice none 0 0)) (by omega) ea.size)
          have HPo := Lib.hid (show Nd.Rd wn.heap.size (((((wa.setCell ⟨wn.heap.size, 0, none⟩ (.int .u8 (t.kind : Nat))).setCell ⟨wn.heap.size, 1, none⟩ (.string t.text)).setCell ⟨wn.heap.size, 2, none⟩ (.slice pq t.path.length cq)).setCell ⟨wn.heap.size, 3, none⟩ (.slice none 0 0)).setCell ⟨wn.heap.size, 4, none⟩ (.slice none 0 0)) (some bx) (fun W' => Wp.At Wp.mkT W' pq t.path) from fun W' hW => hoff W' (fun j e => (hW j (hlt j e).1 (by rw [Vl.set5_size]; exact (hlt j e).2) (fun e2 => hap _ _ _ hx (by rw [← hbe, ← e2]; exact e.symm))).trans (Vl.set5_rest _ _ _ _ _ _ _ j (fun e2 => hap _ _ _ hx (by rw [← e2]; exact e.symm)))))
          have Hbx := Lib.hid (show wn.heap.size ≤ bx by omega)
          generalize hW5 : (((((wa.setCell ⟨wn.heap.size, 0, none⟩ (.int .u8 (t.kind : Nat))).setCell ⟨wn.heap.size, 1, none⟩ (.string t.text)).setCell ⟨wn.heap.size, 2, none⟩ (.slice pq t.path.length cq)).setCell ⟨wn.heap.size, 3, none⟩ (.slice none 0 0)).setCell ⟨wn.heap.size, 4, none⟩ (.slice none 0 0)) = W5 at *
          rw [← hbe]
          clear hbe hW5
        rotate_left 1
        all_goals
          clear HP hoff hap hoa hga ea hlt s9 f4
          have HT5 := Lib.hid (show Sc.At w0 (if c' = 1 then some ⟨b, off, none⟩ else some ⟨b, off + 3, none⟩) l2 from Nd.at_tailIf HA'.out (show (t :: l2).length ≤ c' by have := Hm.out; rw [List.length_cons]; omega) _)
          have hpos3 : 1 ≤ m := by omega
          have hcz : (1 : Int) ≤ (m : Int) := by omega
          have hcz2 : (m : Int) ≤ (c' : Int) := by omega
          obtain ⟨x0, x1, x2, x3, x4⟩ := Vl.five_of HBX.out
          obtain ⟨k0, k1, k2⟩ := HKt.out W5 (HKb.out _ HBl.out)
          go_upto_region 6 with fail
          generalize (if c' = 1 then some (⟨b, off, none⟩ : Addr) else some ⟨b, off + 3, none⟩) = p5 at HT5 ⊢
          have hm2 : m - 1 = l2.length := by have := Hm.out; omega
          rw [hm2]
          obtain ⟨c5, hc5⟩ : ∃ c5, c5 = c' - 1 := ⟨_, rfl⟩
          rw [← hc5]
          have hc5b : l2.length ≤ c5 := by have := Hm.out; omega
          have hc5c : c5 ≤ 9223372036854775807 := by omega
          have hmm : l2.length < m := by have := Hm.out; omega
          have hmn : l2.length < g' ∧ l2.length < n ∧ l2.length ≤ 1048576 := by have := Hm.out; omega
          have Hok2 := Lib.hid (fun x (h : x ∈ l2) => Hok'.out x (List.mem_cons_of_mem _ h))
          have H05 := Lib.hid (H0n.out.trans (HBl.out.mono H0n.out.size))
          have Hol := Lib.hid (show out.length ≤ 100000000 by have := Hcn.out; omega)
          clear hcz hcz2 hpos2 hpos3 hm2 hc5 q4 q6 HA'
          cases hop : Nd.opens t.kind with
          | false =>
            have HRb := Lib.hid (show R = Nd.cat (out ++ [.mk t.kind t.text t.path [] []]) (Nd.pR g' l2) by rw [HR.out, Nd.pR_leafR hk hop, Nd.cat_cat])
            have q3 : ((t.kind : Int) == 3) = false := beq_eq_false_iff_ne.2 (fun e => by have h3 : t.kind = 3 := (by omega); rw [h3] at hop; cases hop)
            have q5 : ((t.kind : Int) == 5) = false := beq_eq_false_iff_ne.2 (fun e => by have h3 : t.kind = 5 := (by omega); rw [h3] at hop; cases hop)
            clear hop hk HR Hok' Hih
            have HOf := Lib.hid (Nd.off_mk (x := some bx) (kids := []) (els := []) ⟨f1, f3, by omega, by simp, by simp, f5, hcq, by simp, by simp⟩ HPo.out (fun _ _ => Nd.Row.nil _ none) (fun _ _ => Nd.Row.nil _ none) : Nd.Off wn.heap.size W5 none (.agg #[.int .u8 (t.kind : Nat), .string t.text, .slice pq t.path.length cq, .slice none 0 0, .slice none 0 0]) _)
            go_wp2_with (at_builtin; refine Nd.nodeApp2 rfl _ _ rfl w wn W5 u5 out W5.heap.size _ _ _ _ _ (.mk t.kind t.text t.path [] []) rfl rfl rfl HOn.out HBn.out HBl.out HOf.out Hol.out ?_)
            intro v7 w7 hO7 hB7
            have HO7 := Lib.hid hO7
            have HB7 := Lib.hid hB7
            clear hO7 hB7
            go_wp2_with fail
            exact ⟨⟨g', l2, out ++ [Nd.N.mk t.kind t.text t.path [] []], p5, c5, hmn.1, Nat.le_of_lt hmn.2.1, rfl, hc5b, hc5c, Lib.hid (by have := Hcn.out; have := Hm.out; rw [List.length_append, List.length_singleton]; omega), HT5, Hok2, HRb, Lib.hid (by rw [List.length_append]; exact HO7.out), HB7⟩, hmm⟩
          | true =>
            have HRt := Lib.hid (show R = Nd.cat out (match Nd.pR g' l2 with | none => none | some (kids, r) => Nd.mid2 g' t kids r) by rw [HR.out, Nd.pR_tagR hk hop])
            have h35 := Nd.opens_iff.1 hop
            have HC := Lib.hid (Hih.out l2.length hmn.2.1 g' l2 p5 c5 w0 W5 rfl hmn.1 hmn.2.2 Hok2.out HT5.out H05.out hc5b hc5c)
            have Hlk := Lib.hid (fun ns r h => Nd.pR_len g' l2 ns r h)
            have Hsub := Lib.hid (fun ns r h => Nd.pR_sub (f := g') (l := l2) (ns := ns) (r := r) h Hok2.out)
            clear hop hk HR Hok'
            have hq : (((t.kind : Int) == 3) = true ∧ t.kind = 3) ∨ (((t.kind : Int) == 3) = false ∧ ((t.kind : Int) == 5) = true ∧ ¬ t.kind = 3) := by
              rcases h35 with h | h
              · exact Or.inl ⟨by rw [h]; rfl, h⟩
              · exact Or.inr ⟨by rw [h]; rfl, by rw [h]; rfl, by omega⟩
            clear h35
            generalize hK : Nd.pR g' l2 = K at *
            clear hK
            rcases hq with ⟨q3, h3⟩ | ⟨q3, q5, h3⟩
            · rcases K with _ | ⟨kids, r1⟩
              · have hR : R = none := HRt.out
                subst hR
                clear HRt h3
                go_wp2_with fail
                refine HC.out.mono ?_
                rintro e w7 ⟨rfl, hb⟩
                have HBf := Lib.hid ((HBn.out.trans (HBl.out.mono HBn.out.size)).trans (hb.mono (Nat.le_trans HBn.out.size HBl.out.size)))
                clear hb HC x0 x1 x2 x3 x4 k0 k1 k2
                go_wp2_with fail
                go_ret3
                exact ⟨rfl, HBf.out⟩
              · have HRm := Lib.hid (show R = Nd.cat out (Nd.mid2 g' t kids r1) from HRt.out)
                have hkl : kids.length + r1.length ≤ l2.length := Hlk.out kids r1 rfl
                have Hkl := Lib.hid hkl
                have Hok3 := Lib.hid (Hsub.out kids r1 rfl)
                clear HRt Hlk Hsub hkl
                clear x0 x1 x2 x3 x4
                go_wp2_with fail
                refine HC.out.mono ?_
                rintro e w7 ⟨vk, p7, c7, rfl, hOk, hBk, hAk, hc7, hc7b⟩
                obtain ⟨pk, ck, rfl, hkc, hkoff⟩ := hOk.off
                have hx7 := Nd.keepBox HBX.out hBk
                have hbl5 := (Array.getElem?_eq_some_iff.1 HBX.out).1
                have HKo := Lib.hid (Nd.Rd.mono (Nd.Rd.off hkoff hbl5) HBl.out.size : Nd.Rd wn.heap.size w7 (some bx) fun W' => Nd.Row W' pk kids)
                have HG7 := Lib.hid (grownBy_of hBk (some bx))
                have HX7 := Lib.hid hx7
                have HA7 := Lib.hid hAk
                clear hOk hBk hAk hkoff hbl5 hx7 HC k0 k1 k2
                obtain ⟨x0, x1, x2, x3, x4⟩ := Vl.five_of HX7.out
                obtain ⟨z0, z1, z2, z3, z4⟩ := Vl.fiveF_of HX7.out
                have HX8 := Lib.hid (show (w7.setCell ⟨bx, 3, none⟩ (.slice pk kids.length ck)).heap[bx]? = some (.cells #[.int .u8 (t.kind : Nat), .string t.text, .slice pq t.path.length cq, .slice pk kids.length ck, .slice none 0 0] 44 (0, 0)) from (Lib.heap_setCell_same (i := 3) HX7.out _).trans rfl)
                have HG8 := Lib.hid (grownBy_trans HG7.out (Vl.set1_grown w7 bx 3 (.slice pk kids.length ck)))
                have HK8 := Lib.hid (HKo.out.later (Vl.set1_grown w7 bx 3 (.slice pk kids.length ck)))
                have HBw8 := Lib.hid (show Below wn.heap.size wn (w7.setCell ⟨bx, 3, none⟩ (.slice pk kids.length ck)) from below_grownBy HBl.out HG8.out Hbx.out HBl.out.size)
                have HB8 := Lib.hid (H0n.out.trans (HBw8.out.mono H0n.out.size))
                obtain ⟨k0, k1, k2⟩ := HKt.out _ (HKb.out _ HBw8.out)
                by_cases h4 : Nd.hd r1 = 4
                · obtain ⟨x4', hr1, hx4⟩ := Nd.tail_of h4 (by decide)
                  have HRe := Lib.hid (show R = Nd.cat out (match Nd.pR g' r1.tail with | none => none | some (els, r2) => Nd.aft g' t kids els r2) by rw [HRm.out]; unfold Nd.mid2; rw [if_pos ⟨h3, h4⟩])
                  have HT7 := Lib.hid (show Sc.At w0 p7 (x4' :: r1.tail) by rw [← hr1]; exact HA7.out)
                  have hlr := Lib.hid (show r1.length = r1.tail.length + 1 from (congrArg List.length hr1).trans (List.length_cons ..))
                  obtain ⟨b7, off7, pn7, cn7, rfl, e0, -, -, -, -⟩ := Nd.at_head (HT7.out.below HB8.out)
                  have qx : ((x4'.kind : Int) == 4) = true := by rw [beq_iff_eq]; omega
                  have Hok4 := Lib.hid (fun x (h : x ∈ r1.tail) => Hok3.out x (List.mem_of_mem_tail h))
                  have HT8 := Lib.hid (show Sc.At w0 (if c7 = 1 then some ⟨b7, off7, none⟩ else some ⟨b7, off7 + 3, none⟩) r1.tail from Nd.at_tailIf HT7.out (by rw [List.length_cons, ← hlr.out]; exact hc7) _)
                  obtain ⟨p8, hp8⟩ : ∃ p8, (if c7 = 1 then some (⟨b7, off7, none⟩ : Addr) else some ⟨b7, off7 + 3, none⟩) = p8 := ⟨_, rfl⟩
                  rw [hp8] at HT8
                  have HKl := Lib.hid (show r1.tail.length + 1 + kids.length ≤ l2.length by have := Hkl.out; rw [hlr.out] at this; omega)
                  rw [hlr.out] at hc7 ⊢
                  generalize r1.tail = r3 at *
                  have hcz7 : (1 : Int) ≤ ((r3.length + 1 : Nat) : Int) := by omega
                  have hcz8 : ((r3.length + 1 : Nat) : Int) ≤ (c7 : Int) := by omega
                  have hcz6 : (0 : Int) < ((r3.length + 1 : Nat) : Int) := by omega
                  have hcz5 : 0 < r3.length + 1 := Nat.succ_pos _
                  have HCe := Lib.hid (fun p8 c8 (h1 : Sc.At w0 p8 r3) (h2 : r3.length ≤ c8) (h3 : c8 ≤ 9223372036854775807) => Hih.out r3.length (by have := HKl.out; omega) g' r3 p8 c8 w0 _ rfl (by have := HKl.out; omega) (by have := HKl.out; omega) Hok4.out h1 HB8.out h2 h3)
                  have Hlk := Lib.hid (fun ns r h => Nd.pR_len g' r3 ns r h)
                  have Hsub := Lib.hid (fun ns r h => Nd.pR_sub (f := g') (l := r3) (ns := ns) (r := r) h Hok4.out)
                  clear hr1 h4 h3 HX7 HA7 HKo HRm
                  generalize hE : Nd.pR g' r3 = E at *
                  clear hE
                  have HC9 := Lib.hid (HCe.out p8 (c7 - 1) HT8.out (by omega) (by omega))
                  clear HCe
                  rcases E with _ | ⟨els, r2⟩
                  · have hR : R = none := HRe.out
                    subst hR
                    clear HRe Hlk Hsub
                    go_wp2_with fail
                    refine HC9.out.mono ?_
                    rintro e w9 ⟨rfl, hb⟩
                    have hx9 := Nd.keepBox HX8.out hb
                    have HBf := Lib.hid ((((HBn.out.trans (HBw8.out.mono HBn.out.size)).trans (hb.mono (Nat.le_trans HBn.out.size HBw8.out.size)))).setCell (p := ⟨bx, 4, none⟩) (Nat.le_trans HBn.out.size Hbx.out) (.slice none 0 0))
                    clear x0 x1 x2 x3 x4 z0 z1 z2 z3 z4 k0 k1 k2 e0 hb
                    obtain ⟨x0, x1, x2, x3, x4⟩ := Vl.five_of hx9
                    obtain ⟨z0, z1, z2, z3, z4⟩ := Vl.fiveF_of hx9
                    go_wp2_with fail
                    go_ret3
                    exact ⟨rfl, HBf.out⟩
                  · have HRa := Lib.hid (show R = Nd.cat out (Nd.aft g' t kids els r2) from HRe.out)
                    have hlen := Hlk.out els r2 rfl
                    have Hl9 := Lib.hid (show r2.length ≤ l2.length by have := HKl.out; omega)
                    have Hel := Lib.hid (show els.length ≤ 1048576 by have := HKl.out; omega)
                    have Hok9 := Lib.hid (Hsub.out els r2 rfl)
                    clear HRe Hlk Hsub hlen
                    go_wp2_with fail
                    refine HC9.out.mono ?_
                    rintro e w9 ⟨ve, p9, c9, rfl, hOe, hBe, hAe, hc9, hc9b⟩
                    obtain ⟨pe, ce, rfl, hec, heoff⟩ := hOe.off
                    have hbl9 := (Array.getElem?_eq_some_iff.1 HX8.out).1
                    have HEo := Lib.hid (Nd.Rd.mono (Nd.Rd.off heoff hbl9) (Nat.le_trans HBl.out.size HG8.out.size) : Nd.Rd wn.heap.size w9 (some bx) fun W' => Nd.Row W' pe els)
                    have hx9 := Nd.keepBox HX8.out hBe
                    have HGe := Lib.hid (grownBy_of hBe (some bx))
                    have HK9 := Lib.hid (HK8.out.later HGe.out)
                    have HX11 := Lib.hid (show (w9.setCell ⟨bx, 4, none⟩ (.slice pe els.length ce)).heap[bx]? = some (.cells #[.int .u8 (t.kind : Nat), .string t.text, .slice pq t.path.length cq, .slice pk kids.length ck, .slice pe els.length ce] 44 (0, 0)) from (Lib.heap_setCell_same (i := 4) hx9 _).trans rfl)
                    have HG10 := Lib.hid (grownBy_trans (grownBy_trans HG8.out HGe.out) (Vl.set1_grown w9 bx 4 (.slice pe els.length ce)))
                    have HK10 := Lib.hid (HK9.out.later (Vl.set1_grown w9 bx 4 (.slice pe els.length ce)))
                    have HE10 := Lib.hid (HEo.out.later (Vl.set1_grown w9 bx 4 (.slice pe els.length ce)))
                    have HBw := Lib.hid (show Below wn.heap.size wn (w9.setCell ⟨bx, 4, none⟩ (.slice pe els.length ce)) from below_grownBy HBl.out HG10.out Hbx.out HBl.out.size)
                    have HOf := Lib.hid (Nd.off_mk (x := some bx) (kids := kids) (els := els) (ck := ck) (ce := ce) ⟨f1, f3, by omega, by have := Hkl.out; omega, by have := Hel.out; omega, f5, hcq, hkc, hec⟩ (HPo.out.later HG10.out) HK10.out HE10.out : Nd.Off wn.heap.size (w9.setCell ⟨bx, 4, none⟩ (.slice pe els.length ce)) none (.agg #[.int .u8 (t.kind : Nat), .string t.text, .slice pq t.path.length cq, .slice pk kids.length ck, .slice pe els.length ce]) (.mk t.kind t.text t.path kids els))
                    have HT9 := Lib.hid hAe
                    have hc9 : r2.length ≤ c9 := hc9
                    clear x0 x1 x2 x3 x4 z0 z1 z2 z3 z4 k0 k1 k2 e0 hOe hBe hAe heoff hbl9
                    obtain ⟨x0, x1, x2, x3, x4⟩ := Vl.five_of hx9
                    obtain ⟨z0, z1, z2, z3, z4⟩ := Vl.fiveF_of hx9
                    go_upto_region 13 with fail
                    clear x0 x1 x2 x3 x4 z0 z1 z2 z3 z4 hx9 HEo HGe HK9 HK10 HE10 HG10
                    generalize w9.setCell ⟨bx, 4, none⟩ (.slice pe els.length ce) = W11 at *
                    cases r2 with
                    | nil =>
                      have hR := HRa.out
                      have hR : R = none := by rw [hR]; rfl
                      subst hR
                      have HBf := Lib.hid (HBn.out.trans (HBw.out.mono HBn.out.size))
                      clear HRa HT9 Hok9 HOf HX11 HBw
                      go_wp2_with fail
                      go_ret3
                      exact ⟨rfl, HBf.out⟩
                    | cons e2 r3 =>
                      have HT9 := Lib.hid (show Sc.At w0 p9 (e2 :: r3) from HT9.out)
                      have HRa := Lib.hid (show R = Nd.cat out (Nd.aft g' t kids els (e2 :: r3)) from HRa.out)
                      have Hok9 := Lib.hid (fun x (h : x ∈ r3) => Hok9.out x (List.mem_cons_of_mem _ h))
                      have Hl9 := Lib.hid (show r3.length + 1 ≤ l2.length from Hl9.out)
                      obtain ⟨b9, off9, pn9, cn9, hp9, ee0, -, -, -, -⟩ := Nd.at_head (HT9.out.below (H0n.out.trans (HBw.out.mono H0n.out.size)))
                      subst hp9
                      have HT10 := Lib.hid (show Sc.At w0 (if c9 = 1 then some ⟨b9, off9, none⟩ else some ⟨b9, off9 + 3, none⟩) r3 from Nd.at_tailIf HT9.out hc9 _)
                      rw [List.length_cons] at hc9 ⊢
                      have hcz9 : (1 : Int) ≤ ((r3.length + 1 : Nat) : Int) := by omega
                      have hcz10 : ((r3.length + 1 : Nat) : Int) ≤ (c9 : Int) := by omega
                      have hcz11 : (((r3.length + 1 : Nat) : Int) == 0) = false := beq_eq_false_iff_ne.2 (by omega)
                      have hcz12 : 0 < r3.length + 1 := Nat.succ_pos _
                      by_cases he6 : e2.kind = 6
                      · have hR := HRa.out
                        unfold Nd.aft at hR
                        rw [if_pos (show Nd.hd (e2 :: r3) = 6 from he6), Nd.cat_cat, List.tail_cons] at hR
                        have HRb := Lib.hid hR
                        have qe : ((e2.kind : Int) != 6) = false := by rw [he6]; rfl
                        clear hR HRa HT9 he6
                        go_upto_region 16 with fail
                        generalize (if c9 = 1 then some (⟨b9, off9, none⟩ : Addr) else some ⟨b9, off9 + 3, none⟩) = p10 at HT10 ⊢
                        obtain ⟨c10, hc10⟩ : ∃ c10, c10 = c9 - 1 := ⟨_, rfl⟩
                        rw [← hc10]
                        have hc10b : r3.length ≤ c10 := by omega
                        have hc10c : c10 ≤ 9223372036854775807 := by omega
                        have hmm9 : r3.length < m := by have := Hm.out; have := Hl9.out; omega
                        have hmn9 : r3.length < g' ∧ r3.length ≤ n := by have := Hl9.out; have := Hm.out; omega
                        obtain ⟨x0, x1, x2, x3, x4⟩ := Vl.five_of HX11.out
                        clear hcz9 hcz10 hcz11 hcz12 qe ee0 hc10
                        (try clear q3)
                        go_wp2_with (at_builtin; refine Nd.nodeApp2 rfl _ _ rfl w wn W11 u5 out W11.heap.size _ _ _ _ _ (.mk t.kind t.text t.path kids els) rfl rfl rfl HOn.out HBn.out HBw.out HOf.out Hol.out ?_)
                        intro v7 w12 hO7 hB7
                        have HO7 := Lib.hid hO7
                        have HB7 := Lib.hid hB7
                        clear hO7 hB7
                        go_wp2_with fail
                        exact ⟨⟨g', r3, out ++ [Nd.N.mk t.kind t.text t.path kids els], p10, c10, hmn9.1, hmn9.2, rfl, hc10b, hc10c, Lib.hid (by have := Hcn.out; have := Hl9.out; have := Hm.out; rw [List.length_append, List.length_singleton]; omega), HT10, Hok9, HRb, Lib.hid (by rw [List.length_append]; exact HO7.out), HB7⟩, hmm9⟩
                      · have hR := HRa.out
                        unfold Nd.aft at hR
                        rw [if_neg (show ¬ Nd.hd (e2 :: r3) = 6 from he6)] at hR
                        have hR : R = none := hR
                        subst hR
                        have qe : ((e2.kind : Int) != 6) = true := by rw [bne_iff_ne]; omega
                        have HBf := Lib.hid (HBn.out.trans (HBw.out.mono HBn.out.size))
                        clear HRa HT9 HT10 Hok9 HOf HX11 HBw he6
                        go_wp2_with fail
                        go_ret3
                        exact ⟨rfl, HBf.out⟩
                · have HRa := Lib.hid (show R = Nd.cat out (Nd.aft g' t kids [] r1) by rw [HRm.out]; unfold Nd.mid2; rw [if_neg (fun h => h4 h.2)])
                  have HOf := Lib.hid (Nd.off_mk (x := some bx) (kids := kids) (els := []) (ck := ck) (ce := 0) ⟨f1, f3, by omega, by have := Hkl.out; omega, by simp, f5, hcq, hkc, by simp⟩ (HPo.out.later HG8.out) HK8.out (fun _ _ => Nd.Row.nil _ none) : Nd.Off wn.heap.size (w7.setCell ⟨bx, 3, none⟩ (.slice pk kids.length ck)) none (.agg #[.int .u8 (t.kind : Nat), .string t.text, .slice pq t.path.length cq, .slice pk kids.length ck, .slice none 0 0]) (.mk t.kind t.text t.path kids []))
                  have HX11 := HX8
                  have HBw := HBw8
                  have Hl9 := Lib.hid (show r1.length ≤ l2.length by have := Hkl.out; omega)
                  have Hok9 := Hok3
                  have HT9 := HA7
                  have hc9 : r1.length ≤ c7 := hc7
                  clear HRm HX7 HA7 HKo HK8 h3
                  cases r1 with
                  | nil =>
                    have hR := HRa.out
                    have hR : R = none := by rw [hR]; rfl
                    subst hR
                    have HBf := Lib.hid (HBn.out.trans (HBw.out.mono HBn.out.size))
                    clear HRa HT9 Hok9 HOf HBw h4
                    go_wp2_with fail
                    go_ret3
                    exact ⟨rfl, HBf.out⟩
                  | cons e2 r3 =>
                    have HT9 := Lib.hid (show Sc.At w0 p7 (e2 :: r3) from HT9.out)
                    have HRa := Lib.hid (show R = Nd.cat out (Nd.aft g' t kids [] (e2 :: r3)) from HRa.out)
                    have Hok9 := Lib.hid (fun x (h : x ∈ r3) => Hok9.out x (List.mem_cons_of_mem _ h))
                    have Hl9 := Lib.hid (show r3.length + 1 ≤ l2.length from Hl9.out)
                    have qx : ((e2.kind : Int) == 4) = false := beq_eq_false_iff_ne.2 (fun e => h4 (show e2.kind = 4 by omega))
                    clear h4
                    obtain ⟨b9, off9, pn9, cn9, hp9, ee0, -, -, -, -⟩ := Nd.at_head (HT9.out.below (H0n.out.trans (HBw.out.mono H0n.out.size)))
                    subst hp9
                    have HT10 := Lib.hid (show Sc.At w0 (if c7 = 1 then some ⟨b9, off9, none⟩ else some ⟨b9, off9 + 3, none⟩) r3 from Nd.at_tailIf HT9.out hc9 _)
                    rw [List.length_cons] at hc9 ⊢
                    have hcz9 : (1 : Int) ≤ ((r3.length + 1 : Nat) : Int) := by omega
                    have hcz10 : ((r3.length + 1 : Nat) : Int) ≤ (c7 : Int) := by omega
                    have hcz11 : (((r3.length + 1 : Nat) : Int) == 0) = false := beq_eq_false_iff_ne.2 (by omega)
                    have hcz12 : 0 < r3.length + 1 := Nat.succ_pos _
                    by_cases he6 : e2.kind = 6
                    · have hR := HRa.out
                      unfold Nd.aft at hR
                      rw [if_pos (show Nd.hd (e2 :: r3) = 6 from he6), Nd.cat_cat, List.tail_cons] at hR
                      have HRb := Lib.hid hR
                      have qe : ((e2.kind : Int) != 6) = false := by rw [he6]; rfl
                      clear hR HRa HT9 he6
                      go_upto_region 16 with fail
                      generalize (if c7 = 1 then some (⟨b9, off9, none⟩ : Addr) else some ⟨b9, off9 + 3, none⟩) = p10 at HT10 ⊢
                      obtain ⟨c10, hc10⟩ : ∃ c10, c10 = c7 - 1 := ⟨_, rfl⟩
                      rw [← hc10]
                      have hc10b : r3.length ≤ c10 := by omega
                      have hc10c : c10 ≤ 9223372036854775807 := by omega
                      have hmm9 : r3.length < m := by have := Hm.out; have := Hl9.out; omega
                      have hmn9 : r3.length < g' ∧ r3.length ≤ n := by have := Hl9.out; have := Hm.out; omega
                      generalize w7.setCell ⟨bx, 3, none⟩ (.slice pk kids.length ck) = W11 at *
                      obtain ⟨x0, x1, x2, x3, x4⟩ := Vl.five_of HX11.out
                      clear hcz9 hcz10 hcz11 hcz12 qe ee0 hc10
                      (try clear q3)
                      go_wp2_with (at_builtin; refine Nd.nodeApp2 rfl _ _ rfl w wn W11 u5 out W11.heap.size _ _ _ _ _ (.mk t.kind t.text t.path kids []) rfl rfl rfl HOn.out HBn.out HBw.out HOf.out Hol.out ?_)
                      intro v7 w12 hO7 hB7
                      have HO7 := Lib.hid hO7
                      have HB7 := Lib.hid hB7
                      clear hO7 hB7
                      go_wp2_with fail
                      exact ⟨⟨g', r3, out ++ [Nd.N.mk t.kind t.text t.path kids []], p10, c10, hmn9.1, hmn9.2, rfl, hc10b, hc10c, Lib.hid (by have := Hcn.out; have := Hl9.out; have := Hm.out; rw [List.length_append, List.length_singleton]; omega), HT10, Hok9, HRb, Lib.hid (by rw [List.length_append]; exact HO7.out), HB7⟩, hmm9⟩
                    · have hR := HRa.out
                      unfold Nd.aft at hR
                      rw [if_neg (show ¬ Nd.hd (e2 :: r3) = 6 from he6)] at hR
                      have hR : R = none := hR
                      subst hR
                      have qe : ((e2.kind : Int) != 6) = true := by rw [bne_iff_ne]; omega
                      have HBf := Lib.hid (HBn.out.trans (HBw.out.mono HBn.out.size))
                      clear HRa HT9 HT10 Hok9 HOf HX11 HBw he6
                      go_wp2_with fail
                      go_ret3
                      exact ⟨rfl, HBf.out⟩
            · rcases K with _ | ⟨kids, r1⟩
              · have hR : R = none := HRt.out
                subst hR
                clear HRt h3
                go_wp2_with fail
                refine HC.out.mono ?_
                rintro e w7 ⟨rfl, hb⟩
                have HBf := Lib.hid ((HBn.out.trans (HBl.out.mono HBn.out.size)).trans (hb.mono (Nat.le_trans HBn.out.size HBl.out.size)))
                clear hb HC x0 x1 x2 x3 x4 k0 k1 k2
                go_wp2_with fail
                go_ret3
                exact ⟨rfl, HBf.out⟩
              · have HRm := Lib.hid (show R = Nd.cat out (Nd.mid2 g' t kids r1) from HRt.out)
                have hkl : kids.length + r1.length ≤ l2.length := Hlk.out kids r1 rfl
                have Hkl := Lib.hid hkl
                have Hok3 := Lib.hid (Hsub.out kids r1 rfl)
                clear HRt Hlk Hsub hkl
                clear x0 x1 x2 x3 x4
                go_wp2_with fail
                refine HC.out.mono ?_
                rintro e w7 ⟨vk, p7, c7, rfl, hOk, hBk, hAk, hc7, hc7b⟩
                obtain ⟨pk, ck, rfl, hkc, hkoff⟩ := hOk.off
                have hx7 := Nd.keepBox HBX.out hBk
                have hbl5 := (Array.getElem?_eq_some_iff.1 HBX.out).1
                have HKo := Lib.hid (Nd.Rd.mono (Nd.Rd.off hkoff hbl5) HBl.out.size : Nd.Rd wn.heap.size w7 (some bx) fun W' => Nd.Row W' pk kids)
                have HG7 := Lib.hid (grownBy_of hBk (some bx))
                have HX7 := Lib.hid hx7
                have HA7 := Lib.hid hAk
                clear hOk hBk hAk hkoff hbl5 hx7 HC k0 k1 k2
                obtain ⟨x0, x1, x2, x3, x4⟩ := Vl.five_of HX7.out
                obtain ⟨z0, z1, z2, z3, z4⟩ := Vl.fiveF_of HX7.out
                have HX8 := Lib.hid (show (w7.setCell ⟨bx, 3, none⟩ (.slice pk kids.length ck)).heap[bx]? = some (.cells #[.int .u8 (t.kind : Nat), .string t.text, .slice pq t.path.length cq, .slice pk kids.length ck, .slice none 0 0] 44 (0, 0)) from (Lib.heap_setCell_same (i := 3) HX7.out _).trans rfl)
                have HG8 := Lib.hid (grownBy_trans HG7.out (Vl.set1_grown w7 bx 3 (.slice pk kids.length ck)))
                have HK8 := Lib.hid (HKo.out.later (Vl.set1_grown w7 bx 3 (.slice pk kids.length ck)))
                have HBw8 := Lib.hid (show Below wn.heap.size wn (w7.setCell ⟨bx, 3, none⟩ (.slice pk kids.length ck)) from below_grownBy HBl.out HG8.out Hbx.out HBl.out.size)
                have HB8 := Lib.hid (H0n.out.trans (HBw8.out.mono H0n.out.size))
                obtain ⟨k0, k1, k2⟩ := HKt.out _ (HKb.out _ HBw8.out)
                have HRa := Lib.hid (show R = Nd.cat out (Nd.aft g' t kids [] r1) by rw [HRm.out]; unfold Nd.mid2; rw [if_neg (fun h => h3 h.1)])
                have HOf := Lib.hid (Nd.off_mk (x := some bx) (kids := kids) (els := []) (ck := ck) (ce := 0) ⟨f1, f3, by omega, by have := Hkl.out; omega, by simp, f5, hcq, hkc, by simp⟩ (HPo.out.later HG8.out) HK8.out (fun _ _ => Nd.Row.nil _ none) : Nd.Off wn.heap.size (w7.setCell ⟨bx, 3, none⟩ (.slice pk kids.length ck)) none (.agg #[.int .u8 (t.kind : Nat), .string t.text, .slice pq t.path.length cq, .slice pk kids.length ck, .slice none 0 0]) (.mk t.kind t.text t.path kids []))
                have HX11 := HX8
                have HBw := HBw8
                have Hl9 := Lib.hid (show r1.length ≤ l2.length by have := Hkl.out; omega)
                have Hok9 := Hok3
                have HT9 := HA7
                have hc9 : r1.length ≤ c7 := hc7
                clear HRm HX7 HA7 HKo HK8 h3
                cases r1 with
                | nil =>
                  have hR := HRa.out
                  have hR : R = none := by rw [hR]; rfl
                  subst hR
                  have HBf := Lib.hid (HBn.out.trans (HBw.out.mono HBn.out.size))
                  clear HRa HT9 Hok9 HOf HX11 HBw
                  go_wp2_with fail
                  go_ret3
                  exact ⟨rfl, HBf.out⟩
                | cons e2 r3 =>
                  have HT9 := Lib.hid (show Sc.At w0 p7 (e2 :: r3) from HT9.out)
                  have HRa := Lib.hid (show R = Nd.cat out (Nd.aft g' t kids [] (e2 :: r3)) from HRa.out)
                  have Hok9 := Lib.hid (fun x (h : x ∈ r3) => Hok9.out x (List.mem_cons_of_mem _ h))
                  have Hl9 := Lib.hid (show r3.length + 1 ≤ l2.length from Hl9.out)
                  obtain ⟨b9, off9, pn9, cn9, hp9, ee0, -, -, -, -⟩ := Nd.at_head (HT9.out.below (H0n.out.trans (HBw.out.mono H0n.out.size)))
                  subst hp9
                  have HT10 := Lib.hid (show Sc.At w0 (if c7 = 1 then some ⟨b9, off9, none⟩ else some ⟨b9, off9 + 3, none⟩) r3 from Nd.at_tailIf HT9.out hc9 _)
                  rw [List.length_cons] at hc9 ⊢
                  have hcz9 : (1 : Int) ≤ ((r3.length + 1 : Nat) : Int) := by omega
                  have hcz10 : ((r3.length + 1 : Nat) : Int) ≤ (c7 : Int) := by omega
                  have hcz11 : (((r3.length + 1 : Nat) : Int) == 0) = false := beq_eq_false_iff_ne.2 (by omega)
                  have hcz12 : 0 < r3.length + 1 := Nat.succ_pos _
                  by_cases he6 : e2.kind = 6
                  · have hR := HRa.out
                    unfold Nd.aft at hR
                    rw [if_pos (show Nd.hd (e2 :: r3) = 6 from he6), Nd.cat_cat, List.tail_cons] at hR
                    have HRb := Lib.hid hR
                    have qe : ((e2.kind : Int) != 6) = false := by rw [he6]; rfl
                    clear hR HRa HT9 he6
                    go_upto_region 16 with fail
                    generalize (if c7 = 1 then some (⟨b9, off9, none⟩ : Addr) else some ⟨b9, off9 + 3, none⟩) = p10 at HT10 ⊢
                    obtain ⟨c10, hc10⟩ : ∃ c10, c10 = c7 - 1 := ⟨_, rfl⟩
                    rw [← hc10]
                    have hc10b : r3.length ≤ c10 := by omega
                    have hc10c : c10 ≤ 9223372036854775807 := by omega
                    have hmm9 : r3.length < m := by have := Hm.out; have := Hl9.out; omega
                    have hmn9 : r3.length < g' ∧ r3.length ≤ n := by have := Hl9.out; have := Hm.out; omega
                    generalize w7.setCell ⟨bx, 3, none⟩ (.slice pk kids.length ck) = W11 at *
                    obtain ⟨x0, x1, x2, x3, x4⟩ := Vl.five_of HX11.out
                    clear hcz9 hcz10 hcz11 hcz12 qe ee0 hc10
                    (try clear q3)
                    go_wp2_with (at_builtin; refine Nd.nodeApp2 rfl _ _ rfl w wn W11 u5 out W11.heap.size _ _ _ _ _ (.mk t.kind t.text t.path kids []) rfl rfl rfl HOn.out HBn.out HBw.out HOf.out Hol.out ?_)
                    intro v7 w12 hO7 hB7
                    have HO7 := Lib.hid hO7
                    have HB7 := Lib.hid hB7
                    clear hO7 hB7
                    go_wp2_with fail
                    exact ⟨⟨g', r3, out ++ [Nd.N.mk t.kind t.text t.path kids []], p10, c10, hmn9.1, hmn9.2, rfl, hc10b, hc10c, Lib.hid (by have := Hcn.out; have := Hl9.out; have := Hm.out; rw [List.length_append, List.length_singleton]; omega), HT10, Hok9, HRb, Lib.hid (by rw [List.length_append]; exact HO7.out), HB7⟩, hmm9⟩
                  · have hR := HRa.out
                    unfold Nd.aft at hR
                    rw [if_neg (show ¬ Nd.hd (e2 :: r3) = 6 from he6)] at hR
                    have hR : R = none := hR
                    subst hR
                    have qe : ((e2.kind : Int) != 6) = true := by rw [bne_iff_ne]; omega
                    have HBf := Lib.hid (HBn.out.trans (HBw.out.mono HBn.out.size))
                    clear HRa HT9 HT10 Hok9 HOf HX11 HBw he6
                    go_wp2_with fail
                    go_ret3
                    exact ⟨rfl, HBf.out⟩
end Go.Proofs.YteajjlilpikdeaaGreatDoor
namespace Go.Proofs.YteajjlilpikdeaaGreatDoor
open Go.RowKit

def Nd.leafB (k ts np nk ne : Nat) : Bool := if k = 1 then decide (np + nk + ne = 0) else if k = 2 then decide (ts = 0) && decide (nk + ne = 0) else if k = 3 then decide (ts = 0) else if k = 5 then decide (ts = 0) && decide (ne = 0) else false
theorem Nd.leafB_eq (n : Nd.N) : Nd.leafR n = Nd.leafB n.kind n.text.size n.path.length n.kids.length n.els.length := by
  unfold Nd.leafR Nd.leafB
  split
  · rename_i h; rw [if_pos h]
  · rename_i h; rw [h]; rfl
  · rename_i h; rw [h]; rfl
  · rename_i h; rw [h]; rfl
  · rename_i h1 h2 h3 h5
    rw [if_neg h1, if_neg h2, if_neg h3, if_neg h5]
theorem Nd.text_nil {t : ByteArray} (h : t.size = 0) : t = ⟨#[]⟩ := by
  obtain ⟨d⟩ := t
  have : d = #[] := Array.size_eq_zero_iff.1 h
  rw [this]
theorem Nd.text_ne {t : ByteArray} (h : ¬ t.size = 0) : t.toList.isEmpty = false ∧ ¬ t.toList = [] := by
  have e : ¬ t.toList = [] := fun e => h (by
    rw [Wp.size_len, ← Lib.toList_data, e]
    rfl)
  exact ⟨by cases h2 : t.toList with | nil => exact absurd h2 e | cons a b => rfl, e⟩
set_option maxRecDepth 100000 in
set_option maxHeartbeats 2000000 in
theorem refLeaf11_any (k : Nat) (t : ByteArray) (pp : Option Addr) (np cp : Nat) (pk : Option Addr) (nk ck : Nat) (pe : Option Addr) (ne ce : Nat) (w : World) (h1 : np ≤ 140737488351232) (h2 : nk ≤ 140737488351232) (h3 : ne ≤ 140737488351232) :
    Calls Tryz.prog 94 #[.agg #[.int .u8 k, .string t, .slice pp np cp, .slice pk nk ck, .slice pe ne ce]] w fun e w' => e = .returned (.bool (Nd.leafB k t.size np nk ne)) ∧ Below w.heap.size w w' := by
  by_cases k1 : k = 1
  · subst k1
    have Hl := Lib.hid (show Nd.leafB 1 t.size np nk ne = decide (np + nk + ne = 0) from rfl)
    generalize Nd.leafB 1 t.size np nk ne = r at *
    go_enter Tryz.func94, Tryz.ntmps94
    go_wp2_with fail
    all_goals (go_ret; refine ⟨congrArg (fun b => Ending.returned (Value.bool b)) ?_, (Below.refl _ _).alloc (Nat.le_refl _) _⟩; rw [Hl.out]; (rw [Bool.eq_iff_iff]; first | (simp; done) | (simp; omega) | (simp_all; done) | (trace_state; fail)))
  by_cases k2 : k = 2
  · subst k2
    by_cases ht : t.size = 0
    · obtain rfl := Nd.text_nil ht
      have Hl := Lib.hid (show Nd.leafB 2 (ByteArray.size ⟨#[]⟩) np nk ne = decide (nk + ne = 0) from rfl)
      generalize Nd.leafB 2 (ByteArray.size ⟨#[]⟩) np nk ne = r at *
      clear ht
      go_enter Tryz.func94, Tryz.ntmps94
      go_wp2_with fail
      all_goals (go_ret; refine ⟨congrArg (fun b => Ending.returned (Value.bool b)) ?_, (Below.refl _ _).alloc (Nat.le_refl _) _⟩; rw [Hl.out]; (rw [Bool.eq_iff_iff]; first | (simp; done) | (simp; omega) | (simp_all; done) | (trace_state; fail)))
    · obtain ⟨q, q'⟩ := Nd.text_ne ht
      have Hl := Lib.hid (show Nd.leafB 2 t.size np nk ne = false by unfold Nd.leafB; rw [decide_eq_false ht]; rfl)
      generalize Nd.leafB 2 t.size np nk ne = r at *
      clear ht
      go_enter Tryz.func94, Tryz.ntmps94
      go_wp2_with fail
      all_goals (go_ret; refine ⟨congrArg (fun b => Ending.returned (Value.bool b)) ?_, (Below.refl _ _).alloc (Nat.le_refl _) _⟩; rw [Hl.out]; (first | rfl | (simp [q, q']; done) | (simp_all; done) | skip))
  by_cases k3 : k = 3
  · subst k3
    by_cases ht : t.size = 0
    · obtain rfl := Nd.text_nil ht
      clear ht
      go_enter Tryz.func94, Tryz.ntmps94
      go_wp2_with fail
      go_ret
      exact ⟨rfl, (Below.refl _ _).alloc (Nat.le_refl _) _⟩
    · obtain ⟨q, q'⟩ := Nd.text_ne ht
      have Hl := Lib.hid (show Nd.leafB 3 t.size np nk ne = false by unfold Nd.leafB; rw [decide_eq_false ht]; rfl)
      generalize Nd.leafB 3 t.size np nk ne = r at *
      clear ht
      go_enter Tryz.func94, Tryz.ntmps94
      go_wp2_with fail
      all_goals (go_ret; refine ⟨congrArg (fun b => Ending.returned (Value.bool b)) ?_, (Below.refl _ _).alloc (Nat.le_refl _) _⟩; rw [Hl.out]; (first | rfl | (simp [q, q']; done) | (simp_all; done) | skip))
  by_cases k5 : k = 5
  · subst k5
    by_cases ht : t.size = 0
    · obtain rfl := Nd.text_nil ht
      have Hl := Lib.hid (show Nd.leafB 5 (ByteArray.size ⟨#[]⟩) np nk ne = decide (ne = 0) from rfl)
      generalize Nd.leafB 5 (ByteArray.size ⟨#[]⟩) np nk ne = r at *
      clear ht
      go_enter Tryz.func94, Tryz.ntmps94
      go_wp2_with fail
      all_goals (go_ret; refine ⟨congrArg (fun b => Ending.returned (Value.bool b)) ?_, (Below.refl _ _).alloc (Nat.le_refl _) _⟩; rw [Hl.out]; (rw [Bool.eq_iff_iff]; first | (simp; done) | (simp; omega) | (simp_all; done) | (trace_state; fail)))
    · obtain ⟨q, q'⟩ := Nd.text_ne ht
      have Hl := Lib.hid (show Nd.leafB 5 t.size np nk ne = false by unfold Nd.leafB; rw [decide_eq_false ht]; rfl)
      generalize Nd.leafB 5 t.size np nk ne = r at *
      clear ht
      go_enter Tryz.func94, Tryz.ntmps94
      go_wp2_with fail
      all_goals (go_ret; refine ⟨congrArg (fun b => Ending.returned (Value.bool b)) ?_, (Below.refl _ _).alloc (Nat.le_refl _) _⟩; rw [Hl.out]; (first | rfl | (simp [q, q']; done) | (simp_all; done) | skip))
  have Hl : Nd.leafB k t.size np nk ne = false := by unfold Nd.leafB; rw [if_neg k1, if_neg k2, if_neg k3, if_neg k5]
  rw [Hl]
  have q1 : ((k : Int) == 1) = false := beq_eq_false_iff_ne.2 (by omega)
  have q2 : ((k : Int) == 2) = false := beq_eq_false_iff_ne.2 (by omega)
  have q3 : ((k : Int) == 3) = false := beq_eq_false_iff_ne.2 (by omega)
  have q5 : ((k : Int) == 5) = false := beq_eq_false_iff_ne.2 (by omega)
  go_enter Tryz.func94, Tryz.ntmps94
  go_wp2_with fail
  go_ret
  exact ⟨rfl, (Below.refl _ _).alloc (Nat.le_refl _) _⟩
/-- How many, and whether right: what right hands back. -/
def Nd.RPost (R : Nat × Bool) (w : World) (e : Ending) (w' : World) : Prop := e = .returned (.tuple #[.int .i64 (R.1 : Nat), .bool R.2]) ∧ Below w.heap.size w w'
theorem Nd.rgt_le (d : Nat) (l : List Nd.N) : (Nd.rgt d l).1 ≤ 256 := by
  rw [Nd.rgt_eq]
  split
  · rename_i h
    rw [Bool.and_eq_true, decide_eq_true_eq] at h
    exact h.2
  · exact Nat.zero_le _
set_option maxRecDepth 100000 in
theorem refRight_zero (l : List Nd.N) (q : Option Addr) (c : Nat) (w : World) (hn : l.length ≤ 140737488351232) :
    Calls Tryz.prog 50 #[.slice q l.length c, .int .i64 (0 : Nat)] w (Nd.RPost (Nd.rgt 0 l) w) := by
  by_cases h0 : l.length = 0
  · rw [Nd.rgt, if_pos h0, h0]
    clear h0 hn
    go_enter Tryz.func50, Tryz.ntmps50
    go_wp2_with fail
    go_loopw [6, 8, 9, 10, 11, 12, 22] (fun t6 _ _ _ _ _ t wr => t6 = .int .i64 0 ∧ t = .int .i64 0 ∧ wr = w) (fun _ _ _ _ _ _ _ _ => 0)
    case atStart => exact ⟨rfl, rfl, rfl⟩
    case round =>
      obtain ⟨rfl, rfl, rfl⟩ := hrel
      go_wp2_with fail
      go_ret2
      exact ⟨rfl, Below.refl _ _⟩
  · rw [Nd.rgt, if_neg h0]
    have hp : (0 : Int) < (l.length : Int) := by omega
    generalize l.length = n at *
    clear h0
    go_enter Tryz.func50, Tryz.ntmps50
    go_wp2_with fail
    go_ret2
    exact ⟨rfl, Below.refl _ _⟩
set_option maxRecDepth 100000 in
set_option maxHeartbeats 4000000 in
theorem refRight_step (d : Nat) (l : List Nd.N) (q : Option Addr) (c : Nat) (w0 w : World) (hd : d ≤ 8) (hn : l.length ≤ 140737488351232) (hA : Nd.Row w0 q l) (hB : Below w0.heap.size w0 w)
    (ih : ∀ (l' : List Nd.N) (q' : Option Addr) (c' : Nat) (W : World), l'.length ≤ 140737488351232 → Nd.Row w0 q' l' → Below w0.heap.size w0 W → Calls Tryz.prog 50 #[.slice q' l'.length c', .int .i64 (d : Nat)] W (Nd.RPost (Nd.rgt d l') W)) :
    Calls Tryz.prog 50 #[.slice q l.length c, .int .i64 ((d : Int) + 1)] w (Nd.RPost (Nd.rgt (d + 1) l) w) := by
  have HA := Lib.hid hA
  have HB := Lib.hid hB
  have Hih := Lib.hid ih
  have HR0 : Hid (Nd.rgtAll (Nd.rgt d) (l.drop 0) 0 = Nd.rgt (d + 1) l) := Lib.hid (by rw [List.drop_zero, Nd.rgt])
  have Hend : Hid (∀ m, Nd.rgtAll (Nd.rgt d) (l.drop l.length) m = (m, true)) := Lib.hid (fun m => by rw [List.drop_length, Nd.rgtAll])
  have Hstep : Hid (∀ k (h : k < l.length) m, Nd.rgtAll (Nd.rgt d) (l.drop k) m = if (Nd.rgt d l[k].kids).2 = false ∨ (Nd.rgt d l[k].els).2 = false ∨ Nd.leafR l[k] = false ∨ 256 < m + (1 + (Nd.rgt d l[k].kids).1 + (Nd.rgt d l[k].els).1) then (0, false) else Nd.rgtAll (Nd.rgt d) (l.drop (k + 1)) (m + (1 + (Nd.rgt d l[k].kids).1 + (Nd.rgt d l[k].els).1))) := Lib.hid (fun k h m => by rw [List.drop_eq_getElem_cons h, Nd.rgtAll])
  have Hle := Lib.hid (Nd.rgt_le d)
  generalize Nd.rgt (d + 1) l = R at *
  generalize Nd.rgtAll (Nd.rgt d) = RA at *
  generalize Nd.rgt d = RG at *
  obtain ⟨n, hnl⟩ : ∃ n, n = l.length := ⟨_, rfl⟩
  have HN := Lib.hid hnl
  rw [← hnl] at hn ⊢
  have hwr : IntKind.i64.wrap ((d : Int) + 1 - 1) = (d : Int) := by rw [IntWalk.i64_in _ (by omega)]; omega
  have q0 : (((d : Int) + 1) == 0) = false := beq_eq_false_iff_ne.2 (by omega)
  clear hA hB ih hnl
  by_cases hz : n = 0
  · subst hz
    have E := Hend.out 0
    rw [← HN.out, HR0.out] at E
    subst E
    go_enter Tryz.func50, Tryz.ntmps50
    go_wp2_with fail
    go_loopw [6, 8, 9, 10, 11, 12, 22] (fun t6 _ _ _ _ _ t wr => t6 = .int .i64 0 ∧ t = .int .i64 0 ∧ wr = w) (fun _ _ _ _ _ _ _ _ => 0)
    case atStart => exact ⟨rfl, rfl, rfl⟩
    case round =>
      obtain ⟨rfl, rfl, rfl⟩ := hrel
      go_wp2_with fail
      go_ret2
      exact ⟨rfl, Below.refl _ _⟩
  have hp : (0 : Int) < (n : Int) := by omega
  go_enter Tryz.func50, Tryz.ntmps50
  go_wp2_with fail
  go_loopw [6, 8, 9, 10, 11, 12, 22] (fun t6 _ _ _ _ _ t wr => ∃ k m : Nat, k ≤ n ∧ t = .int .i64 k ∧ t6 = .int .i64 m ∧ m ≤ 256 ∧ Hid (RA (l.drop k) m = R) ∧ Hid (Below w.heap.size w wr)) (fun _ _ _ _ _ _ t _ => n - (intOf t).toNat)
  case atStart => exact ⟨0, 0, Nat.zero_le _, rfl, rfl, Nat.zero_le _, HR0, Lib.hid (Below.refl _ _)⟩
  case round =>
    obtain ⟨k, m, hk, rfl, rfl, hm, HR, HBw⟩ := hrel
    by_cases hlt : k < n
    · have hkl : k < l.length := by rw [← HN.out]; exact hlt
      have hBr := HB.out.trans (HBw.out.mono HB.out.size)
      have HBr := Lib.hid hBr
      obtain ⟨b, off, pp, cp, pk, ck, pe, ce, rfl, h5, hf, hp, hrk, hre⟩ := HA.out.get k hkl
      obtain ⟨e0, e1, e2, e3, e4⟩ := h5.below hBr
      have hst := Hstep.out k hkl m
      rw [HR.out] at hst
      obtain ⟨x, hx⟩ : ∃ x, x = l[k] := ⟨_, rfl⟩
      rw [← hx] at e0 e1 e2 e3 e4 hst hf hrk hre
      rw [Nd.leafB_eq] at hst
      obtain ⟨-, -, f3, f4, f5, -, -, -, -⟩ := hf
      have C1 := Lib.hid (fun W h => Hih.out x.kids pk ck W f4 hrk h)
      have C2 := Lib.hid (fun W h => Hih.out x.els pe ce W f5 hre h)
      have CL := Lib.hid (fun W => refLeaf11_any x.kind x.text pp x.path.length cp pk x.kids.length ck pe x.els.length ce W f3 f4 f5)
      have L1 := Hle.out x.kids
      have L2 := Hle.out x.els
      have HX1 := Lib.hid ((Below.refl wr.heap.size wr).alloc (Nat.le_refl _) (.cells #[.int .u8 (x.kind : Nat), .string x.text, .slice pp x.path.length cp, .slice pk x.kids.length ck, .slice pe x.els.length ce] 44))
      have HV := Lib.hid (Vl.new wr (.cells #[.int .u8 (x.kind : Nat), .string x.text, .slice pp x.path.length cp, .slice pk x.kids.length ck, .slice pe x.els.length ce] 44))
      generalize RG x.kids = K1 at *
      generalize RG x.els = K2 at *
      obtain ⟨a1, b1⟩ := K1
      obtain ⟨a2, b2⟩ := K2
      simp only at hst L1 L2
      generalize Nd.leafB x.kind x.text.size x.path.length x.kids.length x.els.length = lf at *
      generalize x.kids.length = nk at *
      generalize x.els.length = ne at *
      generalize x.path.length = np at *
      generalize x.kind = kd at *
      generalize x.text = tx at *
      have Hst := Lib.hid hst
      have B0 := Lib.hid (HBr.out.trans (HX1.out.mono HBr.out.size))
      have B0w := Lib.hid (HBw.out.trans (HX1.out.mono HBw.out.size))
      clear hst hp hrk hre hBr HBr HX1 h5 HBw hx hkl
      obtain ⟨v0, v1, v2, v3, v4⟩ := Vl.five_of HV.out
      go_wp2_with fail
      refine (C1.out _ B0.out).mono ?_
      rintro e w1 ⟨rfl, hb1⟩
      have B1 := Lib.hid (B0.out.trans (hb1.mono B0.out.size))
      have B1w := Lib.hid (B0w.out.trans (hb1.mono B0w.out.size))
      have HV1 := Lib.hid ((hb1.block _ (Array.getElem?_eq_some_iff.1 HV.out).1).trans HV.out)
      clear v0 v1 v2 v3 v4 e0 e1 e2 e3 e4 hb1 HV B0 B0w C1
      obtain ⟨v0, v1, v2, v3, v4⟩ := Vl.five_of HV1.out
      go_wp2_with fail
      refine (C2.out _ B1.out).mono ?_
      rintro e w2 ⟨rfl, hb2⟩
      have B2 := Lib.hid (B1.out.trans (hb2.mono B1.out.size))
      have B2w := Lib.hid (B1w.out.trans (hb2.mono B1w.out.size))
      have HV2 := Lib.hid ((hb2.block _ (Array.getElem?_eq_some_iff.1 HV1.out).1).trans HV1.out)
      clear v0 v1 v2 v3 v4 hb2 HV1 B1 B1w C2
      obtain ⟨v0, v1, v2, v3, v4⟩ := Vl.five_of HV2.out
      obtain ⟨s1, hs1⟩ : ∃ s, s = 1 + a1 := ⟨_, rfl⟩
      obtain ⟨s2, hs2⟩ : ∃ s, s = s1 + a2 := ⟨_, rfl⟩
      obtain ⟨s3, hs3⟩ : ∃ s, s = m + s2 := ⟨_, rfl⟩
      have hst := Hst.out
      rw [← hs1, ← hs2, ← hs3] at hst
      have hw1 : IntKind.i64.wrap (1 + (a1 : Int)) = (s1 : Int) := by rw [IntWalk.i64_in _ (by omega)]; omega
      have hw2 : IntKind.i64.wrap ((s1 : Int) + (a2 : Int)) = (s2 : Int) := by rw [IntWalk.i64_in _ (by omega)]; omega
      have hw3 : IntKind.i64.wrap ((m : Int) + (s2 : Int)) = (s3 : Int) := by rw [IntWalk.i64_in _ (by omega)]; omega
      have HSt := Lib.hid hst
      clear Hst hst hs1 hs2 hs3 L1 L2
      cases b1 with
      | false =>
        have hst := HSt.out
        rw [if_pos (Or.inl rfl)] at hst
        subst hst
        go_wp2_with fail
        go_ret2
        exact ⟨rfl, B2w.out⟩
      | true =>
        cases b2 with
        | false =>
          have hst := HSt.out
          rw [if_pos (Or.inr (Or.inl rfl))] at hst
          subst hst
          go_wp2_with fail
          go_ret2
          exact ⟨rfl, B2w.out⟩
        | true =>
          go_wp2_with fail
          refine (CL.out _).mono ?_
          rintro e w3 ⟨rfl, hb3⟩
          have B3w := Lib.hid (B2w.out.trans (hb3.mono B2w.out.size))
          clear hb3 CL B2 B2w v0 v1 v2 v3 v4 HV2
          cases lf with
          | false =>
            have hst := HSt.out
            rw [if_pos (Or.inr (Or.inr (Or.inl rfl)))] at hst
            subst hst
            go_wp2_with fail
            go_ret2
            exact ⟨rfl, B3w.out⟩
          | true =>
            by_cases h256 : 256 < s3
            · have hst := HSt.out
              rw [if_pos (Or.inr (Or.inr (Or.inr h256)))] at hst
              subst hst
              have q5 : (256 : Int) < (s3 : Int) := by omega
              go_wp2_with fail
              go_ret2
              exact ⟨rfl, B3w.out⟩
            · have hst := HSt.out
              rw [if_neg (by simp [h256])] at hst
              have HS := Lib.hid hst
              have q5 : ¬ (256 : Int) < (s3 : Int) := by omega
              clear hst
              go_wp2_with fail
              exact ⟨⟨k + 1, s3, by omega, by go_num, rfl, by omega, Lib.hid HS.out.symm, B3w⟩, by simp [intOf]; omega⟩
    · obtain rfl : k = n := by omega
      have E := Hend.out m
      rw [← HN.out, HR.out] at E
      subst E
      go_wp2_with fail
      go_ret2
      exact ⟨rfl, HBw.out⟩
theorem refRight_any : ∀ (d : Nat) (l : List Nd.N) (q : Option Addr) (c : Nat) (w0 w : World), d ≤ 8 → l.length ≤ 140737488351232 → Nd.Row w0 q l → Below w0.heap.size w0 w →
    Calls Tryz.prog 50 #[.slice q l.length c, .int .i64 (d : Nat)] w (Nd.RPost (Nd.rgt d l) w)
  | 0, l, q, c, w0, w, _, hn, _, _ => refRight_zero l q c w hn
  | d + 1, l, q, c, w0, w, hd, hn, hA, hB => by
    have h := refRight_step d l q c w0 w (by omega) hn hA hB (fun l' q' c' W h1 h2 h3 => refRight_any d l' q' c' w0 W (by omega) h1 h2 h3)
    rw [show ((d : Int) + 1) = ((d + 1 : Nat) : Int) by omega] at h
    exact h
end Go.Proofs.YteajjlilpikdeaaGreatDoor
namespace Go.Proofs.YteajjlilpikdeaaGreatDoor
open Go.RowKit

theorem rnodes_all : ∀ m, Nd.RNC m := fun m => by
  induction m using Nat.strongRecOn with
  | ind m ih => exact rnodes_step m ih
theorem Nd.nodesR_len (l : List Sc.T) : (Nd.nodesR l).1.length ≤ l.length := by
  unfold Nd.nodesR
  split
  · split
    · rename_i ns h
      split
      · have := Nd.pR_len _ _ _ _ h
        simp at this
        exact this
      · simp
    · simp
  · simp
set_option maxRecDepth 100000 in
set_option maxHeartbeats 2000000 in
theorem refNodes11_any (l : List Sc.T) (q : Option Addr) (c : Nat) (w : World) (hA : Sc.At w q l) (hl : l.length ≤ 1048576) (hc : l.length ≤ c) (hc2 : c ≤ 9223372036854775807) :
    Calls Tryz.prog 14 #[.slice q l.length c] w (Nd.TopPost (Nd.nodesR l) w) := by
  have CC := Lib.hid (refCheck10_any l q c w hA (by omega))
  have CN := Lib.hid (fun (h : Sc.okTs l = true) W (hb : Below w.heap.size w W) => rnodes_all l.length (l.length + 1) l q c w W rfl (by omega) hl (Nd.all_of h) hA hb hc hc2)
  have HPl := Lib.hid (fun ns r h => Nd.pR_len (l.length + 1) l ns r h)
  have CR := Lib.hid (fun (ns : List Nd.N) p c W (hA : Nd.Row W p ns) (h : ns.length ≤ 1048576) => refRight_any 8 ns p c W W (by omega) (by omega) hA (Below.refl _ _))
  have HBad : Hid (Sc.okTs l = false → Nd.nodesR l = ([], 2) ∧ Sc.chkTs l = 2) := Lib.hid (fun h => ⟨Nd.nodesR_bad h, by unfold Sc.chkTs; rw [h]; rfl⟩)
  have HOk : Hid (Sc.okTs l = true → Sc.chkTs l = 0 ∧ Nd.nodesR l = match Nd.pR (l.length + 1) l with
    | some (ns, []) => if (Nd.rgt 8 ns).2 then (ns, 0) else ([], 11)
    | _ => ([], 7)) := Lib.hid (fun h => ⟨by unfold Sc.chkTs; rw [h]; rfl, by
    unfold Nd.nodesR
    rw [h, if_pos rfl]
    rcases Nd.pR (l.length + 1) l with _ | ⟨ns, r⟩
    · rfl
    · cases r <;> rfl⟩)
  generalize Nd.pR (l.length + 1) l = P at *
  generalize Nd.nodesR l = R at *
  generalize Sc.chkTs l = z at *
  generalize Sc.okTs l = ok at *
  clear hA hc hc2
  generalize hn : l.length = n at *
  clear hn
  go_enter Tryz.func14, Tryz.ntmps14
  go_wp2_with fail
  refine CC.out.mono ?_
  rintro e w1 ⟨rfl, hb⟩
  have B1 := Lib.hid hb
  clear hb CC
  cases ok with
  | false =>
    obtain ⟨rfl, rfl⟩ := HBad.out rfl
    go_wp2_with fail
    go_ret2
    exact ⟨_, rfl, Nd.OwnRow.nil _ _, B1.out⟩
  | true =>
    obtain ⟨rfl, hR⟩ := HOk.out rfl
    have C1 := Lib.hid (CN.out rfl w1 B1.out)
    clear HOk HBad CN
    rcases P with _ | ⟨ns, r⟩
    · have hR : R = ([], 7) := hR
      subst hR
      go_wp2_with fail
      refine C1.out.mono ?_
      rintro e w2 ⟨rfl, hb⟩
      have B2 := Lib.hid (B1.out.trans (hb.mono B1.out.size))
      clear hb C1
      go_wp2_with fail
      go_ret2
      exact ⟨_, rfl, Nd.OwnRow.nil _ _, B2.out⟩
    · have hlen := HPl.out ns r rfl
      have HL := Lib.hid hlen
      clear HPl hlen
      cases r with
      | nil =>
        have HR := Lib.hid (show R = if (Nd.rgt 8 ns).2 then (ns, 0) else ([], 11) from hR)
        clear hR
        go_wp2_with fail
        refine C1.out.mono ?_
        rintro e w2 ⟨v, p, c2, rfl, hO, hb, -, -, -⟩
        have B2 := Lib.hid (B1.out.trans (hb.mono B1.out.size))
        obtain ⟨p2, c3, rfl, -, hA2⟩ := hO.at
        have HO2 := Lib.hid (hO.base B1.out.size)
        have C2 := Lib.hid (CR.out ns p2 c3 w2 hA2 (by have := HL.out; omega))
        clear hb C1 hO hA2 CR
        generalize hG : Nd.rgt 8 ns = G at *
        obtain ⟨ga, gb⟩ := G
        generalize hk : ns.length = k at *
        have HK := Lib.hid hk
        clear hk hG
        go_wp2_with fail
        refine C2.out.mono ?_
        rintro e w3 ⟨rfl, hb⟩
        have B3 := Lib.hid (B2.out.trans (hb.mono B2.out.size))
        have HO3 := Lib.hid (HO2.out.below hb)
        clear hb C2
        cases gb with
        | true =>
          have hR : R = (ns, 0) := HR.out
          subst hR
          go_wp2_with fail
          go_ret2
          exact ⟨_, rfl, by show Nd.OwnRow w.heap.size w3 (.slice p2 k c3) ns.length ns; rw [HK.out]; exact HO3.out, B3.out⟩
        | false =>
          have hR : R = ([], 11) := HR.out
          subst hR
          go_wp2_with fail
          go_ret2
          exact ⟨_, rfl, Nd.OwnRow.nil _ _, B3.out⟩
      | cons x r =>
        have hR : R = ([], 7) := hR
        subst hR
        have hpos : (0 : Int) < ((x :: r).length : Int) := by rw [List.length_cons]; omega
        go_wp2_with fail
        refine C1.out.mono ?_
        rintro e w2 ⟨v, p, c2, rfl, -, hb, -, -, -⟩
        have B2 := Lib.hid (B1.out.trans (hb.mono B1.out.size))
        clear hb C1
        generalize (x :: r).length = k at *
        go_wp2_with fail
        go_ret2
        exact ⟨_, rfl, Nd.OwnRow.nil _ _, B2.out⟩
set_option maxRecDepth 100000 in
set_option maxHeartbeats 2000000 in
theorem refParse11_any (s : ByteArray) (w : World) (hs : s.size ≤ 140737488351232) :
    Calls Tryz.prog 12 #[.string s] w (Nd.TopPost (Nd.parseR s.data.toList) w) := by
  have CT := Lib.hid (refToks_any s w hs)
  have CN := Lib.hid (fun (h : (Sc.toksR s.data.toList).2 = 0) p c W (hA : Sc.At W p (Sc.toksR s.data.toList).1) (hc : (Sc.toksR s.data.toList).1.length ≤ c) (hc2 : c ≤ 9223372036854775807) => refNodes11_any (Sc.toksR s.data.toList).1 p c W hA (by have := (Nd.toks_short h).1; omega) hc hc2)
  obtain ⟨R, hR⟩ : ∃ R, R = Nd.parseR s.data.toList := ⟨_, rfl⟩
  rw [← hR]
  unfold Nd.parseR at hR
  generalize Sc.toksR s.data.toList = T at *
  obtain ⟨tl, tc⟩ := T
  simp only at CN hR
  clear hs
  by_cases h0 : tc = 0
  · subst h0
    rw [if_pos rfl] at hR
    have HR := Lib.hid hR
    have CN2 := Lib.hid (CN.out rfl)
    clear hR CN
    go_enter Tryz.func12, Tryz.ntmps12
    go_wp2_with fail
    refine CT.out.mono ?_
    rintro e w1 ⟨v, rfl, hO, hb⟩
    obtain ⟨p1, c1, rfl, hc1, hc2, hA1⟩ := hO.atc
    have HB := Lib.hid hb
    have HN := Lib.hid (CN2.out p1 c1 w1 hA1 hc1 hc2)
    clear hO hb hA1 CN2 CT
    go_wp2_with fail
    refine HN.out.mono ?_
    rintro e w2 ⟨v2, rfl, hO2, hB2⟩
    have HB2 := Lib.hid (HB.out.trans (hB2.mono HB.out.size))
    have HO2 := Lib.hid (hO2.base HB.out.size)
    clear hO2 hB2 HN
    go_wp2_with fail
    go_ret2
    rw [HR.out]
    exact ⟨_, rfl, HO2.out, HB2.out⟩
  · rw [if_neg h0] at hR
    have q0 : (tc != 0) = true := by rw [bne_iff_ne]; exact h0
    have HR := Lib.hid hR
    clear hR CN h0
    go_enter Tryz.func12, Tryz.ntmps12
    go_wp2_with fail
    refine CT.out.mono ?_
    rintro e w1 ⟨v, rfl, -, hb⟩
    have HB := Lib.hid hb
    clear hb CT
    go_wp2_with fail
    go_ret2
    rw [HR.out]
    exact ⟨_, rfl, Nd.OwnRow.nil _ _, HB.out⟩
theorem Nd.parseR_len (s : List UInt8) : (Nd.parseR s).1.length ≤ 1024 := by
  unfold Nd.parseR
  split
  · rename_i h
    exact Nat.le_trans (Nd.nodesR_len _) (Nd.toks_short h).1
  · simp
end Go.Proofs.YteajjlilpikdeaaGreatDoor
