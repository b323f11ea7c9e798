
/-
  The walk of tree's nodes: the nodes of tokens whose tags pair. Conditions: lists are of a size that a machine holds; there are few nodes.
-/
import Derived.Test.YteiccjakaabfnaaGreatDoorZ37
namespace Go.Proofs.YteiccjakaabfnaaGreatDoor
open Go.RowKit

theorem Nd.keepBox {w w' : World} {g : Nat} {o : Obj} (h : w.heap[g]? = some o) (hb : Below w.heap.size w w') : w'.heap[g]? = some o := (hb.block g (Array.getElem?_eq_some_iff.1 h).1).trans h
/-- What nodes hands back. -/
def Nd.NodesPost (ns : List Nd.N) (r : List Sc.T) (w0 w : World) (e : Ending) (w' : World) : Prop := ∃ v p c, e = .returned (.tuple #[v, .slice p r.length c]) ∧ Nd.OwnRow w.heap.size w' v ns.length ns ∧ Below w.heap.size w w' ∧ Sc.At w0 p r ∧ r.length ≤ c ∧ c ≤ 9223372036854775807
def Nd.NodesC (f : Nat) : Prop := ∀ (l : List Sc.T) (ns : List Nd.N) (r : List Sc.T) (q : Option Addr) (c : Nat) (w0 w : World), Nd.pR f l = some (ns, r) → (∀ t ∈ l, Sc.okT t = true) → Sc.At w0 q l → Below w0.heap.size w0 w → l.length ≤ c → c ≤ 9223372036854775807 → Nd.cntL ns ≤ 256 → Calls Tryz.prog 120 #[.slice q l.length c] w (Nd.NodesPost ns r w0 w)
/-- Tokens but the first one. -/
theorem Nd.at_tail {w : World} {b off : Nat} {t : Sc.T} {l : List Sc.T} (h : Sc.At w (some ⟨b, off, none⟩) (t :: l)) : Sc.At w (some ⟨b, off + 3, none⟩) l := fun i hi => by
  obtain ⟨b', off', c0, c1, c2, hp, h3, y, hy, ht⟩ := h (i + 1) (by simpa using hi)
  cases hp
  exact ⟨b, off + 3, c0, c1, c2, rfl, by rw [show off + 3 + i * 3 = off + (i + 1) * 3 by omega]; exact h3, y, hy, ht⟩
theorem Nd.at_tailIf {w : World} {b off c : Nat} {t : Sc.T} {l : List Sc.T} (h : Sc.At w (some ⟨b, off, none⟩) (t :: l)) (hc : (t :: l).length ≤ c) (p : Option Addr) : Sc.At w (if c = 1 then p else some ⟨b, off + 3, none⟩) l := by
  split
  · have : l = [] := List.length_eq_zero_iff.1 (by rw [List.length_cons] at hc; omega)
    subst this
    exact Sc.At.nil _ _
  · exact Nd.at_tail h
/-- The first token, opened. -/
theorem Nd.at_head {w : World} {p : Option Addr} {t : Sc.T} {l : List Sc.T} (h : Sc.At w p (t :: l)) : ∃ b off pn cn, p = some ⟨b, off, none⟩ ∧ w.cell? ⟨b, off, none⟩ = some (.int .u8 (t.kind : Nat)) ∧ w.cell? ⟨b, off + 1, none⟩ = some (.string t.text) ∧ w.cell? ⟨b, off + 2, none⟩ = some (.slice pn t.path.length cn) ∧ Wp.At Wp.mkT w pn t.path ∧ Sc.Fits t cn := by
  obtain ⟨b, off, c0, c1, c2, hp, ⟨e0, e1, e2⟩, y, hy, pn, cn, hv, hf, hat⟩ := h 0 (by simp)
  cases hy
  simp only [Value.agg.injEq, Array.mk.injEq, List.cons.injEq, and_true] at hv
  obtain ⟨rfl, rfl, rfl⟩ := hv
  rw [Nat.zero_mul, Nat.add_zero] at e0 e1 e2
  exact ⟨b, off, pn, cn, hp, e0, e1, e2, hat, hf⟩
/-- How nodes are found, a step. -/
theorem Nd.pR_stop {f : Nat} {t : Sc.T} {l : List Sc.T} {ns : List Nd.N} {r : List Sc.T} (h : Nd.pR f (t :: l) = some (ns, r)) (hk : t.kind = 4 ∨ t.kind = 6) : ns = [] ∧ r = t :: l := by
  cases f with
  | zero => cases h
  | succ f =>
    rw [Nd.pR, if_pos hk] at h
    cases h
    exact ⟨rfl, rfl⟩
theorem Nd.pR_leaf1 {f : Nat} {t : Sc.T} {l : List Sc.T} {ns : List Nd.N} {r : List Sc.T} (h : Nd.pR f (t :: l) = some (ns, r)) (hk : ¬ (t.kind = 4 ∨ t.kind = 6)) (ho : Nd.opens t.kind = false) :
    ∃ g ms, g < f ∧ Nd.pR g l = some (ms, r) ∧ ns = .mk t.kind t.text t.path [] [] :: ms := by
  cases f with
  | zero => cases h
  | succ f =>
    rw [Nd.pR, if_neg hk, if_neg (by rw [ho]; decide)] at h
    rcases hp : Nd.pR f l with _ | ⟨ms, r'⟩
    · rw [hp] at h; cases h
    · rw [hp] at h
      cases h
      exact ⟨f, ms, by omega, hp, rfl⟩
theorem Nd.pR_tag {f : Nat} {t : Sc.T} {l : List Sc.T} {ns : List Nd.N} {r : List Sc.T} (h : Nd.pR f (t :: l) = some (ns, r)) (hk : ¬ (t.kind = 4 ∨ t.kind = 6)) (ho : Nd.opens t.kind = true) :
    ∃ g kids r1 els e r2 ms, g < f ∧ Nd.pR g l = some (kids, r1) ∧ ((Nd.hd r1 = 4 ∧ Nd.pR g r1.tail = some (els, e :: r2)) ∨ (Nd.hd r1 ≠ 4 ∧ els = [] ∧ r1 = e :: r2)) ∧ e.kind = 6 ∧ Nd.pR g r2 = some (ms, r) ∧ ns = .mk t.kind t.text t.path kids els :: ms := by
  cases f with
  | zero => cases h
  | succ f =>
    rw [Nd.pR, if_neg hk, if_pos ho] at h
    rcases hp : Nd.pR f l with _ | ⟨kids, r1⟩
    · rw [hp] at h; cases h
    · rw [hp] at h
      simp only at h
      rcases he : (if t.kind = 3 ∧ Nd.hd r1 = 4 then Nd.pR f r1.tail else some ([], r1)) with _ | ⟨els, r2⟩
      · rw [he] at h; cases h
      · rw [he] at h
        simp only at h
        by_cases h6 : Nd.hd r2 = 6
        · rw [if_pos h6] at h
          rcases hn : Nd.pR f r2.tail with _ | ⟨ms, r3⟩
          · rw [hn] at h; cases h
          · rw [hn] at h
            cases h
            obtain ⟨e, he2, hek⟩ := Nd.tail_of h6 (by decide)
            refine ⟨f, kids, r1, els, e, r2.tail, ms, by omega, hp, ?_, hek, hn, rfl⟩
            by_cases h34 : t.kind = 3 ∧ Nd.hd r1 = 4
            · rw [if_pos h34] at he
              exact Or.inl ⟨h34.2, by rw [← he2]; exact he⟩
            · rw [if_neg h34] at he
              cases he
              exact Or.inr ⟨by omega, rfl, he2⟩
        · rw [if_neg h6] at h; cases h
theorem Nd.pR_sub {f : Nat} {l : List Sc.T} {ns : List Nd.N} {r : List Sc.T} (h : Nd.pR f l = some (ns, r)) (hok : ∀ t ∈ l, Sc.okT t = true) : ∀ t ∈ r, Sc.okT t = true := (Nd.pR_leaf f l ns r hok h).1
theorem Nd.okT_path {t : Sc.T} (h : Sc.okT t = true) : t.path.length ≤ 4 := by
  unfold Sc.okT at h
  split at h
  · simp only [Bool.and_eq_true, decide_eq_true_eq] at h; omega
  · simp only [Bool.and_eq_true, decide_eq_true_eq] at h; have := (Sc.pathOk_facts h.2).2.1; omega
  · simp only [Bool.and_eq_true, decide_eq_true_eq] at h; have := (Sc.pathOk_facts h.2).2.1; omega
  · simp only [Bool.and_eq_true, decide_eq_true_eq] at h; have := (Sc.pathOk_facts h.2).2.1; omega
  · simp only [Bool.and_eq_true, decide_eq_true_eq] at h; omega
  · simp only [Bool.and_eq_true, decide_eq_true_eq] at h; omega
  · cases h
theorem Nd.pR_nil {g : Nat} {ms : List Nd.N} {r : List Sc.T} (h : Nd.pR g [] = some (ms, r)) : ms = [] ∧ r = [] := by
  cases g with
  | zero => cases h
  | succ g => cases h; exact ⟨rfl, rfl⟩
/-- What is read off blocks from there on, but for one. -/
def Nd.Rd (B : Nat) (W : World) (x : Option Nat) (P : World → Prop) : Prop := ∀ W' : World, (∀ j, B ≤ j → j < W.heap.size → some j ≠ x → W'.heap[j]? = W.heap[j]?) → P W'
theorem Nd.Rd.later {B : Nat} {W W2 : World} {x : Option Nat} {P : World → Prop} (h : Nd.Rd B W x P) (hg : W.grownBy W2 x) : Nd.Rd B W2 x P := fun W' hW => h W' (fun j h1 h2 h3 => (hW j h1 (Nat.lt_of_lt_of_le h2 hg.size) h3).trans (hg.block j h2 h3))
theorem Nd.Rd.mono {B B' : Nat} {W : World} {x : Option Nat} {P : World → Prop} (h : Nd.Rd B W x P) (hb : B' ≤ B) : Nd.Rd B' W x P := fun W' hW => h W' (fun j h1 h2 h3 => hW j (Nat.le_trans hb h1) h2 h3)
theorem Nd.Rd.off {B g : Nat} {W : World} {P : World → Prop} (h : ∀ W' : World, (∀ j, B ≤ j → j < W.heap.size → W'.heap[j]? = W.heap[j]?) → P W') (hg : g < B) : Nd.Rd B W (some g) P := fun W' hW => h W' (fun j h1 h2 => hW j h1 h2 (fun e => by cases e; omega))
theorem Nd.off_mk {B : Nat} {W : World} {x : Option Nat} {k : Nat} {t : ByteArray} {p : List ByteArray} {kids els : List Nd.N} {pp pk pe : Option Addr} {cp ck ce : Nat} (hf : Nd.Fits k t p kids.length els.length cp ck ce)
    (hp : Nd.Rd B W x fun W' => Wp.At Wp.mkT W' pp p) (hk : Nd.Rd B W x fun W' => Nd.Row W' pk kids) (he : Nd.Rd B W x fun W' => Nd.Row W' pe els) :
    Nd.Off B W none (.agg #[.int .u8 (k : Nat), .string t, .slice pp p.length cp, .slice pk kids.length ck, .slice pe els.length ce]) (.mk k t p kids els) := fun W' hW => by
  have hW2 : ∀ j, B ≤ j → j < W.heap.size → some j ≠ x → W'.heap[j]? = W.heap[j]? := fun j h1 h2 _ => hW j h1 h2 (fun e => by cases e)
  rw [Nd.At.eq]
  exact ⟨pp, cp, pk, ck, pe, ce, rfl, hf, hp W' hW2, (Nd.row_iff _ _ _).2 (hk W' hW2), (Nd.row_iff _ _ _).2 (he W' hW2)⟩
/-- append of one node. -/
theorem Nd.nodeApp {ops : Array Oper} {rest : List Oper} {o : Oper} {a : Act} {Q : Exit → Act → World → Prop} (hgd : o.guard = none) (s x : Operand) (ho : o.op = .call { callee := .builtin .append, args := #[s, x], argTypes := #[22, 22] })
    (w0 wr w1 : World) (v : Value) (out : List Nd.N) (g : Nat) (c0 c1 c2 c3 c4 : Value) (y : Nd.N) (hs : a.eval s = v) (hx : a.eval x = .slice (some ⟨g, 0, none⟩) 1 1) (hgw : g = w1.heap.size)
    (hO : Nd.OwnRow w0.heap.size wr v out.length out) (hB0 : Below w0.heap.size w0 wr) (hb : Below wr.heap.size wr w1) (hn : Nd.Off wr.heap.size w1 none (.agg #[c0, c1, c2, c3, c4]) y) (hl : out.length ≤ 1000000)
    (h : ∀ v' w', Nd.OwnRow w0.heap.size w' v' (out ++ [y]).length (out ++ [y]) → Below w0.heap.size w0 w' → wpList Tryz.prog ops Q rest (a.put o.dst v') w') : wpList Tryz.prog ops Q (o :: rest) a (w1.alloc (.cells #[c0, c1, c2, c3, c4] 37)) := by
  subst hgw
  obtain ⟨i0, hi, hz0, hz1, hz2⟩ := Nd.infoNode
  obtain ⟨cs, hown, _, hk⟩ := hO
  have hs1 := hb.size
  have hs0 := hB0.size
  have hown1 := (ownsRow_below hown hb).alloc (.cells #[c0, c1, c2, c3, c4] 37)
  obtain ⟨n0, n1, n2, n3, n4⟩ := Vl.five_of (Vl.new w1 (.cells #[c0, c1, c2, c3, c4] 37))
  obtain ⟨k', t', pp', np', cp', pk', nk', ck', pe', ne', ce', e⟩ := hn.at.shape
  simp only [Value.agg.injEq, Array.mk.injEq, List.cons.injEq, and_true] at e
  obtain ⟨e0, e1, e2, e3, e4⟩ := e
  refine Vl.listApp _ hgd s x 22 ho w0.heap.size 37 i0 _ 5 96 Tryz.underlying22 hi hz0 hz1 hz2 rfl (by decide) v out.length cs hs hown1 ⟨w1.heap.size, 0, none⟩ 1 1 [c0, c1, c2, c3, c4] hx rfl ?_ ?_ (by unfold maxLen; omega) (by omega) (by rw [World.size_alloc]; omega) ?_
  · intro j q hq
    match j, hq with
    | 0, hq => cases hq; exact n0
    | 1, hq => cases hq; exact n1
    | 2, hq => cases hq; exact n2
    | 3, hq => cases hq; exact n3
    | 4, hq => cases hq; exact n4
    | j + 5, hq => simp at hq
  · intro q hq
    simp at hq
    rcases hq with rfl | rfl | rfl | rfl | rfl
    · rw [e0]; rfl
    · rw [e1]; rfl
    · rw [e2]; rfl
    · rw [e3]; rfl
    · rw [e4]; rfl
  · intro v' w' hown' hgr hat
    rw [World.size_alloc] at hat
    refine h v' w' ?_ (below_grown5 ((hB0.trans (hb.mono hs0)).alloc (by omega) _) hown1 (Nat.le_refl _) hgr)
    rw [List.length_append]
    exact Nd.OwnRow.grow rfl hown hk hs0 hb rfl hn _ hown' hgr hat
set_option maxRecDepth 100000 in
set_option maxHeartbeats 8000000 in
theorem nodes_step (f : Nat) (ih : ∀ g, g < f → Nd.NodesC g) : Nd.NodesC f := by
  intro l ns r q c w0 w hp hok hA h0 hlc hc47 hcnt
  have H0 := Lib.hid h0
  have Hih := Lib.hid ih
  have Hcnt := Lib.hid hcnt
  have HA := Lib.hid hA
  have Hp := Lib.hid hp
  have Hok := Lib.hid hok
  obtain ⟨n, hn⟩ : ∃ n, n = l.length := ⟨_, rfl⟩
  rw [← hn] at hlc ⊢
  have HN := Lib.hid hn
  clear ih hcnt hA hp hok hn h0
  go_enter Tryz.func120, Tryz.ntmps120
  go_wp2_with fail
  go_loopw [0, 4, 5] (fun s0 v4 _ wr => ∃ (g : Nat) (l' : List Sc.T) (out ms : List Nd.N) (p' : Option Addr) (c' : Nat), g ≤ f ∧ s0 = .slice p' l'.length c' ∧ l'.length ≤ c' ∧ c' ≤ 9223372036854775807 ∧ Hid (Sc.At w0 p' l') ∧ Hid (∀ t ∈ l', Sc.okT t = true) ∧ Hid (Nd.pR g l' = some (ms, r)) ∧ Hid (ns = out ++ ms) ∧ Hid (Nd.OwnRow w.heap.size wr v4 out.length out) ∧ Hid (Below w.heap.size w wr)) (fun s0 _ _ _ => match s0 with | .slice _ n _ => n | _ => 0)
  case atStart => exact ⟨f, l, [], ns, q, c, Nat.le_refl _, by rw [HN.out], by rw [← HN.out]; exact hlc, hc47, HA, Hok, Hp, Lib.hid rfl, Lib.hid (Nd.OwnRow.nil _ _), Lib.hid (Below.refl _ _)⟩
  case round =>
    obtain ⟨g, l', out, ms, p', c', hgf, rfl, hlc', hc47', HA', Hok', Hp', Hns, HO, HB⟩ := hrel
    have h0r := H0.out.trans (HB.out.mono H0.out.size)
    have H0r := Lib.hid h0r
    cases l' with
    | nil =>
      obtain ⟨rfl, rfl⟩ := Nd.pR_nil Hp'.out
      have HNs := Lib.hid (show ns = out by rw [Hns.out, List.append_nil])
      clear Hp' Hns HA HA' Hok Hok' Hih Hp h0r
      go_wp2_with fail
      go_ret2
      exact ⟨_, _, _, rfl, by rw [HNs.out]; exact HO.out, HB.out, Sc.At.nil _ _, hlc', hc47'⟩
    | cons t l2 =>
      obtain ⟨b, off, pn, cn, rfl, e0, e1, e2, hpt, hft⟩ := Nd.at_head (HA'.out.below h0r)
      clear h0r
      by_cases hk : t.kind = 4 ∨ t.kind = 6
      · obtain ⟨rfl, hr⟩ := Nd.pR_stop Hp'.out hk
        have HNs := Lib.hid (show ns = out by rw [Hns.out, List.append_nil])
        have hrl : r.length = (t :: l2).length := by rw [hr]
        have HAr := Lib.hid (show Sc.At w0 _ r by rw [hr]; exact HA'.out)
        rw [← hrl] at hlc' ⊢
        have hpos : (0 : Int) < (r.length : Int) := by rw [hrl, List.length_cons]; omega
        have hpos2 : 0 < r.length := by omega
        generalize t.kind = kd at *
        have q46 : ((kd : Int) != 4) = false ∨ ((kd : Int) != 4) = true ∧ ((kd : Int) != 6) = false := by
          rcases hk with h | h
          · left; rw [h]; rfl
          · right; exact ⟨by rw [h]; rfl, by rw [h]; rfl⟩
        clear Hp' Hns HA HA' Hok Hok' Hih Hp hk hft hpt hr e1 e2
        rcases q46 with q4 | ⟨q4, q6⟩
        all_goals
          go_wp2_with fail
          go_ret2
          exact ⟨_, _, _, rfl, by rw [HNs.out]; exact HO.out, HB.out, HAr.out, hlc', hc47'⟩
      · have q4 : ((t.kind : Int) != 4) = true := by rw [bne_iff_ne]; omega
        have q6 : ((t.kind : Int) != 6) = true := by rw [bne_iff_ne]; omega
        have hpos : (0 : Int) < ((t :: l2).length : Int) := by rw [List.length_cons]; omega
        have hpos2 : 0 < (t :: l2).length := by rw [List.length_cons]; omega
        have hpl := Nd.okT_path (Hok'.out t (by simp))
        obtain ⟨⟨f1, f2⟩, f3, f4, f5⟩ := hft
        have HKp : Hid (∀ w' : World, Below wr.heap.size wr w' → (fun w' => w'.cell? ⟨b, off, none⟩ = some (.int .u8 (t.kind : Nat)) ∧ w'.cell? ⟨b, off + 1, none⟩ = some (.string t.text) ∧ w'.cell? ⟨b, off + 2, none⟩ = some (.slice pn t.path.length cn)) w') := Lib.hid (fun w' h => ⟨(h.cell (World.block_lt_of_cell? wr _ e0)).trans e0, (h.cell (World.block_lt_of_cell? wr _ e1)).trans e1, (h.cell (World.block_lt_of_cell? wr _ e2)).trans e2⟩)
        have HCl := Lib.hid (fun W => vlClone_any t.text W (by omega))
        have HCp := Lib.hid (fun W (h : Below wr.heap.size wr W) => ndCopied_any pn cn t.path W (by omega) f5 (hpt.below h))
        have Hm := Lib.hid (show (t :: l2).length = l2.length + 1 from rfl)
        generalize (t :: l2).length = m at *
        go_wp2_with fail
        go_region_held3 (fun w' => w'.cell? ⟨b, off, none⟩ = some (.int .u8 (t.kind : Nat)) ∧ w'.cell? ⟨b, off + 1, none⟩ = some (.string t.text) ∧ w'.cell? ⟨b, off + 2, none⟩ = some (.slice pn t.path.length cn))
          (first | (with_reducible exact HKp.out _ e9) | (with_reducible exact HKp.out _ (e9.alloc e9.size _)) | (exact HKp.out _ (below_grownBy e9 (Vl.set5_grown _ _ _ _ _ _ _) (by first | exact Nat.le_refl _ | omega) e9.size)) | (with_reducible exact HKp.out _ (Below.refl _ wr).drew) | (with_reducible exact HKp.out _ (((Below.refl wr.heap.size wr).alloc (Nat.le_refl _) (.cells #[.int .u8 0, .string ⟨#[]⟩, .slice none 0 0, .slice none 0 0, .slice none 0 0] 37)).drew)) | (go_keep; done))
          (first
            | (go_at_call 48; (with_reducible refine (HCl.out _).mono ?_); rintro e wa ⟨rfl, ha⟩
               first
                 | (have e9 : Below wr.heap.size wr wa := e9.trans (ha.mono e9.size); try (have hx := Nd.keepBox hx ha; (have x9 := (Array.getElem?_eq_some_iff.1 hx).1; obtain ⟨y0, y1, y2, y3, y4⟩ := Vl.five_of hx; obtain ⟨z0, z1, z2, z3, z4⟩ := Vl.fiveF_of hx)))
                 | (have e9 : Below wr.heap.size wr wa := (e9.alloc e9.size (.cells #[.int .u8 0, .string ⟨#[]⟩, .slice none 0 0, .slice none 0 0, .slice none 0 0] 37)).trans (ha.mono (e9.alloc e9.size (.cells #[.int .u8 0, .string ⟨#[]⟩, .slice none 0 0, .slice none 0 0, .slice none 0 0] 37)).size); have hx := Nd.keepBox (Vl.new _ (.cells #[.int .u8 0, .string ⟨#[]⟩, .slice none 0 0, .slice none 0 0, .slice none 0 0] 37)) ha; (have x9 := (Array.getElem?_eq_some_iff.1 hx).1; obtain ⟨y0, y1, y2, y3, y4⟩ := Vl.five_of hx; obtain ⟨z0, z1, z2, z3, z4⟩ := Vl.fiveF_of hx))
                 | (have e9 : Below wr.heap.size wr wa := (Below.refl wr.heap.size wr).drew.trans ha)
                 | (have e9 : Below wr.heap.size wr wa := ((Below.refl wr.heap.size wr).alloc (Nat.le_refl _) (.cells #[.int .u8 0, .string ⟨#[]⟩, .slice none 0 0, .slice none 0 0, .slice none 0 0] 37)).drew.trans (ha.mono ((Below.refl wr.heap.size wr).alloc (Nat.le_refl _) (.cells #[.int .u8 0, .string ⟨#[]⟩, .slice none 0 0, .slice none 0 0, .slice none 0 0] 37)).size); have hx := Nd.keepBox (show ((wr.alloc (.cells #[.int .u8 0, .string ⟨#[]⟩, .slice none 0 0, .slice none 0 0, .slice none 0 0] 37)).drew).heap[wr.heap.size]? = some (.cells #[.int .u8 0, .string ⟨#[]⟩, .slice none 0 0, .slice none 0 0, .slice none 0 0] 37) from Vl.new wr (.cells #[.int .u8 0, .string ⟨#[]⟩, .slice none 0 0, .slice none 0 0, .slice none 0 0] 37)) ha; (have x9 := (Array.getElem?_eq_some_iff.1 hx).1; obtain ⟨y0, y1, y2, y3, y4⟩ := Vl.five_of hx; obtain ⟨z0, z1, z2, z3, z4⟩ := Vl.fiveF_of hx))
               have s9 := e9.size)
            | (go_at_call 191
               first
                 | (with_reducible refine (HCp.out _ e9).mono ?_)
                 | (with_reducible refine (HCp.out _ (e9.alloc e9.size (.cells #[.int .u8 0, .string ⟨#[]⟩, .slice none 0 0, .slice none 0 0, .slice none 0 0] 37))).mono ?_)
                 | (with_reducible refine (HCp.out _ (Below.refl _ wr).drew).mono ?_)
                 | (with_reducible refine (HCp.out _ (((Below.refl wr.heap.size wr).alloc (Nat.le_refl _) (.cells #[.int .u8 0, .string ⟨#[]⟩, .slice none 0 0, .slice none 0 0, .slice none 0 0] 37)).drew)).mono ?_)
               rintro e wb ⟨vb, rfl, hob, hb⟩
               obtain ⟨pp, cp, rfl, hcp, hoff⟩ := Nd.texts_off hob
               first
                 | (have e9 : Below wr.heap.size wr wb := e9.trans (hb.mono e9.size); try (have hx := Nd.keepBox hx hb; (have x9 := (Array.getElem?_eq_some_iff.1 hx).1; obtain ⟨y0, y1, y2, y3, y4⟩ := Vl.five_of hx; obtain ⟨z0, z1, z2, z3, z4⟩ := Vl.fiveF_of hx)))
                 | (have e9 : Below wr.heap.size wr wb := (e9.alloc e9.size (.cells #[.int .u8 0, .string ⟨#[]⟩, .slice none 0 0, .slice none 0 0, .slice none 0 0] 37)).trans (hb.mono (e9.alloc e9.size (.cells #[.int .u8 0, .string ⟨#[]⟩, .slice none 0 0, .slice none 0 0, .slice none 0 0] 37)).size); have hx := Nd.keepBox (Vl.new _ (.cells #[.int .u8 0, .string ⟨#[]⟩, .slice none 0 0, .slice none 0 0, .slice none 0 0] 37)) hb; (have x9 := (Array.getElem?_eq_some_iff.1 hx).1; obtain ⟨y0, y1, y2, y3, y4⟩ := Vl.five_of hx; obtain ⟨z0, z1, z2, z3, z4⟩ := Vl.fiveF_of hx))
                 | (have e9 : Below wr.heap.size wr wb := (Below.refl wr.heap.size wr).drew.trans hb)
                 | (have e9 : Below wr.heap.size wr wb := ((Below.refl wr.heap.size wr).alloc (Nat.le_refl _) (.cells #[.int .u8 0, .string ⟨#[]⟩, .slice none 0 0, .slice none 0 0, .slice none 0 0] 37)).drew.trans (hb.mono ((Below.refl wr.heap.size wr).alloc (Nat.le_refl _) (.cells #[.int .u8 0, .string ⟨#[]⟩, .slice none 0 0, .slice none 0 0, .slice none 0 0] 37)).size); have hx := Nd.keepBox (show ((wr.alloc (.cells #[.int .u8 0, .string ⟨#[]⟩, .slice none 0 0, .slice none 0 0, .slice none 0 0] 37)).drew).heap[wr.heap.size]? = some (.cells #[.int .u8 0, .string ⟨#[]⟩, .slice none 0 0, .slice none 0 0, .slice none 0 0] 37) from Vl.new wr (.cells #[.int .u8 0, .string ⟨#[]⟩, .slice none 0 0, .slice none 0 0, .slice none 0 0] 37)) hb; (have x9 := (Array.getElem?_eq_some_iff.1 hx).1; obtain ⟨y0, y1, y2, y3, y4⟩ := Vl.five_of hx; obtain ⟨z0, z1, z2, z3, z4⟩ := Vl.fiveF_of hx))
               have s9 := e9.size))
        focus
          obtain ⟨bx, hbe⟩ : ∃ bx, bx = wb.heap.size := ⟨_, rfl⟩
          have HBX := Lib.hid (show (wb.alloc (.cells #[.int .u8 (t.kind : Nat), .string t.text, .slice pp t.path.length cp, .slice none 0 0, .slice none 0 0] 37)).heap[bx]? = some (.cells #[.int .u8 (t.kind : Nat), .string t.text, .slice pp t.path.length cp, .slice none 0 0, .slice none 0 0] 37) by rw [hbe]; exact Vl.new wb (.cells #[.int .u8 (t.kind : Nat), .string t.text, .slice pp t.path.length cp, .slice none 0 0, .slice none 0 0] 37))
          have HBl := Lib.hid (e9.alloc e9.size (.cells #[.int .u8 (t.kind : Nat), .string t.text, .slice pp t.path.length cp, .slice none 0 0, .slice none 0 0] 37))
          have HPo := Lib.hid (show Nd.Rd wr.heap.size (wb.alloc (.cells #[.int .u8 (t.kind : Nat), .string t.text, .slice pp t.path.length cp, .slice none 0 0, .slice none 0 0] 37)) (some bx) (fun W' => Wp.At Wp.mkT W' pp t.path) from fun W' hW => hoff W' (fun j h1 h2 => (hW j (by omega) (by rw [World.size_alloc]; omega) (fun e => by cases e; omega)).trans (Vl.past _ _ _ h2)))
          have Hbx := Lib.hid (show wr.heap.size ≤ bx by omega)
          rw [← hbe]
          clear hbe
          generalize (wb.alloc (.cells #[.int .u8 (t.kind : Nat), .string t.text, .slice pp t.path.length cp, .slice none 0 0, .slice none 0 0] 37)) = W5 at *
        rotate_left 1
        focus
          obtain ⟨bx, hbe⟩ : ∃ bx, bx = wa.heap.size := ⟨_, rfl⟩
          have HBX := Lib.hid (show (((((wb.setCell ⟨wa.heap.size, 0, none⟩ (.int .u8 (t.kind : Nat))).setCell ⟨wa.heap.size, 1, none⟩ (.string t.text)).setCell ⟨wa.heap.size, 2, none⟩ (.slice pp t.path.length cp)).setCell ⟨wa.heap.size, 3, none⟩ (.slice none 0 0)).setCell ⟨wa.heap.size, 4, none⟩ (.slice none 0 0)).heap[bx]? = some (.cells #[.int .u8 (t.kind : Nat), .string t.text, .slice pp t.path.length cp, .slice none 0 0, .slice none 0 0] 37) by rw [hbe]; exact Vl.set5 hx (.int .u8 (t.kind : Nat)) (.string t.text) (.slice pp t.path.length cp) (.slice none 0 0) (.slice none 0 0))
          have HBl := Lib.hid (below_grownBy e9 (Vl.set5_grown wb wa.heap.size (.int .u8 (t.kind : Nat)) (.string t.text) (.slice pp t.path.length cp) (.slice none 0 0) (.slice none 0 0)) (by omega) e9.size)
          have hxl := (Array.getElem?_eq_some_iff.1 hx).1
          have HPo := Lib.hid (show Nd.Rd wr.heap.size (((((wb.setCell ⟨wa.heap.size, 0, none⟩ (.int .u8 (t.kind : Nat))).setCell ⟨wa.heap.size, 1, none⟩ (.string t.text)).setCell ⟨wa.heap.size, 2, none⟩ (.slice pp t.path.length cp)).setCell ⟨wa.heap.size, 3, none⟩ (.slice none 0 0)).setCell ⟨wa.heap.size, 4, none⟩ (.slice none 0 0)) (some bx) (fun W' => Wp.At Wp.mkT W' pp t.path) from fun W' hW => hoff W' (fun j h1 h2 => (hW j (by have h9 := h1; (try rw [World.size_alloc] at h9); omega) (by rw [Vl.set5_size]; exact h2) (by have h9 := h1; (try rw [World.size_alloc] at h9); intro e; cases e; omega)).trans (Vl.set5_rest _ _ _ _ _ _ _ j (fun e => (by have h9 := h1; (try rw [World.size_alloc] at h9); intro e; cases e; omega : some j ≠ some bx) (by rw [e, hbe])))))
          have Hbx := Lib.hid (show wr.heap.size ≤ bx by omega)
          have HG : ∀ W, W = (((((wb.setCell ⟨wa.heap.size, 0, none⟩ (.int .u8 (t.kind : Nat))).setCell ⟨wa.heap.size, 1, none⟩ (.string t.text)).setCell ⟨wa.heap.size, 2, none⟩ (.slice pp t.path.length cp)).setCell ⟨wa.heap.size, 3, none⟩ (.slice none 0 0)).setCell ⟨wa.heap.size, 4, none⟩ (.slice none 0 0)) → W.heap[bx]? = some (.cells #[.int .u8 (t.kind : Nat), .string t.text, .slice pp t.path.length cp, .slice none 0 0, .slice none 0 0] 37) := fun W e => by rw [e]; exact HBX.out
          generalize hW5 : (((((wb.setCell ⟨wa.heap.size, 0, none⟩ (.int .u8 (t.kind : Nat))).setCell ⟨wa.heap.size, 1, none⟩ (.string t.text)).setCell ⟨wa.heap.size, 2, none⟩ (.slice pp t.path.length cp)).setCell ⟨wa.heap.size, 3, none⟩ (.slice none 0 0)).setCell ⟨wa.heap.size, 4, none⟩ (.slice none 0 0)) = W5 at *
          rw [← hbe]
          clear hbe hW5 HG
        rotate_left 1
        focus
          obtain ⟨bx, hbe⟩ : ∃ bx, bx = wr.heap.size := ⟨_, rfl⟩
          have HBX := Lib.hid (show (((((wb.setCell ⟨wr.heap.size, 0, none⟩ (.int .u8 (t.kind : Nat))).setCell ⟨wr.heap.size, 1, none⟩ (.string t.text)).setCell ⟨wr.heap.size, 2, none⟩ (.slice pp t.path.length cp)).setCell ⟨wr.heap.size, 3, none⟩ (.slice none 0 0)).setCell ⟨wr.heap.size, 4, none⟩ (.slice none 0 0)).heap[bx]? = some (.cells #[.int .u8 (t.kind : Nat), .string t.text, .slice pp t.path.length cp, .slice none 0 0, .slice none 0 0] 37) by rw [hbe]; exact Vl.set5 hx (.int .u8 (t.kind : Nat)) (.string t.text) (.slice pp t.path.length cp) (.slice none 0 0) (.slice none 0 0))
          have HBl := Lib.hid (below_grownBy e9 (Vl.set5_grown wb wr.heap.size (.int .u8 (t.kind : Nat)) (.string t.text) (.slice pp t.path.length cp) (.slice none 0 0) (.slice none 0 0)) (by omega) e9.size)
          have hxl := (Array.getElem?_eq_some_iff.1 hx).1
          have HPo := Lib.hid (show Nd.Rd wr.heap.size (((((wb.setCell ⟨wr.heap.size, 0, none⟩ (.int .u8 (t.kind : Nat))).setCell ⟨wr.heap.size, 1, none⟩ (.string t.text)).setCell ⟨wr.heap.size, 2, none⟩ (.slice pp t.path.length cp)).setCell ⟨wr.heap.size, 3, none⟩ (.slice none 0 0)).setCell ⟨wr.heap.size, 4, none⟩ (.slice none 0 0)) (some bx) (fun W' => Wp.At Wp.mkT W' pp t.path) from fun W' hW => hoff W' (fun j h1 h2 => (hW j (by have h9 := h1; (try rw [World.size_alloc] at h9); omega) (by rw [Vl.set5_size]; exact h2) (by have h9 := h1; (try rw [World.size_alloc] at h9); intro e; cases e; omega)).trans (Vl.set5_rest _ _ _ _ _ _ _ j (fun e => (by have h9 := h1; (try rw [World.size_alloc] at h9); intro e; cases e; omega : some j ≠ some bx) (by rw [e, hbe])))))
          have Hbx := Lib.hid (show wr.heap.size ≤ bx by omega)
          have HG : ∀ W, W = (((((wb.setCell ⟨wr.heap.size, 0, none⟩ (.int .u8 (t.kind : Nat))).setCell ⟨wr.heap.size, 1, none⟩ (.string t.text)).setCell ⟨wr.heap.size, 2, none⟩ (.slice pp t.path.length cp)).setCell ⟨wr.heap.size, 3, none⟩ (.slice none 0 0)).setCell ⟨wr.heap.size, 4, none⟩ (.slice none 0 0)) → W.heap[bx]? = some (.cells #[.int .u8 (t.kind : Nat), .string t.text, .slice pp t.path.length cp, .slice none 0 0, .slice none 0 0] 37) := fun W e => by rw [e]; exact HBX.out
          generalize hW5 : (((((wb.setCell ⟨wr.heap.size, 0, none⟩ (.int .u8 (t.kind : Nat))).setCell ⟨wr.heap.size, 1, none⟩ (.string t.text)).setCell ⟨wr.heap.size, 2, none⟩ (.slice pp t.path.length cp)).setCell ⟨wr.heap.size, 3, none⟩ (.slice none 0 0)).setCell ⟨wr.heap.size, 4, none⟩ (.slice none 0 0)) = W5 at *
          rw [← hbe]
          clear hbe hW5 HG
        rotate_left 1
        all_goals
          clear HKp HCl HCp hoff ha hb hob e0 e1 e2 hpt s9 e9 f4
          have HT5 := Lib.hid (show Sc.At w0 (if c' = 1 then some ⟨b, off, none⟩ else some ⟨b, off + 3, none⟩) l2 from Nd.at_tailIf HA'.out (show (t :: l2).length ≤ c' by have := Hm.out; rw [List.length_cons]; omega) _)
          have hpos3 : 1 ≤ m := by omega
          have hcz : (1 : Int) ≤ (m : Int) := by omega
          have hcz2 : (m : Int) ≤ (c' : Int) := by omega
          obtain ⟨x0, x1, x2, x3, x4⟩ := Vl.five_of HBX.out
          go_upto_region 5 with fail
          generalize (if c' = 1 then some (⟨b, off, none⟩ : Addr) else some ⟨b, off + 3, none⟩) = p5 at HT5 ⊢
          have hm2 : m - 1 = l2.length := by have := Hm.out; omega
          rw [hm2]
          obtain ⟨c5, hc5⟩ : ∃ c5, c5 = c' - 1 := ⟨_, rfl⟩
          rw [← hc5]
          have hc5b : l2.length ≤ c5 := by have := Hm.out; omega
          have hc5c : c5 ≤ 9223372036854775807 := by omega
          have hmm : l2.length < m := by have := Hm.out; omega
          have Hok2 := Lib.hid (fun x (h : x ∈ l2) => Hok'.out x (List.mem_cons_of_mem _ h))
          have H05 := Lib.hid (H0r.out.trans (HBl.out.mono H0r.out.size))
          have Hcn := Lib.hid (show Nd.cntL out + Nd.cntL ms ≤ 256 by have := Hcnt.out; rw [Hns.out, Nd.cntL_append] at this; exact this)
          have Hol := Lib.hid (show out.length ≤ 1000000 by have := Hcn.out; have := Nd.cntL_len out; omega)
          clear hcz hcz2 hpos hpos2 hpos3 hm2 hc5 q4 q6 HA' H0r
          go_wp2_with fail
          refine (ndOpens_any _ _).mono ?_
          rintro e W5 ⟨rfl, rfl⟩
          cases hop : Nd.opens t.kind with
          | false =>
            obtain ⟨g2, ms2, hg2, hp2, hms⟩ := Nd.pR_leaf1 Hp'.out hk hop
            have Hp2 := Lib.hid hp2
            have Hms := Lib.hid (show ns = (out ++ [Nd.N.mk t.kind t.text t.path [] []]) ++ ms2 by rw [Hns.out, hms, List.append_assoc]; rfl)
            clear hop hp2 hms hk Hp' Hns Hok' Hih
            have HOf := Lib.hid (Nd.off_mk (x := some bx) (kids := []) (els := []) ⟨f1, f3, by omega, by simp, by simp, f5, hcp, by simp, by simp⟩ HPo.out (fun _ _ => Nd.Row.nil _ none) (fun _ _ => Nd.Row.nil _ none) : Nd.Off wr.heap.size W5 none (.agg #[.int .u8 (t.kind : Nat), .string t.text, .slice pp t.path.length cp, .slice none 0 0, .slice none 0 0]) _)
            go_wp2_with (at_builtin; refine Nd.nodeApp rfl _ _ rfl w wr W5 u4 out W5.heap.size _ _ _ _ _ (.mk t.kind t.text t.path [] []) rfl rfl rfl HO.out HB.out HBl.out HOf.out Hol.out ?_)
            intro v7 w7 hO7 hB7
            have HO7 := Lib.hid hO7
            have HB7 := Lib.hid hB7
            clear hO7 hB7
            go_wp2_with fail
            exact ⟨⟨g2, l2, out ++ [Nd.N.mk t.kind t.text t.path [] []], ms2, p5, c5, by omega, rfl, hc5b, hc5c, HT5, Hok2, Hp2, Hms, Lib.hid (by rw [List.length_append]; exact HO7.out), HB7⟩, hmm⟩
          | true =>
            obtain ⟨g2, kids, r1, els, ee, r2, ms2, hg2, hpk, hcase, he6, hp2, hms⟩ := Nd.pR_tag Hp'.out hk hop
            have Hp2 := Lib.hid hp2
            have Hms := Lib.hid (show ns = (out ++ [Nd.N.mk t.kind t.text t.path kids els]) ++ ms2 by rw [Hns.out, hms, List.append_assoc]; rfl)
            have hcn := Hcn.out
            rw [hms, Nd.cntL_cons, Nd.N.cnt_eq] at hcn
            have hcn : Nd.cntL out + (Nd.cntL kids + Nd.cntL els + 1 + Nd.cntL ms2) ≤ 256 := hcn
            have Hcn2 := Lib.hid hcn
            have HC := Lib.hid (Hih.out g2 (by omega) l2 kids r1 p5 c5 w0 W5 hpk Hok2.out HT5.out H05.out hc5b hc5c (by omega))
            have Hok3 := Lib.hid (Nd.pR_sub hpk Hok2.out)
            have Hrl := Lib.hid (Nd.pR_some _ _ _ _ hpk).1
            have HCase := Lib.hid hcase
            clear hop hp2 hms hk Hp' Hns Hok' hcn hpk hcase Hcn x0 x1 x2 x3 x4
            go_wp2_with fail
            refine HC.out.mono ?_
            rintro e w7 ⟨vk, p7, c7, rfl, hOk, hBk, hAk, hc7, hc7b⟩
            obtain ⟨pk, ck, rfl, hkc, hkoff⟩ := hOk.off
            have hx7 := Nd.keepBox HBX.out hBk
            have hbl5 := (Array.getElem?_eq_some_iff.1 HBX.out).1
            have HKo := Lib.hid (Nd.Rd.mono (Nd.Rd.off hkoff hbl5) HBl.out.size : Nd.Rd wr.heap.size w7 (some bx) fun W' => Nd.Row W' pk kids)
            have HG7 := Lib.hid (grownBy_of hBk (some bx))
            obtain ⟨x0, x1, x2, x3, x4⟩ := Vl.five_of hx7
            obtain ⟨z0, z1, z2, z3, z4⟩ := Vl.fiveF_of hx7
            have HX7 := Lib.hid hx7
            have HA7 := Lib.hid hAk
            have hkl : kids.length ≤ 256 := by have := Hcn2.out; have := Nd.cntL_len kids; omega
            clear hOk hBk hAk hkoff hbl5 hx7 HC
            have HX8 := Lib.hid (show (w7.setCell ⟨bx, 3, none⟩ (.slice pk kids.length ck)).heap[bx]? = some (.cells #[.int .u8 (t.kind : Nat), .string t.text, .slice pp t.path.length cp, .slice pk kids.length ck, .slice none 0 0] 37 (0, 0)) from (Lib.heap_setCell_same (i := 3) HX7.out _).trans rfl)
            have HG8 := Lib.hid (grownBy_trans HG7.out (Vl.set1_grown w7 bx 3 (.slice pk kids.length ck)))
            have HK8 := Lib.hid (HKo.out.later (Vl.set1_grown w7 bx 3 (.slice pk kids.length ck)))
            have HB8 := Lib.hid (below_grownBy H05.out HG8.out (by have := Hbx.out; have := HB.out.size; have := H0.out.size; omega) H05.out.size)
            rcases HCase.out with ⟨h4, hpe⟩ | ⟨h4, hel, hr1⟩
            · obtain ⟨x4', hr1, hx4⟩ := Nd.tail_of h4 (by decide)
              have HT7 := Lib.hid (show Sc.At w0 p7 (x4' :: r1.tail) by rw [← hr1]; exact HA7.out)
              have hlr := Lib.hid (show r1.length = r1.tail.length + 1 from (congrArg List.length hr1).trans (List.length_cons ..))
              obtain ⟨b7, off7, pn7, cn7, rfl, e0, -, -, -, -⟩ := Nd.at_head (HT7.out.below HB8.out)
              have q6 : ((x4'.kind : Int) == 4) = true := by rw [beq_iff_eq]; omega
              have Hok4 := Lib.hid (fun x (h : x ∈ r1.tail) => Hok3.out x (List.mem_of_mem_tail h))
              have Hl9 := Lib.hid (show r2.length + 1 ≤ r1.tail.length from (Nd.pR_some _ _ _ _ hpe).1)
              have Hok5 := Lib.hid (fun x (h : x ∈ r2) => Nd.pR_sub hpe Hok4.out x (List.mem_cons_of_mem _ h))
              have HT8 := Lib.hid (show Sc.At w0 (if c7 = 1 then some ⟨b7, off7, none⟩ else some ⟨b7, off7 + 3, none⟩) r1.tail from Nd.at_tailIf HT7.out (by rw [List.length_cons, ← hlr.out]; exact hc7) _)
              have hce : Nd.cntL els ≤ 256 := by have := Hcn2.out; omega
              have HCe := Lib.hid (fun p8 c8 (h1 : Sc.At w0 p8 r1.tail) (h2 : r1.tail.length ≤ c8) (h3 : c8 ≤ 9223372036854775807) => Hih.out g2 (by omega) r1.tail els (ee :: r2) p8 c8 w0 _ hpe Hok4.out h1 HB8.out h2 h3 hce)
              rw [hlr.out] at hc7 ⊢
              generalize r1.tail = r3 at *
              have hcz7 : (1 : Int) ≤ ((r3.length + 1 : Nat) : Int) := by omega
              have hcz8 : ((r3.length + 1 : Nat) : Int) ≤ (c7 : Int) := by omega
              clear hr1 h4 hpe HX7 HA7 HKo
              have hc1 : ¬ c7 = 1 := by have := Hl9.out; omega
              have HC9 := Lib.hid (HCe.out (some ⟨b7, off7 + 3, none⟩) (c7 - 1) (by have := HT8.out; rwa [if_neg hc1] at this) (by omega) (by omega))
              go_wp2_with fail
              refine HC9.out.mono ?_
              rintro e w9 ⟨ve, p9, c9, rfl, hOe, hBe, hAe, hc9, hc9b⟩
              obtain ⟨pe, ce, rfl, hec, heoff⟩ := hOe.off
              have hbl9 := (Array.getElem?_eq_some_iff.1 HX8.out).1
              have HEo := Lib.hid (Nd.Rd.mono (Nd.Rd.off heoff hbl9) (Nat.le_trans HBl.out.size HG8.out.size) : Nd.Rd wr.heap.size w9 (some bx) fun W' => Nd.Row W' pe els)
              have hx9 := Nd.keepBox HX8.out hBe
              have HGe := Lib.hid (grownBy_of hBe (some bx))
              have HK9 := Lib.hid (HK8.out.later HGe.out)
              obtain ⟨x0, x1, x2, x3, x4⟩ := Vl.five_of hx9
              obtain ⟨z0, z1, z2, z3, z4⟩ := Vl.fiveF_of hx9
              have HX10 := Lib.hid (show (w9.setCell ⟨bx, 4, none⟩ (.slice pe els.length ce)).heap[bx]? = some (.cells #[.int .u8 (t.kind : Nat), .string t.text, .slice pp t.path.length cp, .slice pk kids.length ck, .slice pe els.length ce] 37 (0, 0)) from (Lib.heap_setCell_same (i := 4) hx9 _).trans rfl)
              have HG10 := Lib.hid (grownBy_trans (grownBy_trans HG8.out HGe.out) (Vl.set1_grown w9 bx 4 (.slice pe els.length ce)))
              have HK10 := Lib.hid (HK9.out.later (Vl.set1_grown w9 bx 4 (.slice pe els.length ce)))
              have HE10 := Lib.hid (HEo.out.later (Vl.set1_grown w9 bx 4 (.slice pe els.length ce)))
              have hel2 : els.length ≤ 256 := by have := Hcn2.out; have := Nd.cntL_len els; omega
              have HBw := Lib.hid (show Below wr.heap.size wr (w9.setCell ⟨bx, 4, none⟩ (.slice pe els.length ce)) from below_grownBy HBl.out HG10.out Hbx.out HBl.out.size)
              have HOf := Lib.hid (Nd.off_mk (x := some bx) (kids := kids) (els := els) (ck := ck) (ce := ce) ⟨f1, f3, by omega, by omega, by omega, f5, hcp, hkc, hec⟩ (HPo.out.later HG10.out) HK10.out HE10.out : Nd.Off wr.heap.size (w9.setCell ⟨bx, 4, none⟩ (.slice pe els.length ce)) none (.agg #[.int .u8 (t.kind : Nat), .string t.text, .slice pp t.path.length cp, .slice pk kids.length ck, .slice pe els.length ce]) _)
              have HT9 := Lib.hid hAe
              obtain ⟨b9, off9, pn9, cn9, rfl, -, -, -, -, -⟩ := Nd.at_head HT9.out
              have HT10 := Lib.hid (show Sc.At w0 (if c9 = 1 then some ⟨b9, off9, none⟩ else some ⟨b9, off9 + 3, none⟩) r2 from Nd.at_tailIf HT9.out hc9 _)
              rw [List.length_cons] at hc9 ⊢
              have hcz9 : (1 : Int) ≤ ((r2.length + 1 : Nat) : Int) := by omega
              have hcz10 : ((r2.length + 1 : Nat) : Int) ≤ (c9 : Int) := by omega
              clear hOe hBe hAe heoff hx9 hbl9 e0 HT9
              go_upto_region 10 with fail
              generalize (if c9 = 1 then some (⟨b9, off9, none⟩ : Addr) else some ⟨b9, off9 + 3, none⟩) = p10 at HT10 ⊢
              obtain ⟨c10, hc10⟩ : ∃ c10, c10 = c9 - 1 := ⟨_, rfl⟩
              rw [← hc10]
              have hc10b : r2.length ≤ c10 := by omega
              have hc10c : c10 ≤ 9223372036854775807 := by omega
              have hmm9 : r2.length < m := by have := Hrl.out; have := Hl9.out; have := hlr.out; omega
              clear x0 x1 x2 x3 x4 z0 z1 z2 z3 z4
              obtain ⟨x0, x1, x2, x3, x4⟩ := Vl.five_of HX10.out
              clear hcz9 hcz10 hc10 HX8 HX10 HK8 HK9 HK10 HE10 HEo HGe HG8 HG10
              generalize w9.setCell ⟨bx, 4, none⟩ (.slice pe els.length ce) = W11 at *
              go_wp2_with (at_builtin; refine Nd.nodeApp rfl _ _ rfl w wr W11 u4 out W11.heap.size _ _ _ _ _ (.mk t.kind t.text t.path kids els) rfl rfl rfl HO.out HB.out HBw.out HOf.out Hol.out ?_)
              intro v7 w12 hO7 hB7
              have HO7 := Lib.hid hO7
              have HB7 := Lib.hid hB7
              clear hO7 hB7
              go_wp2_with fail
              exact ⟨⟨g2, r2, out ++ [Nd.N.mk t.kind t.text t.path kids els], ms2, p10, c10, by omega, rfl, hc10b, hc10c, HT10, Hok5, Hp2, Hms, Lib.hid (by rw [List.length_append]; exact HO7.out), HB7⟩, hmm9⟩
            · subst hel
              have HT7 := Lib.hid (show Sc.At w0 p7 (ee :: r2) by rw [← hr1]; exact HA7.out)
              have hlr := Lib.hid (show r1.length = r2.length + 1 by rw [hr1]; rfl)
              obtain ⟨b7, off7, pn7, cn7, rfl, e0, -, -, -, -⟩ := Nd.at_head (HT7.out.below HB8.out)
              have q6 : ((ee.kind : Int) == 4) = false := beq_eq_false_iff_ne.2 (by omega)
              generalize r1.length = m7 at *
              have hpos7 : 0 < m7 := by have := hlr.out; omega
              have hcz7 : (1 : Int) ≤ (m7 : Int) := by omega
              have hcz8 : (m7 : Int) ≤ (c7 : Int) := by omega
              have HT8 := Lib.hid (show Sc.At w0 (if c7 = 1 then some ⟨b7, off7, none⟩ else some ⟨b7, off7 + 3, none⟩) r2 from Nd.at_tailIf HT7.out (by have := hlr.out; rw [List.length_cons]; omega) _)
              have Hok4 := Lib.hid (fun x (h : x ∈ r2) => Hok3.out x (by rw [hr1]; exact List.mem_cons_of_mem _ h))
              clear hr1 h4
              go_upto_region 10 with fail
              generalize (if c7 = 1 then some (⟨b7, off7, none⟩ : Addr) else some ⟨b7, off7 + 3, none⟩) = p8 at HT8 ⊢
              have hm8 : m7 - 1 = r2.length := by have := hlr.out; omega
              rw [hm8]
              obtain ⟨c8, hc8⟩ : ∃ c8, c8 = c7 - 1 := ⟨_, rfl⟩
              rw [← hc8]
              have hc8b : r2.length ≤ c8 := by have := hlr.out; omega
              have hc8c : c8 ≤ 9223372036854775807 := by omega
              have hmm8 : r2.length < m := by have := Hrl.out; have := hlr.out; omega
              have HBw := Lib.hid (show Below wr.heap.size wr (w7.setCell ⟨bx, 3, none⟩ (.slice pk kids.length ck)) from below_grownBy HBl.out HG8.out Hbx.out HBl.out.size)
              have HOf := Lib.hid (Nd.off_mk (x := some bx) (kids := kids) (els := []) (ck := ck) (ce := 0) ⟨f1, f3, by omega, by omega, by simp, f5, hcp, hkc, by simp⟩ (HPo.out.later HG8.out) HK8.out (fun _ _ => Nd.Row.nil _ none) : Nd.Off wr.heap.size (w7.setCell ⟨bx, 3, none⟩ (.slice pk kids.length ck)) none (.agg #[.int .u8 (t.kind : Nat), .string t.text, .slice pp t.path.length cp, .slice pk kids.length ck, .slice none 0 0]) _)
              obtain ⟨x0, x1, x2, x3, x4⟩ := Vl.five_of HX8.out
              clear hcz7 hcz8 hpos7 q6 e0 hm8 hc8 HX7 HA7 HKo z0 z1 z2 z3 z4
              generalize w7.setCell ⟨bx, 3, none⟩ (.slice pk kids.length ck) = W9 at *
              go_wp2_with (at_builtin; refine Nd.nodeApp rfl _ _ rfl w wr W9 u4 out W9.heap.size _ _ _ _ _ (.mk t.kind t.text t.path kids []) rfl rfl rfl HO.out HB.out HBw.out HOf.out Hol.out ?_)
              intro v7 w10 hO7 hB7
              have HO7 := Lib.hid hO7
              have HB7 := Lib.hid hB7
              clear hO7 hB7
              go_wp2_with fail
              exact ⟨⟨g2, r2, out ++ [Nd.N.mk t.kind t.text t.path kids []], ms2, p8, c8, by omega, rfl, hc8b, hc8c, HT8, Hok4, Hp2, Hms, Lib.hid (by rw [List.length_append]; exact HO7.out), HB7⟩, hmm8⟩
end Go.Proofs.YteiccjakaabfnaaGreatDoor
