
/-
  The walk of VetSizes: whatever the nodes, the law answers true. Conditions: the nodes and their texts are of a size that the walks hold; the words' table and the errors lie as they are laid, the search's limit is set.
-/
import Derived.Test.YteiccjakaabfnaaGreatDoorZ45
import Derived.Test.YteiccjakaabfnaaGreatDoorZ41
import Derived.Test.YteiccjakaabfnaaGreatDoorZ50
namespace Go.Proofs.YteiccjakaabfnaaGreatDoor
open Go.RowKit Go.Shelf

def Sz.MID : ByteArray := ⟨#[109, 105, 100]⟩
/-- The node that stands between: the path mid. -/
def Sz.mid : Nd.N := .mk 2 ⟨#[]⟩ [Sz.MID] [] []
theorem Sz.toks (A B : List Nd.N) (h : ∀ t ∈ Nd.toksL A, t.text.size ≤ 4000000000) (k : ∀ t ∈ Nd.toksL B, t.text.size ≤ 4000000000) : ∀ t ∈ Nd.toksL (A ++ Sz.mid :: B), t.text.size ≤ 4000000000 := by
  intro t ht
  rw [Nd.toksL_append, Nd.toksL_cons, List.mem_append, List.mem_append] at ht
  rcases ht with ht | ht | ht
  · exact h t ht
  · unfold Sz.mid at ht
    rw [Nd.N.toks] at ht
    change t ∈ [(⟨2, ⟨#[]⟩, [Sz.MID]⟩ : Sc.T)] at ht
    rw [List.mem_singleton] at ht
    subst ht
    exact Nat.zero_le _
  · exact k t ht
theorem Sz.vis (lev : Nat) (ie : Bool) (A B : List Nd.N) : Vt.visL lev ie (A ++ Sz.mid :: B) = Vt.visL lev ie A ++ ⟨Sz.mid, lev, ie⟩ :: Vt.visL lev ie B := by
  rw [Vt.visL_append, Vt.visL_cons, Vt.visN_eq]
  have e1 : Sz.mid.kids = [] := rfl
  have e2 : Sz.mid.els = [] := rfl
  rw [e1, e2, Vt.visL_nil, Vt.visL_nil]
  rfl
/-- What VetSizes asks. -/
theorem Sz.facts (A B : List Nd.N) (hA : ∀ t ∈ Nd.toksL A, t.text.size ≤ 4000000000) (hB : ∀ t ∈ Nd.toksL B, t.text.size ≤ 4000000000) :
    Nd.chk A = 2 ∨ (Nd.chk A = 0 ∧ Nd.chk B = 2) ∨ (Nd.chk A = 0 ∧ Nd.chk B = 0 ∧ Nd.chk (A ++ Sz.mid :: B) = 2) ∨
    (Nd.chk A = 0 ∧ Nd.chk B = 0 ∧ Nd.chk (A ++ Sz.mid :: B) = 0 ∧
      Vt.iff (Nd.good (A ++ Sz.mid :: B)) (Nd.cntL (A ++ Sz.mid :: B)) = Vt.iff (Nd.good A) (Nd.cntL A) + Vt.iff (Nd.good B) (Nd.cntL B) + 1 ∧ Vt.iff (Nd.good (A ++ Sz.mid :: B)) (Nd.cntL (A ++ Sz.mid :: B)) ≤ 256 ∧
      Vt.iff (Nd.good (A ++ Sz.mid :: B)) (Vt.plen (Vt.visL 1 false (A ++ Sz.mid :: B))) = Vt.iff (Nd.good A) (Vt.plen (Vt.visL 1 false A)) + Vt.iff (Nd.good B) (Vt.plen (Vt.visL 1 false B)) ∧ Vt.iff (Nd.good (A ++ Sz.mid :: B)) (Vt.plen (Vt.visL 1 false (A ++ Sz.mid :: B))) ≤ 1100000000000 ∧
      Vt.iff (Nd.good (A ++ Sz.mid :: B)) (Vt.dep (Vt.visL 1 false (A ++ Sz.mid :: B))) = max (max 1 (Vt.iff (Nd.good A) (Vt.dep (Vt.visL 1 false A)))) (Vt.iff (Nd.good B) (Vt.dep (Vt.visL 1 false B))) ∧
      (∀ x ∈ Vt.rootsR (A ++ Sz.mid :: B), x ∈ [Sz.MID] ++ Vt.rootsR A ++ Vt.rootsR B) ∧ Vt.onlyR A (Vt.rootsR (A ++ Sz.mid :: B)) = 0 ∧ Vt.onlyR B (Vt.rootsR (A ++ Sz.mid :: B)) = 0) := by
  cases gA : Nd.good A with
  | false => exact Or.inl ((Nd.chk_good).2 gA)
  | true =>
    cases gB : Nd.good B with
    | false => exact Or.inr (Or.inl ⟨(Nd.chk_good).1 gA, (Nd.chk_good).2 gB⟩)
    | true =>
      cases gU : Nd.good (A ++ Sz.mid :: B) with
      | false => exact Or.inr (Or.inr (Or.inl ⟨(Nd.chk_good).1 gA, (Nd.chk_good).1 gB, (Nd.chk_good).2 gU⟩))
      | true =>
        have hc : Nd.cntL (A ++ Sz.mid :: B) = Nd.cntL A + Nd.cntL B + 1 := by
          have e : Sz.mid.cnt = 1 := by unfold Sz.mid; rw [Nd.N.cnt, Nd.cntL]
          rw [Nd.cntL_append, Nd.cntL_cons, e]; omega
        have h2 := gU
        unfold Nd.good Nd.shapedP at h2
        rw [Bool.and_eq_true, Bool.and_eq_true, decide_eq_true_eq] at h2
        have hp : Vt.plen (Vt.visL 1 false (A ++ Sz.mid :: B)) = Vt.plen (Vt.visL 1 false A) + Vt.plen (Vt.visL 1 false B) := by
          rw [Sz.vis, Vt.plen_append]
          congr 1
          unfold Vt.plen
          rw [List.map_cons, List.sum_cons]
          exact Nat.zero_add _
        have hd : Vt.dep (Vt.visL 1 false (A ++ Sz.mid :: B)) = max (max 1 (Vt.dep (Vt.visL 1 false A))) (Vt.dep (Vt.visL 1 false B)) := by
          rw [Sz.vis, Vt.dep_append, Vt.dep_cons]
          dsimp only
          omega
        have hpl := Rv.pl_le 4000000000 8 _ h2.1.1 (Sz.toks A B hA hB)
        rw [← Rv.plen_L 1 false] at hpl
        have hsub : ∀ x ∈ Vt.rootsR A, x ∈ Vt.rootsR (A ++ Sz.mid :: B) := fun x hx => by
          obtain ⟨p, hp, h⟩ := (Vt.mem_roots gA x).1 hx
          exact (Vt.mem_roots gU x).2 ⟨p, by rw [Sz.vis]; exact List.mem_append_left _ hp, h⟩
        have hsub2 : ∀ x ∈ Vt.rootsR B, x ∈ Vt.rootsR (A ++ Sz.mid :: B) := fun x hx => by
          obtain ⟨p, hp, h⟩ := (Vt.mem_roots gB x).1 hx
          exact (Vt.mem_roots gU x).2 ⟨p, by rw [Sz.vis]; exact List.mem_append_right _ (List.mem_cons_of_mem _ hp), h⟩
        refine Or.inr (Or.inr (Or.inr ⟨(Nd.chk_good).1 gA, (Nd.chk_good).1 gB, (Nd.chk_good).1 gU, hc, h2.1.2, hp, ?_, hd, fun x hx => ?_, ((Vt.only_zero gA _).1).2 hsub, ((Vt.only_zero gB _).1).2 hsub2⟩))
        · show Vt.plen _ ≤ _
          omega
        · obtain ⟨p, hp, h1, h3⟩ := (Vt.mem_roots gU x).1 hx
          rw [Sz.vis, List.mem_append, List.mem_cons] at hp
          rcases hp with hp | rfl | hp
          · exact List.mem_append_left _ (List.mem_append_right _ ((Vt.mem_roots gA x).2 ⟨p, hp, h1, h3⟩))
          · exact List.mem_append_left _ (List.mem_append_left _ (List.mem_singleton.2 h1.symm))
          · exact List.mem_append_right _ ((Vt.mem_roots gB x).2 ⟨p, hp, h1, h3⟩)
/-- What holds of the joined list's nodes. -/
def Sz.Pr (w1 : World) (g : Nat) (u : Value) (y : Nd.N) : Prop := Nd.At w1 u y ∨ (u = .agg #[.int .u8 2, .string ⟨#[]⟩, .slice (some ⟨g, 0, none⟩) 1 1, .slice none 0 0, .slice none 0 0] ∧ y = Sz.mid)
theorem Sz.shaped (w1 : World) (g : Nat) : Nd.Shaped (Sz.Pr w1 g) := by
  rintro c0 c1 c2 c3 c4 y (h | ⟨h, _⟩)
  · exact Nd.one_cell h
  · simp only [Value.agg.injEq, Array.mk.injEq, List.cons.injEq, and_true] at h
    obtain ⟨rfl, rfl, rfl, rfl, rfl⟩ := h
    intro q hq
    simp at hq
    rcases hq with rfl | rfl | rfl | rfl <;> rfl
theorem Sz.path {W : World} {b : Nat} (h : W.heap[b]? = some (.cells #[.string ⟨#[109, 105, 100]⟩] 9 (0, 0))) : Wp.At Wp.mkT W (some ⟨b, 0, none⟩) [Sz.MID] := Or.inr ⟨b, 0, rfl, fun i hi => by
  have e : i = 0 := by simpa using hi
  subst e
  rw [Lib.cell_of_heap h]
  rfl⟩
theorem Sz.at {w1 W : World} {g : Nat} (hb : Below w1.heap.size w1 W) (hg : W.heap[g]? = some (.cells #[.string ⟨#[109, 105, 100]⟩] 9 (0, 0))) : ∀ u y, Sz.Pr w1 g u y → Nd.At W u y := by
  rintro u y (h | ⟨rfl, rfl⟩)
  · exact h.below hb
  · unfold Sz.mid
    rw [Nd.At]
    refine ⟨some ⟨g, 0, none⟩, 1, none, 0, none, 0, rfl, ⟨by decide, by decide, by decide, by decide, by decide, fun s hs => ?_, by decide, by decide, by decide⟩, Sz.path hg, by rw [Nd.RowF]; trivial, by rw [Nd.RowF]; trivial⟩
    obtain rfl := List.mem_singleton.1 hs
    decide
theorem Sz.made (W : World) : (W.alloc (.cells #[.string ⟨#[109, 105, 100]⟩] 9)).ownsRow W.heap.size 9 1 (.slice (some ⟨W.heap.size, 0, none⟩) 1 1) ([(⟨#[109, 105, 100]⟩ : ByteArray)]).length (([(⟨#[109, 105, 100]⟩ : ByteArray)]).map Wp.mkT) :=
  ⟨by simp, .inr ⟨W.heap.size, 1, #[.string ⟨#[109, 105, 100]⟩], rfl, Nat.le_refl _, heap_alloc_new W _, Nat.le_refl _, by decide, rfl, rfl⟩⟩
theorem Sz.own {W : World} {B n : Nat} {v : Value} {xs : List Value} {l : List ByteArray} (h : W.ownsRow B 9 1 v n xs) (hn : n = l.length := by simp) (hx : xs = l.map Wp.mkT := by simp) : W.ownsRow B 9 1 v l.length (l.map Wp.mkT) := by rw [← hn, ← hx]; exact h
theorem Sz.apart {Pr : Value → Nd.N → Prop} {B : Nat} {W : World} {v : Value} {l : List Nd.N} {g : Nat} {cs : Array Value} (h : Nd.OwnG Pr B W v l) (hg : W.heap[g]? = some (.cells cs 9 (0, 0))) : ¬ v.ownBlock = some g := by
  intro e
  obtain ⟨cc, hO, _, _⟩ := h
  rcases hO.2 with ⟨rfl, h0⟩ | ⟨g', cap, cur, rfl, h1, h2, _⟩
  · cases e
  · cases e
    rw [h2] at hg
    simp at hg
set_option maxRecDepth 100000 in
set_option maxHeartbeats 8000000 in
theorem vetSizes_law (pa pb : Option Addr) (ca cb : Nat) (A B : List Nd.N) (w : World) (ea eb : Addr) (hA : Nd.Row w pa A) (hB : Nd.Row w pb B) (hla : A.length ≤ 1048576) (hlb : B.length ≤ 1048576) (hta : ∀ t ∈ Nd.toksL A, t.text.size ≤ 4000000000) (htb : ∀ t ∈ Nd.toksL B, t.text.size ≤ 4000000000) (hT : Sc.Laid w) (hM : Sc.MaxLen w) (hE : Nd.Errs w ea eb) :
    Calls Tryz.prog 5 #[.slice pa A.length ca, .slice pb B.length cb] w fun e w' => e = .returned (.bool true) ∧ Below w.heap.size w w' := by
  have htu := Sz.toks A B hta htb
  have HF := Lib.hid (Sz.facts A B hta htb)
  have CL := Lib.hid (lives12_any w ea eb hT hM hE)
  have CA := Lib.hid (fun W (h : Below w.heap.size w W) => vtCount_any A pa ca W (by omega) (hA.below h) hta (hT.below h) (hM.below h))
  have CB := Lib.hid (fun W (h : Below w.heap.size w W) => vtCount_any B pb cb W (by omega) (hB.below h) htb (hT.below h) (hM.below h))
  have hlu : (A ++ Sz.mid :: B).length ≤ 140737488351232 := by rw [List.length_append, List.length_cons]; omega
  have CU := Lib.hid (fun W q d (h : Below w.heap.size w W) (hr : Nd.Row W q (A ++ Sz.mid :: B)) => vtCount_any (A ++ Sz.mid :: B) q d W hlu hr htu (hT.below h) (hM.below h))
  have PA := Lib.hid (fun W (h : Below w.heap.size w W) => vtPlain_any A pa ca W (by omega) (hA.below h) hta (hT.below h) (hM.below h))
  have PB := Lib.hid (fun W (h : Below w.heap.size w W) => vtPlain_any B pb cb W (by omega) (hB.below h) htb (hT.below h) (hM.below h))
  have PU := Lib.hid (fun W q d (h : Below w.heap.size w W) (hr : Nd.Row W q (A ++ Sz.mid :: B)) => vtPlain_any (A ++ Sz.mid :: B) q d W hlu hr htu (hT.below h) (hM.below h))
  have DA := Lib.hid (fun W (h : Below w.heap.size w W) => vtDepth_any A pa ca W (by omega) (hA.below h) hta (hT.below h) (hM.below h))
  have DB := Lib.hid (fun W (h : Below w.heap.size w W) => vtDepth_any B pb cb W (by omega) (hB.below h) htb (hT.below h) (hM.below h))
  have DU := Lib.hid (fun W q d (h : Below w.heap.size w W) (hr : Nd.Row W q (A ++ Sz.mid :: B)) => vtDepth_any (A ++ Sz.mid :: B) q d W hlu hr htu (hT.below h) (hM.below h))
  have RA := Lib.hid (fun W (h : Below w.heap.size w W) => vtRoots_any A pa ca W (by omega) (hA.below h) hta (hT.below h) (hM.below h))
  have RB := Lib.hid (fun W (h : Below w.heap.size w W) => vtRoots_any B pb cb W (by omega) (hB.below h) htb (hT.below h) (hM.below h))
  have RU := Lib.hid (fun W q d (h : Below w.heap.size w W) (hr : Nd.Row W q (A ++ Sz.mid :: B)) => vtRoots_any (A ++ Sz.mid :: B) q d W hlu hr htu (hT.below h) (hM.below h))
  have OA := Lib.hid (fun W names pn cn (h : Below w.heap.size w W) (hN : Wp.At Wp.mkT W pn names) (hnn : names.length ≤ 140737488351232) => vtOnly_any A pa ca names pn cn W (by omega) (hA.below h) hta (hT.below h) (hM.below h) hN hnn)
  have OB := Lib.hid (fun W names pn cn (h : Below w.heap.size w W) (hN : Wp.At Wp.mkT W pn names) (hnn : names.length ≤ 140737488351232) => vtOnly_any B pb cb names pn cn W (by omega) (hB.below h) htb (hT.below h) (hM.below h) hN hnn)
  have lA := Vt.rootsR_len A
  have lB := Vt.rootsR_len B
  have lU := Vt.rootsR_len (A ++ Sz.mid :: B)
  have HA := Lib.hid hA
  have HB := Lib.hid hB
  have Hna := Lib.hid hla
  have Hnb := Lib.hid hlb
  clear hta htb htu hT hM hE hA hB
  generalize Vt.iff (Nd.good (A ++ Sz.mid :: B)) (Nd.cntL (A ++ Sz.mid :: B)) = nU at *
  generalize Vt.iff (Nd.good A) (Nd.cntL A) = nA at *
  generalize Vt.iff (Nd.good B) (Nd.cntL B) = nB at *
  generalize Vt.iff (Nd.good (A ++ Sz.mid :: B)) (Vt.plen (Vt.visL 1 false (A ++ Sz.mid :: B))) = pU at *
  generalize Vt.iff (Nd.good A) (Vt.plen (Vt.visL 1 false A)) = pA at *
  generalize Vt.iff (Nd.good B) (Vt.plen (Vt.visL 1 false B)) = pB at *
  generalize Vt.iff (Nd.good (A ++ Sz.mid :: B)) (Vt.dep (Vt.visL 1 false (A ++ Sz.mid :: B))) = dU at *
  generalize Vt.iff (Nd.good A) (Vt.dep (Vt.visL 1 false A)) = dA at *
  generalize Vt.iff (Nd.good B) (Vt.dep (Vt.visL 1 false B)) = dB at *
  obtain ⟨nm, hnm⟩ : ∃ nm, nm = (A ++ Sz.mid :: B).length := ⟨_, rfl⟩
  have Hnu := Lib.hid hnm
  rw [← hnm] at CU PU DU RU
  clear hnm hlu
  obtain ⟨na, hna⟩ : ∃ n, n = A.length := ⟨_, rfl⟩
  obtain ⟨nb, hnb⟩ : ∃ n, n = B.length := ⟨_, rfl⟩
  have HLa := Lib.hid hna
  have HLb := Lib.hid hnb
  rw [← hna] at CA PA DA RA OA hla ⊢
  rw [← hnb] at CB PB DB RB OB hlb ⊢
  clear hna hnb hla hlb
  go_enter Tryz.func5, Tryz.ntmps5
  go_wp2_with fail
  refine CL.out.mono ?_
  rintro e w1 ⟨rfl, hb⟩
  have B1 := Lib.hid hb
  clear hb CL
  have HP := Lib.hid (fun g => Sz.shaped w1 g)
  have M0 := Lib.hid (Nd.OwnG.made (Nd.At w1) w1)
  have S1 := Lib.hid ((Below.refl w1.heap.size w1).alloc (Nat.le_refl _) (.cells #[] 37))
  have R1 := Lib.hid (Nd.RowG.of (Pr := Nd.At w1) (HA.out.below B1.out) S1.out (fun _ _ h => h))
  go_wp2_with (at_builtin; go_loud (refine Nd.listG rfl _ _ rfl (Pr := Nd.At w1) (fun _ _ _ _ _ _ h => Nd.one_cell h) w1.heap.size [] A (.slice (some ⟨w1.heap.size, 0, none⟩) 0 0) _ _ _ rfl rfl M0.out S1.out.size R1.out HLa.out (Nat.zero_le _) (by have := Hna.out; omega) ?_))
  intro v2 W2 hO2 hg2
  have S2 := Lib.hid (M0.out.grown S1.out hg2 S1.out.size)
  have O2 := Lib.hid hO2
  have L2 := Lib.hid hO2.lt
  clear hO2 hg2 M0 S1 R1
  obtain ⟨g, hgg⟩ : ∃ g, g = W2.heap.size := ⟨_, rfl⟩
  have S3 := Lib.hid ((S2.out.alloc S2.out.size (.cells #[.string ⟨#[109, 105, 100]⟩] 9)).alloc (S2.out.alloc S2.out.size (.cells #[.string ⟨#[109, 105, 100]⟩] 9)).size (.cells #[.int .u8 2, .string ⟨#[]⟩, .slice (some ⟨W2.heap.size, 0, none⟩) 1 1, .slice none 0 0, .slice none 0 0] 37))
  have X3 := Lib.hid ((Vl.past (W2.alloc (.cells #[.string ⟨#[109, 105, 100]⟩] 9)) (.cells #[.int .u8 2, .string ⟨#[]⟩, .slice (some ⟨W2.heap.size, 0, none⟩) 1 1, .slice none 0 0, .slice none 0 0] 37) W2.heap.size (by rw [World.size_alloc]; omega)).trans (Vl.new W2 (.cells #[.string ⟨#[109, 105, 100]⟩] 9)))
  have Y3 := Lib.hid (Vl.newAt (W2.alloc (.cells #[.string ⟨#[109, 105, 100]⟩] 9)) (.cells #[.int .u8 2, .string ⟨#[]⟩, .slice (some ⟨W2.heap.size, 0, none⟩) 1 1, .slice none 0 0, .slice none 0 0] 37) (W2.heap.size + 1) (by rw [World.size_alloc]))
  have O3 := Lib.hid (((O2.out.imp (Qr := Sz.Pr w1 W2.heap.size) (fun _ _ h => Or.inl h)).alloc (.cells #[.string ⟨#[109, 105, 100]⟩] 9)).alloc (.cells #[.int .u8 2, .string ⟨#[]⟩, .slice (some ⟨W2.heap.size, 0, none⟩) 1 1, .slice none 0 0, .slice none 0 0] 37))
  have R3 := Lib.hid (Nd.RowG.one (Pr := Sz.Pr w1 W2.heap.size) Y3.out (Or.inr ⟨rfl, rfl⟩))
  clear Y3 O2 hgg
  go_wp2_with (at_builtin; go_loud (refine Nd.listG rfl _ _ rfl (HP.out W2.heap.size) w1.heap.size A [Sz.mid] v2 _ _ _ rfl rfl O3.out S3.out.size R3.out rfl (by have := Hna.out; omega) (by simp) ?_))
  intro v4 W4 hO4 hg4
  have S4 := Lib.hid (O3.out.grown S3.out hg4 S3.out.size)
  have X4 := Lib.hid ((hg4.block W2.heap.size (Array.getElem?_eq_some_iff.1 X3.out).1 (fun e => Nat.lt_irrefl _ (L2.out _ e.symm).2)).trans X3.out)
  have O4 := Lib.hid hO4
  have R4 := Lib.hid (Nd.RowG.of (Pr := Sz.Pr w1 W2.heap.size) (HB.out.below B1.out) S4.out (fun _ _ h => Or.inl h))
  clear hO4 hg4 O3 R3 S3 X3 L2 S2
  go_wp2_with (at_builtin; go_loud (refine Nd.listG rfl _ _ rfl (HP.out W2.heap.size) w1.heap.size (A ++ [Sz.mid]) B v4 _ _ _ rfl rfl O4.out S4.out.size R4.out HLb.out (by rw [List.length_append, List.length_singleton]; have := Hna.out; omega) (by have := Hnb.out; omega) ?_))
  intro v5 W5 hO5 hg5
  have S5 := O4.out.grown S4.out hg5 S4.out.size
  have X5 := (hg5.block W2.heap.size (Array.getElem?_eq_some_iff.1 X4.out).1 (fun e => Sz.apart O4.out X4.out e.symm)).trans X4.out
  obtain ⟨pu, cu, hvu, hru⟩ := hO5.at (Sz.at S5 X5)
  rw [← Hnu.out] at hvu
  subst hvu
  have HU := Lib.hid hru
  have B2 := Lib.hid (B1.out.trans (S5.mono B1.out.size))
  clear hru S5 X5 hO5 hg5 O4 X4 S4 R4 HP B1 Hnu HA HB
  go_wp2_with fail
  refine (CA.out _ B2.out).mono ?_
  rintro e w3 ⟨rfl, hb⟩
  have HU := Lib.hid (HU.out.below hb)
  have B3 := Lib.hid (B2.out.trans (hb.mono B2.out.size))
  clear hb CA B2
  go_wp2_with fail
  refine (CB.out _ B3.out).mono ?_
  rintro e w4 ⟨rfl, hb⟩
  have HU := Lib.hid (HU.out.below hb)
  have B4 := Lib.hid (B3.out.trans (hb.mono B3.out.size))
  clear hb CB B3
  go_wp2_with fail
  refine (CU.out _ _ _ B4.out HU.out).mono ?_
  rintro e w5 ⟨rfl, hb⟩
  have HU := Lib.hid (HU.out.below hb)
  have B5 := Lib.hid (B4.out.trans (hb.mono B4.out.size))
  clear hb CU B4
  unfold Vt.RootsPost at RA RB RU
  generalize Nd.chk A = zA at *
  generalize Nd.chk B = zB at *
  generalize Nd.chk (A ++ Sz.mid :: B) = zU at *
  rcases HF.out with hz | ⟨hz, hz2⟩ | ⟨hz, hz2, hz3⟩ | ⟨hz, hz2, hz3, h1, h2, h3, h4, h5, h6, h7, h8⟩
  · subst hz
    clear HF
    go_wp2_with fail
    go_ret
    exact ⟨rfl, B5.out⟩
  · subst hz
    subst hz2
    clear HF
    go_wp2_with fail
    go_ret
    exact ⟨rfl, B5.out⟩
  · subst hz
    subst hz2
    subst hz3
    clear HF
    go_wp2_with fail
    go_ret
    exact ⟨rfl, B5.out⟩
  · subst hz
    subst hz2
    subst hz3
    clear HF
    have OA := Lib.hid (fun W pn cn (h : Below w.heap.size w W) (hN : Wp.At Wp.mkT W pn (Vt.rootsR (A ++ Sz.mid :: B))) => (by
      have := OA.out W _ pn cn h hN (by omega)
      rw [h7] at this
      exact this : Calls Tryz.prog 24 #[.slice pa na ca, .slice pn (Vt.rootsR (A ++ Sz.mid :: B)).length cn] W fun e w' => e = .returned (.int .i64 0) ∧ Below W.heap.size W w'))
    have OB := Lib.hid (fun W pn cn (h : Below w.heap.size w W) (hN : Wp.At Wp.mkT W pn (Vt.rootsR (A ++ Sz.mid :: B))) => (by
      have := OB.out W _ pn cn h hN (by omega)
      rw [h8] at this
      exact this : Calls Tryz.prog 24 #[.slice pb nb cb, .slice pn (Vt.rootsR (A ++ Sz.mid :: B)).length cn] W fun e w' => e = .returned (.int .i64 0) ∧ Below W.heap.size W w'))
    have H6 := Lib.hid h6
    have HH : Hid (nU = nA + nB + 1 ∧ nU ≤ 256 ∧ pU = pA + pB ∧ pU ≤ 1100000000000 ∧ dU = max (max 1 dA) dB) := Lib.hid ⟨h1, h2, h3, h4, h5⟩
    clear h1 h2 h3 h4 h5 h6 h7 h8
    generalize Vt.rootsR (A ++ Sz.mid :: B) = RtU at *
    generalize Vt.rootsR A = RtA at *
    generalize Vt.rootsR B = RtB at *
    go_wp2_with fail
    refine (PA.out _ B5.out).mono ?_
    rintro e w6 ⟨rfl, hb⟩
    have HU := Lib.hid (HU.out.below hb)
    have BB := Lib.hid (B5.out.trans (hb.mono B5.out.size))
    clear hb PA B5
    go_wp2_with fail
    refine (PB.out _ BB.out).mono ?_
    rintro e w7 ⟨rfl, hb⟩
    have HU := Lib.hid (HU.out.below hb)
    have BB := Lib.hid (BB.out.trans (hb.mono BB.out.size))
    clear hb PB
    go_wp2_with fail
    refine (PU.out _ _ _ BB.out HU.out).mono ?_
    rintro e w8 ⟨rfl, hb⟩
    have HU := Lib.hid (HU.out.below hb)
    have BB := Lib.hid (BB.out.trans (hb.mono BB.out.size))
    clear hb PU
    go_wp2_with fail
    refine (DA.out _ BB.out).mono ?_
    rintro e w9 ⟨rfl, hb⟩
    have HU := Lib.hid (HU.out.below hb)
    have BB := Lib.hid (BB.out.trans (hb.mono BB.out.size))
    clear hb DA
    go_wp2_with fail
    refine (DB.out _ BB.out).mono ?_
    rintro e w10 ⟨rfl, hb⟩
    have HU := Lib.hid (HU.out.below hb)
    have BB := Lib.hid (BB.out.trans (hb.mono BB.out.size))
    clear hb DB
    go_wp2_with fail
    refine (DU.out _ _ _ BB.out HU.out).mono ?_
    rintro e w11 ⟨rfl, hb⟩
    have HU := Lib.hid (HU.out.below hb)
    have BB := Lib.hid (BB.out.trans (hb.mono BB.out.size))
    clear hb DU
    go_wp2_with fail
    refine (RU.out _ _ _ BB.out HU.out).mono ?_
    rintro e w12 ⟨r1, e1, rfl, -, hr, hb⟩
    have X1 := Lib.hid hr
    have BB := Lib.hid (BB.out.trans (hb.mono BB.out.size))
    clear hb RU HU hr
    go_wp2_with fail
    refine (RA.out _ BB.out).mono ?_
    rintro e w13 ⟨r2, e2, rfl, -, hr, hb⟩
    have X1 := Lib.hid (X1.out.below hb)
    have X2 := Lib.hid hr
    have BB := Lib.hid (BB.out.trans (hb.mono BB.out.size))
    clear hb RA hr
    go_wp2_with fail
    refine (RB.out _ BB.out).mono ?_
    rintro e w14 ⟨r3, e3, rfl, -, hr, hb⟩
    have X1 := Lib.hid (X1.out.below hb)
    have X2 := Lib.hid (X2.out.below hb)
    have X3 := Lib.hid hr
    have BB := Lib.hid (BB.out.trans (hb.mono BB.out.size))
    clear hb RB hr
    obtain ⟨mU, hmU⟩ : ∃ n, n = RtU.length := ⟨_, rfl⟩
    obtain ⟨mA, hmA⟩ : ∃ n, n = RtA.length := ⟨_, rfl⟩
    obtain ⟨mB, hmB⟩ : ∃ n, n = RtB.length := ⟨_, rfl⟩
    have LU := Lib.hid hmU
    have LA := Lib.hid hmA
    have LB := Lib.hid hmB
    rw [← hmU] at lU OA OB ⊢
    rw [← hmA] at lA ⊢
    rw [← hmB] at lB ⊢
    clear hmU hmA hmB
    have hbe := Lib.hid ((Below.refl w14.heap.size w14).alloc (Nat.le_refl _) (.cells #[.string ⟨#[109, 105, 100]⟩] 9))
    have hmk := Lib.hid (Sz.made w14)
    go_wp2_with (at_builtin; go_loud (refine Vt.listW (mk := Wp.mkT) rfl _ _ _ rfl (fun _ => rfl) Vt.tyTexts [⟨#[109, 105, 100]⟩] RtA (.slice (some ⟨w14.heap.size, 0, none⟩) 1 1) _ _ _ w14.heap.size rfl rfl hmk.out (X2.out.below hbe.out) LA.out (by simp) (by have := LA.out; omega) hbe.out.size ?_))
    intro va wa hoa hga
    have ha : Below w14.heap.size w14 wa := Ow.grown hbe.out hmk.out hga hbe.out.size
    have Hoa := Lib.hid hoa
    have Ha := Lib.hid ha
    clear hoa hga ha hmk hbe
    go_wp2_with (at_builtin; go_loud (refine Vt.listW (mk := Wp.mkT) rfl _ _ _ rfl (fun _ => rfl) Vt.tyTexts ([⟨#[109, 105, 100]⟩] ++ RtA) RtB va _ _ _ w14.heap.size rfl rfl (Sz.own (l := [⟨#[109, 105, 100]⟩] ++ RtA) Hoa.out) (X3.out.below Ha.out) LB.out (by rw [List.length_append, List.length_singleton]; have := LA.out; omega) (by have := LB.out; omega) Ha.out.size ?_))
    intro vb wb hob hgb
    have hb := Ow.grown Ha.out (Sz.own (l := [⟨#[109, 105, 100]⟩] ++ RtA) Hoa.out) hgb Ha.out.size
    obtain ⟨pf, cf, hvf, hAf⟩ := owns_at (mk := Wp.mkT) (Sz.own (l := [⟨#[109, 105, 100]⟩] ++ RtA ++ RtB) hob)
    subst hvf
    have HF := Lib.hid hAf
    have X1 := Lib.hid (X1.out.below hb)
    have BB := Lib.hid (BB.out.trans (hb.mono BB.out.size))
    clear hob hgb hb hAf Hoa Ha X2 X3
    have H6 := Lib.hid (show ∀ x ∈ RtU, x ∈ [(⟨#[109, 105, 100]⟩ : ByteArray)] ++ RtA ++ RtB from H6.out)
    have hFl : ([(⟨#[109, 105, 100]⟩ : ByteArray)] ++ RtA ++ RtB).length ≤ 600 := by rw [List.length_append, List.length_append, List.length_singleton]; have := LA.out; have := LB.out; omega
    generalize [(⟨#[109, 105, 100]⟩ : ByteArray)] ++ RtA ++ RtB = F at *
    obtain ⟨nf, hnf⟩ : ∃ n, n = F.length := ⟨_, rfl⟩
    have HNf := Lib.hid hnf
    rw [← hnf] at hFl ⊢
    clear hnf LA LB
    go_wp2_with fail
    go_loopw [32, 33, 35, 124] (fun _ _ _ t wq => ∃ k : Nat, k ≤ mU ∧ t = .int .i64 k ∧ wq = wb) (fun _ _ _ t _ => mU - (intOf t).toNat)
    case atStart => exact ⟨0, Nat.zero_le _, rfl, rfl⟩
    case round =>
      obtain ⟨k2, hk2, rfl, rfl⟩ := hrel
      by_cases hlt2 : k2 < mU
      · have hkl : k2 < RtU.length := by rw [← LU.out]; exact hlt2
        obtain ⟨qb, off, rfl, hcell⟩ := X1.out.get k2 hkl
        have hx1 := H6.out RtU[k2] (List.getElem_mem hkl)
        rw [show Wp.mkT RtU[k2] = .string RtU[k2] from rfl] at hcell
        generalize RtU[k2] = x at *
        have HX1 := Lib.hid hx1
        clear hx1
        go_wp2_with fail
        go_loopw [33, 35, 130] (fun v16 _ t wq => ∃ (j : Nat) (is : Bool), j ≤ nf ∧ t = .int .i64 j ∧ v16 = .bool is ∧ Hid (is = true ↔ x ∈ F.take j) ∧ wq = wr) (fun _ _ t _ => nf - (intOf t).toNat)
        case atStart => exact ⟨0, false, Nat.zero_le _, rfl, rfl, Lib.hid (by simp), rfl⟩
        case round =>
          obtain ⟨j, is, hj, rfl, rfl, HI, rfl⟩ := hrel
          by_cases hjl : j < nf
          · have hjf : j < F.length := by rw [← HNf.out]; exact hjl
            obtain ⟨fb, fo, rfl, hfc⟩ := HF.out.get j hjf
            rw [show Wp.mkT F[j] = .string F[j] from rfl] at hfc
            have hst : x ∈ F.take (j + 1) ↔ x ∈ F.take j ∨ F[j] = x := by rw [List.take_succ_eq_append_getElem hjf, List.mem_append, List.mem_singleton, eq_comm]
            generalize F[j] = y at *
            have HS := Lib.hid hst
            clear hst
            cases is with
            | true =>
              have HJ : Hid (true = true ↔ x ∈ F.take (j + 1)) := Lib.hid ⟨fun _ => HS.out.2 (Or.inl (HI.out.1 rfl)), fun _ => rfl⟩
              clear HI HS
              go_wp2_with fail
              exact ⟨⟨j + 1, true, by omega, by go_num, rfl, HJ, trivial⟩, by simp [intOf]; omega⟩
            | false =>
              by_cases hyx : y = x
              · have HJ : Hid (true = true ↔ x ∈ F.take (j + 1)) := Lib.hid ⟨fun _ => HS.out.2 (Or.inr hyx), fun _ => rfl⟩
                subst hyx
                clear HI HS
                go_wp2_with fail
                exact ⟨⟨j + 1, true, by omega, by go_num, rfl, HJ, trivial⟩, by simp [intOf]; omega⟩
              · have HJ : Hid (false = true ↔ x ∈ F.take (j + 1)) := Lib.hid ⟨fun h => Bool.noConfusion h, fun h => (HS.out.1 h).elim (fun h => (HI.out.2 h)) (fun h => absurd h hyx)⟩
                have hq1 : (y == x) = false := Tg.ba_ne hyx
                have hq2 : (y.toList == x.toList) = false := Tg.ba_nel hyx
                clear HI HS hyx
                go_wp2_with fail
                exact ⟨⟨j + 1, false, by omega, by go_num, rfl, HJ, trivial⟩, by simp [intOf]; omega⟩
          · obtain rfl : j = nf := by omega
            have hi := HI.out
            rw [HNf.out, List.take_length] at hi
            obtain rfl : is = true := hi.2 HX1.out
            clear hi HI HX1
            go_wp2_with fail
            exact ⟨⟨k2 + 1, by omega, by go_num, trivial⟩, by simp [intOf]; omega⟩
      · obtain rfl : k2 = mU := by omega
        obtain ⟨h1, h2, h3, h4, h5⟩ := HH.out
        have hw1 : IntKind.i64.wrap ((nU : Int) - (nA : Int)) = ((nB + 1 : Nat) : Int) := by rw [IntWalk.i64_in _ (by omega)]; omega
        have hw2 : IntKind.i64.wrap (((nB + 1 : Nat) : Int) - (nB : Int)) = 1 := by rw [IntWalk.i64_in _ (by omega)]; omega
        have hw3 : IntKind.i64.wrap ((pA : Int) + (pB : Int)) = (pU : Int) := by rw [IntWalk.i64_in _ (by omega)]; omega
        have hmx : ((1 : Int) < (dA : Int) ∧ (dA : Int) < (dB : Int) ∧ dU = dB) ∨ ((1 : Int) < (dA : Int) ∧ ¬ (dA : Int) < (dB : Int) ∧ dU = dA) ∨ (¬ (1 : Int) < (dA : Int) ∧ (1 : Int) < (dB : Int) ∧ dU = dB) ∨ (¬ (1 : Int) < (dA : Int) ∧ ¬ (1 : Int) < (dB : Int) ∧ dU = 1) := by omega
        have hnn : nU ≤ 256 ∧ nA ≤ 256 ∧ nB ≤ 256 := by omega
        have hpp : pU ≤ 1100000000000 ∧ pA ≤ 1100000000000 ∧ pB ≤ 1100000000000 := by omega
        have O1 := Lib.hid (OA.out wr _ e1 BB.out X1.out)
        have hz1 : (nU : Int) - (nA : Int) = (nB : Int) + 1 := by omega
        have hz3 : (pA : Int) + (pB : Int) = (pU : Int) := by omega
        clear h1 h2 h3 h4 h5 HH HF OA hz1 hz3 hnn hpp
        rcases hmx with ⟨q1, q2, rfl⟩ | ⟨q1, q2, rfl⟩ | ⟨q1, q2, rfl⟩ | ⟨q1, q2, rfl⟩
        all_goals
          go_wp2_with fail
          refine O1.out.mono ?_
          rintro e w15 ⟨rfl, hb⟩
          have BB := Lib.hid (BB.out.trans (hb.mono BB.out.size))
          have O2 := Lib.hid (OB.out w15 _ e1 BB.out (X1.out.below hb))
          clear hb O1 OB
          go_wp2_with fail
          refine O2.out.mono ?_
          rintro e w16 ⟨rfl, hb⟩
          have BB := Lib.hid (BB.out.trans (hb.mono BB.out.size))
          clear hb O2
          go_wp2_with fail
          go_ret
          exact ⟨rfl, BB.out⟩
end Go.Proofs.YteiccjakaabfnaaGreatDoor
