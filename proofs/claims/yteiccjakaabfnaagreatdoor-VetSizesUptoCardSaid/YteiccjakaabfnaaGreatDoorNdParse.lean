
/-
  The nodes of tokens: how they are found, and when there are none. No condition.
-/
import Derived.Test.YteiccjakaabfnaaGreatDoorNdPlain
namespace Go.Proofs.YteiccjakaabfnaaGreatDoor.Nd
open Sc

def hd : List T → Nat
  | [] => 0
  | t :: _ => t.kind
/-- Nodes up to a token that belongs to none of them, and what is from that on. -/
def pR : Nat → List T → Option (List N × List T)
  | 0, _ => none
  | _ + 1, [] => some ([], [])
  | f + 1, t :: l =>
    if t.kind = 4 ∨ t.kind = 6 then some ([], t :: l)
    else if opens t.kind = true then
      match pR f l with
      | none => none
      | some (kids, r) =>
        match (if t.kind = 3 ∧ hd r = 4 then pR f r.tail else some ([], r)) with
        | none => none
        | some (els, r2) =>
          if hd r2 = 6 then
            match pR f r2.tail with
            | none => none
            | some (ns, r3) => some (.mk t.kind t.text t.path kids els :: ns, r3)
          else none
    else match pR f l with
      | none => none
      | some (ns, r) => some (.mk t.kind t.text t.path [] [] :: ns, r)
/-- What stands open, the last one first. -/
def stk : List Nat → List T → Bool
  | st, [] => st.isEmpty
  | st, t :: l =>
    if t.kind = 3 ∨ t.kind = 5 then stk (t.kind :: st) l
    else if t.kind = 4 then (match st with
      | [] => false
      | a :: s => if a = 3 then stk (4 :: s) l else false)
    else if t.kind = 6 then (match st with
      | [] => false
      | _ :: s => stk s l)
    else stk st l
/-- Levels and nodes, as they are gone through. -/
def bnd : Nat → Nat → List T → Bool
  | _, _, [] => true
  | lv, m, t :: l =>
    if t.kind = 4 then bnd lv m l
    else if t.kind = 6 then bnd (lv - 1) m l
    else if lv = 8 ∨ 256 < m + 1 then false
    else bnd (if opens t.kind then lv + 1 else lv) (m + 1) l
def ends (r : List T) : Prop := r = [] ∨ hd r = 4 ∨ hd r = 6
/-- Levels alone. -/
def lvL : Nat → List N → Bool
  | 0, l => l.isEmpty
  | d + 1, l => l.all fun n => lvL d n.kids && lvL d n.els
theorem opens_iff {k : Nat} : opens k = true ↔ k = 3 ∨ k = 5 := by unfold opens; simp
theorem tail_of {r : List T} {k : Nat} (h : hd r = k) (hk : k ≠ 0) : ∃ t, r = t :: r.tail ∧ t.kind = k := by
  cases r with
  | nil => exact absurd h.symm hk
  | cons t r => exact ⟨t, rfl, h⟩
theorem stk_cons (st : List Nat) (t : T) (l : List T) : stk st (t :: l) = if t.kind = 3 ∨ t.kind = 5 then stk (t.kind :: st) l
    else if t.kind = 4 then (match st with
      | [] => false
      | a :: s => if a = 3 then stk (4 :: s) l else false)
    else if t.kind = 6 then (match st with
      | [] => false
      | _ :: s => stk s l)
    else stk st l := by cases st <;> rw [stk]
/-- So many more have room. -/
def fit (m c : Nat) : Bool := decide (m + c ≤ 256) || decide (c = 0)
theorem fit_zero (m : Nat) : fit m 0 = true := by unfold fit; simp
theorem fit_long {m c : Nat} (h : 256 < m + 1) : fit m (c + 1) = false := by
  unfold fit
  rw [decide_eq_false (by omega), decide_eq_false (by omega)]
  rfl
theorem fit_three {m a b c : Nat} (h : ¬ 256 < m + 1) : (fit (m + 1) a && (fit (m + 1 + a) b && fit (m + 1 + a + b) c)) = fit m (a + b + 1 + c) := by
  unfold fit
  rw [Bool.eq_iff_iff]
  simp only [Bool.and_eq_true, Bool.or_eq_true, decide_eq_true_eq]
  omega
theorem fit_one {m c : Nat} (h : ¬ 256 < m + 1) : fit (m + 1) c = fit m (0 + 0 + 1 + c) := by
  unfold fit
  rw [Bool.eq_iff_iff]
  simp only [Bool.or_eq_true, decide_eq_true_eq]
  omega
theorem stk_else {e : T} (h : e.kind = 4) (st : List Nat) (l : List T) : stk (3 :: st) (e :: l) = stk (4 :: st) l := by
  rw [stk, h, if_neg (by omega), if_pos rfl]
  rfl
theorem stk_end {e : T} (h : e.kind = 6) (a : Nat) (st : List Nat) (l : List T) : stk (a :: st) (e :: l) = stk st l := by
  rw [stk, h, if_neg (by omega), if_neg (by omega), if_pos rfl]
theorem bnd_end {e : T} (h : e.kind = 6) (lv m : Nat) (l : List T) : bnd lv m (e :: l) = bnd (lv - 1) m l := by
  rw [bnd, h, if_neg (by omega), if_pos rfl]
theorem pR_some : ∀ (f : Nat) (l : List T) (ns : List N) (r : List T), pR f l = some (ns, r) → r.length ≤ l.length ∧ ends r ∧ (∀ st, stk st l = stk st r) ∧
    (∀ lv m, lv ≤ 8 → bnd lv m l = (lvL (8 - lv) ns && (fit m (cntL ns) && bnd lv (m + cntL ns) r)))
  | 0, _, _, _, h => by cases h
  | f + 1, [], ns, r, h => by
    cases h
    refine ⟨Nat.le_refl _, Or.inl rfl, fun _ => rfl, fun lv m _ => ?_⟩
    have : lvL (8 - lv) [] = true := by cases (8 - lv) <;> rfl
    rw [this, cntL_nil, fit_zero]
    rfl
  | f + 1, t :: l, ns, r, h => by
    rw [pR] at h
    by_cases h46 : t.kind = 4 ∨ t.kind = 6
    · rw [if_pos h46] at h
      cases h
      refine ⟨Nat.le_refl _, Or.inr h46, fun _ => rfl, fun lv m _ => ?_⟩
      have : lvL (8 - lv) [] = true := by cases (8 - lv) <;> rfl
      rw [this, cntL_nil, fit_zero]
      rfl
    · rw [if_neg h46] at h
      have n4 : t.kind ≠ 4 := fun e => h46 (Or.inl e)
      have n6 : t.kind ≠ 6 := fun e => h46 (Or.inr e)
      by_cases ho : opens t.kind = true
      · rw [if_pos ho] at h
        have h35 := opens_iff.1 ho
        rcases hk : pR f l with _ | ⟨kids, r1⟩
        · rw [hk] at h; cases h
        · rw [hk] at h
          simp only at h
          obtain ⟨a1, a2, a3, a4⟩ := pR_some f l kids r1 hk
          rcases he : (if t.kind = 3 ∧ hd r1 = 4 then pR f r1.tail else some ([], r1)) with _ | ⟨els, r2⟩
          · rw [he] at h; cases h
          · rw [he] at h
            simp only at h
            by_cases h6 : hd r2 = 6
            · rw [if_pos h6] at h
              rcases hn : pR f r2.tail with _ | ⟨ns', r3⟩
              · rw [hn] at h; cases h
              · rw [hn] at h
                cases h
                obtain ⟨c1, c2, c3, c4⟩ := pR_some f r2.tail ns' r hn
                obtain ⟨e, he2, hek⟩ := tail_of h6 (by decide)
                have hr2 : r2.length = r2.tail.length + 1 := by rw [he2]; simp
                -- what stands between
                have hmid : r2.length ≤ r1.length ∧ (∀ st, stk (t.kind :: st) r1 = stk st r2.tail) ∧ (∀ lv m, lv ≤ 8 → bnd lv m r1 = (lvL (8 - lv) els && (fit m (cntL els) && bnd (lv - 1) (m + cntL els) r2.tail))) := by
                  by_cases h34 : t.kind = 3 ∧ hd r1 = 4
                  · rw [if_pos h34] at he
                    obtain ⟨b1, b2, b3, b4⟩ := pR_some f r1.tail els r2 he
                    obtain ⟨x, hx, hxk⟩ := tail_of h34.2 (by decide)
                    have hr1 : r1.length = r1.tail.length + 1 := by rw [hx]; simp
                    refine ⟨by omega, fun st => ?_, fun lv m hlv => ?_⟩
                    · rw [h34.1]
                      exact (congrArg (stk (3 :: st)) hx).trans ((stk_else hxk _ _).trans ((b3 _).trans ((congrArg (stk (4 :: st)) he2).trans (stk_end hek _ _ _))))
                    · rw [hx, bnd, hxk, if_pos rfl, b4 lv m hlv]
                      rw [show bnd lv (m + cntL els) r2 = bnd (lv - 1) (m + cntL els) r2.tail from (congrArg (bnd lv _) he2).trans (bnd_end hek _ _ _)]
                  · rw [if_neg h34] at he
                    cases he
                    refine ⟨Nat.le_refl _, fun st => ?_, fun lv m hlv => ?_⟩
                    · exact (congrArg (stk (t.kind :: st)) he2).trans (stk_end hek _ _ _)
                    · have : lvL (8 - lv) [] = true := by cases (8 - lv) <;> rfl
                      rw [this, cntL_nil]
                      rw [fit_zero]
                      exact (congrArg (bnd lv m) he2).trans (bnd_end hek _ _ _)
                obtain ⟨m1, m2, m3⟩ := hmid
                refine ⟨by rw [List.length_cons]; omega, c2, fun st => ?_, fun lv m hlv => ?_⟩
                · rw [stk_cons, if_pos h35, a3, m2, c3]
                · rw [bnd, if_neg n4, if_neg n6, ho, cntL_cons, N.cnt_eq]
                  show _ = (lvL (8 - lv) (.mk t.kind t.text t.path kids els :: ns') && (fit m (cntL kids + cntL els + 1 + cntL ns') && bnd lv (m + (cntL kids + cntL els + 1 + cntL ns')) r))
                  by_cases hb : lv = 8 ∨ 256 < m + 1
                  · rw [if_pos hb]
                    rcases hb with hb | hb
                    · subst hb; rfl
                    · rw [show cntL kids + cntL els + 1 + cntL ns' = cntL kids + cntL els + cntL ns' + 1 by omega, fit_long hb, Bool.false_and, Bool.and_false]
                  · rw [if_neg hb, if_pos rfl, a4 (lv + 1) (m + 1) (by omega), m3 (lv + 1) (m + 1 + cntL kids) (by omega), Nat.add_sub_cancel, c4 lv _ hlv]
                    have e8 : 8 - lv = (8 - (lv + 1)) + 1 := by omega
                    have hcons : lvL (8 - lv) (.mk t.kind t.text t.path kids els :: ns') = ((lvL (8 - (lv + 1)) kids && lvL (8 - (lv + 1)) els) && lvL (8 - lv) ns') := by
                      rw [e8]; rfl
                    rw [hcons, ← fit_three (a := cntL kids) (b := cntL els) (c := cntL ns') (show ¬ 256 < m + 1 by omega)]
                    have en : m + 1 + cntL kids + cntL els + cntL ns' = m + (cntL kids + cntL els + 1 + cntL ns') := by omega
                    rw [en]
                    cases lvL (8 - (lv + 1)) kids <;> cases lvL (8 - (lv + 1)) els <;> cases lvL (8 - lv) ns' <;> cases fit (m + 1) (cntL kids) <;> cases fit (m + 1 + cntL kids) (cntL els) <;> simp
            · rw [if_neg h6] at h; cases h
      · rw [if_neg ho] at h
        have hc : opens t.kind = false := by simpa using ho
        have h35 : ¬ (t.kind = 3 ∨ t.kind = 5) := fun e => ho (opens_iff.2 e)
        rcases hn : pR f l with _ | ⟨ns', r3⟩
        · rw [hn] at h; cases h
        · rw [hn] at h
          cases h
          obtain ⟨c1, c2, c3, c4⟩ := pR_some f l ns' r hn
          refine ⟨by rw [List.length_cons]; omega, c2, fun st => ?_, fun lv m hlv => ?_⟩
          · rw [stk_cons, if_neg h35, if_neg n4, if_neg n6, c3]
          · rw [bnd, if_neg n4, if_neg n6, hc, cntL_cons, N.cnt_eq]
            show _ = (lvL (8 - lv) (.mk t.kind t.text t.path [] [] :: ns') && (fit m (cntL [] + cntL [] + 1 + cntL ns') && bnd lv (m + (cntL [] + cntL [] + 1 + cntL ns')) r))
            rw [cntL_nil]
            by_cases hb : lv = 8 ∨ 256 < m + 1
            · rw [if_pos hb]
              rcases hb with hb | hb
              · subst hb; rfl
              · rw [show 0 + 0 + 1 + cntL ns' = cntL ns' + 1 by omega, fit_long hb, Bool.false_and, Bool.and_false]
            · rw [if_neg hb, if_neg (by simp), c4 lv _ hlv]
              have e8 : 8 - lv = (8 - (lv + 1)) + 1 := by omega
              have hcons : lvL (8 - lv) (.mk t.kind t.text t.path [] [] :: ns') = lvL (8 - lv) ns' := by
                rw [e8]
                show ((lvL (8 - (lv + 1)) [] && lvL (8 - (lv + 1)) []) && lvL (8 - (lv + 1) + 1) ns') = _
                have : lvL (8 - (lv + 1)) [] = true := by cases (8 - (lv + 1)) <;> rfl
                rw [this]; rfl
              rw [hcons, ← fit_one (c := cntL ns') (show ¬ 256 < m + 1 by omega)]
              have en : m + 1 + cntL ns' = m + (0 + 0 + 1 + cntL ns') := by omega
              rw [en]
/-- Where there are no nodes a tag is astray. -/
theorem pR_none : ∀ (f : Nat) (l : List T), l.length < f → pR f l = none → ∀ st, stk st l = false
  | 0, _, h, _, _ => by omega
  | f + 1, [], _, h, _ => by cases h
  | f + 1, t :: l, hf, h, st => by
    rw [pR] at h
    rw [List.length_cons] at hf
    by_cases h46 : t.kind = 4 ∨ t.kind = 6
    · rw [if_pos h46] at h; cases h
    · rw [if_neg h46] at h
      have n4 : t.kind ≠ 4 := fun e => h46 (Or.inl e)
      have n6 : t.kind ≠ 6 := fun e => h46 (Or.inr e)
      by_cases ho : opens t.kind = true
      · rw [if_pos ho] at h
        have h35 := opens_iff.1 ho
        rw [stk_cons, if_pos h35]
        rcases hk : pR f l with _ | ⟨kids, r1⟩
        · exact pR_none f l (by omega) hk _
        · rw [hk] at h
          simp only at h
          obtain ⟨a1, a2, a3, _⟩ := pR_some f l kids r1 hk
          rw [a3]
          -- behind the kids
          by_cases h34 : t.kind = 3 ∧ hd r1 = 4
          · rw [if_pos h34] at h
            obtain ⟨x, hx, hxk⟩ := tail_of h34.2 (by decide)
            have hr1 : r1.length = r1.tail.length + 1 := by rw [hx]; simp
            rw [hx, stk, hxk, if_neg (by omega), if_pos rfl, h34.1]
            simp only [if_true]
            rcases he : pR f r1.tail with _ | ⟨els, r2⟩
            · exact pR_none f _ (by omega) he _
            · rw [he] at h
              simp only at h
              obtain ⟨b1, b2, b3, _⟩ := pR_some f _ els r2 he
              rw [b3]
              by_cases h6 : hd r2 = 6
              · rw [if_pos h6] at h
                obtain ⟨e, he2, hek⟩ := tail_of h6 (by decide)
                have hr2 : r2.length = r2.tail.length + 1 := by rw [he2]; simp
                rw [he2, stk, hek, if_neg (by omega), if_neg (by omega), if_pos rfl]
                refine pR_none f _ (by omega) ?_ _
                rcases hn : pR f r2.tail with _ | ⟨ns', r3⟩
                · rfl
                · rw [hn] at h; cases h
              · rcases b2 with b2 | b2 | b2
                · subst b2; rfl
                · obtain ⟨e, he2, hek⟩ := tail_of b2 (by decide)
                  rw [he2, stk, hek, if_neg (by omega), if_pos rfl]
                  rfl
                · exact absurd b2 h6
          · rw [if_neg h34] at h
            simp only at h
            by_cases h6 : hd r1 = 6
            · rw [if_pos h6] at h
              obtain ⟨e, he2, hek⟩ := tail_of h6 (by decide)
              have hr2 : r1.length = r1.tail.length + 1 := by rw [he2]; simp
              rw [he2, stk, hek, if_neg (by omega), if_neg (by omega), if_pos rfl]
              refine pR_none f _ (by omega) ?_ _
              rcases hn : pR f r1.tail with _ | ⟨ns', r3⟩
              · rfl
              · rw [hn] at h; cases h
            · rcases a2 with b2 | b2 | b2
              · subst b2; rfl
              · obtain ⟨e, he2, hek⟩ := tail_of b2 (by decide)
                have h5 : t.kind = 5 := h35.resolve_left (fun e => h34 ⟨e, b2⟩)
                rw [he2, stk, hek, if_neg (by omega), if_pos rfl, h5]
                rfl
              · exact absurd b2 h6
      · rw [if_neg ho] at h
        have h35 : ¬ (t.kind = 3 ∨ t.kind = 5) := fun e => ho (opens_iff.2 e)
        rw [stk_cons, if_neg h35, if_neg n4, if_neg n6]
        refine pR_none f l (by omega) ?_ _
        rcases hn : pR f l with _ | ⟨ns', r3⟩
        · rfl
        · rw [hn] at h; cases h
theorem stk_ends {r : List T} (h : ends r) : stk [] r = decide (r = []) := by
  rcases h with h | h | h
  · subst h; rfl
  · obtain ⟨e, he, hk⟩ := tail_of h (by decide)
    rw [he, stk, hk, if_neg (by omega), if_pos rfl]
    rfl
  · obtain ⟨e, he, hk⟩ := tail_of h (by decide)
    rw [he, stk, hk, if_neg (by omega), if_neg (by omega), if_pos rfl]
    rfl
/-- Tags pair just where there are nodes, and nothing is left. -/
theorem stk_pR (l : List T) : stk [] l = true ↔ ∃ ns, pR (l.length + 1) l = some (ns, []) := by
  rcases h : pR (l.length + 1) l with _ | ⟨ns, r⟩
  · rw [pR_none _ l (by omega) h]
    simp
  · obtain ⟨_, h2, h3, _⟩ := pR_some _ l ns r h
    rw [h3, stk_ends h2, decide_eq_true_eq]
    constructor
    · rintro rfl; exact ⟨ns, rfl⟩
    · rintro ⟨ns', e⟩; cases e; rfl
/-- Nodes of tokens that are right by themselves are as their kinds are. -/
theorem pR_leaf : ∀ (f : Nat) (l : List T) (ns : List N) (r : List T), (∀ t ∈ l, okT t = true) → pR f l = some (ns, r) → (∀ t ∈ r, okT t = true) ∧ ∀ d, lvL d ns = true → okL d ns = true
  | 0, _, _, _, _, h => by cases h
  | f + 1, [], ns, r, ht, h => by
    cases h
    exact ⟨ht, fun d _ => by cases d <;> rfl⟩
  | f + 1, t :: l, ns, r, ht, h => by
    rw [pR] at h
    have htl : ∀ x ∈ l, okT x = true := fun x hx => ht x (by simp [hx])
    have ht0 := ht t (by simp)
    by_cases h46 : t.kind = 4 ∨ t.kind = 6
    · rw [if_pos h46] at h
      cases h
      exact ⟨ht, fun d _ => by cases d <;> rfl⟩
    · rw [if_neg h46] at h
      have hkd : t.kind = 1 ∨ t.kind = 2 ∨ t.kind = 3 ∨ t.kind = 5 := by
        unfold okT at ht0
        split at ht0 <;> rename_i hk <;> first | omega | (cases ht0)
      have tl : ∀ {q : List T}, (∀ x ∈ q, okT x = true) → ∀ x ∈ q.tail, okT x = true := fun h x hx => h x (List.mem_of_mem_tail hx)
      by_cases ho : opens t.kind = true
      · rw [if_pos ho] at h
        have h35 := opens_iff.1 ho
        rcases hk : pR f l with _ | ⟨kids, r1⟩
        · rw [hk] at h; cases h
        · rw [hk] at h
          simp only at h
          obtain ⟨a1, a2⟩ := pR_leaf f l kids r1 htl hk
          rcases he : (if t.kind = 3 ∧ hd r1 = 4 then pR f r1.tail else some ([], r1)) with _ | ⟨els, r2⟩
          · rw [he] at h; cases h
          · rw [he] at h
            simp only at h
            by_cases h6 : hd r2 = 6
            · rw [if_pos h6] at h
              rcases hn : pR f r2.tail with _ | ⟨ns', r3⟩
              · rw [hn] at h; cases h
              · rw [hn] at h
                cases h
                have hmid : (∀ x ∈ r2, okT x = true) ∧ (∀ d, lvL d els = true → okL d els = true) ∧ (t.kind = 5 → els = []) := by
                  by_cases h34 : t.kind = 3 ∧ hd r1 = 4
                  · rw [if_pos h34] at he
                    obtain ⟨b1, b2⟩ := pR_leaf f r1.tail els r2 (tl a1) he
                    exact ⟨b1, b2, fun e => by omega⟩
                  · rw [if_neg h34] at he
                    cases he
                    exact ⟨a1, fun d _ => by cases d <;> rfl, fun _ => rfl⟩
                obtain ⟨m1, m2, m3⟩ := hmid
                obtain ⟨c1, c2⟩ := pR_leaf f r2.tail ns' r (tl m1) hn
                refine ⟨c1, fun d hd => ?_⟩
                cases d with
                | zero => cases hd
                | succ d =>
                  rw [lvL, List.all_cons, Bool.and_eq_true, Bool.and_eq_true] at hd
                  rw [okL, List.all_cons, Bool.and_eq_true, Bool.and_eq_true, Bool.and_eq_true]
                  refine ⟨⟨?_, a2 d hd.1.1, m2 d hd.1.2⟩, c2 (d + 1) hd.2⟩
                  show holds t.kind kids.length els.length = true
                  rcases h35 with e | e
                  · rw [e]; rfl
                  · rw [e, m3 e]; rfl
            · rw [if_neg h6] at h; cases h
      · rw [if_neg ho] at h
        rcases hn : pR f l with _ | ⟨ns', r3⟩
        · rw [hn] at h; cases h
        · rw [hn] at h
          cases h
          obtain ⟨c1, c2⟩ := pR_leaf f l ns' r htl hn
          refine ⟨c1, fun d hd => ?_⟩
          cases d with
          | zero => cases hd
          | succ d =>
            rw [lvL, List.all_cons, Bool.and_eq_true, Bool.and_eq_true] at hd
            rw [okL, List.all_cons, Bool.and_eq_true, Bool.and_eq_true, Bool.and_eq_true]
            refine ⟨⟨?_, by cases d <;> rfl, by cases d <;> rfl⟩, c2 (d + 1) hd.2⟩
            show holds t.kind 0 0 = true
            have : ¬ (t.kind = 3 ∨ t.kind = 5) := fun e => ho (opens_iff.2 e)
            rcases hkd with e | e | e | e
            · rw [e]; rfl
            · rw [e]; rfl
            · omega
            · omega
/-- Tokens without an else that nothing stands behind. -/
inductive Er : List T → List T → Prop
  | nil : Er [] []
  | keep (t : T) {l m : List T} : Er l m → Er (t :: l) (t :: m)
  | drop (t e : T) {l m : List T} : t.kind = 4 → e.kind = 6 → Er (e :: l) m → Er (t :: e :: l) m
theorem Er.app {a b c d : List T} (h : Er a b) (k : Er c d) : Er (a ++ c) (b ++ d) := by
  induction h with
  | nil => exact k
  | keep t _ ih => exact Er.keep t ih
  | drop t e h1 h2 _ ih => exact Er.drop t e h1 h2 ih
theorem Er.empty {l m : List T} (h : Er l m) (hm : m = []) : l = [] := by
  induction h with
  | nil => rfl
  | keep t _ _ => cases hm
  | drop t e _ _ _ ih => cases ih hm
theorem Er.mem {l m : List T} (h : Er l m) : ∀ t ∈ m, t ∈ l := by
  induction h with
  | nil => exact fun _ h => h
  | keep t _ ih =>
    intro x hx
    rcases List.mem_cons.1 hx with rfl | hx
    · simp
    · exact List.mem_cons_of_mem _ (ih x hx)
  | drop t e _ _ _ ih => exact fun x hx => List.mem_cons_of_mem _ (ih x hx)
theorem Er.srcs_le {l m : List T} (h : Er l m) : (srcs m).length ≤ (srcs l).length := by
  have key : ∀ (t : T) (l : List T), (srcs (t :: l)).length = (srcT t).length + (srcs l).length := fun t l => by
    unfold srcs
    rw [List.map_cons, List.flatten_cons, List.length_append]
  induction h with
  | nil => exact Nat.le_refl _
  | keep t _ ih => rw [key, key]; omega
  | drop t e _ _ _ ih => rw [key]; omega
theorem Er.chain {l m : List T} (h : Er l m) : (∀ a : T, chain (a :: l) = true → chain (a :: m) = true) ∧ (chain l = true → chain m = true) := by
  induction h with
  | nil => exact ⟨fun _ h => h, fun h => h⟩
  | keep t _ ih =>
    refine ⟨fun a h => ?_, fun h => ih.1 t h⟩
    rw [Sc.chain, Bool.and_eq_true] at h ⊢
    exact ⟨h.1, ih.1 t h.2⟩
  | drop t e h1 h2 _ ih =>
    refine ⟨fun a h => ih.1 a ?_, fun h => ih.2 ?_⟩
    · rw [Sc.chain, Bool.and_eq_true, Sc.chain, Bool.and_eq_true] at h
      rw [Sc.chain, Bool.and_eq_true]
      refine ⟨?_, h.2.2⟩
      have := h.1
      unfold behind at this ⊢
      rw [h1] at this
      rw [h2]
      exact this
    · rw [Sc.chain, Bool.and_eq_true] at h
      exact h.2
theorem Er.okTs {l m : List T} (h : Er l m) (ho : okTs l = true) : Sc.okTs m = true := by
  unfold Sc.okTs at ho ⊢
  rw [Bool.and_eq_true, List.all_eq_true] at ho ⊢
  exact ⟨fun t ht => ho.1 t (h.mem t ht), h.chain.2 ho.2⟩
theorem Er.words {l m : List T} (h : Er l m) (ho : ∀ t ∈ l, okT t = true) : wordsT m = wordsT l := by
  have key : ∀ (t : T) (l : List T), wordsT (t :: l) = wordsT [t] ++ wordsT l := fun t l => by
    unfold wordsT
    rw [← List.map_append, ← List.filter_append]
    rfl
  induction h with
  | nil => rfl
  | @keep t l m _ ih => rw [key t m, key t l, ih (fun t h => ho t (by simp [h]))]
  | @drop t e l m h1 h2 _ ih =>
    rw [key t (e :: l), ih (fun t h => ho t (List.mem_cons_of_mem _ h))]
    have h0 := ho t (by simp)
    unfold okT at h0
    rw [h1] at h0
    simp only [Bool.and_eq_true, decide_eq_true_eq] at h0
    have : wordsT [t] = [] := by
      unfold wordsT
      simp [List.length_eq_zero_iff.1 h0.2]
    rw [this]; rfl
theorem tok_end {t : T} (h : okT t = true) (hk : t.kind = 6) : t = tEnd := by
  unfold okT at h
  rw [hk] at h
  simp only [Bool.and_eq_true, decide_eq_true_eq] at h
  obtain ⟨k, x, p⟩ := t
  simp only at hk h
  rw [hk, ba_nil h.1, List.length_eq_zero_iff.1 h.2]
  rfl
theorem tok_else {t : T} (h : okT t = true) (hk : t.kind = 4) : t = tElse := by
  unfold okT at h
  rw [hk] at h
  simp only [Bool.and_eq_true, decide_eq_true_eq] at h
  obtain ⟨k, x, p⟩ := t
  simp only at hk h
  rw [hk, ba_nil h.1, List.length_eq_zero_iff.1 h.2]
  rfl
/-- What nodes were found of is their tokens, but for an else that nothing stands behind. -/
theorem pR_er : ∀ (f : Nat) (l : List T) (ns : List N) (r : List T), (∀ t ∈ l, okT t = true) → pR f l = some (ns, r) → ∃ pre, l = pre ++ r ∧ Er pre (toksL ns)
  | 0, _, _, _, _, h => by cases h
  | f + 1, [], ns, r, _, h => by
    cases h
    exact ⟨[], rfl, by rw [toksL_nil]; exact Er.nil⟩
  | f + 1, t :: l, ns, r, ht, h => by
    rw [pR] at h
    have htl : ∀ x ∈ l, okT x = true := fun x hx => ht x (by simp [hx])
    by_cases h46 : t.kind = 4 ∨ t.kind = 6
    · rw [if_pos h46] at h
      cases h
      exact ⟨[], rfl, by rw [toksL_nil]; exact Er.nil⟩
    · rw [if_neg h46] at h
      by_cases ho : opens t.kind = true
      · rw [if_pos ho] at h
        rcases hk : pR f l with _ | ⟨kids, r1⟩
        · rw [hk] at h; cases h
        · rw [hk] at h
          simp only at h
          obtain ⟨p1, q1, er1⟩ := pR_er f l kids r1 htl hk
          have ht1 : ∀ x ∈ r1, okT x = true := fun x hx => htl x (by rw [q1]; simp [hx])
          rcases he : (if t.kind = 3 ∧ hd r1 = 4 then pR f r1.tail else some ([], r1)) with _ | ⟨els, r2⟩
          · rw [he] at h; cases h
          · rw [he] at h
            simp only at h
            by_cases h6 : hd r2 = 6
            · rw [if_pos h6] at h
              rcases hn : pR f r2.tail with _ | ⟨ns', r3⟩
              · rw [hn] at h; cases h
              · rw [hn] at h
                cases h
                obtain ⟨e, he2, hek⟩ := tail_of h6 (by decide)
                have hmid : (∀ x ∈ r2, okT x = true) ∧ ∃ p2, r1 = p2 ++ r2 ∧ ∀ {c d : List T}, Er c d → Er (p2 ++ e :: c) (((if els.isEmpty then [] else tElse :: toksL els) ++ [e]) ++ d) := by
                  by_cases h34 : t.kind = 3 ∧ hd r1 = 4
                  · rw [if_pos h34] at he
                    obtain ⟨x, hx, hxk⟩ := tail_of h34.2 (by decide)
                    have hx4 := tok_else (ht1 x (by rw [hx]; simp)) hxk
                    obtain ⟨p2, q2, er2⟩ := pR_er f r1.tail els r2 (fun y hy => ht1 y (List.mem_of_mem_tail hy)) he
                    refine ⟨fun y hy => ht1 y (List.mem_of_mem_tail (by rw [q2]; simp [hy])), x :: p2, by rw [hx, q2]; simp, fun {c d} hcd => ?_⟩
                    cases hel : els with
                    | nil =>
                      subst hel
                      have := er2.empty toksL_nil
                      subst this
                      exact Er.drop x e hxk hek (Er.keep e hcd)
                    | cons a b =>
                      subst hel
                      rw [hx4]
                      simp only [List.isEmpty_cons, Bool.false_eq_true, if_false, List.cons_append, List.append_assoc, List.nil_append]
                      exact Er.keep _ (er2.app (Er.keep e hcd))
                  · rw [if_neg h34] at he
                    cases he
                    exact ⟨ht1, [], rfl, fun {c d} hcd => Er.keep e hcd⟩
                obtain ⟨ht2, p2, q2, hm⟩ := hmid
                have hx6 := tok_end (ht2 e (by rw [he2]; simp)) hek
                obtain ⟨p3, q3, er3⟩ := pR_er f r2.tail ns' r (fun y hy => ht2 y (List.mem_of_mem_tail hy)) hn
                refine ⟨t :: (p1 ++ (p2 ++ e :: p3)), ?_, ?_⟩
                · rw [q1, q2, he2, q3]
                  simp
                · rw [toksL_cons, N.toks_eq]
                  show Er _ ((⟨t.kind, t.text, t.path⟩ :: (if opens t.kind then toksL kids ++ ((if els.isEmpty then [] else tElse :: toksL els) ++ [tEnd]) else [])) ++ toksL ns')
                  rw [if_pos ho, List.cons_append, List.append_assoc]
                  refine Er.keep t (er1.app ?_)
                  have := hm er3
                  rw [hx6] at this ⊢
                  exact this
            · rw [if_neg h6] at h; cases h
      · rw [if_neg ho] at h
        rcases hn : pR f l with _ | ⟨ns', r3⟩
        · rw [hn] at h; cases h
        · rw [hn] at h
          cases h
          obtain ⟨p1, q1, er1⟩ := pR_er f l ns' r htl hn
          refine ⟨t :: p1, by rw [q1]; rfl, ?_⟩
          rw [toksL_cons, N.toks_eq]
          show Er _ ((⟨t.kind, t.text, t.path⟩ :: (if opens t.kind then _ else [])) ++ toksL ns')
          rw [if_neg ho]
          exact Er.keep t er1
theorem pR_end (f : Nat) (r : List T) (h : ends r) : pR (f + 1) r = some ([], r) := by
  rcases h with h | h | h
  · subst h; rfl
  · obtain ⟨e, he, hk⟩ := tail_of h (by decide)
    rw [he, pR, if_pos (Or.inl hk)]
  · obtain ⟨e, he, hk⟩ := tail_of h (by decide)
    rw [he, pR, if_pos (Or.inr hk)]
/-- Nodes' tokens are those nodes'. -/
theorem pR_back : ∀ (d : Nat) (l : List N) (r : List T) (f : Nat), okL d l = true → ends r → (toksL l ++ r).length < f → pR f (toksL l ++ r) = some (l, r)
  | 0, l, r, f, h, hr, hf => by
    rw [okL, List.isEmpty_iff] at h
    subst h
    obtain ⟨f, rfl⟩ : ∃ g, f = g + 1 := ⟨f - 1, by omega⟩
    rw [toksL_nil]
    exact pR_end f r hr
  | d + 1, l, r, f, h, hr, hf => by
    induction l generalizing f with
    | nil =>
      obtain ⟨f, rfl⟩ : ∃ g, f = g + 1 := ⟨f - 1, by omega⟩
      rw [toksL_nil]
      exact pR_end f r hr
    | cons x l ih =>
      obtain ⟨f, rfl⟩ : ∃ g, f = g + 1 := ⟨f - 1, by omega⟩
      rw [okL, List.all_cons, Bool.and_eq_true, Bool.and_eq_true, Bool.and_eq_true] at h
      obtain ⟨⟨h1, h2, h3⟩, h4⟩ := h
      have hk := holds_kind h1
      rw [toksL_cons, N.toks_eq, List.append_assoc, List.cons_append] at hf ⊢
      rw [List.length_cons] at hf
      rw [pR, if_neg (show ¬ (x.kind = 4 ∨ x.kind = 6) by omega)]
      have hx := x.eta
      by_cases ho : opens x.kind = true
      · rw [if_pos ho] at hf ⊢
        rw [if_pos ho]
        rw [List.append_assoc, List.append_assoc] at hf ⊢
        rw [List.length_append, List.length_append] at hf
        rw [List.singleton_append] at hf ⊢
        rw [List.length_cons] at hf
        have hmid : ends ((if x.els.isEmpty then [] else tElse :: toksL x.els) ++ tEnd :: (toksL l ++ r)) := by
          cases x.els with
          | nil => exact Or.inr (Or.inr rfl)
          | cons a b => exact Or.inr (Or.inl rfl)
        rw [pR_back d x.kids _ f h2 hmid (by rw [List.length_append, List.length_append, List.length_cons]; omega)]
        simp only
        cases hel : x.els with
        | nil =>
          rw [if_neg (show ¬ (x.kind = 3 ∧ hd ((if ([] : List N).isEmpty then [] else tElse :: toksL []) ++ tEnd :: (toksL l ++ r)) = 4) from fun e => by have := e.2; cases this)]
          simp only
          rw [if_pos (show hd ((if ([] : List N).isEmpty then [] else tElse :: toksL []) ++ tEnd :: (toksL l ++ r)) = 6 from rfl)]
          have := ih f (by rw [okL]; exact h4) (by omega)
          show (match pR f (toksL l ++ r) with | none => none | some (ns, r3) => _) = _
          rw [this]
          rw [hel] at hx
          exact congrArg (fun q => some (q :: l, r)) hx.symm
        | cons a b =>
          have h3k : x.kind = 3 := holds_els h1 (by rw [hel]; simp)
          rw [if_pos (show (x.kind = 3 ∧ hd ((if (a :: b : List N).isEmpty then [] else tElse :: toksL (a :: b)) ++ tEnd :: (toksL l ++ r)) = 4) from ⟨h3k, rfl⟩)]
          rw [hel] at h3 hf
          rw [if_neg (by simp), List.length_cons] at hf
          have := pR_back d (a :: b) (tEnd :: (toksL l ++ r)) f h3 (Or.inr (Or.inr rfl)) (by rw [List.length_append, List.length_cons]; omega)
          show (match pR f (toksL (a :: b) ++ tEnd :: (toksL l ++ r)) with | none => none | some (els, r2) => _) = _
          rw [this]
          simp only
          rw [if_pos (show hd (tEnd :: (toksL l ++ r)) = 6 from rfl)]
          have := ih f (by rw [okL]; exact h4) (by omega)
          show (match pR f (toksL l ++ r) with | none => none | some (ns, r3) => _) = _
          rw [this]
          rw [hel] at hx
          exact congrArg (fun q => some (q :: l, r)) hx.symm
      · rw [if_neg ho] at hf ⊢
        rw [if_neg ho]
        have hc : opens x.kind = false := by simpa using ho
        obtain ⟨e1, e2⟩ := holds_close h1 hc
        have := ih f (by rw [okL]; exact h4) (by simpa using hf)
        show (match pR f (toksL l ++ r) with | none => none | some (ns, r3) => _) = _
        rw [this]
        rw [List.length_eq_zero_iff.1 e1, List.length_eq_zero_iff.1 e2] at hx
        exact congrArg (fun q => some (q :: l, r)) hx.symm
theorem okL_lvL : ∀ (d : Nat) (l : List N), okL d l = true → lvL d l = true
  | 0, _, h => h
  | d + 1, l, h => by
    rw [okL, List.all_eq_true] at h
    rw [lvL, List.all_eq_true]
    intro x hx
    have := h x hx
    rw [Bool.and_eq_true, Bool.and_eq_true] at this
    rw [Bool.and_eq_true]
    exact ⟨okL_lvL d _ this.2.1, okL_lvL d _ this.2.2⟩
/-- The nodes of tokens, or why there are none. -/
def nodesR (l : List T) : List N × Int :=
  if okTs l then match pR (l.length + 1) l with
    | some (ns, []) => if (rgt 8 ns).2 then (ns, 0) else ([], 11)
    | _ => ([], 7)
  else ([], 2)
theorem nodesR_bad {l : List T} (h : okTs l = false) : nodesR l = ([], 2) := by unfold nodesR; rw [h]; rfl
theorem nodesR_astray {l : List T} (h : okTs l = true) (hs : stk [] l = false) : nodesR l = ([], 7) := by
  unfold nodesR
  rw [h, if_pos rfl]
  rcases hp : pR (l.length + 1) l with _ | ⟨ns, r⟩
  · rfl
  · cases r with
    | nil => have := (stk_pR l).2 ⟨ns, hp⟩; rw [hs] at this; cases this
    | cons a r => rfl
theorem all_of {l : List T} (h : okTs l = true) : ∀ t ∈ l, okT t = true := by
  unfold okTs at h
  rw [Bool.and_eq_true, List.all_eq_true] at h
  exact h.1
/-- The code's bounds are the document's. -/
theorem bnd_ok {l : List T} {ns : List N} (h : okTs l = true) (hp : pR (l.length + 1) l = some (ns, [])) : bnd 0 0 l = shapedP ns ∧ (rgt 8 ns).2 = shapedP ns ∧ Er l (toksL ns) := by
  obtain ⟨_, _, _, h4⟩ := pR_some _ l ns [] hp
  obtain ⟨_, h5⟩ := pR_leaf _ l ns [] (all_of h) hp
  obtain ⟨pre, q, er⟩ := pR_er _ l ns [] (all_of h) hp
  rw [List.append_nil] at q
  subst q
  have e1 : lvL 8 ns = okL 8 ns := by
    rw [Bool.eq_iff_iff]
    exact ⟨h5 8, okL_lvL 8 ns⟩
  have e2 : okLR 8 ns = okL 8 ns := by
    rw [Bool.eq_iff_iff]
    exact ⟨okLR_okL 8 ns, fun hk => okL_okLR 8 ns hk (fun t ht => all_of h t (er.mem t ht))⟩
  have e3 : fit 0 (cntL ns) = decide (cntL ns ≤ 256) := by
    unfold fit
    rw [Bool.eq_iff_iff]
    simp only [Bool.or_eq_true, decide_eq_true_eq]
    omega
  refine ⟨?_, ?_, er⟩
  · rw [h4 0 0 (by decide), Nat.sub_zero, e1, e3, bnd, Bool.and_true]
    rfl
  · rw [rgt_eq]
    unfold shapedP
    rw [e2]
    split
    · rename_i hh; exact hh.symm
    · rename_i hh; simpa using hh
/-- What is found of right tokens: nodes that are right, and come back. -/
theorem nodesR_ok {l : List T} {ns : List N} (h : nodesR l = (ns, 0)) : okTs l = true ∧ stk [] l = true ∧ good ns = true ∧ Er l (toksL ns) ∧ pR (l.length + 1) l = some (ns, []) := by
  unfold nodesR at h
  cases ho : okTs l with
  | false => rw [ho] at h; cases h
  | true =>
    rw [ho, if_pos rfl] at h
    rcases hp : pR (l.length + 1) l with _ | ⟨ms, r⟩
    · rw [hp] at h; cases h
    · rw [hp] at h
      cases r with
      | cons a r => cases h
      | nil =>
        obtain ⟨b1, b2, b3⟩ := bnd_ok ho hp
        simp only at h
        cases hr : (rgt 8 ms).2 with
        | false => rw [hr] at h; cases h
        | true =>
          rw [hr, if_pos rfl] at h
          cases h
          refine ⟨rfl, (stk_pR l).2 ⟨ns, hp⟩, ?_, b3, rfl⟩
          unfold good
          rw [← b2, hr, b3.okTs ho]
          rfl
/-- Right nodes' tokens are those nodes'. -/
theorem nodesR_back {l : List N} (h : good l = true) : nodesR (toksL l) = (l, 0) := by
  have h1 := h
  unfold good at h1
  rw [Bool.and_eq_true] at h1
  have h2 := h1.1
  unfold shapedP at h2
  rw [Bool.and_eq_true] at h2
  have hp : pR ((toksL l).length + 1) (toksL l) = some (l, []) := by
    have := pR_back 8 l [] ((toksL l).length + 1) h2.1 (Or.inl rfl) (by rw [List.append_nil]; omega)
    rwa [List.append_nil] at this
  obtain ⟨_, b2, _⟩ := bnd_ok h1.2 hp
  unfold nodesR
  rw [h1.2, if_pos rfl, hp]
  show (if (rgt 8 l).2 then (l, 0) else ([], 11)) = _
  rw [b2, h1.1]
  rfl
end Go.Proofs.YteiccjakaabfnaaGreatDoor.Nd
