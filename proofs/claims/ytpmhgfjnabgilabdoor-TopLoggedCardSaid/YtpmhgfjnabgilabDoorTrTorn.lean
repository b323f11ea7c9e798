
/-
  Plain mathematics of the laws TrailTorn and TopLogged: what is read behind a crash of a device to which one record more was appended, synced or not. No condition but those that the theorems state.
-/
import Derived.Test.YtpmhgfjnabgilabDoorTrSt
import Derived.Test.YtpmhgfjnabgilabDoorTrBack
namespace Go.Proofs.YtpmhgfjnabgilabDoor.Tr
open Wp

/-- A device behind a crash. -/
def crashed (e : Dev) (keep : List Int) : Dev := ⟨tearAll e.bl e.ws keep, [], -1, false⟩
/-- What is read behind a crash: all records, or one more. -/
def Ends (c : Dev) (f k : Int) (had : List ByteArray) (r : ByteArray) (n : Int) (why : Int) : Prop :=
  rchk c f k = 0 ∧ ∀ m q, Recs (Tr.rgn c f k) m q → (m = had ∧ q = (allB had).length ∧ why ≠ 0) ∨ (m = had ++ [r] ∧ (allB had).length < q ∧ (why ≠ 0 ∨ (q : Int) = n))
theorem crashed_chk {e : Dev} (hg : Wp.Good e) (keep : List Int) (f k : Int) (h0 : 0 ≤ f) (h1 : f + k ≤ (e.bl.length : Int)) (h2 : 0 ≤ k) : rchk (crashed e keep) f k = 0 := by
  obtain ⟨_, h4, h5⟩ := (Dev.ok_iff e).1 hg.ok
  have hl := (tearAll_good keep h4 h5).1
  exact rchk_yes (hg.crash keep).ok rfl h0 (by show f + k ≤ ((tearAll e.bl e.ws keep).length : Int); rw [hl]; exact h1) h2
theorem crashed_rgn (e : Dev) (keep : List Int) (f k : Nat) : Tr.rgn (crashed e keep) f k = ((tearAll e.bl e.ws keep).drop f).take k := by
  unfold Tr.rgn crashed Dev.hasAll
  rw [Int.toNat_natCast, Int.toNat_natCast]
  rfl
/-- Nothing was written. -/
theorem Sy.ends_none {d : Dev} {N f k : Nat} {had : List ByteArray} (h : Sy d N f had) (hk : f + k = N) (r : ByteArray) (n why : Int) (hw : why ≠ 0) (keep : List Int) : Ends (crashed d keep) f k had r n why := by
  refine ⟨crashed_chk h.good keep f k (by omega) (by rw [h.len]; omega) (by omega), fun m q hr => ?_⟩
  have e1 : tearAll d.bl d.ws keep = d.bl := by rw [h.ws]; rfl
  have e2 := Sy.rgn_of (k := k) h.all (by simp) hk (by have := h.fit; omega)
  rw [crashed_rgn, e1, e2] at hr
  obtain ⟨m', k', rfl, rfl, h2⟩ := Recs.pre h.small hr
  obtain ⟨rfl, rfl⟩ := Recs.of_none (first_zeros _) h2
  exact Or.inl ⟨by simp, rfl, hw⟩
/-- Some of the record's blocks wait. -/
theorem Sy.ends_torn {d e : Dev} {N f k : Nat} {had : List ByteArray} (h : Sy d N f had) (hk : f + k = N) (r : ByteArray) (n why : Int) (hw : why ≠ 0) (keep : List Int) (hg : Wp.Good e) (hb : e.bl = d.bl) {j : Nat} (hj : j ≤ (cutB r.data.toList).length)
    (hl : (allB had).length + (cutB r.data.toList).length ≤ k) (hr : r.size ≤ 32768) (hws : e.ws = d.ws ++ wsOf ((f + (allB had).length : Nat) : Int) ((cutB r.data.toList).take j)) : Ends (crashed e keep) f k had r n why := by
  refine ⟨crashed_chk hg keep f k (by omega) (by rw [hb, h.len]; omega) (by omega), fun m q hrc => ?_⟩
  have e1 := h.crash hg hb hj (by omega) hws keep
  have hlj : (torn ((cutB r.data.toList).take j) keep).length = j := by rw [torn_length, List.length_take]; omega
  have e2 := Sy.rgn_of (k := k) e1 (by rw [List.length_append, hlj, List.length_replicate]; omega) hk (by omega)
  rw [crashed_rgn, e2] at hrc
  rcases torn_recs h.small hr hj hrc with ⟨a, b⟩ | ⟨_, a, b⟩
  · exact Or.inl ⟨a, b, hw⟩
  · exact Or.inr ⟨a, by have := cutB_pos r.data.toList; omega, Or.inl hw⟩
/-- The record was written, and synced. -/
theorem Sy.ends_synced {d e : Dev} {N f k : Nat} {had : List ByteArray} (h : Sy d N f had) (hk : f + k = N) (r : ByteArray) (n why : Int) (keep : List Int) (hg : Wp.Good e) (hws : e.ws = [])
    (hl : (allB had).length + (cutB r.data.toList).length ≤ k) (hr : r.size ≤ 32768) (hn : n = (((allB had).length + (cutB r.data.toList).length : Nat) : Int))
    (hb : e.bl = d.bl.take (f + (allB had).length) ++ cutB r.data.toList ++ d.bl.drop (f + (allB had).length + (cutB r.data.toList).length)) : Ends (crashed e keep) f k had r n why := by
  have hlen : e.bl.length = N := by rw [hb, List.length_append, List.length_append, List.length_take, List.length_drop, h.len]; omega
  refine ⟨crashed_chk hg keep f k (by omega) (by rw [hlen]; omega) (by omega), fun m q hrc => ?_⟩
  have e1 : tearAll e.bl e.ws keep = e.bl := by rw [hws]; rfl
  have hz : d.bl.take (f + (allB had).length) = List.replicate f zeros ++ allB had := by
    rw [h.all, ← List.append_assoc, List.take_left' (by simp)]
  have hd : d.bl.drop (f + (allB had).length + (cutB r.data.toList).length) = List.replicate (N - f - (allB had).length - (cutB r.data.toList).length) zeros := by
    rw [h.all, ← List.append_assoc, ← List.drop_drop, List.drop_left' (by simp), List.drop_replicate]
  have e3 : e.bl = List.replicate f zeros ++ (allB had ++ (cutB r.data.toList ++ List.replicate (N - f - (allB had).length - (cutB r.data.toList).length) zeros)) := by
    rw [hb, hz, hd]; simp
  have e2 := Sy.rgn_of (k := k) e3 (by rw [List.length_append, List.length_replicate]; omega) hk (by omega)
  rw [crashed_rgn, e1, e2, ← List.append_assoc, show allB had ++ cutB r.data.toList = allB (had ++ [r]) by rw [allB_append]; simp [allB]] at hrc
  obtain ⟨m', k', rfl, rfl, h2⟩ := Recs.pre (fun t ht => by
    rcases List.mem_append.1 ht with ht | ht
    · exact h.small t ht
    · rw [List.mem_singleton] at ht; rw [ht]; exact hr) hrc
  obtain ⟨rfl, rfl⟩ := Recs.of_none (first_zeros _) h2
  have hq : (allB (had ++ [r])).length = (allB had).length + (cutB r.data.toList).length := by rw [allB_append, List.length_append]; simp [allB]
  refine Or.inr ⟨by simp, ?_, Or.inr ?_⟩
  · have := cutB_pos r.data.toList; omega
  · rw [hn]; omega
/-- Appending, and no sync. -/
theorem Sy.ends_app {d : Dev} {N f k : Nat} {had : List ByteArray} (h : Sy d N f had) (hk : f + k = N) (r : ByteArray) (keep : List Int) (why : Int) (hw : why ≠ 0) :
    Wp.Good (app d f k ((allB had).length : Nat) r).1 ∧ Ends (crashed (app d f k ((allB had).length : Nat) r).1 keep) f k had r 0 why := by
  by_cases h0 : fitC d f k ((allB had).length : Nat) r = 0
  · obtain ⟨x1, x2, x3, x4, x5⟩ := fit_ok h0
    obtain ⟨j, j1, j2, j3, j4, j5⟩ := writes_spec (cutB r.data.toList) d ((f + (allB had).length : Nat) : Int) h.good h.dn (cutB_size _)
    have e : (app d f k ((allB had).length : Nat) r).1 = (writes d ((f + (allB had).length : Nat) : Int) (cutB r.data.toList)).1 := by
      unfold app
      rw [h0, if_neg (by simp), show (f : Int) + ((allB had).length : Nat) = ((f + (allB had).length : Nat) : Int) by omega]
      split <;> rfl
    rw [e]
    exact ⟨j2, h.ends_torn hk r 0 why hw keep j2 j3 j1 (by omega) x4 j4⟩
  · have e : (app d f k ((allB had).length : Nat) r).1 = d := by
      unfold app
      rw [if_pos h0]
      exact if_pos h.good.ok
    rw [e]
    exact ⟨h.good, h.ends_none hk r 0 why hw keep⟩
theorem Ends.mono_n {c : Dev} {f k : Int} {had : List ByteArray} {r : ByteArray} {n n' why : Int} (h : Ends c f k had r n why) (hw : why ≠ 0) : Ends c f k had r n' why :=
  ⟨h.1, fun m q hr => by
    rcases h.2 m q hr with a | ⟨a, b, _⟩
    · exact Or.inl a
    · exact Or.inr ⟨a, b, Or.inl hw⟩⟩
/-- Appending, and a sync. -/
theorem Sy.ends_sync {d : Dev} {N f k : Nat} {had : List ByteArray} (h : Sy d N f had) (hk : f + k = N) (r : ByteArray) (keep : List Int) (h0 : (app d f k ((allB had).length : Nat) r).2.2 = 0) :
    Wp.Good (app d f k ((allB had).length : Nat) r).1 ∧ Wp.Good (app d f k ((allB had).length : Nat) r).1.sync1.1 ∧
    Ends (crashed (app d f k ((allB had).length : Nat) r).1.sync1.1 keep) f k had r (app d f k ((allB had).length : Nat) r).2.1 (app d f k ((allB had).length : Nat) r).1.sync1.2 := by
  by_cases hf : fitC d f k ((allB had).length : Nat) r = 0
  · obtain ⟨x1, x2, x3, x4, x5⟩ := fit_ok hf
    obtain ⟨j, j1, j2, j3, j4, j5⟩ := writes_spec (cutB r.data.toList) d ((f + (allB had).length : Nat) : Int) h.good h.dn (cutB_size _)
    have hc : (f : Int) + ((allB had).length : Nat) = ((f + (allB had).length : Nat) : Int) := by omega
    have hw : (writes d ((f + (allB had).length : Nat) : Int) (cutB r.data.toList)).2 = 0 := by
      unfold app at h0
      rw [hf, if_neg (by simp), hc] at h0
      by_cases hw : (writes d ((f + (allB had).length : Nat) : Int) (cutB r.data.toList)).2 = 0
      · exact hw
      · rw [if_neg hw] at h0; exact h0
    have e : app d f k ((allB had).length : Nat) r = ((writes d ((f + (allB had).length : Nat) : Int) (cutB r.data.toList)).1, ((allB had).length : Int) + (cutB r.data.toList).length, 0) := by
      unfold app
      rw [hf, if_neg (by simp), hc, if_pos hw]
    obtain ⟨rfl, j6⟩ := j5 hw
    rw [e]
    simp only []
    obtain ⟨E, hE⟩ : ∃ E, E = (writes d ((f + (allB had).length : Nat) : Int) (cutB r.data.toList)).1 := ⟨_, rfl⟩
    rw [← hE] at j2 j3 j4 j6 ⊢
    refine ⟨j2, j2.sync1, ?_⟩
    have hall := writes_has j3 j4 j1 (by rw [h.len]; omega)
    rw [List.take_length] at hall
    have hdh : d.hasAll = d.bl := by unfold Dev.hasAll; rw [h.ws]; rfl
    rw [hdh] at hall
    rcases Wp.synced j6 with ⟨s1, s2, s3, _⟩ | s1
    · exact h.ends_synced hk r _ _ keep j2.sync1 s3 (by omega) x4 (by omega) (by rw [s2]; exact hall)
    · have hsp : E.sync1.1.bl = E.bl ∧ E.sync1.1.ws = E.ws := by
        unfold Dev.sync1
        rw [if_neg (by rw [j6]; simp)]
        unfold Dev.sync1 at s1
        rw [if_neg (by rw [j6]; simp)] at s1
        by_cases hz : E.spend.2 = 0
        · rw [if_pos hz] at s1; cases s1
        · rw [if_neg hz]; exact spend_lists E
      exact h.ends_torn hk r _ _ (by rw [s1]; decide) keep j2.sync1 (by rw [hsp.1]; exact j3) j1 (by omega) x4 (by rw [hsp.2]; exact j4)
  · exfalso
    unfold app at h0
    rw [if_pos hf] at h0
    exact hf h0
end Go.Proofs.YtpmhgfjnabgilabDoor.Tr
