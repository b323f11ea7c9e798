
/-
  Plain mathematics of a device to which records were appended one behind the other: what is read of it, and what stands behind a crash. No condition but those that the theorems state.
-/
import Derived.Test.YtpmhgfjnabgilabDoorTrSmall
namespace Go.Proofs.YtpmhgfjnabgilabDoor.Tr
open Wp

/-- A device of so many blocks to which records were appended from a block on, and that has power without end. -/
structure St (d : Dev) (N f : Nat) (had : List ByteArray) : Prop where
  good : Wp.Good d
  dn : d.dn = false
  fu : d.fu = -1
  len : d.bl.length = N
  ws : d.ws.length = (allB had).length
  fit : f + (allB had).length ≤ N
  small : ∀ t ∈ had, t.size ≤ 32768
  all : d.hasAll = List.replicate f zeros ++ (allB had ++ List.replicate (N - f - (allB had).length) zeros)
theorem St.make (N f : Nat) (h : N ≤ 4096) (hf : f ≤ N) : St (Dev.make N) N f [] := by
  refine ⟨Wp.Good.make N h, rfl, rfl, by simp [Dev.make], rfl, by simp [allB]; exact hf, by simp, ?_⟩
  show List.replicate N zeros = _
  simp only [allB, List.map_nil, List.flatten_nil, List.nil_append, List.length_nil, Nat.sub_zero, List.replicate_append_replicate]
  congr 1
  omega
theorem St.rgn {d : Dev} {N f : Nat} {had : List ByteArray} (h : St d N f had) (k : Nat) (h1 : f + k ≤ N) (h2 : (allB had).length ≤ k) : Tr.rgn d f k = allB had ++ List.replicate (k - (allB had).length) zeros := by
  unfold Tr.rgn
  rw [Int.toNat_natCast, Int.toNat_natCast, h.all, List.drop_left' (by simp), List.take_append, List.take_of_length_le h2, List.take_replicate]
  congr 2
  omega
theorem St.rchk {d : Dev} {N f : Nat} {had : List ByteArray} (h : St d N f had) (k : Nat) (h1 : f + k ≤ N) : Tr.rchk d f k = 0 :=
  rchk_yes h.good.ok h.dn (by omega) (by rw [h.len]; omega) (by omega)
theorem St.recs {d : Dev} {N f : Nat} {had : List ByteArray} (h : St d N f had) (k : Nat) (h1 : f + k ≤ N) (h2 : (allB had).length ≤ k) : Recs (Tr.rgn d f k) had (allB had).length := by
  rw [h.rgn k h1 h2]
  exact Recs.mk2 h.small (first_zeros _)
theorem St.app {d : Dev} {N f : Nat} {had : List ByteArray} (h : St d N f had) (k : Nat) (r : ByteArray) (h1 : f + k ≤ N) (hN : N ≤ 4096) (hr : r.size ≤ 32768) (h2 : (allB had).length + (cutB r.data.toList).length ≤ k) :
    ∃ d', Tr.app d f k ((allB had).length : Nat) r = (d', (((allB had).length + (cutB r.data.toList).length : Nat) : Int), 0) ∧ St d' N f (had ++ [r]) := by
  have hfc : fitC d f k ((allB had).length : Nat) r = 0 := by
    unfold fitC
    rw [h.rchk k h1, if_neg (by simp), if_neg (by omega), if_neg (by omega), if_neg (by omega)]
  obtain ⟨e1, e2⟩ := writes_done (cutB r.data.toList) d (((f + (allB had).length : Nat)) : Int) h.good h.dn h.fu (cutB_size _) (by omega) (by rw [h.len]; omega) (by rw [h.ws]; have := h.fit; omega)
  obtain ⟨j, j1, j2, j3, j4, j5⟩ := writes_spec (cutB r.data.toList) d (((f + (allB had).length : Nat)) : Int) h.good h.dn (cutB_size _)
  obtain ⟨rfl, j6⟩ := j5 e1
  have hall := writes_has j3 j4 j1 (by rw [h.len]; omega)
  refine ⟨(writes d (((f + (allB had).length : Nat)) : Int) (cutB r.data.toList)).1, ?_, j2, j6, e2, by rw [j3]; exact h.len, ?_, ?_, ?_, ?_⟩
  · unfold Tr.app
    rw [hfc, if_neg (by simp), show (f : Int) + ((allB had).length : Nat) = ((f + (allB had).length : Nat) : Int) by omega, e1, if_pos rfl]
    simp
  · rw [j4, List.length_append, wsOf_length, List.take_length, h.ws, allB_append, List.length_append]
    simp [allB]
  · rw [allB_append, List.length_append]
    have : (allB [r]).length = (cutB r.data.toList).length := by simp [allB]
    omega
  · intro t ht
    rcases List.mem_append.1 ht with ht | ht
    · exact h.small t ht
    · rw [List.mem_singleton] at ht; rw [ht]; exact hr
  · have e3 : allB [r] = cutB r.data.toList := by simp [allB]
    rw [hall, List.take_length, allB_append, e3, h.all]
    have hz : (List.replicate f zeros ++ (allB had ++ List.replicate (N - f - (allB had).length) zeros)).take (f + (allB had).length) = List.replicate f zeros ++ allB had := by
      rw [← List.append_assoc, List.take_left' (by simp)]
    have hd : (List.replicate f zeros ++ (allB had ++ List.replicate (N - f - (allB had).length) zeros)).drop (f + (allB had).length + (cutB r.data.toList).length) = List.replicate (N - f - (allB had ++ cutB r.data.toList).length) zeros := by
      rw [← List.append_assoc, ← List.drop_drop, List.drop_left' (by simp), List.drop_replicate, List.length_append]
      congr 1
      omega
    rw [hz, hd]
    simp
/-- Appending what does not fit. -/
theorem St.full {d : Dev} {N f : Nat} {had : List ByteArray} (h : St d N f had) (k : Nat) (r : ByteArray) (h1 : f + k ≤ N) (hk : (allB had).length ≤ k) (hr : r.size ≤ 32768) (h2 : k < (allB had).length + (cutB r.data.toList).length) : Tr.app d f k ((allB had).length : Nat) r = (d, 0, 8) := by
  have hfc : fitC d f k ((allB had).length : Nat) r = 8 := by
    unfold fitC
    rw [h.rchk k h1, if_neg (by simp), if_neg (by omega), if_neg (by omega), if_pos (by omega)]
  unfold Tr.app
  rw [hfc, if_pos (by simp)]
  unfold asIs
  rw [if_pos h.good.ok]
theorem St.wipe {d : Dev} {N f : Nat} {had : List ByteArray} (h : St d N f had) (k : Nat) (h1 : f + k ≤ N) (hN : N ≤ 2048) : (Tr.wipe d f k).2 = 0 := by
  unfold Tr.wipe
  rw [h.rchk k h1, if_neg (by simp)]
  have hl := rgn_length (h.rchk k h1)
  rw [Int.toNat_natCast] at hl
  exact wipes_done _ d f h.good h.dn h.fu (by omega) (by rw [hl, h.len]; omega) (by rw [hl, h.ws]; have := h.fit; omega)
/-- Behind a wipe a region has no record, and its blocks are zero. -/
theorem wiped {d : Dev} {f k : Int} (hg : Wp.Good d) (h0 : (Tr.wipe d f k).2 = 0) : Wp.Good (Tr.wipe d f k).1 ∧ rchk (Tr.wipe d f k).1 f k = 0 ∧ Tr.rgn (Tr.wipe d f k).1 f k = List.replicate k.toNat zeros ∧ Tr.wipe (Tr.wipe d f k).1 f k = ((Tr.wipe d f k).1, 0) := by
  by_cases hc : rchk d f k = 0
  · have e : Tr.wipe d f k = wipes d f (Tr.rgn d f k) := by unfold Tr.wipe; rw [hc, if_neg (by simp)]
    obtain ⟨r1, r2, r3, r4, r5⟩ := rchk_ok hc
    obtain ⟨F, rfl⟩ := Int.eq_ofNat_of_zero_le r3
    obtain ⟨K, rfl⟩ := Int.eq_ofNat_of_zero_le r5
    have hl := rgn_length hc
    rw [Int.toNat_natCast] at hl
    rw [e] at h0 ⊢
    obtain ⟨g1, g2, g3, g4⟩ := wipes_spec (Tr.rgn d F K) d F hg r2 (by rw [hl]; omega) (by rw [hl]; unfold Tr.rgn; rw [Int.toNat_natCast, Int.toNat_natCast]) h0
    have hc2 : rchk (wipes d F (Tr.rgn d F K)).1 F K = 0 := rchk_yes g1.ok g2 (by omega) (by rw [g3]; omega) (by omega)
    have hr2 : Tr.rgn (wipes d F (Tr.rgn d F K)).1 F K = List.replicate K zeros := by
      have hlen : (d.hasAll.take F).length = F := by rw [List.length_take, hasAll_length]; omega
      show (List.drop (F : Int).toNat _).take (K : Int).toNat = _
      rw [Int.toNat_natCast, Int.toNat_natCast, g4, hl, List.append_assoc, List.drop_left' hlen, List.take_left' (by simp)]
    refine ⟨g1, hc2, by rw [hr2]; simp, ?_⟩
    unfold Tr.wipe
    rw [hc2, if_neg (by simp), hr2, wipes_zeros]
  · exfalso
    unfold Tr.wipe at h0
    rw [if_pos hc] at h0
    exact hc h0

/-- A device that was synced behind records that were appended. -/
structure Sy (d : Dev) (N f : Nat) (had : List ByteArray) : Prop where
  good : Wp.Good d
  dn : d.dn = false
  ws : d.ws = []
  len : d.bl.length = N
  fit : f + (allB had).length ≤ N
  small : ∀ t ∈ had, t.size ≤ 32768
  all : d.bl = List.replicate f zeros ++ (allB had ++ List.replicate (N - f - (allB had).length) zeros)
theorem St.sync {d : Dev} {N f : Nat} {had : List ByteArray} (h : St d N f had) : d.sync1.2 = 0 ∧ Sy d.sync1.1 N f had ∧ d.sync1.1.fu = -1 := by
  have hs : d.sync1 = ({ bl := d.hasAll, ws := [], fu := -1, dn := false }, 0) := by
    unfold Dev.sync1
    have hsp : d.spend = (d, 0) := by unfold Dev.spend; rw [if_neg (by rw [h.fu]; decide), if_pos h.fu]
    rw [if_neg (by rw [h.dn]; simp), hsp, if_pos rfl]
    obtain ⟨bl, ws, fu, dn⟩ := d
    have h1 := h.fu
    have h2 := h.dn
    simp only [] at h1 h2
    subst h1 h2
    rfl
  have hg := h.good.sync1
  rw [hs] at hg ⊢
  exact ⟨rfl, ⟨hg, rfl, rfl, by rw [hasAll_length]; exact h.len, h.fit, h.small, h.all⟩, rfl⟩
theorem Sy.fuse {d : Dev} {N f : Nat} {had : List ByteArray} (h : Sy d N f had) (n : Int) (h1 : -1 ≤ n) (h2 : n ≤ 9223372036854775807) : Sy { d with fu := n } N f had := by
  obtain ⟨⟨a, b, _⟩, q4, q5⟩ := (Dev.ok_iff d).1 h.good.ok
  exact ⟨⟨(Dev.ok_iff _).2 ⟨⟨a, b, h1⟩, q4, q5⟩, h2⟩, h.dn, h.ws, h.len, h.fit, h.small, h.all⟩
theorem Sy.rgn_of {bl : List ByteArray} {N f k : Nat} {had x : List ByteArray} (hb : bl = List.replicate f zeros ++ (allB had ++ x)) (hx : x.length = N - f - (allB had).length) (h1 : f + k = N) (h2 : (allB had).length ≤ k) : (bl.drop f).take k = allB had ++ x := by
  rw [hb, List.drop_left' (by simp), List.take_of_length_le (by rw [List.length_append]; omega)]
/-- What is there behind a crash, of a device to which a record was appended behind a sync. -/
theorem Sy.crash {d e : Dev} {N f : Nat} {had : List ByteArray} (h : Sy d N f had) (hg : Wp.Good e) (hb : e.bl = d.bl) {l : List ByteArray} {j : Nat} (hj : j ≤ l.length) (hl : f + (allB had).length + l.length ≤ N) (hw : e.ws = d.ws ++ wsOf ((f + (allB had).length : Nat) : Int) (l.take j)) (keep : List Int) :
    (tearAll e.bl e.ws keep) = List.replicate f zeros ++ (allB had ++ (torn (l.take j) keep ++ List.replicate (N - f - (allB had).length - j) zeros)) := by
  have _ := hg
  have hlj : (l.take j).length = j := by rw [List.length_take]; omega
  have hnth : ∀ i, i < (l.take j).length → nth e.bl (f + (allB had).length + i) = zeros := by
    intro i hi
    have hlt : f + (allB had).length + i < e.bl.length := by rw [hb, h.len]; omega
    rw [nth_get _ _ hlt]
    have e1 : e.bl[f + (allB had).length + i] = (List.replicate f zeros ++ (allB had ++ List.replicate (N - f - (allB had).length) zeros))[f + (allB had).length + i]'(by rw [← h.all, ← hb]; exact hlt) := by
      congr 1
      rw [hb]; exact h.all
    rw [e1, List.getElem_append_right (by simp; omega), List.getElem_append_right (by simp; omega), List.getElem_replicate]
  rw [hw, h.ws, List.nil_append, tearAll_wsOf _ _ _ _ (by rw [hb, h.len, hlj]; omega) hnth, hlj, hb, h.all]
  have hz : (List.replicate f zeros ++ (allB had ++ List.replicate (N - f - (allB had).length) zeros)).take (f + (allB had).length) = List.replicate f zeros ++ allB had := by
    rw [← List.append_assoc, List.take_left' (by simp)]
  have hd : (List.replicate f zeros ++ (allB had ++ List.replicate (N - f - (allB had).length) zeros)).drop (f + (allB had).length + j) = List.replicate (N - f - (allB had).length - j) zeros := by
    rw [← List.append_assoc, ← List.drop_drop, List.drop_left' (by simp), List.drop_replicate]
  rw [hz, hd]
  simp
end Go.Proofs.YtpmhgfjnabgilabDoor.Tr
