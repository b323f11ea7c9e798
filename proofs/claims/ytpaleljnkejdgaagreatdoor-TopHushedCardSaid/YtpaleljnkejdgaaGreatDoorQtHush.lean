/-
  Plain mathematics of two weeks together: it is quiet just when it is with one of them, or with both; it is free no sooner. No condition but those that the theorems state.
-/
import Derived.Test.YtpaleljnkejdgaaGreatDoorQtAsk
import Derived.Test.YtpaleljnkejdgaaGreatDoorWkOr
import Derived.Test.YtpaleljnkejdgaaGreatDoorWkMeet
namespace Go.Proofs.YtpaleljnkejdgaaGreatDoor
open Go.RowKit Go.Lib Go.Shelf

theorem Qt.or_ok {a b : List (Int × Int)} (h : Wk.orC a b = 0) : Wk.Ok a ∧ Wk.Ok b ∧ Wk.Ok (Wk.orL a b) ∧ ∀ m, Wk.has (Wk.orL a b) m = (Wk.has a m || Wk.has b m) := by
  unfold Wk.orC at h
  by_cases hab : Wk.Ok a ∧ Wk.Ok b
  · rw [if_pos hab] at h
    obtain ⟨j1, j2, j3⟩ := Wk.jnd_joined ((Wk.Ch.fit hab.1.2).append (Wk.Ch.fit hab.2.2))
    have e : Wk.orL a b = Wk.jnd (a ++ b) ∧ (Wk.jnd (a ++ b)).length ≤ 64 := by
      unfold Wk.orL
      rw [if_pos hab]
      unfold Wk.fitC at h
      unfold Wk.fitL
      by_cases hl : (Wk.jnd (a ++ b)).length ≤ 64
      · exact ⟨if_pos hl, hl⟩
      · rw [if_neg hl] at h; cases h
    rw [e.1]
    exact ⟨hab.1, hab.2, ⟨e.2, j1⟩, fun m => by rw [j2, Wk.has_append]⟩
  · rw [if_neg hab] at h; cases h
theorem Qt.and_ok {a b : List (Int × Int)} (h : Wk.andC a b = 0) : Wk.Ok (Wk.andL a b) ∧ ∀ m, Wk.has (Wk.andL a b) m = (Wk.has a m && Wk.has b m) := by
  unfold Wk.andC at h
  by_cases hab : Wk.Ok a ∧ Wk.Ok b
  · rw [if_pos hab] at h
    have e : Wk.andL a b = Wk.both a b ∧ (Wk.both a b).length ≤ 64 := by
      unfold Wk.andL
      rw [if_pos hab]
      unfold Wk.fitC at h
      unfold Wk.fitL
      by_cases hl : (Wk.both a b).length ≤ 64
      · exact ⟨if_pos hl, hl⟩
      · rw [if_neg hl] at h; cases h
    rw [e.1]
    exact ⟨⟨e.2, Wk.both_ch hab.1.2 hab.2.2⟩, fun m => Wk.both_has a b m⟩
  · rw [if_neg hab] at h; cases h
theorem Qt.andL_len (a b : List (Int × Int)) : (Wk.andL a b).length ≤ 140737488351232 := by
  unfold Wk.andL Wk.fitL
  split
  · split
    · omega
    · simp
  · simp
theorem Qt.orL_len2 (a b : List (Int × Int)) : (Wk.orL a b).length ≤ 140737488351232 := by
  unfold Wk.orL Wk.fitL
  split
  · split
    · omega
    · simp
  · simp
theorem Qt.hush {z : Wp.Zn} {a b : List (Int × Int)} {t : Int} (h1 : Qt.chk2 z a t = 0) (h2 : Qt.chk2 z b t = 0) (h3 : Wk.orC a b = 0) (h4 : Wk.andC a b = 0) :
    Qt.chk2 z (Wk.orL a b) t = 0 ∧ Qt.chk2 z (Wk.andL a b) t = 0 ∧ Qt.inB z (Wk.orL a b) t = (Qt.inB z a t || Qt.inB z b t) ∧ Qt.inB z (Wk.andL a b) t = (Qt.inB z a t && Qt.inB z b t) := by
  obtain ⟨hz, _, ht⟩ := Qt.chk2_ok h1
  obtain ⟨_, _, o1, o2⟩ := Qt.or_ok h3
  obtain ⟨a1, a2⟩ := Qt.and_ok h4
  have k1 := Qt.chk2_mk hz o1 ht
  have k2 := Qt.chk2_mk hz a1 ht
  refine ⟨k1, k2, ?_, ?_⟩
  · unfold Qt.inB
    rw [if_pos h1, if_pos h2, if_pos k1]
    unfold Qt.at_
    rw [o2, Bool.and_or_distrib_left]
  · unfold Qt.inB
    rw [if_pos h1, if_pos h2, if_pos k2]
    unfold Qt.at_
    rw [a2]
    cases Wp.isT (Qt.loc z t) <;> simp
theorem Qt.hush_free {z : Wp.Zn} {a b : List (Int × Int)} {t f c g d : Int} (h1 : Qt.chk2 z a t = 0) (h3 : Wk.orC a b = 0) (hf : Qt.SrQ z a t false f c) (hg : Qt.SrQ z (Wk.orL a b) t false g d) (hd : d = 0) : c = 0 ∧ f ≤ g := by
  obtain ⟨ha, _, o1, o2⟩ := Qt.or_ok h3
  subst hd
  rcases hg with ⟨g1, _, g2⟩ | ⟨_, _, _, g2⟩ | ⟨_, gn, gs⟩
  · exact absurd g2.symm g1
  · cases g2
  · have up : ∀ u, Qt.at_ z (Wk.orL a b) u = false → Qt.at_ z a u = false := fun u h => by
      unfold Qt.at_ at h ⊢
      rw [o2] at h
      cases h5 : Wp.isT (Qt.loc z u) with
      | false => rfl
      | true =>
        rw [h5, Bool.true_and] at h
        rw [Bool.true_and]
        exact (Bool.or_eq_false_iff.1 h).1
    rcases gs with ⟨_, s1, s2, s3, _⟩ | ⟨s, _⟩
    · have s4 := up g s3
      rcases hf with ⟨f1, _, _⟩ | ⟨_, fn, _⟩ | ⟨_, _, fs⟩
      · exact absurd h1 f1
      · exfalso
        obtain ⟨n1, n2, n3, _⟩ := Wk.nx_spec (Wk.nextV_ch o1.2 false) gn (m := 0) (by omega) (by omega)
        rw [Wk.nextV_has o1 false ⟨by omega, by omega⟩, o2] at n3
        have n4 := Wk.nextV_has ha false (m := (0 + Wk.nx (Wk.nextV (Wk.orL a b) false) 0) % 10080) ⟨by omega, by omega⟩
        rw [fn, Wk.has_nil] at n4
        cases h6 : Wk.has a ((0 + Wk.nx (Wk.nextV (Wk.orL a b) false) 0) % 10080) with
        | false => rw [h6] at n4; cases n4
        | true => rw [h6] at n3; cases n3
      · rcases fs with ⟨c0, _, _, _, p5⟩ | ⟨_, _, p5⟩
        · refine ⟨c0, ?_⟩
          by_cases hlt : g < f
          · have := p5 g s1 hlt
            rw [s4] at this; cases this
          · omega
        · have := p5 g s1 s2
          rw [s4] at this; cases this
    · cases s
end Go.Proofs.YtpaleljnkejdgaaGreatDoor
