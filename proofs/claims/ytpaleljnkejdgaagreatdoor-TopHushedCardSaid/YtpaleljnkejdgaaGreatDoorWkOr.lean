/-
  The walks of week.Or and week.Make: the minutes that one of two weeks has, and the week of any ranges. Condition: a list is of a size that a machine holds.
-/
import Derived.Test.YtpaleljnkejdgaaGreatDoorWkConcat
import Derived.Test.YtpaleljnkejdgaaGreatDoorWkMeet
namespace Go.Proofs.YtpaleljnkejdgaaGreatDoor
open Go.RowKit Go.Lib Go.Shelf

/-- Ranges, sorted by where they begin. -/
def Wk.ins (x : Int × Int) : List (Int × Int) → List (Int × Int)
  | [] => [x]
  | y :: l => if x.1 ≤ y.1 then x :: y :: l else y :: Wk.ins x l
def Wk.srt : List (Int × Int) → List (Int × Int)
  | [] => []
  | x :: l => Wk.ins x (Wk.srt l)
theorem Wk.ins_perm (x : Int × Int) (l : List (Int × Int)) : (Wk.ins x l).Perm (x :: l) := by
  induction l with
  | nil => exact List.Perm.refl _
  | cons y l ih =>
    unfold Wk.ins
    split
    · exact List.Perm.refl _
    · exact (List.Perm.cons y ih).trans (List.Perm.swap x y l)
theorem Wk.srt_perm (l : List (Int × Int)) : (Wk.srt l).Perm l := by
  induction l with
  | nil => exact List.Perm.refl _
  | cons x l ih => exact (Wk.ins_perm x _).trans (List.Perm.cons x ih)
theorem Wk.ins_rise (x : Int × Int) (l : List (Int × Int)) (h : Wk.Rise l) : Wk.Rise (Wk.ins x l) := by
  induction l with
  | nil => exact List.pairwise_singleton _ _
  | cons y l ih =>
    obtain ⟨h1, h2⟩ := List.pairwise_cons.1 h
    unfold Wk.ins
    split
    · next hxy =>
      refine List.pairwise_cons.2 ⟨fun z hz => ?_, h⟩
      rcases List.mem_cons.1 hz with rfl | hz
      · exact hxy
      · have := h1 z hz; omega
    · next hxy =>
      refine List.pairwise_cons.2 ⟨fun z hz => ?_, ih h2⟩
      rcases List.mem_cons.1 ((Wk.ins_perm x l).mem_iff.1 hz) with rfl | hz
      · omega
      · exact h1 z hz
theorem Wk.srt_rise (l : List (Int × Int)) : Wk.Rise (Wk.srt l) := by
  induction l with
  | nil => exact List.Pairwise.nil
  | cons x l ih => exact Wk.ins_rise x _ ih
/-- What ranges are joined to. -/
def Wk.jnd (l : List (Int × Int)) : List (Int × Int) := Wk.join (Wk.srt l)
theorem Wk.jnd_joined {l : List (Int × Int)} (h : Wk.Fit l) : Wk.Joined l (Wk.jnd l) := Wk.joined_of h (Wk.srt_perm l) (Wk.srt_rise l)
theorem Wk.jnd_one {l l' : List (Int × Int)} (h : Wk.Fit l) (hp : l'.Perm l) (hr : Wk.Rise l') : Wk.join l' = Wk.jnd l := (Wk.joined_of h hp hr).one (Wk.jnd_joined h)
theorem wk_join_jnd (l : List (Int × Int)) (w : World) (base : Nat) (v : Value) (hO : Wk.Own w base v l) (hb : base ≤ w.heap.size) (hsz : l.length ≤ 10000) (hf : Wk.Fit l) :
    Calls Tryz.prog 36 #[v] w fun e w' => ∃ p c, e = .returned (.slice p (Wk.jnd l).length c) ∧ Wk.At w' p (Wk.jnd l) ∧ Below base w w' :=
  (wk_join l w base v hO hb hsz).mono fun e w' ⟨l', v', hp, hr, he, hO', hB⟩ => by
    rw [Wk.jnd_one hf hp hr] at hO'
    obtain ⟨p, c, rfl, hA⟩ := hO'.at
    exact ⟨p, c, he, hA, hB⟩
/-- What Or tells. -/
def Wk.orL (a b : List (Int × Int)) : List (Int × Int) := if Wk.Ok a ∧ Wk.Ok b then Wk.fitL (Wk.jnd (a ++ b)) else []
def Wk.orC (a b : List (Int × Int)) : Int := if Wk.Ok a ∧ Wk.Ok b then Wk.fitC (Wk.jnd (a ++ b)) else 2
set_option maxHeartbeats 2000000 in
set_option maxRecDepth 100000 in
theorem wk_Or (a b : List (Int × Int)) (p q : Option Addr) (c d : Nat) (w : World) (hA : Wk.At w p a) (hB : Wk.At w q b) (hn : a.length ≤ 140737488351232) (hm : b.length ≤ 140737488351232) :
    Calls Tryz.prog 17 #[.slice p a.length c, .slice q b.length d] w (Wk.WeekPost (Wk.orL a b) (Wk.orC a b) w) := by
  have HC := Lib.hid (wk_checkBoth a b p q c d w hA hB hn hm)
  unfold Wk.orL Wk.orC
  by_cases ho : Wk.Ok a ∧ Wk.Ok b
  · rw [show Wk.chkB a b = 0 from if_pos ho] at HC
    rw [if_pos ho, if_pos ho]
    have ha := ho.1.1
    have hb := ho.2.1
    have hfit : Wk.Fit (a ++ b) := (Wk.Ch.fit ho.1.2).append (Wk.Ch.fit ho.2.2)
    have hjl : (Wk.jnd (a ++ b)).length ≤ 100000 := by
      have := (Wk.jnd_joined hfit).2.2
      rw [List.length_append] at this
      omega
    have HK := Lib.hid (fun w1 (h : Below w.heap.size w w1) B (hX : w1.heap[B]? = some (.cells #[.slice p a.length c, .slice q b.length d] 26 (0, 0))) => wk_concat a b p q c d B w1 hX (hA.below h) (hB.below h) ha hb)
    have HJ := Lib.hid (fun w1 v base (hO : Wk.Own w1 base v (a ++ b)) (hbb : base ≤ w1.heap.size) => wk_join_jnd (a ++ b) w1 base v hO hbb (by rw [List.length_append]; omega) hfit)
    have HF := Lib.hid (fun p c w1 (h : Wk.At w1 p (Wk.jnd (a ++ b))) => wk_fit (Wk.jnd (a ++ b)) p c w1 h hjl)
    clear ho hfit hjl hA hB hn hm ha hb
    generalize Wk.jnd (a ++ b) = J at *
    obtain ⟨na, hna⟩ : ∃ na, na = a.length := ⟨_, rfl⟩
    obtain ⟨nb, hnb⟩ : ∃ nb, nb = b.length := ⟨_, rfl⟩
    rw [← hna, ← hnb] at HC HK
    rw [← hna, ← hnb]
    clear hna hnb
    go_enter Tryz.func17, Tryz.ntmps17
    go_wp2_with fail
    refine HC.out.mono ?_
    rintro e w1 ⟨rfl, hb⟩
    have B1 := Lib.hid hb
    have B2 := Lib.hid (hb.alloc hb.size (.cells #[.slice p na c, .slice q nb d] 26))
    have X2 := Lib.hid (wk_new w1 (.cells #[.slice p na c, .slice q nb d] 26))
    clear hb
    go_wp2_with fail
    refine (HK.out _ B2.out _ X2.out).mono ?_
    rintro e w3 ⟨v3, rfl, hO3, hB3⟩
    have O3 := Lib.hid (hO3.mono (show w.heap.size ≤ _ from B2.out.size))
    have B3 := Lib.hid (wk_then B2.out hB3 B2.out.size)
    clear hO3 hB3
    go_wp2_with fail
    refine (HJ.out _ _ _ O3.out B3.out.size).mono ?_
    rintro e w4 ⟨p4, c4, rfl, hA4, hB4⟩
    have A4 := Lib.hid hA4
    have B4 := Lib.hid (B3.out.trans hB4)
    clear hA4 hB4
    go_wp2_with fail
    refine (HF.out _ _ _ A4.out).mono ?_
    rintro e w5 ⟨⟨p5, c5, rfl, hA5⟩, rfl⟩
    have A5 := Lib.hid hA5
    clear hA5
    go_wp2_with fail
    go_ret2
    exact ⟨p5, c5, rfl, A5.out, B4.out⟩
  · rw [show Wk.chkB a b = 2 from if_neg ho] at HC
    rw [if_neg ho, if_neg ho]
    clear ho hA hB
    generalize a.length = n at *
    generalize b.length = m at *
    go_enter Tryz.func17, Tryz.ntmps17
    go_wp2_with fail
    refine HC.out.mono ?_
    rintro e w1 ⟨rfl, hb⟩
    go_wp2_with fail
    go_ret2
    exact ⟨none, 0, rfl, Wk.At.nil _ _, hb⟩
end Go.Proofs.YtpaleljnkejdgaaGreatDoor
