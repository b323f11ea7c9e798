
/-
  The walks of esc's from and From. Conditions: a text of at most 2^24 bytes; the library's ErrSyntax is an error.
-/
import Derived.Test.YtlhmbmnjajbbaaaDoorEsFirstP
import Derived.Test.YtlhmbmnjajbbaaaDoorEsFromM
import Derived.Test.YtlhmbmnjajbbaaaDoorEsRefFrom
namespace Go.Proofs.YtlhmbmnjajbbaaaDoor
open Go.RowKit

theorem Es.und_len (m : Bool) : ∀ (n : Nat) (l : List UInt8), l.length ≤ n → (Es.und m l).length ≤ l.length
  | _, [], _ => Nat.le_refl _
  | 0, a :: l, h => by simp at h
  | n + 1, a :: l, h => by
    have h1 := Es.first_pos m (a :: l)
    rw [Es.und_step m (a :: l) (by simp), List.length_cons]
    have h2 := Es.und_len m n ((a :: l).drop (Es.first m (a :: l)).2) (by rw [List.length_drop]; omega)
    rw [List.length_drop] at h2
    simp only [List.length_cons] at h2 ⊢
    omega
theorem Es.plain_sms (b : UInt8) (h : Es.plainB b = true) : Es.smsB b = b := by
  unfold Es.plainB at h
  rw [Bool.and_eq_true, decide_eq_true_eq, decide_eq_true_eq] at h
  exact Es.smsB_oth b (by omega) (by omega)
theorem Es.sms_id : ∀ (l : List UInt8), l.all Es.plainB = true → Es.sms false l = l
  | [], _ => rfl
  | b :: l, h => by
    rw [List.all_cons, Bool.and_eq_true] at h
    rw [Es.sms_step, Es.plain_sms b h.1, h.1, if_pos rfl]
    show b :: Es.sms false l = _
    rw [Es.sms_id l h.2]
theorem Es.sms_all : ∀ (run : Bool) (l : List UInt8), (Es.sms run l).all Es.plainB = true
  | _, [] => rfl
  | run, b :: l => by
    rw [Es.sms_step, List.all_append, Es.sms_all _ l, Bool.and_true]
    cases hp : Es.plainB (Es.smsB b) with
    | true => rw [if_pos rfl, List.all_cons, hp]; rfl
    | false =>
      rw [if_neg Bool.false_ne_true]
      cases run <;> decide
/-- What From tells by the text and what that is for the channel. -/
def Es.fromT (t back l : List UInt8) : List UInt8 × Int := if back = l then (t, 0) else ([], 7)
theorem Es.fromC_1 (l : List UInt8) : Es.fromC 1 l = Es.fromT (Es.und false l) (Es.enc false (Es.und false l)) l := rfl
theorem Es.fromC_2 (l : List UInt8) : Es.fromC 2 l = Es.fromT (Es.und true l) (Es.enc true (Es.und true l)) l := rfl
theorem Es.fromC_3 (l : List UInt8) : Es.fromC 3 l = Es.fromT l (Es.sms false l) l := by
  show (if l.all Es.plainB then (l, (0 : Int)) else ([], 7)) = _
  unfold Es.fromT
  by_cases h : l.all Es.plainB = true
  · rw [if_pos h, if_pos (Es.sms_id l h)]
  · rw [if_neg h, if_neg (fun e => h (by rw [← e]; exact Es.sms_all false l))]
set_option maxRecDepth 100000 in
theorem esFrom0_any (c : Nat) (s : ByteArray) (w : World) (hs : s.size ≤ 16777216) (hS : Es.Syn w) (hc : c = 1 ∨ c = 2 ∨ c = 3) :
    Calls Tryd.prog 27 #[.int .u8 (c : Int), .string s] w fun e w' => e = .returned (.string (Wp.B (if c = 1 then Es.und false s.data.toList else if c = 2 then Es.und true s.data.toList else s.data.toList))) ∧ Below w.heap.size w w' := by
  have hl : s.data.toList.length ≤ 16777216 := by rw [← Wp.size_len]; omega
  have hB : Wp.B s.data.toList = s := Wp.B_of s
  rcases hc with rfl | rfl | rfl
  · have HC := Lib.hid (esUndonePush s.data.toList w hl (fun W r h1 h2 h3 => esFirstP_any r W h2 h3 (hS.below h1)))
    rw [hB] at HC
    rw [if_pos rfl]
    clear hB hl hS
    go_enter Tryd.func27, Tryd.ntmps27
    go_wp2_with fail
    refine HC.out.mono ?_
    rintro e w1 ⟨rfl, hb⟩
    go_wp2_with fail
    go_ret
    exact ⟨rfl, hb⟩
  · have HC := Lib.hid (esUndoneMail s.data.toList w hl (fun W r h1 h2 h3 => (esFirstM_any (Wp.B r) W (by rw [Wp.B_size]; cases r with
      | nil => exact absurd rfl h2
      | cons a l => simp)).mono (by
        rintro e w' ⟨rfl, rfl⟩
        exact ⟨rfl, Below.refl _ _⟩)))
    rw [hB] at HC
    rw [if_neg (by decide), if_pos rfl]
    clear hB hl hS
    go_enter Tryd.func27, Tryd.ntmps27
    go_wp2_with fail
    refine HC.out.mono ?_
    rintro e w1 ⟨rfl, hb⟩
    go_wp2_with fail
    go_ret
    exact ⟨rfl, hb⟩
  · have HC := Lib.hid (esClone_any s w (by omega))
    rw [if_neg (by decide), if_neg (by decide), hB]
    clear hB hl hS
    go_enter Tryd.func27, Tryd.ntmps27
    go_wp2_with fail
    refine HC.out.mono ?_
    rintro e w1 ⟨rfl, hb⟩
    go_wp2_with fail
    go_ret
    exact ⟨rfl, hb⟩
set_option maxRecDepth 100000 in
theorem esFromT_any (c : Nat) (t back : List UInt8) (s : ByteArray) (w : World)
    (hI : ∀ W, Calls Tryd.prog 26 #[.int .u8 (c : Int)] W fun e w' => e = .returned (.bool true) ∧ w' = W)
    (hF : Calls Tryd.prog 27 #[.int .u8 (c : Int), .string s] w fun e w' => e = .returned (.string (Wp.B t)) ∧ Below w.heap.size w w')
    (hT : ∀ W, Calls Tryd.prog 8 #[.int .u8 (c : Int), .string (Wp.B t)] W fun e w' => e = .returned (.tuple #[.string (Wp.B back), .int .i64 0]) ∧ Below W.heap.size W w') :
    Calls Tryd.prog 10 #[.int .u8 (c : Int), .string s] w fun e w' => e = .returned (.tuple #[.string (Wp.B (Es.fromT t back s.data.toList).1), .int .i64 (Es.fromT t back s.data.toList).2]) ∧ Below w.heap.size w w' := by
  have HI := Lib.hid hI
  have HF := Lib.hid hF
  have HT := Lib.hid hT
  clear hI hF hT
  by_cases he : back = s.data.toList
  · have hb : Wp.B back = s := by rw [he, Wp.B_of]
    rw [show Es.fromT t back s.data.toList = (t, 0) by unfold Es.fromT; rw [if_pos he]]
    rw [hb] at HT
    clear he hb
    generalize Wp.B t = x at *
    go_enter Tryd.func10, Tryd.ntmps10
    go_wp2_with fail
    refine (HI.out _).mono ?_
    rintro e w0 ⟨rfl, hw0⟩
    rw [hw0]
    clear hw0 w0
    go_wp2_with fail
    refine HF.out.mono ?_
    rintro e w1 ⟨rfl, hb1⟩
    have HB1 := Lib.hid hb1
    clear hb1
    go_wp2_with fail
    refine (HT.out _).mono ?_
    rintro e w2 ⟨rfl, hb2⟩
    have HB2 := Lib.hid (HB1.out.trans (hb2.mono HB1.out.size))
    clear hb2
    go_wp2_with fail
    go_ret2
    exact ⟨rfl, HB2.out⟩
  · have hb : ¬ Wp.B back = s := fun e => he (by rw [← Wp.B_data back, e])
    have q1 := Es.ba_ne hb
    have q2 := Es.ba_nel hb
    have q3 : (Wp.B back != s) = true := by unfold bne; rw [q1]; rfl
    have q4 : ((Wp.B back).toList != s.toList) = true := by unfold bne; rw [q2]; rfl
    rw [show Es.fromT t back s.data.toList = ([], 7) by unfold Es.fromT; rw [if_neg he]]
    clear he hb
    generalize Wp.B t = x at *
    generalize Wp.B back = y at *
    go_enter Tryd.func10, Tryd.ntmps10
    go_wp2_with fail
    refine (HI.out _).mono ?_
    rintro e w0 ⟨rfl, hw0⟩
    rw [hw0]
    clear hw0 w0
    go_wp2_with fail
    refine HF.out.mono ?_
    rintro e w1 ⟨rfl, hb1⟩
    have HB1 := Lib.hid hb1
    clear hb1
    go_wp2_with fail
    refine (HT.out _).mono ?_
    rintro e w2 ⟨rfl, hb2⟩
    have HB2 := Lib.hid (HB1.out.trans (hb2.mono HB1.out.size))
    clear hb2
    go_wp2_with fail
    go_ret2
    exact ⟨rfl, HB2.out⟩
set_option maxRecDepth 100000 in
theorem esFrom_any (c : Nat) (s : ByteArray) (w : World) (hs : s.size ≤ 16777216) (hS : Es.Syn w) :
    Calls Tryd.prog 10 #[.int .u8 (c : Int), .string s] w fun e w' => e = .returned (.tuple #[.string (Wp.B (Es.fromC c s.data.toList).1), .int .i64 (Es.fromC c s.data.toList).2]) ∧ Below w.heap.size w w' := by
  have hlen := Wp.size_len s
  by_cases h1 : c = 1
  · subst h1
    rw [Es.fromC_1]
    have hu := Es.und_len false _ s.data.toList (Nat.le_refl _)
    refine esFromT_any 1 _ _ s w (esIs_any 1) (esFrom0_any 1 s w hs hS (Or.inl rfl)) (fun W => ?_)
    have := esTo_any 1 (Wp.B (Es.und false s.data.toList)) W (by rw [Wp.B_size]; omega)
    rw [Wp.B_data] at this
    exact this
  by_cases h2 : c = 2
  · subst h2
    rw [Es.fromC_2]
    have hu := Es.und_len true _ s.data.toList (Nat.le_refl _)
    refine esFromT_any 2 _ _ s w (esIs_any 2) (esFrom0_any 2 s w hs hS (Or.inr (Or.inl rfl))) (fun W => ?_)
    have := esTo_any 2 (Wp.B (Es.und true s.data.toList)) W (by rw [Wp.B_size]; omega)
    rw [Wp.B_data] at this
    exact this
  by_cases h3 : c = 3
  · subst h3
    rw [Es.fromC_3]
    refine esFromT_any 3 _ _ s w (esIs_any 3) (esFrom0_any 3 s w hs hS (Or.inr (Or.inr rfl))) (fun W => ?_)
    have := esTo_any 3 (Wp.B s.data.toList) W (by rw [Wp.B_size]; omega)
    rw [Wp.B_data] at this
    exact this
  rw [show Es.fromC c s.data.toList = ([], 1) by unfold Es.fromC; rw [if_neg h1, if_neg h2, if_neg h3]]
  have HI := Lib.hid (fun W => esIs_any c W)
  rw [decide_eq_false h1, decide_eq_false h2, decide_eq_false h3] at HI
  clear hS
  go_enter Tryd.func10, Tryd.ntmps10
  go_wp2_with fail
  refine (HI.out _).mono ?_
  rintro e w0 ⟨rfl, rfl⟩
  go_wp2_with fail
  go_ret2
  exact ⟨rfl, Below.refl _ _⟩
set_option maxRecDepth 100000 in
theorem esRefFrom_any (c : Nat) (s : ByteArray) (w : World) (hs : s.size ≤ 16777216) :
    Calls Tryd.prog 11 #[.int .u8 (c : Int), .string s] w fun e w' => e = .returned (.tuple #[.string (Wp.B (Es.fromC c s.data.toList).1), .int .i64 (Es.fromC c s.data.toList).2]) ∧ Below w.heap.size w w' := by
  by_cases h1 : c = 1
  · subst h1; exact esRefFromPush s w hs
  by_cases h2 : c = 2
  · subst h2; exact esRefFromMail s w hs
  by_cases h3 : c = 3
  · subst h3; exact esRefFromSms s w hs
  rw [show Es.fromC c s.data.toList = ([], 1) by unfold Es.fromC; rw [if_neg h1, if_neg h2, if_neg h3]]
  have HI := Lib.hid (fun W => esRefIs_any c W)
  rw [decide_eq_false h1, decide_eq_false h2, decide_eq_false h3] at HI
  go_enter Tryd.func11, Tryd.ntmps11
  go_wp2_with fail
  refine (HI.out _).mono ?_
  rintro e w0 ⟨rfl, rfl⟩
  go_wp2_with fail
  go_ret2
  exact ⟨rfl, Below.refl _ _⟩
end Go.Proofs.YtlhmbmnjajbbaaaDoor
