
/-
  Tokens as plain data: a word's names, a tag's words, a text's tokens, and the text of tokens. No condition but those that the theorems state.
-/
import Derived.Test.YteiccjakaabfnaaGreatDoorZ47
import Derived.Lib.FieldsP
import Derived.Lib.SplitLaws
import Derived.Lib.CutLaws
namespace Go.Proofs.YteiccjakaabfnaaGreatDoor

/-- A token: its kind, its text, its path's names. -/
structure Sc.T where
  kind : Nat
  text : ByteArray
  path : List ByteArray
namespace Sc
open Go.Lib

def wIf : List UInt8 := [105, 102]
def wElse : List UInt8 := [101, 108, 115, 101]
def wEach : List UInt8 := [101, 97, 99, 104]
def wEnd : List UInt8 := [101, 110, 100]
/-- The kind of a tag that begins with a word. -/
def kindW (w : List UInt8) : Nat := if w = wIf then 3 else if w = wElse then 4 else if w = wEach then 5 else if w = wEnd then 6 else 2
/-- A text's pieces between single bytes. -/
def splitP (c : UInt8) : List UInt8 → List (List UInt8)
  | [] => [[]]
  | a :: t => if a = c then [] :: splitP c t else match splitP c t with
    | [] => [[a]]
    | h :: r => (a :: h) :: r
theorem splitP_ne (c : UInt8) : ∀ l, splitP c l ≠ []
  | [] => by simp [splitP]
  | a :: t => by
    rw [splitP]
    split
    · simp
    · split <;> simp
def pathOk (ps : List (List UInt8)) : Bool := decide (1 ≤ ps.length) && decide (ps.length ≤ 4) && ps.all Vl.nameL && (decide (1 < ps.length) || decide (kindW (ps.headD []) = 2))
/-- The names of a path's word. -/
def pathP (w : List UInt8) : Option (List ByteArray) := if pathOk (splitP 46 w) then some ((splitP 46 w).map Wp.B) else none
/-- The words between spaces, from a word on that has begun. -/
def wordsGo : List UInt8 → List UInt8 → List (List UInt8)
  | cur, [] => if cur = [] then [] else [cur]
  | cur, a :: t => if a = 32 then (if cur = [] then wordsGo [] t else cur :: wordsGo [] t) else wordsGo (cur ++ [a]) t
def wordsP (l : List UInt8) : List (List UInt8) := wordsGo [] l
/-- The token of what stands within a tag. -/
def tagW : List (List UInt8) → Option T
  | [w] => if w = wElse then some ⟨4, ⟨#[]⟩, []⟩ else if w = wEnd then some ⟨6, ⟨#[]⟩, []⟩ else (pathP w).map fun p => ⟨2, ⟨#[]⟩, p⟩
  | [k, w] => if k = wIf then (pathP w).map fun p => ⟨3, ⟨#[]⟩, p⟩ else if k = wEach then (pathP w).map fun p => ⟨5, ⟨#[]⟩, p⟩ else none
  | _ => none
def tagP (l : List UInt8) : Option T := tagW (wordsP l)
def oo : List UInt8 := [123, 123]
def cc : List UInt8 := [125, 125]
/-- A text's own token, if it is not empty. -/
def pre (l : List UInt8) : List T := if l = [] then [] else [⟨1, Wp.B l, []⟩]
/-- A text's tokens. -/
def toksP : Nat → List UInt8 → Option (List T)
  | 0, _ => none
  | f + 1, l =>
    if (cut l oo).2.2 = true then
      (if (cut (cut l oo).2.1 cc).2.2 = true then
        match tagP (cut (cut l oo).2.1 cc).1 with
        | some t => (toksP f (cut (cut l oo).2.1 cc).2.1).map fun r => pre (cut l oo).1 ++ t :: r
        | none => none
      else none)
    else some (pre (cut l oo).1)
def toksR (l : List UInt8) : List T × Int := if 1024 < l.length then ([], 12) else match toksP (l.length + 1) l with
  | some r => (r, 0)
  | none => ([], 7)
/-- A token, wherever it stands. -/
def okT (t : T) : Bool :=
  match t.kind with
  | 1 => decide (t.text.size ≠ 0) && !contains t.text.data.toList oo && decide (t.path.length = 0)
  | 2 | 3 | 5 => decide (t.text.size = 0) && pathOk (t.path.map (·.data.toList))
  | 4 | 6 => decide (t.text.size = 0) && decide (t.path.length = 0)
  | _ => false
/-- May t stand behind a? -/
def behind (a t : T) : Bool := decide (a.kind ≠ 1) || (decide (t.kind ≠ 1) && !hasSuffix a.text.data.toList [123])
def chain : List T → Bool
  | a :: t :: r => behind a t && chain (t :: r)
  | _ => true
def okTs (l : List T) : Bool := l.all okT && chain l
def chkTs (l : List T) : Int := if okTs l then 0 else 2
/-- A path's word. -/
def joinP : List ByteArray → List UInt8
  | [] => []
  | [a] => a.data.toList
  | a :: b :: r => a.data.toList ++ 46 :: joinP (b :: r)
def wordT (t : T) : List UInt8 := if t.kind = 3 then wIf ++ 32 :: joinP t.path else if t.kind = 5 then wEach ++ 32 :: joinP t.path else if t.kind = 4 then wElse else if t.kind = 6 then wEnd else joinP t.path
def srcT (t : T) : List UInt8 := if t.kind = 1 then t.text.data.toList else oo ++ (wordT t ++ cc)
def srcs (l : List T) : List UInt8 := (l.map srcT).flatten
def writeR (l : List T) : List UInt8 × Int := if okTs l then (if 1024 < (srcs l).length then ([], 12) else (srcs l, 0)) else ([], 2)

/-! ### pieces -/
theorem index_one_cons (a c : UInt8) (t : List UInt8) : index (a :: t) [c] = if a = c then 0 else if index t [c] = -1 then -1 else index t [c] + 1 := by
  by_cases h : a = c
  · subst h
    simp [index]
  · have h2 : ([c].isPrefixOf (a :: t)) = false := by simp [List.isPrefixOf]; exact fun e => h e.symm
    rw [index, h2, if_neg h]
    simp
theorem splitP_index (c : UInt8) : ∀ l, splitP c l = if index l [c] = -1 then [l] else l.take (index l [c]).toNat :: splitP c (l.drop ((index l [c]).toNat + 1))
  | [] => by simp [splitP, index]
  | a :: t => by
    have ih := splitP_index c t
    have hge := index_ge t [c]
    rw [splitP, index_one_cons]
    by_cases h : a = c
    · rw [if_pos h, if_pos h]
      simp
    · rw [if_neg h, if_neg h]
      by_cases hm : index t [c] = -1
      · rw [if_pos hm] at ih
        rw [if_pos hm, ih]
        simp
      · rw [if_neg hm] at ih
        have e : (index t [c] + 1).toNat = (index t [c]).toNat + 1 := by omega
        rw [if_neg hm, if_neg (by omega), ih, e]
        simp
theorem splitK_eq (c : UInt8) : ∀ (k : Nat) (l : List UInt8), (splitP c l).length ≤ k + 1 → splitK [c] 0 k l = splitP c l
  | 0, l, h => by
    rw [splitP_index] at h ⊢
    by_cases hm : index l [c] = -1
    · rw [if_pos hm]; rfl
    · rw [if_neg hm] at h
      have := List.length_pos_iff.2 (splitP_ne c (l.drop ((index l [c]).toNat + 1)))
      rw [List.length_cons] at h
      omega
  | k + 1, l, h => by
    rw [splitP_index] at h ⊢
    rw [splitK]
    by_cases hm : index l [c] = -1
    · rw [if_pos hm, if_pos (by simp [hm])]
    · rw [if_neg hm] at h ⊢
      rw [if_neg (by simp [hm])]
      simp only [List.length_cons, List.length_nil, Nat.add_zero, Nat.zero_add] at h ⊢
      rw [splitK_eq c k _ (by omega)]
theorem splitK_long (c : UInt8) : ∀ (k : Nat) (l : List UInt8), k + 1 < (splitP c l).length → (splitK [c] 0 k l).length = k + 1
  | 0, _, _ => rfl
  | k + 1, l, h => by
    rw [splitP_index] at h
    rw [splitK]
    by_cases hm : index l [c] = -1
    · rw [if_pos hm] at h; simp at h
    · rw [if_neg hm] at h
      rw [if_neg (by simp [hm])]
      simp only [List.length_cons, List.length_nil, Nat.zero_add] at h ⊢
      rw [splitK_long c k _ (by omega)]
theorem splitP_len (c : UInt8) : ∀ l : List UInt8, (splitP c l).length ≤ l.length + 1
  | [] => by simp [splitP]
  | a :: t => by
    have ih := splitP_len c t
    rw [splitP]
    split
    · simp; exact ih
    · split
      · simp
      · rename_i h r he
        rw [he] at ih
        simp at ih ⊢
        omega
/-- What the library's SplitN makes of a word, as far as a path goes. -/
theorem splitN_path (w : List UInt8) (hk : Nat) (h : hk = min 5 (w.length + 1) - 1) : pathOk (splitK [46] 0 hk w) = pathOk (splitP 46 w) ∧ (pathOk (splitP 46 w) = true → splitK [46] 0 hk w = splitP 46 w) := by
  by_cases hl : (splitP 46 w).length ≤ hk + 1
  · rw [splitK_eq 46 hk w hl]
    exact ⟨rfl, fun _ => rfl⟩
  · have h1 := splitK_long 46 hk w (by omega)
    have h2 := splitP_len 46 w
    have h5 : hk = 4 := by omega
    have e1 : pathOk (splitP 46 w) = false := by
      unfold pathOk
      rw [decide_eq_false (show ¬ (splitP 46 w).length ≤ 4 by omega)]
      simp
    have e2 : pathOk (splitK [46] 0 hk w) = false := by
      unfold pathOk
      rw [decide_eq_false (show ¬ (splitK [46] 0 hk w).length ≤ 4 by omega)]
      simp
    exact ⟨e2.trans e1.symm, fun h => by rw [e1] at h; cases h⟩
/-- One byte more. -/
def addP (c : UInt8) (out : List (List UInt8)) (a : UInt8) : List (List UInt8) := if a = c then out ++ [[]] else out.dropLast ++ [out.getLastD [] ++ [a]]
theorem splitP_snoc (c : UInt8) (a : UInt8) : ∀ l, splitP c (l ++ [a]) = addP c (splitP c l) a
  | [] => by
    unfold addP
    simp only [List.nil_append, splitP]
    split <;> simp
  | b :: t => by
    have ih := splitP_snoc c a t
    have hne := splitP_ne c t
    rw [List.cons_append, splitP, splitP, ih]
    by_cases hb : b = c
    · rw [if_pos hb, if_pos hb]
      unfold addP
      by_cases ha : a = c
      · rw [if_pos ha, if_pos ha]; simp
      · rw [if_neg ha, if_neg ha]
        cases hs : splitP c t with
        | nil => exact absurd hs hne
        | cons h r => simp [List.getLastD]
    · rw [if_neg hb, if_neg hb]
      cases hs : splitP c t with
      | nil => exact absurd hs hne
      | cons h r =>
        unfold addP
        by_cases ha : a = c
        · rw [if_pos ha, if_pos ha]; simp
        · rw [if_neg ha, if_neg ha]
          cases r with
          | nil => simp
          | cons h2 r2 => simp [List.getLastD]

/-! ### words -/
theorem wordsGo_run (cur : List UInt8) : ∀ (b l : List UInt8), (∀ x ∈ b, x ≠ 32) → wordsGo cur (b ++ l) = wordsGo (cur ++ b) l
  | [], l, _ => by simp
  | a :: b, l, h => by
    rw [List.cons_append, wordsGo, if_neg (h a (by simp)), wordsGo_run (cur ++ [a]) b l (fun x hx => h x (by simp [hx]))]
    simp
theorem get_eq (s : ByteArray) (i : Nat) (h : i < s.size) : s.data.toList[i]? = some (s.get! i) := by
  rw [Array.getElem?_toList, Array.getElem?_eq_getElem (by exact h)]
  congr 1
  cases s with
  | mk a =>
    show a[i] = a[i]!
    exact (getElem!_pos a i h).symm
theorem dec_facts (n b0 b1 b2 b3 : Nat) (hn : 1 ≤ n) : (decide ((decodeN n b0 b1 b2 b3).1 = 32) = decide (b0 = 32)) ∧ (b0 = 32 → (decodeN n b0 b1 b2 b3).2 = 1) ∧ 1 ≤ (decodeN n b0 b1 b2 b3).2 ∧ (decodeN n b0 b1 b2 b3).2 ≤ n ∧ (decodeN n b0 b1 b2 b3).2 ≤ 4 ∧
    (2 ≤ (decodeN n b0 b1 b2 b3).2 → b1 / 64 = 2) ∧ (3 ≤ (decodeN n b0 b1 b2 b3).2 → b2 / 64 = 2) ∧ (4 ≤ (decodeN n b0 b1 b2 b3).2 → b3 / 64 = 2) := by
  unfold decodeN
  repeat' split
  all_goals (refine ⟨decide_eq_decide.2 ?_, ?_, ?_, ?_, ?_, ?_, ?_, ?_⟩ <;> dsimp only <;> omega)
theorem dec_run (s : ByteArray) (pos : Nat) (hp : pos < s.size) : decide ((Utf8.decode s pos).1 = 32) = decide (s.get! pos = 32) ∧ ((s.get! pos = 32) → (Utf8.decode s pos).2 = 1) ∧ 1 ≤ (Utf8.decode s pos).2 ∧ pos + (Utf8.decode s pos).2 ≤ s.size ∧
    (s.get! pos ≠ 32 → ∀ x ∈ (s.data.toList.drop pos).take (Utf8.decode s pos).2, x ≠ 32) := by
  obtain ⟨h1, h2, h3, h4, h5, h6, h7, h8⟩ := dec_facts (s.size - pos) (s.get! pos).toNat (s.get! (pos + 1)).toNat (s.get! (pos + 2)).toNat (s.get! (pos + 3)).toNat (by omega)
  rw [← decode_at] at h1 h2 h3 h4 h5 h6 h7 h8
  have e32 : ∀ x : UInt8, (x.toNat = 32) ↔ x = 32 := fun x => ⟨fun h => UInt8.toNat_inj.1 h, fun h => by rw [h]; rfl⟩
  refine ⟨h1.trans (decide_eq_decide.2 (e32 _)), fun h => h2 ((e32 _).2 h), h3, by omega, fun h0 x hx => ?_⟩
  obtain ⟨j, hj, rfl⟩ := List.mem_iff_getElem.1 hx
  rw [List.length_take, List.length_drop, ← Wp.size_len] at hj
  rw [List.getElem_take, List.getElem_drop]
  have hg := get_eq s (pos + j) (by omega)
  obtain ⟨hlt, hg⟩ := List.getElem?_eq_some_iff.1 hg
  rw [hg]
  have hj4 : j < 4 := by omega
  rcases j with _ | _ | _ | _ | j
  · exact h0
  · have := h6 (by omega); intro e; rw [e] at this; simp at this
  · have := h7 (by omega); intro e; rw [e] at this; simp at this
  · have := h8 (by omega); intro e; rw [e] at this; simp at this
  · omega
theorem spans_words (s : ByteArray) : ∀ (f pos : Nat) (st : Option Nat) (acc : List (Nat × Nat)), s.size ≤ pos + f → pos ≤ s.size → (∀ a, st = some a → a < pos) →
    acc.map (fun p => pieceU s.data.toList p.1 p.2) ++ wordsGo (openPiece s.data.toList st pos) (s.data.toList.drop pos) = (closeSpans s (spansFromP (fun x => decide (x = 32)) s f pos st acc)).map (fun p => pieceU s.data.toList p.1 p.2)
  | f, pos, st, acc, h, hp, hst => by
    by_cases hlt : pos < s.size
    · cases f with
      | zero => omega
      | succ f =>
        obtain ⟨d1, d2, d3, d4, d5⟩ := dec_run s pos hlt
        have hd : s.data.toList.drop pos = (s.data.toList.drop pos).take (Utf8.decode s pos).2 ++ s.data.toList.drop (pos + (Utf8.decode s pos).2) := by
          rw [← List.drop_drop, List.take_append_drop]
        have hhd : s.data.toList.drop pos = s.get! pos :: s.data.toList.drop (pos + 1) := by
          have hg := get_eq s pos hlt
          obtain ⟨hl, hg⟩ := List.getElem?_eq_some_iff.1 hg
          rw [List.drop_eq_getElem_cons hl, hg]
        simp only [spansFromP, if_pos hlt, d1]
        by_cases h32 : s.get! pos = 32
        · rw [decide_eq_true h32, if_pos rfl, d2 h32]
          rw [hhd, wordsGo, if_pos h32]
          cases st with
          | none =>
            have ih := spans_words s f (pos + 1) none acc (by omega) (by omega) (fun a h => by cases h)
            simpa [openPiece] using ih
          | some a =>
            have hpn := pieceU_ne s.data.toList a pos (hst a rfl) (by rw [← Lib.size_eq]; omega)
            have ih := spans_words s f (pos + 1) none (acc ++ [(a, pos)]) (by omega) (by omega) (fun a h => by cases h)
            simpa [openPiece, hpn] using ih
        · rw [decide_eq_false h32, if_neg (by simp)]
          rw [hd, wordsGo_run _ _ _ (d5 h32)]
          cases st with
          | none =>
            have ih := spans_words s f (pos + (Utf8.decode s pos).2) (some pos) acc (by omega) d4 (fun a h => by cases h; omega)
            have e : ([] : List UInt8) ++ (s.data.toList.drop pos).take (Utf8.decode s pos).2 = pieceU s.data.toList pos (pos + (Utf8.decode s pos).2) := by
              unfold pieceU
              rw [List.nil_append, Nat.add_sub_cancel_left]
            simp only [openPiece] at ih ⊢
            rw [e]
            exact ih
          | some a =>
            have ih := spans_words s f (pos + (Utf8.decode s pos).2) (some a) acc (by omega) d4 (fun b h => by cases h; have := hst a rfl; omega)
            simp only [openPiece] at ih ⊢
            rw [pieceU_grow _ _ _ _ (Nat.le_of_lt (hst a rfl))]
            exact ih
    · obtain rfl : pos = s.size := by omega
      have hd : s.data.toList.drop s.size = [] := List.drop_eq_nil_of_le (by rw [← Lib.size_eq]; exact Nat.le_refl _)
      rw [hd, wordsGo, spansFromP_end _ s _ _ _ _ hlt]
      cases st with
      | none => simp [closeSpans, openPiece]
      | some a =>
        have := pieceU_ne s.data.toList a s.size (hst a rfl) (by rw [← Lib.size_eq]; exact Nat.le_refl _)
        simp [closeSpans, openPiece, this]
/-- What the library's FieldsFunc makes of a text. -/
theorem fields_words (s : ByteArray) : goFieldsP (fun x => decide (x = 32)) s = (wordsP s.data.toList).map Wp.B := by
  have h := spans_words s s.size 0 none [] (by omega) (Nat.zero_le _) (fun a h => by cases h)
  simp only [List.map_nil, List.nil_append, openPiece, List.drop_zero] at h
  unfold goFieldsP spansOfP wordsP
  rw [h, List.map_map]
  congr 1
  funext p
  simp [pieceU, Wp.extract_B]
end Sc
end Go.Proofs.YteiccjakaabfnaaGreatDoor
