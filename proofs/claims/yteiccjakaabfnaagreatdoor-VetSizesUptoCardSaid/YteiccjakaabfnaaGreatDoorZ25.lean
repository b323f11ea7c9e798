/-
  The words that tags begin with, in their table, and the walks of scan's kindOf and hasPath. Condition: the table reads as it is laid.
  The walks of scan's pathRight and Path: a path's names, a word's. Conditions: the table of keywords reads as it is laid; a text takes no more than a machine holds.
-/
import Derived.Test.YteiccjakaabfnaaGreatDoorZ53
import Derived.Test.YteiccjakaabfnaaGreatDoorScPlain
import Derived.Lib.BufferMore
import Derived.Test.YteiccjakaabfnaaGreatDoorScMath
namespace Go.Proofs.YteiccjakaabfnaaGreatDoor
open Go.RowKit

namespace Sc
def kw : Nat → ByteArray
  | 3 => ⟨#[105, 102]⟩
  | 4 => ⟨#[101, 108, 115, 101]⟩
  | 5 => ⟨#[101, 97, 99, 104]⟩
  | 6 => ⟨#[101, 110, 100]⟩
  | _ => ⟨#[]⟩
def kws : Array Value := #[.string ⟨#[]⟩, .string ⟨#[]⟩, .string ⟨#[]⟩, .string ⟨#[105, 102]⟩, .string ⟨#[101, 108, 115, 101]⟩, .string ⟨#[101, 97, 99, 104]⟩, .string ⟨#[101, 110, 100]⟩]
/-- The table as it is laid. -/
def Laid (w : World) : Prop := ∃ t fr, w.heap[4]? = some (.cells kws t fr)
theorem Laid.below {w w' : World} (h : Laid w) (hb : Below w.heap.size w w') : Laid w' := by
  obtain ⟨t, fr, h⟩ := h
  exact ⟨t, fr, (hb.block _ (Array.getElem?_eq_some_iff.1 h).1).trans h⟩
theorem Laid.cells {w : World} (h : Laid w) : w.cell? ⟨4, 0, none⟩ = some (.string ⟨#[]⟩) ∧ w.cell? ⟨4, 1, none⟩ = some (.string ⟨#[]⟩) ∧ w.cell? ⟨4, 2, none⟩ = some (.string ⟨#[]⟩) ∧ w.cell? ⟨4, 3, none⟩ = some (.string ⟨#[105, 102]⟩) ∧
    w.cell? ⟨4, 4, none⟩ = some (.string ⟨#[101, 108, 115, 101]⟩) ∧ w.cell? ⟨4, 5, none⟩ = some (.string ⟨#[101, 97, 99, 104]⟩) ∧ w.cell? ⟨4, 6, none⟩ = some (.string ⟨#[101, 110, 100]⟩) := by
  obtain ⟨t, fr, h⟩ := h
  exact ⟨by rw [Lib.cell_of_heap h]; rfl, by rw [Lib.cell_of_heap h]; rfl, by rw [Lib.cell_of_heap h]; rfl, by rw [Lib.cell_of_heap h]; rfl, by rw [Lib.cell_of_heap h]; rfl, by rw [Lib.cell_of_heap h]; rfl, by rw [Lib.cell_of_heap h]; rfl⟩
theorem kw_index (k : Nat) (hk : k < 7) (w : World) : (Instr.index 231 (.agg kws) (.int .i64 (k : Int))).run Tryz.prog w = .ok (.string (kw k)) w := by
  have hs : ∀ W, Sem.run Tryz.prog (sizeOf 9) W = .ok 1 W := fun W => Tryz.sizeOf9 W
  have hg : ∀ W, Sem.run Tryz.prog (isAgg 9) W = .ok false W := fun W => Tryz.isAgg9 W
  have hk2 : k = 0 ∨ k = 1 ∨ k = 2 ∨ k = 3 ∨ k = 4 ∨ k = 5 ∨ k = 6 := by omega
  rcases hk2 with rfl | rfl | rfl | rfl | rfl | rfl | rfl <;>
    simp [Instr.index, run_underlying Tryz.underlying231, asIntOf, hs, hg, part, Sem.run_bind, Result.andThen, kws, kw]
theorem kw_none (s : List UInt8) (h : ∀ j, j < 7 → s = (kw j).data.toList → s = []) : kindW s = 2 := by
  have key : ∀ j, j < 7 → (kw j).data.toList ≠ [] → s ≠ (kw j).data.toList := fun j hj hne e => hne (by rw [← e]; exact h j hj e)
  have h3 := key 3 (by omega) (by decide)
  have h4 := key 4 (by omega) (by decide)
  have h5 := key 5 (by omega) (by decide)
  have h6 := key 6 (by omega) (by decide)
  unfold kindW
  rw [if_neg (show ¬ s = wIf from h3), if_neg (show ¬ s = wElse from h4), if_neg (show ¬ s = wEach from h5), if_neg (show ¬ s = wEnd from h6)]
theorem kw_some (s : List UInt8) (k : Nat) (hk : k < 7) (h : s = (kw k).data.toList) (hne : s ≠ []) : kindW s = k := by
  have hk2 : k = 0 ∨ k = 1 ∨ k = 2 ∨ k = 3 ∨ k = 4 ∨ k = 5 ∨ k = 6 := by omega
  rcases hk2 with rfl | rfl | rfl | rfl | rfl | rfl | rfl
  · exact absurd h hne
  · exact absurd h hne
  · exact absurd h hne
  all_goals (subst h; decide)
theorem kindW_le (s : List UInt8) : kindW s ≤ 6 := by
  unfold kindW
  repeat' split
  all_goals omega
end Sc
set_option maxRecDepth 100000 in
set_option maxHeartbeats 1000000 in
theorem scKindOf_any (s : ByteArray) (w : World) (hT : Sc.Laid w) :
    Calls Tryz.prog 135 #[.string s] w fun e w' => e = .returned (.int .u8 ((Sc.kindW s.data.toList : Nat) : Int)) ∧ w' = w := by
  have HX := Lib.hid Sc.kw_index
  unfold Sc.kws at HX
  have HY := Lib.hid (fun k hk => Sc.kw_some s.data.toList k hk)
  have HZ := Lib.hid (Sc.kw_none s.data.toList)
  obtain ⟨R, hR⟩ : ∃ R, R = Sc.kindW s.data.toList := ⟨_, rfl⟩
  rw [← hR] at HY HZ ⊢
  obtain ⟨m0, m1, m2, m3, m4, m5, m6⟩ := hT.cells
  clear hR hT
  go_enter Tryz.func135, Tryz.ntmps135
  go_wp2_with fail
  clear m0 m1 m2 m3 m4 m5 m6
  go_loop [6] (fun i => ∃ k : Nat, k ≤ 7 ∧ i = .int .i64 k ∧ Hid (∀ j, j < k → s.data.toList = (Sc.kw j).data.toList → s.data.toList = [])) (fun i => 7 - (intOf i).toNat)
  case atStart => exact ⟨0, by omega, rfl, Lib.hid (fun j hj => absurd hj (by omega))⟩
  case round =>
    obtain ⟨k, hk, rfl, HN⟩ := hrel
    by_cases hlt : k < 7
    · have hix := HX.out k hlt
      have hye := HY.out k hlt
      by_cases hnm : s.data.toList = (Sc.kw k).data.toList ∧ s.data.toList ≠ []
      · have hr := hye hnm.1 hnm.2
        have q1 : (s.toList == (Sc.kw k).toList) = true := by rw [beq_iff_eq, Lib.toList_data, Lib.toList_data]; exact hnm.1
        have q2 : (s.toList != []) = true := by rw [bne_iff_ne, Lib.toList_data]; exact hnm.2
        have q3 : (s.toList == []) = false := by rw [beq_eq_false_iff_ne, Lib.toList_data]; exact hnm.2
        have hk0 : (0 : Int) ≤ (k : Int) := by omega
        have hk1 : (k : Int) < 7 := by omega
        have hk2 : IntKind.u8.wrap (k : Int) = (k : Int) := by rw [IntWalk.u8_in _ (by omega)]
        have HR := Lib.hid hr
        clear hnm hye HX HY HZ HN hr
        generalize Sc.kw k = nk at *
        go_wp2_with fail
        go_ret
        exact ⟨by rw [HR.out]; rfl, rfl⟩
      · have HN2 := Lib.hid (show ∀ j, j < k + 1 → s.data.toList = (Sc.kw j).data.toList → s.data.toList = [] from fun j hj e => by
          by_cases h : j < k
          · exact HN.out j h e
          · obtain rfl : j = k := by omega
            cases hs : s.data.toList with
            | nil => rfl
            | cons a t => exact absurd ⟨e, by rw [hs]; simp⟩ hnm)
        have q : (s.toList == (Sc.kw k).toList) = false ∨ ((s.toList == (Sc.kw k).toList) = true ∧ (s.toList != []) = false ∧ (s.toList == []) = true) := by
          by_cases e : s.data.toList = (Sc.kw k).data.toList
          · right
            have hs : s.data.toList = [] := by
              cases hs : s.data.toList with
              | nil => rfl
              | cons a t => exact absurd ⟨e, by rw [hs]; simp⟩ hnm
            refine ⟨by rw [beq_iff_eq, Lib.toList_data, Lib.toList_data]; exact e, ?_, ?_⟩
            · rw [Lib.toList_data, hs]; rfl
            · rw [Lib.toList_data, hs]; rfl
          · left
            rw [beq_eq_false_iff_ne, Lib.toList_data, Lib.toList_data]
            exact e
        have hk1 : (k : Int) < 7 := by omega
        clear hnm hye HX HY HZ HN
        generalize Sc.kw k = nk at hix q
        rcases q with q1 | ⟨q1, q2, q3⟩
        · go_wp2_with fail
          exact ⟨⟨k + 1, by omega, by go_num, HN2⟩, by simp [intOf]; omega⟩
        · go_wp2_with fail
          exact ⟨⟨k + 1, by omega, by go_num, HN2⟩, by simp [intOf]; omega⟩
    · obtain rfl : k = 7 := by omega
      have hr := HZ.out HN.out
      subst hr
      go_wp2_with fail
      go_ret
      exact ⟨rfl, rfl⟩
def Sc.hasP (k : Nat) : Bool := decide (k = 2) || decide (k = 3) || decide (k = 5)
set_option maxRecDepth 100000 in
theorem scHasPath_any (k : Nat) (w : World) :
    Calls Tryz.prog 186 #[.int .u8 k] w fun e w' => e = .returned (.bool (Sc.hasP k)) ∧ w' = w := by
  by_cases h2 : k = 2
  · subst h2
    go_enter Tryz.func186, Tryz.ntmps186
    go_wp2_with fail
    go_ret
    exact ⟨rfl, rfl⟩
  · by_cases h3 : k = 3
    · subst h3
      go_enter Tryz.func186, Tryz.ntmps186
      go_wp2_with fail
      go_ret
      exact ⟨rfl, rfl⟩
    · by_cases h5 : k = 5
      · subst h5
        go_enter Tryz.func186, Tryz.ntmps186
        go_wp2_with fail
        go_ret
        exact ⟨rfl, rfl⟩
      · have e : Sc.hasP k = false := by unfold Sc.hasP; rw [decide_eq_false h2, decide_eq_false h3, decide_eq_false h5]; rfl
        have q2 : ((k : Int) == 2) = false := beq_eq_false_iff_ne.2 (by omega)
        have q3 : ((k : Int) == 3) = false := beq_eq_false_iff_ne.2 (by omega)
        have q5 : ((k : Int) == 5) = false := beq_eq_false_iff_ne.2 (by omega)
        rw [e]
        go_enter Tryz.func186, Tryz.ntmps186
        go_wp2_with fail
        go_ret
        exact ⟨rfl, rfl⟩
end Go.Proofs.YteiccjakaabfnaaGreatDoor
namespace Go.Proofs.YteiccjakaabfnaaGreatDoor
open Go.RowKit

def Sc.rightB (p : List ByteArray) : Bool := Sc.pathOk (p.map (·.data.toList))
theorem Sc.rightB_len {p : List ByteArray} (h : p.length = 0 ∨ 4 < p.length) : Sc.rightB p = false := by
  unfold Sc.rightB Sc.pathOk
  rw [List.length_map]
  rcases h with h | h
  · rw [decide_eq_false (by omega)]; rfl
  · rw [decide_eq_false (show ¬ p.length ≤ 4 by omega), Bool.and_false]; rfl
theorem Sc.rightB_bad {p : List ByteArray} {k : Nat} (hk : k < p.length) (h : Vl.named p[k] = false) : Sc.rightB p = false := by
  unfold Sc.rightB Sc.pathOk
  have : (p.map (·.data.toList)).all Vl.nameL = false := by
    rw [Bool.eq_false_iff]
    intro h2
    have h3 := List.all_eq_true.1 h2 p[k].data.toList (List.mem_map.2 ⟨_, List.getElem_mem hk, rfl⟩)
    unfold Vl.named at h
    rw [h3] at h
    cases h
  rw [this]
  simp
theorem Sc.rightB_ok {p : List ByteArray} (h1 : 1 ≤ p.length) (h4 : p.length ≤ 4) (h : ∀ j (hj : j < p.length), Vl.named p[j] = true) : Sc.rightB p = (decide (1 < p.length) || decide (Sc.kindW (p[0]'(by omega)).data.toList = 2)) := by
  unfold Sc.rightB Sc.pathOk
  have : (p.map (·.data.toList)).all Vl.nameL = true := by
    rw [List.all_eq_true]
    intro x hx
    obtain ⟨y, hy, rfl⟩ := List.mem_map.1 hx
    obtain ⟨j, hj, rfl⟩ := List.mem_iff_getElem.1 hy
    exact h j hj
  rw [this, List.length_map, decide_eq_true h1, decide_eq_true h4]
  have : (p.map (·.data.toList)).headD [] = (p[0]'(by omega)).data.toList := by
    cases p with
    | nil => simp at h1
    | cons a t => rfl
  rw [this]
  rfl
set_option maxRecDepth 100000 in
set_option maxHeartbeats 1000000 in
theorem scPathRight_any (p : Option Addr) (c : Nat) (l : List ByteArray) (w : World) (hT : Sc.Laid w) (hm : l.length ≤ 140737488351232) (hs : ∀ s ∈ l, s.size ≤ 140737488351232) (hA : Wp.At Wp.mkT w p l) :
    Calls Tryz.prog 88 #[.slice p l.length c] w fun e w' => e = .returned (.bool (Sc.rightB l)) ∧ w' = w := by
  have HA := Lib.hid hA
  have HS := Lib.hid hs
  have HT := Lib.hid hT
  have Hlen := Lib.hid (@Sc.rightB_len l)
  have Hbad := Lib.hid (fun k hk h => @Sc.rightB_bad l k hk h)
  have Hok := Lib.hid (@Sc.rightB_ok l)
  obtain ⟨n, hn⟩ : ∃ n, n = l.length := ⟨_, rfl⟩
  have HN := Lib.hid hn
  rw [← hn] at hm ⊢
  obtain ⟨R, hR⟩ : ∃ R, R = Sc.rightB l := ⟨_, rfl⟩
  rw [← hR] at Hlen Hbad Hok ⊢
  clear hA hs hn hT hR
  by_cases h0 : n = 0
  · obtain rfl := Hlen.out (by rw [← HN.out]; exact Or.inl h0)
    subst h0
    go_enter Tryz.func88, Tryz.ntmps88
    go_wp2_with fail
    go_ret
    exact ⟨rfl, rfl⟩
  · have hne : ((n : Int) == 0) = false := beq_eq_false_iff_ne.2 (by omega)
    by_cases h4 : 4 < n
    · obtain rfl := Hlen.out (by rw [← HN.out]; exact Or.inr h4)
      go_enter Tryz.func88, Tryz.ntmps88
      go_wp2_with fail
      go_ret
      exact ⟨rfl, rfl⟩
    · go_enter Tryz.func88, Tryz.ntmps88
      go_wp2_with fail
      go_loop [15] (fun t => ∃ k : Nat, k ≤ n ∧ t = .int .i64 k ∧ Hid (∀ j (hj : j < l.length), j < k → Vl.named l[j] = true)) (fun t => n - (intOf t).toNat)
      case atStart => exact ⟨0, Nat.zero_le _, rfl, Lib.hid (fun j _ h => absurd h (by omega))⟩
      case round =>
        obtain ⟨k, hk, rfl, HK⟩ := hrel
        by_cases hlt : k < n
        · have hkl : k < l.length := by rw [← HN.out]; exact hlt
          obtain ⟨b, off, rfl, hcell⟩ := HA.out.get k hkl
          have hsz := HS.out l[k] (List.getElem_mem _)
          have hnm := vlName_any l[k] w (by omega)
          have Hb2 := Lib.hid (fun h => Hbad.out k hkl h)
          have HK2 := Lib.hid (fun (h : Vl.named l[k] = true) j (hj : j < l.length) (hjk : j < k + 1) => (show Vl.named l[j] = true by
            by_cases e : j < k
            · exact HK.out j hj e
            · obtain rfl : j = k := by omega
              exact h))
          rw [show Wp.mkT l[k] = Value.string l[k] from rfl] at hcell
          have HNm := Lib.hid hnm
          have HC : Hid (Vl.nameC l[k] = if Vl.named l[k] then 0 else 13) := Lib.hid rfl
          generalize l[k] = x at *
          have hk1 : (k : Int) < (n : Int) := by omega
          clear hnm hkl hsz
          go_wp2_with fail
          refine HNm.out.mono ?_
          rintro e w1 ⟨rfl, rfl⟩
          rw [HC.out]
          cases hv : Vl.named x with
          | true =>
            have HK3 := Lib.hid (HK2.out hv)
            clear hv
            go_wp2_with fail
            exact ⟨⟨k + 1, by omega, by go_num, HK3⟩, by simp [intOf]; omega⟩
          | false =>
            obtain rfl := Hb2.out hv
            clear hv
            go_wp2_with fail
            go_ret
            exact ⟨rfl, rfl⟩
        · obtain rfl : k = n := by omega
          have hR := Hok.out (by have := HN.out; omega) (by have := HN.out; omega) (fun j hj => HK.out j hj (by have := HN.out; omega))
          have HR := Lib.hid hR
          obtain ⟨b, off, rfl, hcell⟩ := HA.out.get 0 (by have := HN.out; omega)
          have hkd := Lib.hid (scKindOf_any (l[0]'(by have := HN.out; omega)) w HT.out)
          rw [show Wp.mkT (l[0]'(by have := HN.out; omega)) = Value.string (l[0]'(by have := HN.out; omega)) from rfl, Nat.add_zero] at hcell
          have hkle := Sc.kindW_le (l[0]'(by have := HN.out; omega)).data.toList
          generalize (l[0]'(by have := HN.out; omega)) = x at *
          rw [← HN.out] at HR
          clear hR
          by_cases h1 : 1 < k
          · have e : R = true := by rw [HR.out, decide_eq_true h1]; rfl
            subst e
            go_wp2_with fail
            go_ret
            exact ⟨rfl, rfl⟩
          · have e : R = decide (Sc.kindW x.data.toList = 2) := by rw [HR.out, decide_eq_false h1]; rfl
            have e2 : (((Sc.kindW x.data.toList : Nat) : Int) == 2) = R := by
              rw [e]
              by_cases h : Sc.kindW x.data.toList = 2
              · rw [h]; rfl
              · rw [decide_eq_false h]; exact beq_eq_false_iff_ne.2 (by omega)
            have h1i : ¬ (1 : Int) < (k : Int) := by omega
            clear e HR
            go_wp2_with fail
            refine hkd.out.mono ?_
            rintro e w1 ⟨rfl, rfl⟩
            go_wp2_with fail
            go_ret
            exact ⟨by rw [← e2]; rfl, rfl⟩
/-- What Path tells. -/
def Sc.pathR (w : List UInt8) : List ByteArray × Int := match Sc.pathP w with
  | some l => (l, 0)
  | none => ([], 13)
/-- Texts that are read off blocks of the call's own alone. -/
def Sc.OffT (B : Nat) (W : World) (p : Option Addr) (l : List ByteArray) : Prop := ∀ W' : World, (∀ j, B ≤ j → j < W.heap.size → W'.heap[j]? = W.heap[j]?) → Wp.At Wp.mkT W' p l
def Sc.PathPost (T : List ByteArray × Int) (w : World) (e : Ending) (w' : World) : Prop := ∃ p c, e = .returned (.tuple #[.slice p T.1.length c, .int .i64 T.2]) ∧ T.1.length ≤ c ∧ Sc.OffT w.heap.size w' p T.1 ∧ Below w.heap.size w w'
end Go.Proofs.YteiccjakaabfnaaGreatDoor
