
/-
  The walks of scan's pathRight and Path: a path's names, a word's. Conditions: the table of keywords reads as it is laid; a text takes no more than a machine holds.
-/
import Derived.Test.YteajjlilpikdeaaGreatDoorScKind
import Derived.Test.YteajjlilpikdeaaGreatDoorScA
namespace Go.Proofs.YteajjlilpikdeaaGreatDoor
open Go.RowKit

def Sc.rightB (p : List ByteArray) : Bool := Sc.pathOk (p.map (·.data.toList))
theorem Sc.rightB_len {p : List ByteArray} (h : p.length = 0 ∨ 4 < p.length) : Sc.rightB p = false := by
  unfold Sc.rightB Sc.pathOk
  rw [List.length_map]
  rcases h with h | h
  · rw [decide_eq_false (by omega)]; rfl
  · rw [decide_eq_false (show ¬ p.length ≤ 4 by omega), Bool.and_false]; rfl
theorem Sc.rightB_bad {p : List ByteArray} {k : Nat} (hk : k < p.length) (h : Vl.named p[k] = false) : Sc.rightB p = false := by
  unfold Sc.rightB Sc.pathOk
  have : (p.map (·.data.toList)).all Vl.nameL = false := by
    rw [Bool.eq_false_iff]
    intro h2
    have h3 := List.all_eq_true.1 h2 p[k].data.toList (List.mem_map.2 ⟨_, List.getElem_mem hk, rfl⟩)
    unfold Vl.named at h
    rw [h3] at h
    cases h
  rw [this]
  simp
theorem Sc.rightB_ok {p : List ByteArray} (h1 : 1 ≤ p.length) (h4 : p.length ≤ 4) (h : ∀ j (hj : j < p.length), Vl.named p[j] = true) : Sc.rightB p = (decide (1 < p.length) || decide (Sc.kindW (p[0]'(by omega)).data.toList = 2)) := by
  unfold Sc.rightB Sc.pathOk
  have : (p.map (·.data.toList)).all Vl.nameL = true := by
    rw [List.all_eq_true]
    intro x hx
    obtain ⟨y, hy, rfl⟩ := List.mem_map.1 hx
    obtain ⟨j, hj, rfl⟩ := List.mem_iff_getElem.1 hy
    exact h j hj
  rw [this, List.length_map, decide_eq_true h1, decide_eq_true h4]
  have : (p.map (·.data.toList)).headD [] = (p[0]'(by omega)).data.toList := by
    cases p with
    | nil => simp at h1
    | cons a t => rfl
  rw [this]
  rfl
set_option maxRecDepth 100000 in
set_option maxHeartbeats 1000000 in
theorem scPathRight_any (p : Option Addr) (c : Nat) (l : List ByteArray) (w : World) (hT : Sc.Laid w) (hm : l.length ≤ 140737488351232) (hs : ∀ s ∈ l, s.size ≤ 140737488351232) (hA : Wp.At Wp.mkT w p l) :
    Calls Tryz.prog 81 #[.slice p l.length c] w fun e w' => e = .returned (.bool (Sc.rightB l)) ∧ w' = w := by
  have HA := Lib.hid hA
  have HS := Lib.hid hs
  have HT := Lib.hid hT
  have Hlen := Lib.hid (@Sc.rightB_len l)
  have Hbad := Lib.hid (fun k hk h => @Sc.rightB_bad l k hk h)
  have Hok := Lib.hid (@Sc.rightB_ok l)
  obtain ⟨n, hn⟩ : ∃ n, n = l.length := ⟨_, rfl⟩
  have HN := Lib.hid hn
  rw [← hn] at hm ⊢
  obtain ⟨R, hR⟩ : ∃ R, R = Sc.rightB l := ⟨_, rfl⟩
  rw [← hR] at Hlen Hbad Hok ⊢
  clear hA hs hn hT hR
  by_cases h0 : n = 0
  · obtain rfl := Hlen.out (by rw [← HN.out]; exact Or.inl h0)
    subst h0
    go_enter Tryz.func81, Tryz.ntmps81
    go_wp2_with fail
    go_ret
    exact ⟨rfl, rfl⟩
  · have hne : ((n : Int) == 0) = false := beq_eq_false_iff_ne.2 (by omega)
    by_cases h4 : 4 < n
    · obtain rfl := Hlen.out (by rw [← HN.out]; exact Or.inr h4)
      go_enter Tryz.func81, Tryz.ntmps81
      go_wp2_with fail
      go_ret
      exact ⟨rfl, rfl⟩
    · go_enter Tryz.func81, Tryz.ntmps81
      go_wp2_with fail
      go_loop [15] (fun t => ∃ k : Nat, k ≤ n ∧ t = .int .i64 k ∧ Hid (∀ j (hj : j < l.length), j < k → Vl.named l[j] = true)) (fun t => n - (intOf t).toNat)
      case atStart => exact ⟨0, Nat.zero_le _, rfl, Lib.hid (fun j _ h => absurd h (by omega))⟩
      case round =>
        obtain ⟨k, hk, rfl, HK⟩ := hrel
        by_cases hlt : k < n
        · have hkl : k < l.length := by rw [← HN.out]; exact hlt
          obtain ⟨b, off, rfl, hcell⟩ := HA.out.get k hkl
          have hsz := HS.out l[k] (List.getElem_mem _)
          have hnm := vlName_any l[k] w (by omega)
          have Hb2 := Lib.hid (fun h => Hbad.out k hkl h)
          have HK2 := Lib.hid (fun (h : Vl.named l[k] = true) j (hj : j < l.length) (hjk : j < k + 1) => (show Vl.named l[j] = true by
            by_cases e : j < k
            · exact HK.out j hj e
            · obtain rfl : j = k := by omega
              exact h))
          rw [show Wp.mkT l[k] = Value.string l[k] from rfl] at hcell
          have HNm := Lib.hid hnm
          have HC : Hid (Vl.nameC l[k] = if Vl.named l[k] then 0 else 13) := Lib.hid rfl
          generalize l[k] = x at *
          have hk1 : (k : Int) < (n : Int) := by omega
          clear hnm hkl hsz
          go_wp2_with fail
          refine HNm.out.mono ?_
          rintro e w1 ⟨rfl, rfl⟩
          rw [HC.out]
          cases hv : Vl.named x with
          | true =>
            have HK3 := Lib.hid (HK2.out hv)
            clear hv
            go_wp2_with fail
            exact ⟨⟨k + 1, by omega, by go_num, HK3⟩, by simp [intOf]; omega⟩
          | false =>
            obtain rfl := Hb2.out hv
            clear hv
            go_wp2_with fail
            go_ret
            exact ⟨rfl, rfl⟩
        · obtain rfl : k = n := by omega
          have hR := Hok.out (by have := HN.out; omega) (by have := HN.out; omega) (fun j hj => HK.out j hj (by have := HN.out; omega))
          have HR := Lib.hid hR
          obtain ⟨b, off, rfl, hcell⟩ := HA.out.get 0 (by have := HN.out; omega)
          have hkd := Lib.hid (scKindOf_any (l[0]'(by have := HN.out; omega)) w HT.out)
          rw [show Wp.mkT (l[0]'(by have := HN.out; omega)) = Value.string (l[0]'(by have := HN.out; omega)) from rfl, Nat.add_zero] at hcell
          have hkle := Sc.kindW_le (l[0]'(by have := HN.out; omega)).data.toList
          generalize (l[0]'(by have := HN.out; omega)) = x at *
          rw [← HN.out] at HR
          clear hR
          by_cases h1 : 1 < k
          · have e : R = true := by rw [HR.out, decide_eq_true h1]; rfl
            subst e
            go_wp2_with fail
            go_ret
            exact ⟨rfl, rfl⟩
          · have e : R = decide (Sc.kindW x.data.toList = 2) := by rw [HR.out, decide_eq_false h1]; rfl
            have e2 : (((Sc.kindW x.data.toList : Nat) : Int) == 2) = R := by
              rw [e]
              by_cases h : Sc.kindW x.data.toList = 2
              · rw [h]; rfl
              · rw [decide_eq_false h]; exact beq_eq_false_iff_ne.2 (by omega)
            have h1i : ¬ (1 : Int) < (k : Int) := by omega
            clear e HR
            go_wp2_with fail
            refine hkd.out.mono ?_
            rintro e w1 ⟨rfl, rfl⟩
            go_wp2_with fail
            go_ret
            exact ⟨by rw [← e2]; rfl, rfl⟩
/-- What Path tells. -/
def Sc.pathR (w : List UInt8) : List ByteArray × Int := match Sc.pathP w with
  | some l => (l, 0)
  | none => ([], 13)
/-- Texts that are read off blocks of the call's own alone. -/
def Sc.OffT (B : Nat) (W : World) (p : Option Addr) (l : List ByteArray) : Prop := ∀ W' : World, (∀ j, B ≤ j → j < W.heap.size → W'.heap[j]? = W.heap[j]?) → Wp.At Wp.mkT W' p l
def Sc.PathPost (T : List ByteArray × Int) (w : World) (e : Ending) (w' : World) : Prop := ∃ p c, e = .returned (.tuple #[.slice p T.1.length c, .int .i64 T.2]) ∧ T.1.length ≤ c ∧ Sc.OffT w.heap.size w' p T.1 ∧ Below w.heap.size w w'
end Go.Proofs.YteajjlilpikdeaaGreatDoor
