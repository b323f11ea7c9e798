
/-
  The walk of slices.BinarySearch at texts. Condition: the texts ahead of a place are below what is looked for, and those from it on are not.
-/
import Derived.Test.YtckcbdnlligndaaDoorVlFind
import Derived.Deep.LoopGhost
import Derived.Deep.Draws
import Derived.LoopTactic
namespace Go.Proofs.YtckcbdnlligndaaDoor
open Go.RowKit

def Vl.hasAt (l : List ByteArray) (k : Nat) (s : ByteArray) : Bool := match l[k]? with
  | some x => decide (x = s)
  | none => false
theorem vlCmpNaN_any (x : ByteArray) (w : World) : Calls Tryd.prog 136 #[.string x] w fun e w' => e = .returned (.bool false) ∧ w' = w := by
  go_enter Tryd.func136, Tryd.ntmps136
  go_wp2
  go_ret
  exact ⟨by simp, rfl⟩
theorem vlIsNaN_any (x : ByteArray) (w : World) : Calls Tryd.prog 111 #[.string x] w fun e w' => e = .returned (.bool false) ∧ w' = w := by
  go_enter Tryd.func111, Tryd.ntmps111
  go_wp2
  go_ret
  exact ⟨by simp, rfl⟩
theorem vlLess_any (x y : ByteArray) (w : World) : Calls Tryd.prog 110 #[.string x, .string y] w fun e w' => e = .returned (.bool (Op.bytesLess x.toList y.toList)) ∧ w' = w := by
  go_enter Tryd.func110, Tryd.ntmps110
  go_wp2_with (go_at_call 136; refine (vlCmpNaN_any _ _).mono ?_; rintro e w' ⟨rfl, rfl⟩)
  go_ret
  exact ⟨rfl, rfl⟩
set_option maxRecDepth 100000 in
set_option maxHeartbeats 1000000 in
theorem vlSearch_any (p : Option Addr) (c : Nat) (l : List ByteArray) (s : ByteArray) (k : Nat) (w : World) (hm : l.length ≤ 100000) (hk : k ≤ l.length) (hs : ∀ t (h : t < l.length), Vl.ltB l[t] s = decide (t < k)) (hA : Wp.At Wp.mkT w p l) :
    Calls Tryd.prog 77 #[.slice p l.length c, .string s] w fun e w' => e = .returned (.tuple #[.int .i64 k, .bool (Vl.hasAt l k s)]) ∧ Below w.heap.size w w' := by
  have HA := Lib.hid hA
  have HS := Lib.hid hs
  obtain ⟨n, hn⟩ : ∃ n, n = l.length := ⟨_, rfl⟩
  have HN := Lib.hid hn
  rw [← hn] at hm hk ⊢
  obtain ⟨r, hr⟩ : ∃ r, r = Vl.hasAt l k s := ⟨_, rfl⟩
  have HR := Lib.hid hr
  rw [← hr]
  have mixed : Tryd.prog.follows Departure.mixedOrders = true := by kernel_rfl
  clear hA hs hn hr
  go_enter Tryd.func77, Tryd.ntmps77
  go_wp2_with fail
  go_loopg [7, 8] n (fun g s7 s8 wr => ∃ lo hi q : Nat, s7 = .int .i64 lo ∧ s8 = .int .i64 hi ∧ lo ≤ k ∧ k ≤ hi ∧ hi ≤ n ∧ hi - lo ≤ g ∧ wr = w.drewN q)
  case atStart => exact ⟨0, n, 0, rfl, rfl, Nat.zero_le _, hk, Nat.le_refl _, by omega, rfl⟩
  case round =>
    obtain ⟨lo, hi, q, rfl, rfl, hlk, hkh, hin, hg, rfl⟩ := hrel
    by_cases hlt : lo < hi
    · have hml : (lo + hi) / 2 < l.length := by rw [← HN.out]; omega
      obtain ⟨b, off, rfl, cm⟩ := HA.out.get ((lo + hi) / 2) hml
      rw [show Wp.mkT l[(lo + hi) / 2] = Value.string l[(lo + hi) / 2] from rfl] at cm
      have hyx : Op.bytesLess l[(lo + hi) / 2].toList s.toList = decide ((lo + hi) / 2 < k) := HS.out _ hml
      clear HS
      generalize l[(lo + hi) / 2] = y at *
      clear hml
      obtain ⟨g', rfl⟩ : ∃ g', gk = g' + 1 := ⟨gk - 1, by omega⟩
      by_cases hmk : (lo + hi) / 2 < k
      · rw [decide_eq_true hmk] at hyx
        go_wp2_with (go_at_call 110; refine (vlLess_any _ _ _).mono ?_; rintro e w' ⟨rfl, rfl⟩)
        go_roundg (hi - ((lo + hi) / 2 + 1))
        case measure => omega
        case rel => exact ⟨(lo + hi) / 2 + 1, hi, _, by rw [show ((lo : Int) + (hi : Int)) / 2 + 1 = (((lo + hi) / 2 + 1 : Nat) : Int) by omega], rfl, by omega, hkh, hin, Nat.le_refl _, rfl⟩
      · rw [decide_eq_false hmk] at hyx
        go_wp2_with (go_at_call 110; refine (vlLess_any _ _ _).mono ?_; rintro e w' ⟨rfl, rfl⟩)
        go_roundg ((lo + hi) / 2 - lo)
        case measure => omega
        case rel => exact ⟨lo, (lo + hi) / 2, _, rfl, by rw [show ((lo : Int) + (hi : Int)) / 2 = (((lo + hi) / 2 : Nat) : Int) by omega], hlk, by omega, by omega, Nat.le_refl _, rfl⟩
    · obtain rfl : hi = k := by omega
      obtain rfl : lo = hi := by omega
      have hB : ∀ m, Below w.heap.size w (w.drewN m) := fun m => ⟨rfl, rfl, rfl, Nat.le_refl _, fun _ _ => rfl⟩
      by_cases hn : lo < n
      · have hml : lo < l.length := by rw [← HN.out]; omega
        obtain ⟨b, off, rfl, cl⟩ := HA.out.get lo hml
        rw [show Wp.mkT l[lo] = Value.string l[lo] from rfl] at cl
        have hr2 : r = decide (l[lo] = s) := by
          rw [HR.out]
          unfold Vl.hasAt
          rw [List.getElem?_eq_getElem hml]
        have HRr := Lib.hid hr2
        clear HS hr2 HR
        generalize l[lo] = y at *
        clear hml
        by_cases hyx : y = s
        · have hrt := HRr.out
          rw [decide_eq_true hyx] at hrt
          subst hyx
          subst hrt
          go_wp2_with (go_at_call 111; refine (vlIsNaN_any _ _).mono ?_; rintro e w' ⟨rfl, rfl⟩)
          go_ret2
          exact ⟨rfl, hB _⟩
        · have hrt := HRr.out
          rw [decide_eq_false hyx] at hrt
          subst hrt
          have hne : (y.toList == s.toList) = false := by rw [Vl.ba_eq, decide_eq_false hyx]
          clear HRr
          go_wp2_with (go_at_call 111; refine (vlIsNaN_any _ _).mono ?_; rintro e w' ⟨rfl, rfl⟩)
          all_goals
            (go_ret2
             exact ⟨rfl, hB _⟩)
      · have hrt : r = false := by
          rw [HR.out]
          unfold Vl.hasAt
          rw [List.getElem?_eq_none (by rw [← HN.out]; omega)]
        subst hrt
        go_wp2_with fail
        go_ret2
        exact ⟨rfl, hB _⟩
end Go.Proofs.YtckcbdnlligndaaDoor
