
/-
  The walk of the document's comparison of two lists of texts (bellmanref01.SameTexts), where they are one. No condition but that a length fits an int.
-/
import Derived.Test.YteajjlilpikdeaaGreatDoorEqualS
namespace Go.Proofs.YteajjlilpikdeaaGreatDoor
open Go.RowKit

set_option maxRecDepth 100000 in
set_option maxHeartbeats 1000000 in
/-- Two slices that read as one list are the same. -/
theorem same_texts (p1 p2 : Option Addr) (c1 c2 : Nat) (l : List ByteArray) (w : World) (hm : l.length ≤ 9223372036854775807) (h1 : Wp.At Wp.mkT w p1 l) (h2 : Wp.At Wp.mkT w p2 l) :
    Calls Tryz.prog 24 #[.slice p1 l.length c1, .slice p2 l.length c2] w fun e w' => e = .returned (.bool true) ∧ Below w.heap.size w w' := by
  have H1 := Lib.hid h1
  have H2 := Lib.hid h2
  obtain ⟨n, hn⟩ : ∃ n, n = l.length := ⟨_, rfl⟩
  have Hn := Lib.hid hn
  rw [← hn] at hm ⊢
  clear h1 h2 hn
  go_enter Tryz.func24, Tryz.ntmps24
  go_wp2_with fail
  go_loopw [5, 13] (fun _ t wr => ∃ k : Nat, k ≤ n ∧ t = .int .i64 k ∧ Below w.heap.size w wr) (fun _ t _ => n - (intOf t).toNat)
  case atStart => exact ⟨0, Nat.zero_le _, rfl, Below.refl _ _⟩
  case round =>
    obtain ⟨k, hk, rfl, hB⟩ := hrel
    by_cases hlt : k < n
    · have hkl : k < l.length := by rw [← Hn.out]; exact hlt
      obtain ⟨b1, o1, rfl, hc1⟩ := (H1.out.below hB).get k hkl
      obtain ⟨b2, o2, rfl, hc2⟩ := (H2.out.below hB).get k hkl
      obtain ⟨x, hx⟩ : ∃ x, x = l[k] := ⟨_, rfl⟩
      rw [← hx] at hc1 hc2
      simp only [Wp.mkT] at hc1 hc2
      have hlt2 : (k : Int) < (n : Int) := by omega
      have hk0 : (0 : Int) ≤ (k : Int) := by omega
      clear hx hkl
      go_wp2_with fail
      go_quiet (fail)
      go_wp2_with fail
      refine ⟨⟨k + 1, by omega, by go_num, Wp.below_drews hB _⟩, by simp [intOf]; omega⟩
    · obtain rfl : k = n := by omega
      go_wp2_with fail
      go_ret
      exact ⟨rfl, hB⟩
end Go.Proofs.YteajjlilpikdeaaGreatDoor
