/-
  The law SumOn: a sum may be reckoned in pieces, however they are cut; nothing behind changes nothing. Conditions: the table reads as it is laid, each text takes at most 2^47 bytes.
-/
import Derived.Test.YtdhiekhinimohaaDoorLives
namespace Go.Proofs.YtdhiekhinimohaaDoor
open Go.RowKit

set_option maxHeartbeats 2000000 in
theorem son_any (a b c : ByteArray) (n : Nat) (ha : a.size ≤ 140737488351232) (hb : b.size ≤ 140737488351232) (hc : c.size ≤ 140737488351232) (hn : n < 4294967296) (w : World) (hL : Sp.Laid w) :
    Calls Tryd.prog 6 #[.string a, .string b, .string c, .int .u32 (n : Int)] w fun e w' => e = .returned (.bool true) ∧ Below w.heap.size w w' := by
  have HL := Lib.hid hL
  have l1 := Sp.on_lt n a.data.toList
  have c1 := fun w hL => on_any n a w hL hn (by omega)
  have c2 : ∀ w, Sp.Laid w → Calls Tryd.prog 16 #[.int .u32 (Sp.on n a.data.toList : Nat), .string b] w fun e w' => e = .returned (.int .u32 (Sp.on n (a.data.toList ++ b.data.toList) : Nat)) ∧ w = w' := fun w hL => by
    have h := on_any (Sp.on n a.data.toList) b w hL l1 (by omega)
    rw [Sp.on_append _ _ _ hn] at h
    exact h
  have c3 : ∀ w, Sp.Laid w → Calls Tryd.prog 16 #[.int .u32 (n : Int), .string (a ++ b)] w fun e w' => e = .returned (.int .u32 (Sp.on n (a.data.toList ++ b.data.toList) : Nat)) ∧ w = w' := fun w hL => by
    have h := on_any n (a ++ b) w hL hn (by rw [ByteArray.size_append]; omega)
    rw [Wp.data_append] at h
    exact h
  have c4 : ∀ (p : Option Addr) w, Sp.Laid w → Wp.At Wp.mkT w p [a, b, c] → Calls Tryd.prog 18 #[.slice p 3 3] w fun e w' => e = .returned (.int .u32 (Sp.on 0 (a.data.toList ++ (b.data.toList ++ c.data.toList)) : Nat)) ∧ w = w' := fun p w hL hA => by
    have h := fold_any p 3 [a, b, c] w hL (by simp) hA (by intro x hx; simp at hx; rcases hx with rfl | rfl | rfl <;> omega)
    rw [show Wp.flat Sp.bytes [a, b, c] = a.data.toList ++ (b.data.toList ++ c.data.toList) by simp [Wp.flat, Sp.bytes]] at h
    exact h
  have A4 := Lib.hid (show ∀ w : World, Wp.At Wp.mkT (w.alloc (.cells #[.string a, .string b, .string c] 9)) (some ⟨w.heap.size, 0, none⟩) [a, b, c] from fun w => Wp.at_newT Wp.mkT w [a, b, c] _)
  have c5 := fun w hL => of_any a w hL (by omega)
  have c6 : ∀ w, Sp.Laid w → Calls Tryd.prog 16 #[.int .u32 (Sp.on 0 a.data.toList : Nat), .string b] w fun e w' => e = .returned (.int .u32 (Sp.on 0 (a.data.toList ++ b.data.toList) : Nat)) ∧ w = w' := fun w hL => by
    have h := on_any (Sp.on 0 a.data.toList) b w hL (Sp.on_lt _ _) (by omega)
    rw [Sp.on_append _ _ _ (by omega)] at h
    exact h
  have c7 : ∀ w, Sp.Laid w → Calls Tryd.prog 16 #[.int .u32 (Sp.on 0 (a.data.toList ++ b.data.toList) : Nat), .string c] w fun e w' => e = .returned (.int .u32 (Sp.on 0 (a.data.toList ++ (b.data.toList ++ c.data.toList)) : Nat)) ∧ w = w' := fun w hL => by
    have h := on_any (Sp.on 0 (a.data.toList ++ b.data.toList)) c w hL (Sp.on_lt _ _) (by omega)
    rw [Sp.on_append _ _ _ (by omega), List.append_assoc] at h
    exact h
  have c8 : ∀ w, Sp.Laid w → Calls Tryd.prog 16 #[.int .u32 (n : Int), .string ⟨#[]⟩] w fun e w' => e = .returned (.int .u32 (n : Int)) ∧ w = w' := fun w hL => by
    have h := on_any n ⟨#[]⟩ w hL hn (by decide)
    rw [show (ByteArray.mk #[]).data.toList = [] from rfl, Sp.on_nil n hn] at h
    exact h
  generalize Sp.on n a.data.toList = x1 at *
  generalize Sp.on n (a.data.toList ++ b.data.toList) = x2 at *
  generalize Sp.on 0 (a.data.toList ++ (b.data.toList ++ c.data.toList)) = x3 at *
  generalize Sp.on 0 a.data.toList = x4 at *
  generalize Sp.on 0 (a.data.toList ++ b.data.toList) = x5 at *
  have C1 := Lib.hid c1
  have C2 := Lib.hid c2
  have C3 := Lib.hid c3
  have C4 := Lib.hid c4
  have C5 := Lib.hid c5
  have C6 := Lib.hid c6
  have C7 := Lib.hid c7
  have C8 := Lib.hid c8
  clear c1 c2 c3 c4 c5 c6 c7 c8 hL
  go_enter Tryd.func6, Tryd.ntmps6
  go_wp2_with fail
  refine (lives_any _ HL.out).mono ?_
  rintro e w1 ⟨rfl, b1⟩
  have HL1 := Lib.hid (HL.out.below b1)
  go_wp2_with fail
  refine (C1.out _ HL1.out).mono ?_
  rintro e w2 ⟨rfl, rfl⟩
  go_wp2_with fail
  refine (C2.out _ HL1.out).mono ?_
  rintro e w3 ⟨rfl, rfl⟩
  go_wp2_with fail
  refine (C3.out _ HL1.out).mono ?_
  rintro e w4 ⟨rfl, rfl⟩
  go_wp2_with fail
  have hb2 := (Below.refl w1.heap.size w1).alloc (Nat.le_refl _) (.cells #[.string a, .string b, .string c] 9)
  have HL2 := Lib.hid (HL1.out.below hb2)
  refine (C4.out _ _ HL2.out (A4.out _)).mono ?_
  rintro e w5 ⟨rfl, rfl⟩
  go_wp2_with fail
  refine (C5.out _ HL2.out).mono ?_
  rintro e w6 ⟨rfl, rfl⟩
  go_wp2_with fail
  refine (C6.out _ HL2.out).mono ?_
  rintro e w7 ⟨rfl, rfl⟩
  go_wp2_with fail
  refine (C7.out _ HL2.out).mono ?_
  rintro e w8 ⟨rfl, rfl⟩
  go_wp2_with fail
  refine (C8.out _ HL2.out).mono ?_
  rintro e w9 ⟨rfl, rfl⟩
  go_wp2_with fail
  go_ret
  exact ⟨rfl, b1.alloc b1.size _⟩
end Go.Proofs.YtdhiekhinimohaaDoor
