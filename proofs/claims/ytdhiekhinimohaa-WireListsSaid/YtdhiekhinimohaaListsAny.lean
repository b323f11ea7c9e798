/-
  The law WireLists: any lists have the bytes, and any bytes begin with the lists, that the document says. Conditions: the numbers fit 64 bits, each text takes at most 2^47 bytes.
-/
import Derived.Test.YtdhiekhinimohaaListsLaw
namespace Go.Proofs.Ytdhiekhinimohaa
open Go.RowKit

set_option maxHeartbeats 2000000 in
theorem listsLaw_any (pl : Option Addr) (cl : Nat) (l : List Int) (pm : Option Addr) (cm : Nat) (m : List ByteArray) (s : ByteArray) (hll : l.length ≤ 140737488351232) (hlm : m.length ≤ 140737488351232)
    (hl : ∀ x ∈ l, Wp.I64 x) (hm : ∀ x ∈ m, x.size ≤ 140737488351232) (hs : s.size ≤ 140737488351232) (w : World) (al : Wp.At Wp.mkN w pl l) (am : Wp.At Wp.mkT w pm m) :
    Calls Try.prog 4 #[.slice pl l.length cl, .slice pm m.length cm, .string s] w fun e w' => e = .returned (.bool true) ∧ Below w.heap.size w w' := by
  have hs2 : s.size ≤ 281474976710656 := by omega
  have c1 := fun w h => nums_any pl cl l w (by omega) h hl
  have c2 := fun w h => rnums_any pl cl l w (by omega) h hl
  have c3 := fun w => getnums_any s w hs2
  have c4 := fun w => rget_nums s w hs2
  have c5 := fun w h => texts_any pm cm m w (by omega) h (fun x h => by have := hm x h; omega)
  have c6 := fun w h => rtexts_any pm cm m w (by omega) h (fun x h => by have := hm x h; omega)
  have c7 := fun w => gettexts_any s w hs2
  have c8 := fun w => rget_texts s w hs2
  have hG : (Wp.getList Wp.getNum s.data.toList).1.length ≤ 1024 := Wp.got_len _ _
  have hT : (Wp.getList Wp.getT s.data.toList).1.length ≤ 1024 := Wp.got_len _ _
  obtain ⟨G, hGe⟩ : ∃ G, G = Wp.getList Wp.getNum s.data.toList := ⟨_, rfl⟩
  obtain ⟨T, hTe⟩ : ∃ T, T = Wp.getList Wp.getT s.data.toList := ⟨_, rfl⟩
  rw [← hGe] at c3 c4 hG
  rw [← hTe] at c7 c8 hT
  clear hGe hTe
  have C1 := Lib.hid c1
  have C2 := Lib.hid c2
  have C3 := Lib.hid c3
  have C4 := Lib.hid c4
  have C5 := Lib.hid c5
  have C6 := Lib.hid c6
  have C7 := Lib.hid c7
  have C8 := Lib.hid c8
  have Al := Lib.hid al
  have Am := Lib.hid am
  have s1 := fun p1 p2 c1 c2 w h1 h2 => same_nums p1 p2 c1 c2 G.1 w (by omega) h1 h2
  have s2 := fun p1 p2 c1 c2 w h1 h2 => same_texts p1 p2 c1 c2 T.1 w (by omega) h1 h2
  have S1 := Lib.hid s1
  have S2 := Lib.hid s2
  clear c1 c2 c3 c4 c5 c6 c7 c8 al am hl hm s1 s2
  go_enter Try.func4, Try.ntmps4
  go_wp2_with fail
  refine (C1.out _ Al.out).mono ?_
  rintro e w1 ⟨rfl, b1⟩
  have a1 := b1
  go_wp2_with fail
  refine (C2.out _ (Al.out.below a1)).mono ?_
  rintro e w2 ⟨rfl, b2⟩
  have a2 := below_then a1 b2 a1.size
  go_wp2_with fail
  refine (C3.out _).mono ?_
  rintro e w3 ⟨p3, k3, rfl, h3, b3⟩
  have H3 := Lib.hid h3
  clear h3
  have a3 := below_then a2 b3 a2.size
  go_wp2_with fail
  refine (C4.out _).mono ?_
  rintro e w4 ⟨p4, k4, rfl, h4, b4⟩
  have H4 := Lib.hid h4
  clear h4
  have a4 := below_then a3 b4 a3.size
  go_wp2_with fail
  refine (C5.out _ (Am.out.below a4)).mono ?_
  rintro e w5 ⟨rfl, b5⟩
  have a5 := below_then a4 b5 a4.size
  go_wp2_with fail
  refine (C6.out _ (Am.out.below a5)).mono ?_
  rintro e w6 ⟨rfl, b6⟩
  have a6 := below_then a5 b6 a5.size
  go_wp2_with fail
  refine (C7.out _).mono ?_
  rintro e w7 ⟨p7, k7, rfl, h7, b7⟩
  have H7 := Lib.hid h7
  clear h7
  have a7 := below_then a6 b7 a6.size
  go_wp2_with fail
  refine (C8.out _).mono ?_
  rintro e w8 ⟨p8, k8, rfl, h8, b8⟩
  have H8 := Lib.hid h8
  clear h8
  have a8 := below_then a7 b8 a7.size
  go_wp2_with fail
  refine (lists_any _).mono ?_
  rintro e w9 ⟨rfl, b9⟩
  have a9 := below_then a8 b9 a8.size
  have d8 := b9
  have d7 := below_then b8 d8 b8.size
  have d6 := below_then b7 d7 b7.size
  have d5 := below_then b6 d6 b6.size
  have d4 := below_then b5 d5 b5.size
  have d3 := below_then b4 d4 b4.size
  have X3 := Lib.hid (H3.out.below d3)
  have X4 := Lib.hid (H4.out.below d4)
  have X7 := Lib.hid (H7.out.below d7)
  have X8 := Lib.hid (H8.out.below d8)
  go_wp2_with fail
  refine (S1.out _ _ _ _ _ X3.out X4.out).mono ?_
  rintro e w10 ⟨rfl, b10⟩
  have a10 := below_then a9 b10 a9.size
  go_wp2_with fail
  refine (S2.out _ _ _ _ _ (X7.out.below b10) (X8.out.below b10)).mono ?_
  rintro e w11 ⟨rfl, b11⟩
  have a11 := below_then a10 b11 a10.size
  go_wp2_with fail
  go_ret
  exact ⟨rfl, a11⟩
end Go.Proofs.Ytdhiekhinimohaa
