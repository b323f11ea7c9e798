
/-
  The walk of value's Encode. Condition: a value's texts and lists are of a size that a machine holds.
-/
import Derived.Test.YtckcbdnlligndaaDoorVlPut
namespace Go.Proofs.YtckcbdnlligndaaDoor
open Go.RowKit

def Vl.encR (x : Vl.V) : List UInt8 × Int := if Vl.good x then (x.enc, 0) else ([], 2)
set_option maxRecDepth 100000 in
set_option maxHeartbeats 1000000 in
theorem vlEncode_any (d : Nat) (x : Vl.V) (v : Value) (w : World) (hA : Vl.At d w v x) :
    Calls Tryd.prog 10 #[v] w fun e w' => e = .returned (.tuple #[.string (Wp.B (Vl.encR x).1), .int .i64 (Vl.encR x).2]) ∧ Below w.heap.size w w' := by
  have hck := Lib.hid (fun W (h : Below w.heap.size w W) => vlCheck_any d x v W (hA.below h))
  have hput := fun (hg : Vl.good x = true) W (h : Below w.heap.size w W) (g : Nat) (hb : Lib.IsBuilderF 61 5 w.heap.size g (Lib.byteCells []) W) => put_any d w g x v W [] hA (Vl.Okay.of hg) h hb (by have := (Vl.Okay.of hg).enc; simp only [List.length_nil]; omega)
  obtain ⟨k, t, i, pi, ni, ci, pn, nn, cn, rfl⟩ := hA.shape
  have Hput := Lib.hid hput
  obtain ⟨T, hT2⟩ : ∃ T, T = Vl.encR x := ⟨_, rfl⟩
  have HT := Lib.hid (show T = if Vl.good x then (x.enc, 0) else ([], 2) from hT2)
  rw [← hT2]
  rw [show Vl.chk x = if Vl.good x then 0 else 2 from rfl] at hck
  have hlen := fun (hg : Vl.good x = true) => (Vl.Okay.of hg).enc
  clear hT2 hA hput
  have Hb := Lib.hid ((Below.refl w.heap.size w).alloc (Nat.le_refl _) (.cells #[.int .u8 k, .string t, .int .i64 i, .slice pi ni ci, .slice pn nn cn] 26))
  have hs0 : w.heap.size < (w.alloc (.cells #[.int .u8 k, .string t, .int .i64 i, .slice pi ni ci, .slice pn nn cn] 26)).heap.size := by simp
  have Hx := Lib.hid (Vl.new w (.cells #[.int .u8 k, .string t, .int .i64 i, .slice pi ni ci, .slice pn nn cn] 26))
  go_enter Tryd.func10, Tryd.ntmps10
  go_wp2_with fail
  refine (hck.out _ Hb.out).mono ?_
  rintro e w1 ⟨rfl, hb1⟩
  have hx1 := (hb1.block w.heap.size hs0).trans Hx.out
  have hs1 : w.heap.size < w1.heap.size := by have := hb1.size; omega
  have HB1 := Lib.hid (Hb.out.trans (hb1.mono (by omega)))
  clear hb1
  cases hg : Vl.good x with
  | false =>
    have hTe : T = ([], 2) := by rw [HT.out, hg]; rfl
    subst hTe
    go_wp2_with fail
    go_ret2
    exact ⟨rfl, HB1.out⟩
  | true =>
    have hTe : T = (x.enc, 0) := by rw [HT.out, hg]; rfl
    subst hTe
    have hl := hlen hg
    obtain ⟨m0, m1, m2, m3, m4⟩ := Vl.five_of hx1
    have HB2 := Lib.hid (HB1.out.alloc HB1.out.size (.cells #[.pointer none, .slice none 0 0] 61))
    have hbd : Lib.IsBuilderF 61 5 w.heap.size w1.heap.size (Lib.byteCells []) (w1.alloc (.cells #[.pointer none, .slice none 0 0] 61)) :=
      Or.inl ⟨by omega, .slice none 0 0, Vl.new _ _, World.ownsRowF_nil _ _ _ _, by simp [Value.ownBlock]⟩
    have HC := Lib.hid (Hput.out hg _ HB2.out w1.heap.size hbd)
    have hs2 : w.heap.size ≤ (w1.alloc (.cells #[.pointer none, .slice none 0 0] 61)).heap.size := HB2.out.size
    clear hbd hx1 hlen Hput hck hg
    go_wp2_with fail
    refine HC.out.mono ?_
    rintro e w2 ⟨rfl, hp⟩
    have HF := Lib.hid (HB2.out.trans hp.below)
    have hs3 : w.heap.size ≤ w2.heap.size := Nat.le_trans hs2 hp.size
    have HS := Lib.hid (Tryd.Builder_String_any_k w.heap.size w1.heap.size x.enc w2 (by have := hp.bld; rwa [List.nil_append] at this) hs3)
    clear hp HC
    go_wp2_with fail
    refine HS.out.mono ?_
    rintro e w3 ⟨rfl, -, hb3, -⟩
    have HB3 := Lib.hid (HF.out.trans hb3)
    clear hb3
    go_wp2_with fail
    go_ret2
    exact ⟨rfl, HB3.out⟩
end Go.Proofs.YtckcbdnlligndaaDoor
