/-
  The walks of wire.putList at numbers and at texts: how many parts there are, and each one's bytes, as one text. Conditions: at most 1024 parts, each of at most 4105 bytes.
-/
import Derived.Test.YtdhiekhinimohaaDoorLists
namespace Go.Proofs.YtdhiekhinimohaaDoor
open Go.RowKit

def Wp.mkN (x : Int) : Value := .int .i64 x
def Wp.mkT (x : ByteArray) : Value := .string x
set_option maxHeartbeats 1000000 in
/-- A list of numbers is put: how many there are, and each one's bytes. -/
theorem put_nums (f : Value) (p : Option Addr) (c : Nat) (l : List Int) (w : World) (hn : l.length ≤ 1024) (hl : Wp.At Wp.mkN w p l) (hx : ∀ x ∈ l, (Wp.numB x).length ≤ 4105)
    (hf : ∀ x ∈ l, ∀ w, Calls Tryd.prog 37 #[Wp.mkN x] w fun e w' => e = .returned (.tuple #[.string (Wp.B (Wp.numB x)), .int .i64 0]) ∧ Below w.heap.size w w') (hfv : f = .func (Fn.func 37) #[] #[]) :
    Calls Tryd.prog 36 #[.slice p l.length c, f] w fun e w' => e = .returned (.tuple #[.string (Wp.B (Wp.listB Wp.numB l)), .int .i64 0]) ∧ Below w.heap.size w w' := by
  have h9 := Wp.numB_len l.length
  have h9' := h9
  rw [← Wp.B_size] at h9
  obtain ⟨n, hnn⟩ : ∃ n, n = l.length := ⟨_, rfl⟩
  have hn' : n ≤ 1024 := by omega
  have Hn := Lib.hid hnn
  have hflat : ∀ k, k ≤ n → (Wp.numB n ++ Wp.flat Wp.numB (l.take k)).length ≤ 9 + 1024 * 4105 := by
    intro k hk
    have := Wp.flat_len Wp.numB 4105 (l.take k) (fun x h => hx x (List.mem_of_mem_take h))
    have h3 : (l.take k).length ≤ 1024 := by rw [List.length_take]; omega
    have h4 : (l.take k).length * 4105 ≤ 1024 * 4105 := Nat.mul_le_mul_right _ h3
    rw [List.length_append]
    rw [hnn] at *
    omega
  have Hflat := Lib.hid hflat
  have Hf := Lib.hid hf
  have Hx := Lib.hid hx
  have Hl := Lib.hid hl
  subst hfv
  rw [← hnn] at h9 h9' ⊢
  clear hnn hflat hf hx hl hn
  go_enter Tryd.func36, Tryd.ntmps36
  go_wp2_with fail
  refine (num_any _ _ (by omega) (by omega)).mono ?_
  rintro e w1 ⟨rfl, hb⟩
  have hbd := isBuilder_below (isBuilder_new 68 5 w) hb
  have hw1 : w.heap.size < w1.heap.size := by have := hb.size; simp at this; omega
  have Hbd := Lib.hid hbd
  clear hbd
  go_wp2_with fail
  refine (Tryd.Builder_Write w.heap.size w.heap.size [] (Wp.B (Wp.numB n)) _ Hbd.out (by simp only [List.length_nil]; omega) (by omega)).mono ?_
  rintro e w2 ⟨rfl, hbd2, hb2⟩
  have hB2 : Below w.heap.size w w2 := (((Below.refl _ w).alloc (Nat.le_refl _) _).trans (hb.mono (by simp))).trans hb2
  have hbd2' : Lib.IsBuilder 68 5 w.heap.size w.heap.size (Lib.byteCells (Wp.numB n ++ Wp.flat Wp.numB (l.take 0))) w2 := Or.inr (by
    have e : [] ++ Lib.strCells (Wp.B (Wp.numB n)) = Lib.byteCells (Wp.numB n ++ Wp.flat Wp.numB (l.take 0)) := by
      rw [show ([] : List Value) = Lib.byteCells [] from rfl, cells_app]
      simp [Wp.flat]
    rw [← e]; exact hbd2)
  have Hbd2 := Lib.hid hbd2'
  clear hbd2 hbd2' hb2 hb hw1 Hbd
  go_wp2_with fail
  go_loopw [8, 9, 10, 20] (fun _ _ _ t wr => ∃ k : Nat, k ≤ n ∧ t = .int .i64 k ∧ Lib.IsBuilder 68 5 w.heap.size w.heap.size (Lib.byteCells (Wp.numB n ++ Wp.flat Wp.numB (l.take k))) wr ∧ Below w.heap.size w wr) (fun _ _ _ t _ => n - (intOf t).toNat)
  case atStart => exact ⟨0, Nat.zero_le _, rfl, Hbd2.out, hB2⟩
  case round =>
    obtain ⟨k, hk, rfl, hbd, hB⟩ := hrel
    have Hbd := Lib.hid hbd
    clear hbd
    by_cases hlt : k < n
    · obtain ⟨b, off, rfl, hcell⟩ := (Hl.out.below hB).get k (by rw [← Hn.out]; exact hlt)
      rw [show Wp.mkN (l[k]'(by rw [← Hn.out]; exact hlt)) = Value.int .i64 (l[k]'(by rw [← Hn.out]; exact hlt)) from rfl] at hcell
      have hmem : l[k]'(by rw [← Hn.out]; exact hlt) ∈ l := List.getElem_mem _
      have hfl := Wp.flat_snoc Wp.numB l k (by rw [← Hn.out]; exact hlt)
      generalize l[k]'(by rw [← Hn.out]; exact hlt) = x at *
      have hx1 := Hx.out x hmem
      have hcall := Hf.out x hmem
      have hlen := Hflat.out k hk
      have hlen2 := Hflat.out (k + 1) (by omega)
      have Hfl := Lib.hid hfl
      have Hlen := Lib.hid hlen
      clear hfl hmem hlen hlen2
      go_wp2_with fail
      refine (hcall _).mono ?_
      rintro e w3 ⟨rfl, hb3⟩
      have hbd3 := Lib.hid (isBuilder_below Hbd.out hb3)
      go_wp2_with fail
      refine (Tryd.Builder_Write w.heap.size w.heap.size _ (Wp.B (Wp.numB x)) _ hbd3.out (by rw [Lib.byteCells_length, Wp.B_size]; have := Hlen.out; omega) (by have := hB.size; have := hb3.size; omega)).mono ?_
      rintro e w4 ⟨rfl, hbd4, hb4⟩
      have hbd4' := Lib.hid hbd4
      clear hbd4
      go_wp2_with fail
      refine ⟨⟨k + 1, by omega, by go_num, ?_, ?_⟩, by simp [intOf]; omega⟩
      · have := hbd4'.out
        rw [cells_app, List.append_assoc, ← Hfl.out] at this
        exact Or.inr this
      · exact (hB.trans (hb3.mono hB.size)).trans hb4
    · obtain rfl : k = n := by omega
      go_wp2_with fail
      refine (Tryd.Builder_String_any w.heap.size w.heap.size _ _ Hbd.out hB.size).mono ?_
      rintro e w3 ⟨rfl, hb3⟩
      go_wp2_with fail
      go_ret2
      refine ⟨?_, hB.trans hb3⟩
      rw [show Wp.listB Wp.numB l = Wp.numB k ++ Wp.flat Wp.numB (l.take k) by rw [Hn.out, List.take_length]; rfl]
      rfl
end Go.Proofs.YtdhiekhinimohaaDoor
