/-
  A row of a week's minutes, whether each is had: how it lies in memory, and the walks of the reference's Minutes and of. Condition: a list is of a size that a machine holds.
-/
import Derived.Test.YtpaleljnkejdgaaGreatDoorWkAsk
import Derived.OwnWalk
import Derived.Deep.AppendLies
namespace Go.Proofs.YtpaleljnkejdgaaGreatDoor
open Go.RowKit Go.Lib Go.Shelf

def Wk.bits (f : Int → Bool) : List Value := (List.range 10080).map fun (i : Nat) => .bool (f (i : Int))
theorem Wk.bits_len (f : Int → Bool) : (Wk.bits f).length = 10080 := by simp [Wk.bits]
theorem Wk.bits_get (f : Int → Bool) (i : Nat) (h : i < 10080) : (Wk.bits f)[i]? = some (.bool (f (i : Int))) := by
  unfold Wk.bits
  rw [List.getElem?_map, List.getElem?_range h]
  rfl
theorem Wk.bits_congr {f g : Int → Bool} (h : ∀ j, 0 ≤ j → j < 10080 → f j = g j) : Wk.bits f = Wk.bits g := by
  unfold Wk.bits
  refine List.map_congr_left fun i hi => ?_
  rw [h i (by omega) (by have := List.mem_range.1 hi; omega)]
def Wk.upd (f : Int → Bool) (i : Int) (b : Bool) (j : Int) : Bool := if j = i then b else f j
theorem Wk.bits_set (f : Int → Bool) (i : Nat) (b : Bool) : (Wk.bits f).set i (.bool b) = Wk.bits (Wk.upd f i b) := by
  refine List.ext_getElem? fun j => ?_
  rw [List.getElem?_set, Wk.bits_len]
  by_cases hj : j < 10080
  · rw [Wk.bits_get f j hj, Wk.bits_get (Wk.upd f i b) j hj]
    unfold Wk.upd
    by_cases e : i = j
    · subst e
      rw [if_pos rfl, if_pos hj, if_pos rfl]
    · rw [if_neg e, if_neg (by omega)]
  · have h1 : (Wk.bits f)[j]? = none := List.getElem?_eq_none (by rw [Wk.bits_len]; omega)
    have h2 : (Wk.bits (Wk.upd f i b))[j]? = none := List.getElem?_eq_none (by rw [Wk.bits_len]; omega)
    rw [h1, h2]
    by_cases e : i = j
    · rw [if_pos e, if_neg (by omega)]
    · rw [if_neg e]
def Wk.Bits (w : World) (base : Nat) (v : Value) (f : Int → Bool) : Prop := w.ownsRow base 4 1 v 10080 (Wk.bits f)
theorem Wk.Bits.form {w : World} {base : Nat} {v : Value} {f : Int → Bool} (h : Wk.Bits w base v f) : ∃ g cap, v = .slice (some ⟨g, 0, none⟩) 10080 cap ∧ base ≤ g ∧ g < w.heap.size := World.ownsRow.form h (by omega)
theorem Wk.Bits.below {w w' : World} {base : Nat} {v : Value} {f : Int → Bool} (h : Wk.Bits w base v f) (hb : Below w.heap.size w w') : Wk.Bits w' base v f :=
  World.ownsRow.kept (row := none) h ⟨hb.os, hb.tape, hb.output, hb.size, fun k hk _ => hb.block k hk⟩ (Classical.em _)
theorem Wk.Bits.mono {w : World} {base base' : Nat} {v : Value} {f : Int → Bool} (h : Wk.Bits w base v f) (hb : base' ≤ base) : Wk.Bits w base' v f := by
  refine ⟨h.1, ?_⟩
  rcases h.2 with h2 | ⟨g, cap, cur, hv, hg, r⟩
  · exact Or.inl h2
  · exact Or.inr ⟨g, cap, cur, hv, by omega, r⟩
theorem Wk.Bits.congr {w : World} {base : Nat} {v : Value} {f g : Int → Bool} (h : Wk.Bits w base v f) (hf : ∀ j, 0 ≤ j → j < 10080 → f j = g j) : Wk.Bits w base v g := by
  unfold Wk.Bits at *
  rw [← Wk.bits_congr hf]
  exact h
theorem Wk.Bits.cell {w : World} {base g cap : Nat} {f : Int → Bool} (h : Wk.Bits w base (.slice (some ⟨g, 0, none⟩) 10080 cap) f) (i : Nat) (hi : i < 10080) : w.cell? ⟨g, i, none⟩ = some (.bool (f (i : Int))) ∧ w.frozen? ⟨g, i, none⟩ = false :=
  ⟨(World.ownsRow.cellAt h i (by omega)).trans (Wk.bits_get f i hi), World.ownsRow.frozenAt h i⟩
theorem Wk.Bits.store {w : World} {base g cap : Nat} {f : Int → Bool} (h : Wk.Bits w base (.slice (some ⟨g, 0, none⟩) 10080 cap) f) (i : Nat) (b : Bool) : Wk.Bits (w.setCell ⟨g, i, none⟩ (.bool b)) base (.slice (some ⟨g, 0, none⟩) 10080 cap) (Wk.upd f i b) := by
  have := (World.ownsRow.stored h i (.bool b)).1
  rw [Wk.bits_set] at this
  exact this
theorem infoBool : ∃ i, Tryz.prog.info? 4 = some i ∧ i.zero = some (.bool false) ∧ i.size = 1 ∧ i.bytes = 1 := info_parts (by kernel_rfl)
theorem Wk.bits_made : (madeCells #[Value.bool false] 10080).toList = Wk.bits fun _ => false := by
  refine List.ext_getElem? fun j => ?_
  by_cases hj : j < 10080
  · rw [Wk.bits_get _ j hj]
    unfold madeCells
    rw [Array.getElem?_toList, Array.getElem?_map]
    have : (Array.range 10080)[j]? = some j := by rw [Array.getElem?_range, if_pos hj]
    rw [this]
    simp [Nat.mod_one]
  · have h1 : (Wk.bits fun _ => false)[j]? = none := List.getElem?_eq_none (by rw [Wk.bits_len]; omega)
    have h2 : (madeCells #[Value.bool false] 10080).toList[j]? = none := List.getElem?_eq_none (by rw [Array.length_toList, size_madeCells]; omega)
    rw [h1, h2]
def Wk.BitsPost (f : Int → Bool) (w : World) (e : Ending) (w' : World) : Prop := ∃ v, e = .returned v ∧ Wk.Bits w' w.heap.size v f ∧ Below w.heap.size w w'
theorem Wk.has_take (l : List (Int × Int)) (k : Nat) (h : k < l.length) (j : Int) : Wk.has (l.take (k + 1)) j = (Wk.has (l.take k) j || Wk.inR l[k] j) := by
  rw [List.take_succ_eq_append_getElem h, Wk.has_append]
  simp [Wk.has_cons, Wk.has_nil]
def Wk.part (l : List (Int × Int)) (k : Nat) (a : Int) (c : Nat) (j : Int) : Bool := Wk.has (l.take k) j || (decide (a ≤ j) && decide (j < (c : Int)))
set_option maxHeartbeats 4000000 in
set_option maxRecDepth 100000 in
theorem ref_Minutes (l : List (Int × Int)) (p : Option Addr) (c : Nat) (w : World) (hA : Wk.At w p l) (ho : Wk.Ok l) :
    Calls Tryz.prog 25 #[.slice p l.length c] w (Wk.BitsPost (Wk.has l) w) := by
  have AL := Lib.hid hA
  have hn := ho.1
  have HAll := Lib.hid (fun r (hr : r ∈ l) => ho.2.all r hr)
  obtain ⟨n, hnl⟩ : ∃ n, n = l.length := ⟨_, rfl⟩
  have Hn := Lib.hid hnl
  rw [← hnl] at hn
  rw [← hnl]
  clear hnl hA ho
  obtain ⟨i0, hi, hz0, hz1, hz2⟩ := infoBool
  go_enter Tryz.func25, Tryz.ntmps25
  go_wp2_with (at_make; refine wpList_make_full _ rfl _ _ 50 rfl w.heap.size 4 i0 _ 1 Tryz.underlying50 hi hz0 hz1 _ _ _ _ 10080 rfl rfl rfl rfl ?m1 ?m2 ?m3 ?_)
  case m1 => rw [hz2]; omega
  case m2 => unfold maxLen; omega
  case m3 => exact Nat.le_refl _
  intro w1 hown hgrow
  rw [Wk.bits_made] at hown
  have O1 := Lib.hid (show Wk.Bits w1 w.heap.size (.slice (some ⟨w.heap.size, 0, none⟩) 10080 10080) (fun _ => false) from hown)
  have B1 := Lib.hid ((Below.refl w.heap.size w).grown hgrow (Nat.le_refl _) (fun k hk => by cases hk))
  clear hown hgrow hi hz0 hz1 hz2
  go_wp2_with fail
  go_loopw [10] (fun i wr => ∃ k : Nat, k ≤ n ∧ i = .int .i64 k ∧ Wk.Bits wr w.heap.size (.slice (some ⟨w.heap.size, 0, none⟩) 10080 10080) (Wk.has (l.take k)) ∧ Below w.heap.size w wr) (fun i _ => n - (RowKit.intOf i).toNat)
  case atStart => exact ⟨0, Nat.zero_le _, rfl, O1.out.congr (fun j _ _ => rfl), B1.out⟩
  case round =>
    obtain ⟨k, hk, rfl, hO, hBw⟩ := hrel
    obtain ⟨W0, hW0⟩ : ∃ W0, W0 = wr := ⟨_, rfl⟩
    subst hW0
    have HO := Lib.hid hO
    have BW := Lib.hid hBw
    have hz := hBw.size
    obtain ⟨gg, cc, hv, _, hg⟩ := hO.form
    have hg0 : w.heap.size < W0.heap.size := by cases hv; exact hg
    clear hO hBw hv hg
    by_cases hlt : k < n
    · have hkl : k < l.length := by rw [← Hn.out]; exact hlt
      obtain ⟨b1, o1, rfl, e1, e2⟩ := (AL.out.below BW.out).get k hkl
      have HS := Lib.hid (fun j => Wk.has_take l k hkl j)
      have hr := HAll.out l[k] (List.getElem_mem hkl)
      generalize l[k] = y at e1 e2 HS hr
      obtain ⟨y1, y2⟩ := y
      simp only [] at e1 e2 hr
      obtain ⟨r1, r2, r3⟩ := hr
      obtain ⟨a, rfl⟩ : ∃ a : Nat, y1 = (a : Int) := ⟨y1.toNat, by omega⟩
      obtain ⟨b, rfl⟩ : ∃ b : Nat, y2 = (b : Int) := ⟨y2.toNat, by omega⟩
      have hltz : (k : Int) < (n : Int) := by omega
      have X0 := Lib.hid (wk_new W0 (.cells #[.int .i64 (a : Int), .int .i64 (b : Int)] 56))
      have B0 := Lib.hid (BW.out.alloc hz (.cells #[.int .i64 (a : Int), .int .i64 (b : Int)] 56))
      have O0 := Lib.hid (HO.out.below (wk_box W0 (.cells #[.int .i64 (a : Int), .int .i64 (b : Int)] 56)))
      clear hkl
      go_wp2_with fail
      go_loopw [6] (fun i wi => ∃ j : Nat, a ≤ j ∧ j ≤ b ∧ i = .int .i64 j ∧ Wk.Bits wi w.heap.size (.slice (some ⟨w.heap.size, 0, none⟩) 10080 10080) (Wk.part l k a j) ∧ Below w.heap.size w wi ∧ wi.heap[W0.heap.size]? = some (.cells #[.int .i64 (a : Int), .int .i64 (b : Int)] 56 (0, 0))) (fun i _ => b - (RowKit.intOf i).toNat)
      case atStart => exact ⟨a, Nat.le_refl _, by omega, rfl, O0.out.congr (fun j _ _ => by unfold Wk.part; cases Wk.has (l.take k) j <;> simp <;> omega), B0.out, X0.out⟩
      case round =>
        obtain ⟨j, hj1, hj2, rfl, hOi, hBi, hXi⟩ := hrel
        have HOi := Lib.hid hOi
        have BI := Lib.hid hBi
        have XI := Lib.hid hXi
        have hzi := hBi.size
        clear hOi hBi hXi
        obtain ⟨c0, c1, f0, f1⟩ := Wk.two_of XI.out
        by_cases hlt2 : j < b
        · obtain ⟨g1, g2⟩ := HOi.out.cell j (by omega)
          have hj3 : (j : Int) < (b : Int) := by omega
          have hj4 : (0 : Int) ≤ (j : Int) := by omega
          have hj5 : (j : Int) < 10080 := by omega
          have O2 := Lib.hid ((HOi.out.store j true).congr (g := Wk.part l k a (j + 1)) (fun i h1 h2 => by
            unfold Wk.upd Wk.part
            by_cases e : i = (j : Int)
            · rw [if_pos e, decide_eq_true (show (a : Int) ≤ i by omega), decide_eq_true (show i < ((j + 1 : Nat) : Int) by omega)]
              simp
            · rw [if_neg e]
              congr 2
              exact decide_eq_decide.2 ⟨fun h => by omega, fun h => by omega⟩))
          have B2 := Lib.hid (BI.out.setCell (p := ⟨w.heap.size, j, none⟩) (Nat.le_refl _) (.bool true))
          have X2 := Lib.hid ((Below.heap_setCell wr ⟨w.heap.size, j, none⟩ (.bool true) W0.heap.size (by simp only []; omega)).trans XI.out)
          go_wp2_with fail
          exact ⟨⟨j + 1, by omega, by omega, by go_num, O2.out, B2.out, X2.out⟩, by simp [RowKit.intOf]; omega⟩
        · obtain rfl : j = b := by omega
          have O2 := Lib.hid (HOi.out.congr (g := Wk.has (l.take (k + 1))) (fun i _ _ => by rw [HS.out i]; rfl))
          go_wp2_with fail
          exact ⟨⟨k + 1, by omega, by go_num, O2.out, BI.out⟩, by simp [RowKit.intOf]; omega⟩
    · obtain rfl : k = n := by omega
      have hall : l.take k = l := by rw [Hn.out, List.take_length]
      rw [hall] at HO
      clear hall
      go_wp2_with fail
      go_ret
      exact ⟨_, rfl, HO.out, BW.out⟩
end Go.Proofs.YtpaleljnkejdgaaGreatDoor
