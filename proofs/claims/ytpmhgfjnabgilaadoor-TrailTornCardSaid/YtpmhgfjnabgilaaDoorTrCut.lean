/-
  The walk of trail.cut: a record's blocks, in new memory, or none if it is too long. Conditions: sum's table reads as it is laid; the record takes at most 2^48 bytes.
-/
import Derived.Test.YtpmhgfjnabgilaaDoorSumFrame
import Derived.Test.YtpmhgfjnabgilaaDoorCopied
import Derived.Test.YtpmhgfjnabgilaaDoorTrDev
import Derived.Test.YtpmhgfjnabgilaaDoorShelf
namespace Go.Proofs.YtpmhgfjnabgilaaDoor
open Go.RowKit

def Tr.cutR (r : ByteArray) : List ByteArray := if 32768 < r.size then [] else Tr.cutB r.data.toList
def Tr.cutC (r : ByteArray) : Int := if 32768 < r.size then 12 else 0
set_option maxRecDepth 100000 in
theorem Tr.cut_step (f : List UInt8) (h : 63 < f.length) : (Tr.cutL f).map Wp.B = ((Wp.B f).extract 0 63 ++ (⟨#[1]⟩ : ByteArray)) :: (Tr.cutL (f.drop 63)).map Wp.B := by
  rw [Tr.cutL_more f h, List.map_cons]
  congr 1
  rw [Wp.extract_B, Wp.B_data, List.drop_zero, Nat.sub_zero, show (⟨#[1]⟩ : ByteArray) = Wp.B [1] from rfl, Wp.B_append, Wp.B_data]
set_option maxRecDepth 100000 in
theorem Tr.cut_drop (f : List UInt8) : (Wp.B f).extract 63 (Wp.B f).size = Wp.B (f.drop 63) := by
  rw [Wp.extract_B, Wp.B_data, Wp.B_size, List.take_of_length_le (by rw [List.length_drop]; omega)]
set_option maxRecDepth 100000 in
theorem Tr.cut_end (f : List UInt8) (h : ¬ 63 < f.length) : (Tr.cutL f).map Wp.B = [Wp.B f ++ Wp.B (List.replicate (63 - f.length) 0) ++ (⟨#[2]⟩ : ByteArray)] := by
  rw [Tr.cutL_last f h, show (⟨#[2]⟩ : ByteArray) = Wp.B [2] from rfl, Wp.B_append, Wp.B_append, Wp.B_data, Wp.B_data]
  rfl
theorem Tr.repeat_zero (c : Nat) : Lib.repeatL [0] c = List.replicate c (0 : UInt8) := by
  induction c with
  | zero => rfl
  | succ c ih => rw [Lib.repeatL, ih, List.replicate_succ]; rfl
theorem rep_zeros (c : Nat) (w : World) (h : c ≤ 64) :
    Calls Tryd.prog 110 #[.string ⟨#[0]⟩, .int .i64 (c : Int)] w fun e w' => e = .returned (.string (Wp.B (List.replicate c 0))) ∧ Below w.heap.size w w' := by
  refine (Tryd.strings_Repeat ⟨#[0]⟩ c w (by omega) (by show 1 * c ≤ _; omega)).mono ?_
  rintro e w' ⟨rfl, hb⟩
  refine ⟨?_, hb⟩
  rw [show (⟨#[0]⟩ : ByteArray).data.toList = [0] from rfl, Tr.repeat_zero]
  rfl
set_option maxRecDepth 100000 in
set_option maxHeartbeats 2000000 in
theorem cut_any (r : ByteArray) (w : World) (hL : Sp.Laid w) (hs : r.size ≤ 281474976710656) :
    Calls Tryd.prog 100 #[.string r] w fun e w' => ∃ v, e = .returned (.tuple #[v, .int .i64 (Tr.cutC r)]) ∧ w'.ownsRow w.heap.size 9 1 v (Tr.cutR r).length ((Tr.cutR r).map Wp.mkT) ∧ Below w.heap.size w w' := by
  have hfr := fun w hL => frame_any r w hL hs
  have HL := Lib.hid hL
  clear hL
  by_cases h : 32768 < r.size
  · rw [show Sp.frameR r = ([], 12) from if_pos h] at hfr
    rw [show Tr.cutR r = [] from if_pos h, show Tr.cutC r = 12 from if_pos h]
    have Hfr := Lib.hid hfr
    clear hfr
    go_enter Tryd.func100, Tryd.ntmps100
    go_wp2_with fail
    refine (Hfr.out _ HL.out).mono ?_
    rintro e w1 ⟨rfl, hb⟩
    go_wp2_with fail
    go_ret2
    exact ⟨_, rfl, World.ownsRow_nil _ _ _ _, hb⟩
  · rw [show Sp.frameR r = (Sp.frameB r.data.toList, 0) from if_neg h] at hfr
    rw [show Tr.cutR r = Tr.cutB r.data.toList from if_neg h, show Tr.cutC r = 0 from if_neg h]
    have Hfr := Lib.hid hfr
    clear hfr
    have hfl : (Sp.frameB r.data.toList).length ≤ 40000 := by
      have := Wp.numB_len r.data.toList.length
      rw [Sp.frameB, List.length_append, List.length_append, Sp.four_len, ← Wp.size_len] at *
      omega
    obtain ⟨F, hF⟩ : ∃ F, F = Sp.frameB r.data.toList := ⟨_, rfl⟩
    obtain ⟨G, hG⟩ : ∃ G, G = Tr.cutB r.data.toList := ⟨_, rfl⟩
    have hG2 : G = (Tr.cutL F).map Wp.B := by rw [hG, hF]; rfl
    have hGl : G.length ≤ 1000 := by rw [hG2, List.length_map, Tr.cutL_length, hF]; omega
    rw [← hF] at hfl Hfr
    rw [← hG]
    have HG := Lib.hid hG2
    clear hG hG2 hF h
    obtain ⟨i0, hi, hz0, hz1, hz2⟩ := infoText_some
    go_enter Tryd.func100, Tryd.ntmps100
    go_wp2_with fail
    refine (Hfr.out _ HL.out).mono ?_
    rintro e w1 ⟨rfl, hb⟩
    go_wp2_with fail
    go_loopw [4, 6] (fun t4 t6 wr => ∃ (f : List UInt8) (acc : List ByteArray), t4 = .string (Wp.B f) ∧ f.length ≤ 40000 ∧ Hid (acc ++ (Tr.cutL f).map Wp.B = G) ∧ Hid (wr.ownsRow w.heap.size 9 1 t6 acc.length (acc.map Wp.mkT)) ∧ Below w.heap.size w wr) (fun t4 _ _ => match t4 with | .string s => s.size | _ => 0)
    case atStart => exact ⟨F, [], rfl, hfl, Lib.hid (by rw [HG.out]; rfl), Lib.hid (World.ownsRow_nil _ _ _ _), hb⟩
    case round =>
      obtain ⟨f, acc, rfl, hf, Hacc, Hown, hB⟩ := hrel
      have hsz : ((Wp.B f).size : Int) = (f.length : Int) := by rw [Wp.B_size]
      have hsn : (Wp.B f).size = f.length := Wp.B_size f
      have hal : acc.length ≤ 1000 := by have := congrArg List.length Hacc.out; rw [List.length_append] at this; omega
      have hBs := hB.size
      by_cases hlt : 63 < f.length
      · have hd := Lib.hid (Tr.cut_drop f)
        have hst := Lib.hid (Tr.cut_step f hlt)
        have hl2 : (f.drop 63).length = f.length - 63 := by rw [List.length_drop]
        go_wp2_with (at_builtin; refine wpList_append_own _ rfl _ _ 22 rfl w.heap.size 9 i0 _ 1 16 Tryd.underlying22 hi hz0 hz1 hz2 rfl (by decide) _ _ _ rfl (Hown.out.alloc _) ⟨wr.heap.size, 0, none⟩ 1 1 [Wp.mkT ((Wp.B f).extract 0 63 ++ (⟨#[1]⟩ : ByteArray))] rfl rfl ?c1 ?c2 ?c3 ?c4 ?c5 ?_)
        case c1 => exact cell_one_new _ _ _
        case c2 => simp [Wp.mkT, Value.oneCell']
        case c3 => unfold maxLen; omega
        case c4 => omega
        case c5 => simp; omega
        intro v' w4 hown4 hgrow4 _
        have hB4 := below_grown (hB.alloc hBs _) (Hown.out.alloc _) (Nat.le_refl _) hgrow4
        have Hown4 := Lib.hid hown4
        clear hown4 hgrow4
        go_wp2_with fail
        refine ⟨⟨f.drop 63, acc ++ [(Wp.B f).extract 0 63 ++ (⟨#[1]⟩ : ByteArray)], by rw [← hsn, hd.out], by omega, Lib.hid (by rw [← Hacc.out, hst.out]; simp), Lib.hid (by rw [List.length_append, List.map_append]; exact Hown4.out), hB4⟩, ?_⟩
        show ((Wp.B f).extract 63 f.length).size < (Wp.B f).size
        rw [ByteArray.size_extract]; omega
      · have hst := Lib.hid (Tr.cut_end f hlt)
        have hG := hst.out ▸ Hacc.out
        have HG3 := Lib.hid hG
        clear hG hst Hacc
        go_wp2_with fail
        rw [show (63 : Int) - (f.length : Int) = ((63 - f.length : Nat) : Int) by omega]
        refine (rep_zeros _ _ (by omega)).mono ?_
        rintro e w3 ⟨rfl, hb3⟩
        have hB3 := hB.trans (hb3.mono hBs)
        have hBs3 := hB3.size
        have Hown3 := Lib.hid (ownsRow_below Hown.out hb3)
        have hzs : (Wp.B (List.replicate (63 - f.length) 0)).size = 63 - f.length := by rw [Wp.B_size, List.length_replicate]
        go_wp2_with (at_builtin; refine wpList_append_own _ rfl _ _ 22 rfl w.heap.size 9 i0 _ 1 16 Tryd.underlying22 hi hz0 hz1 hz2 rfl (by decide) _ _ _ rfl (Hown3.out.alloc _) ⟨w3.heap.size, 0, none⟩ 1 1 [Wp.mkT (Wp.B f ++ Wp.B (List.replicate (63 - f.length) 0) ++ (⟨#[2]⟩ : ByteArray))] rfl rfl ?c1 ?c2 ?c3 ?c4 ?c5 ?_)
        case c1 => exact cell_one_new _ _ _
        case c2 => simp [Wp.mkT, Value.oneCell']
        case c3 => unfold maxLen; omega
        case c4 => omega
        case c5 => simp; omega
        intro v' w4 hown4 hgrow4 _
        have hB4 := below_grown (hB3.alloc hBs3 _) (Hown3.out.alloc _) (Nat.le_refl _) hgrow4
        have Hown4 := Lib.hid hown4
        clear hown4 hgrow4
        go_wp2_with fail
        go_ret2
        refine ⟨v', rfl, ?_, hB4⟩
        rw [← HG3.out, List.length_append, List.map_append]
        exact Hown4.out
end Go.Proofs.YtpmhgfjnabgilaaDoor
