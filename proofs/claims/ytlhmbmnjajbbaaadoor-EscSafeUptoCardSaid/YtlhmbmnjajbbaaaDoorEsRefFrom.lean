
/-
  The walk of the document's own From of layer 13. Condition: a text of at most 2^24 bytes.
-/
import Derived.Test.YtlhmbmnjajbbaaaDoorEsRefTo
import Derived.Test.YtlhmbmnjajbbaaaDoorAt
namespace Go.Proofs.YtlhmbmnjajbbaaaDoor
open Go.RowKit

def Es.fromC (c : Nat) (l : List UInt8) : List UInt8 × Int := if c = 1 then Es.fromR false l else if c = 2 then Es.fromR true l else if c = 3 then (if l.all Es.plainB then (l, 0) else ([], 7)) else ([], 1)
theorem Es.enc_split (m : Bool) : ∀ (o t r : List UInt8), Es.enc m t = Es.enc m o ++ r → ∃ t', t = o ++ t' ∧ Es.enc m t' = r
  | [], t, r, h => ⟨t, rfl, h⟩
  | b :: o, t, r, h => by
    rw [Es.enc_cons, List.append_assoc] at h
    cases t with
    | nil =>
      have := (Es.code_len m b).1
      have h2 := congrArg List.length h
      simp only [Es.enc, List.flatMap_nil, List.length_nil, List.length_append] at h2
      omega
    | cons a t =>
      rw [Es.enc_cons] at h
      obtain ⟨rfl, h3⟩ := Es.code_inj m a b _ _ h
      obtain ⟨t', rfl, h4⟩ := Es.enc_split m o t r h3
      exact ⟨t', rfl, h4⟩
theorem Es.from_ok (m : Bool) (o : List UInt8) : Es.fromR m (Es.enc m o) = (o, 0) := by
  unfold Es.fromR
  rw [Es.und_enc, if_pos rfl]
theorem Es.from_bad (m : Bool) (o r : List UInt8) (hr : r ≠ []) (h : ∀ b u, r ≠ Es.code m b ++ u) : Es.fromR m (Es.enc m o ++ r) = ([], 7) := by
  unfold Es.fromR
  rw [if_neg]
  intro h2
  obtain ⟨t', -, h4⟩ := Es.enc_split m o _ _ h2
  cases t' with
  | nil => exact hr h4.symm
  | cons a t' => exact h a _ (by rw [← h4, Es.enc_cons])
def Es.mkB (b : UInt8) : Value := .int .u8 (b.toNat : Int)
theorem Es.infoE : (Tryd.prog.info? 5).map (fun i => (i.zero, i.size, i.bytes)) = some (some (.int .u8 0), 1, 1) := by kernel_rfl
theorem Es.info_of {P : Program} {t : TypeId} {z : Value} {n m : Nat} (h : (P.info? t).map (fun i => (i.zero, i.size, i.bytes)) = some (some z, n, m)) :
    ∃ i, P.info? t = some i ∧ i.zero = some z ∧ i.size = n ∧ i.bytes = m := by
  cases hp : P.info? t with
  | none => rw [hp] at h; cases h
  | some i =>
    rw [hp] at h
    simp only [Option.map_some, Option.some.injEq, Prod.mk.injEq] at h
    exact ⟨i, rfl, h.1, h.2.1, h.2.2⟩
theorem Es.conv_own {w : World} {B : Nat} {l : List UInt8} {p : Option Addr} {n c : Nat} (h : w.ownsRow B 5 1 (.slice p n c) l.length (l.map Es.mkB)) : (convert 38 9 (.slice p n c)).run Tryd.prog w = .ok (.string (Wp.B l)) w := by
  obtain ⟨q, d, hv, hat⟩ := owns_at h
  obtain ⟨rfl, rfl, rfl⟩ := Value.slice.inj hv
  rcases hat with rfl | ⟨b, off, rfl, hc⟩
  · cases p with
    | none =>
      show (convert 38 9 (.slice none 0 c)).run Tryd.prog w = _
      rw [run_convert_bytes_string w 38 9 5 none 0 c Tryd.underlying38 Tryd.underlying5 Tryd.underlying9]
      simp [Conv.bytesToString, Sem.run_pure, Wp.B]
      rfl
    | some a => exact run_convert_bytes_back w 38 9 5 a c [] Tryd.underlying38 Tryd.underlying5 Tryd.underlying9 (fun j hj => by simp at hj)
  · refine run_convert_bytes_back w 38 9 5 _ c l Tryd.underlying38 Tryd.underlying5 Tryd.underlying9 fun j hj => ?_
    have e : (⟨b, off, none⟩ : Addr).add j = ⟨b, off + j, none⟩ := by simp [Addr.add]
    rw [e, hc j hj]
    rfl
theorem Es.cell_new (w : World) (x : Value) : ∀ j u, ([x] : List Value)[j]? = some u → (w.alloc (.cells #[x] 5)).cell? ((⟨w.heap.size, 0, none⟩ : Addr).add j) = some u := by
  intro j u h
  cases j with
  | succ j => simp at h
  | zero =>
    have e : (⟨w.heap.size, 0, none⟩ : Addr).add (0 : Nat) = ⟨w.heap.size, 0, none⟩ := by simp [Addr.add]
    rw [e, World.cell?_alloc_at _ _ _ _ rfl]
    simpa using h
theorem Es.data_sub (s : ByteArray) (k n : Nat) : (s.extract k (k + n)).data.toList = (s.data.toList.drop k).take n := by
  rw [Wp.data_extract, Nat.add_sub_cancel_left]
theorem Es.ba_ne {a b : ByteArray} (h : ¬ a = b) : (a == b) = false := by
  rcases a with ⟨x⟩
  rcases b with ⟨y⟩
  have h2 : ¬ x = y := fun e => h (by rw [e])
  exact (beq_eq_false_iff_ne (a := x) (b := y)).2 h2
theorem Es.ba_nel {a b : ByteArray} (h : ¬ a = b) : (a.toList == b.toList) = false := by
  rw [beq_eq_false_iff_ne, Lib.toList_data, Lib.toList_data]
  intro e
  exact h (by rw [← Wp.B_of a, e, Wp.B_of])
theorem Es.sub_slice (s : ByteArray) (k n : Nat) (h : k + n ≤ s.size) (W : World) : (Instr.sliceAt 9 (.string s) (some (.int .i64 (k : Int))) (some (.int .i64 ((k : Int) + (n : Int)))) none).run Tryd.prog W = .ok (.string (s.extract k (k + n))) W := by
  rw [run_sliceAt_string (h := Tryd.underlying9), run_slice_string (h := Tryd.underlying9) (h0 := by omega) (h1 := by omega) (h2 := by omega)]
  rw [show ((k : Int)).toNat = k by omega, show ((k : Int) + (n : Int)).toNat = k + n by omega]
set_option maxRecDepth 100000 in
set_option maxHeartbeats 1000000 in
theorem esRefFromSms (s : ByteArray) (w : World) (hs : s.size ≤ 16777216) :
    Calls Tryd.prog 11 #[.int .u8 3, .string s] w fun e w' => e = .returned (.tuple #[.string (Wp.B (Es.fromC 3 s.data.toList).1), .int .i64 (Es.fromC 3 s.data.toList).2]) ∧ Below w.heap.size w w' := by
  have HI := Lib.hid (show ∀ W, Calls Tryd.prog 22 #[.int .u8 3] W fun e w' => e = .returned (.bool true) ∧ w' = W from fun W => esRefIs_any 3 W)
  have HL := Lib.hid (show s.data.toList.take s.size = s.data.toList by rw [Wp.size_len, List.take_length])
  have HY := Lib.hid (fun (h : s.data.toList.all Es.plainB = true) => (show Es.fromC 3 s.data.toList = (s.data.toList, 0) by
    show (if s.data.toList.all Es.plainB then (s.data.toList, (0 : Int)) else ([], 7)) = _
    rw [if_pos h]))
  have HNo := Lib.hid (fun (h : s.data.toList.all Es.plainB = false) => (show Es.fromC 3 s.data.toList = ([], 7) by
    show (if s.data.toList.all Es.plainB then (s.data.toList, (0 : Int)) else ([], 7)) = _
    rw [if_neg (by rw [h]; exact Bool.false_ne_true)]))
  generalize Es.fromC 3 s.data.toList = R at *
  obtain ⟨i0, hi, hz0, hz1, hz2⟩ := Es.info_of Es.infoE
  go_enter Tryd.func11, Tryd.ntmps11
  go_wp2_with fail
  refine (HI.out _).mono ?_
  rintro e w0 ⟨rfl, hw0⟩
  rw [hw0]
  clear hw0 w0
  go_wp2_with fail
  go_loopw [6, 7] (fun t6 t7 wr => ∃ (k : Nat) (o : List UInt8), k ≤ s.size ∧ t7 = .int .i64 k ∧ wr.ownsRow w.heap.size 5 1 t6 o.length (o.map Es.mkB) ∧ o = s.data.toList.take k ∧ (s.data.toList.take k).all Es.plainB = true ∧ Below w.heap.size w wr) (fun _ t7 _ => s.size - (intOf t7).toNat)
  case atStart => exact ⟨0, [], Nat.zero_le _, rfl, World.ownsRow_nil _ _ _ _, rfl, rfl, Below.refl _ _⟩
  case round =>
    obtain ⟨k, o, hk, rfl, hown, ho, hall, hb⟩ := hrel
    have Hown := Lib.hid hown
    have HB := Lib.hid hb
    have HO := Lib.hid ho
    clear hown ho
    by_cases hlt : k < s.size
    · have hsn : (s.data.toList.take (k + 1)).all Es.plainB = Es.plainB s[k] := by
        rw [Wp.take_snoc s k hlt, List.all_append, hall, Bool.true_and, List.all_cons, List.all_nil, Bool.and_true]
      have HT := Lib.hid (Wp.take_snoc s k hlt)
      have Hlen := Lib.hid (show o.length = k by rw [HO.out, List.length_take, ← Wp.size_len]; omega)
      have HC := Lib.hid (fun W => esRefPlain_any s[k] W)
      have hbk := s[k].toNat_lt
      clear hall hb
      cases hp : Es.plainB s[k] with
      | false =>
        have hR := HNo.out (by rw [← List.take_append_drop (k + 1) s.data.toList, List.all_append, hsn, hp, Bool.false_and])
        subst hR
        rw [hp] at HC
        clear hsn hp HY HNo
        go_wp2_with fail
        refine (HC.out _).mono ?_
        rintro e w1 ⟨rfl, rfl⟩
        go_wp2_with fail
        go_ret2
        exact ⟨rfl, HB.out⟩
      | true =>
        rw [hp] at HC hsn
        have Hsn := Lib.hid hsn
        clear hsn hp
        go_wp2_with fail
        refine (HC.out _).mono ?_
        rintro e w1 ⟨rfl, rfl⟩
        go_wp2_with (at_builtin; refine wpList_append_own _ rfl _ _ 38 rfl w.heap.size 5 i0 _ 1 1 Tryd.underlying38 hi hz0 hz1 hz2 rfl (by decide) _ _ _ rfl (Hown.out.alloc _) ⟨w1.heap.size, 0, none⟩ 1 1 [Es.mkB s[k]] rfl rfl ?c1 ?c2 ?c3 ?c4 ?c5 ?_)
        case c1 => exact Es.cell_new _ _
        case c2 => simp [Es.mkB, Value.oneCell']
        case c3 => have := Hlen.out; unfold maxLen; omega
        case c4 => have := Hlen.out; omega
        case c5 => have := HB.out.size; simp; omega
        intro v' w4 hown4 hgrow4 _
        have hB4 := below_grown (HB.out.alloc HB.out.size _) (Hown.out.alloc _) (Nat.le_refl _) hgrow4
        have Hown4 := Lib.hid hown4
        clear hown4 hgrow4
        go_wp2_with fail
        refine ⟨⟨k + 1, o ++ [s[k]], by omega, by go_num, ?_, by rw [HT.out, HO.out], Hsn.out, hB4⟩, by simp [intOf]; omega⟩
        have := Hown4.out
        rw [List.length_append, List.map_append]
        exact this
    · obtain rfl : k = s.size := by omega
      rw [HL.out] at hall HO
      have hR := HY.out hall
      rw [← HO.out] at hR
      subst hR
      clear hall HY HNo hb
      obtain ⟨p, c, hv, -⟩ := owns_at Hown.out
      subst hv
      have hcv := Es.conv_own Hown.out
      clear Hown
      go_wp2_with fail
      go_ret2
      exact ⟨rfl, HB.out⟩
set_option maxRecDepth 100000 in
set_option maxHeartbeats 2000000 in
theorem esRefFromPush (s : ByteArray) (w : World) (hs : s.size ≤ 16777216) :
    Calls Tryd.prog 11 #[.int .u8 1, .string s] w fun e w' => e = .returned (.tuple #[.string (Wp.B (Es.fromR false s.data.toList).1), .int .i64 (Es.fromR false s.data.toList).2]) ∧ Below w.heap.size w w' := by
  have HI := Lib.hid (show ∀ W, Calls Tryd.prog 22 #[.int .u8 1] W fun e w' => e = .returned (.bool true) ∧ w' = W from fun W => esRefIs_any 1 W)
  have HZ := Lib.hid (Wp.size_len s)
  have HY := Lib.hid (fun (o : List UInt8) (h : s.data.toList = Es.enc false o) => (show Es.fromR false s.data.toList = (o, 0) by rw [h, Es.from_ok]))
  have HNo := Lib.hid (fun (o r : List UInt8) (h : s.data.toList = Es.enc false o ++ r) (h0 : r ≠ []) (h1 : ∀ b u, r ≠ Es.code false b ++ u) => (show Es.fromR false s.data.toList = ([], 7) by rw [h, Es.from_bad _ _ _ h0 h1]))
  generalize Es.fromR false s.data.toList = R at *
  obtain ⟨i0, hi, hz0, hz1, hz2⟩ := Es.info_of Es.infoE
  go_enter Tryd.func11, Tryd.ntmps11
  go_wp2_with fail
  refine (HI.out _).mono ?_
  rintro e w0 ⟨rfl, hw0⟩
  rw [hw0]
  clear hw0 w0
  go_wp2_with fail
  go_loopw [6, 7] (fun t6 t7 wr => ∃ (k : Nat) (o : List UInt8), k ≤ s.size ∧ t7 = .int .i64 k ∧ o.length ≤ k ∧ s.data.toList = Es.enc false o ++ s.data.toList.drop k ∧ wr.ownsRow w.heap.size 5 1 t6 o.length (o.map Es.mkB) ∧ Below w.heap.size w wr) (fun _ t7 _ => s.size - (intOf t7).toNat)
  case atStart => exact ⟨0, [], Nat.zero_le _, rfl, Nat.le_refl _, rfl, World.ownsRow_nil _ _ _ _, Below.refl _ _⟩
  case round =>
    obtain ⟨k, o, hk, rfl, hol, ho, hown, hb⟩ := hrel
    have Hown := Lib.hid hown
    have HB := Lib.hid hb
    have HO := Lib.hid ho
    clear hown hb ho
    by_cases hlt : k < s.size
    · have Hdrop := Lib.hid (show s.data.toList.drop k ≠ [] by
        intro h
        have := congrArg List.length h
        have h2 := HZ.out
        rw [List.length_drop, List.length_nil] at this
        omega)
      go_wp2_with fail
      go_loopw [6, 8, 9] (fun t6 t8 t9 wr => ∃ b : Nat, b ≤ 256 ∧ t9 = .int .i64 b ∧ Below w.heap.size w wr ∧
        ((t8 = .int .i64 0 ∧ (∀ j, j < b → ∀ u, s.data.toList.drop k ≠ Es.code false (UInt8.ofNat j) ++ u) ∧ wr.ownsRow w.heap.size 5 1 t6 o.length (o.map Es.mkB)) ∨
         (∃ j u, t8 = .int .i64 ((Es.code false (UInt8.ofNat j)).length : Nat) ∧ s.data.toList.drop k = Es.code false (UInt8.ofNat j) ++ u ∧ wr.ownsRow w.heap.size 5 1 t6 (o ++ [UInt8.ofNat j]).length ((o ++ [UInt8.ofNat j]).map Es.mkB)))) (fun _ _ t9 _ => 256 - (intOf t9).toNat)
      case atStart => exact ⟨0, Nat.zero_le _, rfl, HB.out, Or.inl ⟨rfl, fun j hj => by omega, Hown.out⟩⟩
      case round =>
        obtain ⟨b, hb256, rfl, hb2, hor⟩ := hrel
        have HB2 := Lib.hid hb2
        clear hb2 Hown HB
        rcases hor with ⟨rfl, hno, hown⟩ | ⟨j, u, rfl, hyes, hown⟩
        · have Hown2 := Lib.hid hown
          have Hnone := Lib.hid hno
          clear hown hno
          by_cases hlb : b < 256
          · have HCP := Lib.hid (show ∀ W, Calls Tryd.prog 23 #[.int .u8 (b : Int)] W fun e w' => e = .returned (.string (Wp.B (Es.code false (UInt8.ofNat b)))) ∧ Below W.heap.size W w' from fun W => by
              have := esRefPush_any (UInt8.ofNat b) W
              rwa [UInt8.toNat_ofNat_of_lt' (by show b < 256; exact hlb)] at this)

            have hcl := Es.code_len false (UInt8.ofNat b)
            have hsz : (Wp.B (Es.code false (UInt8.ofNat b))).size = (Es.code false (UInt8.ofNat b)).length := Wp.B_size _
            have hxd := Es.data_sub s k (Wp.B (Es.code false (UInt8.ofNat b))).size
            have hfit : ∀ u, s.data.toList.drop k = Es.code false (UInt8.ofNat b) ++ u → k + (Wp.B (Es.code false (UInt8.ofNat b))).size ≤ s.size := by
              intro u hu
              have h1 := congrArg List.length hu
              rw [List.length_drop, List.length_append, ← Wp.size_len] at h1
              omega
            have hs1 : (Wp.B (Es.code false (UInt8.ofNat b))).size ≤ 6 := by omega
            have hs0 : 1 ≤ (Wp.B (Es.code false (UInt8.ofNat b))).size := by omega
            have hw8 : IntKind.u8.wrap (b : Int) = (b : Int) := by simp [IntKind.wrap, IntKind.bits, IntKind.signed]; omega
            have hmk : (Value.int .u8 (b : Int)) = Es.mkB (UInt8.ofNat b) := by
              unfold Es.mkB
              rw [UInt8.toNat_ofNat_of_lt' (by show b < 256; exact hlb)]
            have Hmk := Lib.hid hmk
            have Hsz := Lib.hid hsz
            clear hmk hsz hcl
            by_cases hm : ∃ u, s.data.toList.drop k = Es.code false (UInt8.ofNat b) ++ u
            · obtain ⟨u, hu⟩ := hm
              have hf := hfit u hu
              have hex : s.extract k (k + (Wp.B (Es.code false (UInt8.ofNat b))).size) = Wp.B (Es.code false (UInt8.ofNat b)) := by
                rw [← Wp.B_of (s.extract k _), hxd, hu, Hsz.out, List.take_left']
                rfl
              have Hu := Lib.hid hu
              clear hfit hxd hu
              have hsl := fun W => Es.sub_slice s k (Wp.B (Es.code false (UInt8.ofNat b))).size hf W
              rw [hex] at hsl
              clear hex
              have HE := Lib.hid (show (Wp.B (Es.code false (UInt8.ofNat b))).size = (Es.code false (UInt8.ofNat b)).length from Hsz.out)
              clear Hsz
              generalize Wp.B (Es.code false (UInt8.ofNat b)) = cb at *
              go_wp2_with fail
              refine (HCP.out _).mono ?_
              rintro e w1 ⟨rfl, hb1⟩
              have HB3 := Lib.hid (HB2.out.trans (hb1.mono HB2.out.size))
              have Hown3 := Lib.hid (ownsRow_below Hown2.out hb1)
              clear hb1 Hown2

              go_wp2_with (at_builtin; refine wpList_append_own _ rfl _ _ 38 rfl w.heap.size 5 i0 _ 1 1 Tryd.underlying38 hi hz0 hz1 hz2 rfl (by decide) _ _ _ rfl (Hown3.out.alloc _) ⟨_, 0, none⟩ 1 1 [.int .u8 (b : Int)] rfl rfl ?c1 ?c2 ?c3 ?c4 ?c5 ?_)
              case c1 => exact Es.cell_new _ _
              case c2 => simp [Value.oneCell']
              case c3 => unfold maxLen; omega
              case c4 => omega
              case c5 => have := HB3.out.size; simp; omega
              intro v' w4 hown4 hgrow4 _
              have hB4 := below_grown (HB3.out.alloc HB3.out.size _) (Hown3.out.alloc _) (Nat.le_refl _) hgrow4
              have Hown4 := Lib.hid hown4
              clear hown4 hgrow4
              go_wp2_with fail
              refine ⟨⟨b + 1, by omega, by go_num, hB4, Or.inr ⟨b, u, by rw [HE.out], Hu.out, ?_⟩⟩, by simp [intOf]; omega⟩
              have := Hown4.out
              rw [Hmk.out] at this
              rw [List.length_append, List.map_append]
              exact this
            · have Hbad := Lib.hid (show ∀ u, s.data.toList.drop k ≠ Es.code false (UInt8.ofNat b) ++ u from fun u h => hm ⟨u, h⟩)
              have hno2 : ∀ j, j < b + 1 → ∀ u, s.data.toList.drop k ≠ Es.code false (UInt8.ofNat j) ++ u := by
                intro j hj u
                by_cases hjb : j < b
                · exact Hnone.out j hjb u
                · obtain rfl : j = b := by omega
                  exact Hbad.out u
              have Hno2 := Lib.hid hno2
              clear hno2 hfit
              by_cases hf : k + (Wp.B (Es.code false (UInt8.ofNat b))).size ≤ s.size
              · have hne : ¬ s.extract k (k + (Wp.B (Es.code false (UInt8.ofNat b))).size) = Wp.B (Es.code false (UInt8.ofNat b)) := by
                  intro h
                  rw [h, Wp.B_data, Hsz.out] at hxd
                  exact hm ⟨_, by
                    conv => lhs; rw [← List.take_append_drop (Es.code false (UInt8.ofNat b)).length (s.data.toList.drop k)]
                    rw [← hxd]⟩
                have hsl := fun W => Es.sub_slice s k (Wp.B (Es.code false (UInt8.ofNat b))).size hf W
                have hq1 := Es.ba_ne hne
                have hq2 := Es.ba_nel hne
                clear hm hxd Hbad Hnone hne Hsz Hmk
                generalize s.extract k (k + (Wp.B (Es.code false (UInt8.ofNat b))).size) = ex at *
                generalize Wp.B (Es.code false (UInt8.ofNat b)) = cb at *
                go_wp2_with fail
                refine (HCP.out _).mono ?_
                rintro e w1 ⟨rfl, hb1⟩
                have HB3 := Lib.hid (HB2.out.trans (hb1.mono HB2.out.size))
                have Hown3 := Lib.hid (ownsRow_below Hown2.out hb1)
                clear hb1 Hown2
  
                go_wp2_with fail
                refine ⟨⟨b + 1, by omega, by go_num, HB3.out, Or.inl ⟨rfl, Hno2.out, Hown3.out⟩⟩, by simp [intOf]; omega⟩
              · clear hm hxd Hbad Hnone Hsz Hmk
                generalize Wp.B (Es.code false (UInt8.ofNat b)) = cb at *
                go_wp2_with fail
                refine (HCP.out _).mono ?_
                rintro e w1 ⟨rfl, hb1⟩
                have HB3 := Lib.hid (HB2.out.trans (hb1.mono HB2.out.size))
                have Hown3 := Lib.hid (ownsRow_below Hown2.out hb1)
                clear hb1 Hown2
  
                go_wp2_with fail
                refine ⟨⟨b + 1, by omega, by go_num, HB3.out, Or.inl ⟨rfl, Hno2.out, Hown3.out⟩⟩, by simp [intOf]; omega⟩
          · obtain rfl : b = 256 := by omega
            have hR := HNo.out o _ HO.out Hdrop.out (fun c u h => by
              have := Hnone.out c.toNat (by have := c.toNat_lt; omega) u
              rw [UInt8.ofNat_toNat] at this
              exact this h)
            subst hR
            clear HNo HY
            go_wp2_with fail
            go_ret2
            exact ⟨rfl, HB2.out⟩
        · have HU := Lib.hid hyes
          have Hown2 := Lib.hid hown
          have hc1 := Es.code_len false (UInt8.ofNat j)
          have hkn : k + (Es.code false (UInt8.ofNat j)).length ≤ s.size := by
            have h1 := congrArg List.length HU.out
            have h2 := HZ.out
            rw [List.length_drop, List.length_append] at h1
            omega
          have HD := Lib.hid (show s.data.toList = Es.enc false (o ++ [UInt8.ofNat j]) ++ s.data.toList.drop (k + (Es.code false (UInt8.ofNat j)).length) by
            rw [← List.drop_drop, HU.out, List.drop_left']
            · rw [Es.enc_append, List.append_assoc]
              conv => lhs; rw [HO.out, HU.out]
              simp [Es.enc]
            · rfl)
          have hen : (((Es.code false (UInt8.ofNat j)).length : Int) == 0) = false := beq_eq_false_iff_ne.2 (by omega)
          have hol2 : (o ++ [UInt8.ofNat j]).length ≤ k + (Es.code false (UInt8.ofNat j)).length := by rw [List.length_append, List.length_singleton]; omega
          have Hol2 := Lib.hid hol2
          clear hyes hown HNo HY HO HU hol2
          generalize (Es.code false (UInt8.ofNat j)).length = cl at *
          generalize o ++ [UInt8.ofNat j] = o2 at *
          by_cases hlb : b < 256
          · go_wp2_with fail
            refine ⟨⟨k + cl, o2, hkn, by go_num, Hol2.out, HD.out, Hown2.out, HB2.out⟩, by simp [intOf]; omega⟩
          · obtain rfl : b = 256 := by omega
            go_wp2_with fail
            refine ⟨⟨k + cl, o2, hkn, by go_num, Hol2.out, HD.out, Hown2.out, HB2.out⟩, by simp [intOf]; omega⟩
    · obtain rfl : k = s.size := by omega
      have hR := HY.out o (by
        have := HO.out
        rw [HZ.out, List.drop_length, List.append_nil] at this
        exact this)
      subst hR
      clear HNo HY
      obtain ⟨p, c, hv, -⟩ := owns_at Hown.out
      subst hv
      have hcv := Es.conv_own Hown.out
      clear Hown
      go_wp2_with fail
      go_ret2
      exact ⟨rfl, HB.out⟩
set_option maxRecDepth 100000 in
set_option maxHeartbeats 2000000 in
theorem esRefFromMail (s : ByteArray) (w : World) (hs : s.size ≤ 16777216) :
    Calls Tryd.prog 11 #[.int .u8 2, .string s] w fun e w' => e = .returned (.tuple #[.string (Wp.B (Es.fromR true s.data.toList).1), .int .i64 (Es.fromR true s.data.toList).2]) ∧ Below w.heap.size w w' := by
  have HI := Lib.hid (show ∀ W, Calls Tryd.prog 22 #[.int .u8 2] W fun e w' => e = .returned (.bool true) ∧ w' = W from fun W => esRefIs_any 2 W)
  have HZ := Lib.hid (Wp.size_len s)
  have HY := Lib.hid (fun (o : List UInt8) (h : s.data.toList = Es.enc true o) => (show Es.fromR true s.data.toList = (o, 0) by rw [h, Es.from_ok]))
  have HNo := Lib.hid (fun (o r : List UInt8) (h : s.data.toList = Es.enc true o ++ r) (h0 : r ≠ []) (h1 : ∀ b u, r ≠ Es.code true b ++ u) => (show Es.fromR true s.data.toList = ([], 7) by rw [h, Es.from_bad _ _ _ h0 h1]))
  generalize Es.fromR true s.data.toList = R at *
  obtain ⟨i0, hi, hz0, hz1, hz2⟩ := Es.info_of Es.infoE
  go_enter Tryd.func11, Tryd.ntmps11
  go_wp2_with fail
  refine (HI.out _).mono ?_
  rintro e w0 ⟨rfl, hw0⟩
  rw [hw0]
  clear hw0 w0
  go_wp2_with fail
  go_loopw [6, 7] (fun t6 t7 wr => ∃ (k : Nat) (o : List UInt8), k ≤ s.size ∧ t7 = .int .i64 k ∧ o.length ≤ k ∧ s.data.toList = Es.enc true o ++ s.data.toList.drop k ∧ wr.ownsRow w.heap.size 5 1 t6 o.length (o.map Es.mkB) ∧ Below w.heap.size w wr) (fun _ t7 _ => s.size - (intOf t7).toNat)
  case atStart => exact ⟨0, [], Nat.zero_le _, rfl, Nat.le_refl _, rfl, World.ownsRow_nil _ _ _ _, Below.refl _ _⟩
  case round =>
    obtain ⟨k, o, hk, rfl, hol, ho, hown, hb⟩ := hrel
    have Hown := Lib.hid hown
    have HB := Lib.hid hb
    have HO := Lib.hid ho
    clear hown hb ho
    by_cases hlt : k < s.size
    · have Hdrop := Lib.hid (show s.data.toList.drop k ≠ [] by
        intro h
        have := congrArg List.length h
        have h2 := HZ.out
        rw [List.length_drop, List.length_nil] at this
        omega)
      go_wp2_with fail
      go_loopw [6, 8, 9] (fun t6 t8 t9 wr => ∃ b : Nat, b ≤ 256 ∧ t9 = .int .i64 b ∧ Below w.heap.size w wr ∧
        ((t8 = .int .i64 0 ∧ (∀ j, j < b → ∀ u, s.data.toList.drop k ≠ Es.code true (UInt8.ofNat j) ++ u) ∧ wr.ownsRow w.heap.size 5 1 t6 o.length (o.map Es.mkB)) ∨
         (∃ j u, t8 = .int .i64 ((Es.code true (UInt8.ofNat j)).length : Nat) ∧ s.data.toList.drop k = Es.code true (UInt8.ofNat j) ++ u ∧ wr.ownsRow w.heap.size 5 1 t6 (o ++ [UInt8.ofNat j]).length ((o ++ [UInt8.ofNat j]).map Es.mkB)))) (fun _ _ t9 _ => 256 - (intOf t9).toNat)
      case atStart => exact ⟨0, Nat.zero_le _, rfl, HB.out, Or.inl ⟨rfl, fun j hj => by omega, Hown.out⟩⟩
      case round =>
        obtain ⟨b, hb256, rfl, hb2, hor⟩ := hrel
        have HB2 := Lib.hid hb2
        clear hb2 Hown HB
        rcases hor with ⟨rfl, hno, hown⟩ | ⟨j, u, rfl, hyes, hown⟩
        · have Hown2 := Lib.hid hown
          have Hnone := Lib.hid hno
          clear hown hno
          by_cases hlb : b < 256
          · have HCP := Lib.hid (show ∀ W, Calls Tryd.prog 23 #[.int .u8 (b : Int)] W fun e w' => e = .returned (.string (Wp.B (Es.code false (UInt8.ofNat b)))) ∧ Below W.heap.size W w' from fun W => by
              have := esRefPush_any (UInt8.ofNat b) W
              rwa [UInt8.toNat_ofNat_of_lt' (by show b < 256; exact hlb)] at this)
            have HCM := Lib.hid (show ∀ W, Calls Tryd.prog 24 #[.int .u8 (b : Int)] W fun e w' => e = .returned (.string (Wp.B (Es.code true (UInt8.ofNat b)))) ∧ Below W.heap.size W w' from fun W => by
              have := esRefMail_any (UInt8.ofNat b) W
              rwa [UInt8.toNat_ofNat_of_lt' (by show b < 256; exact hlb)] at this)
            have hcl := Es.code_len true (UInt8.ofNat b)
            have hsz : (Wp.B (Es.code true (UInt8.ofNat b))).size = (Es.code true (UInt8.ofNat b)).length := Wp.B_size _
            have hxd := Es.data_sub s k (Wp.B (Es.code true (UInt8.ofNat b))).size
            have hfit : ∀ u, s.data.toList.drop k = Es.code true (UInt8.ofNat b) ++ u → k + (Wp.B (Es.code true (UInt8.ofNat b))).size ≤ s.size := by
              intro u hu
              have h1 := congrArg List.length hu
              rw [List.length_drop, List.length_append, ← Wp.size_len] at h1
              omega
            have hs1 : (Wp.B (Es.code true (UInt8.ofNat b))).size ≤ 6 := by omega
            have hs0 : 1 ≤ (Wp.B (Es.code true (UInt8.ofNat b))).size := by omega
            have hw8 : IntKind.u8.wrap (b : Int) = (b : Int) := by simp [IntKind.wrap, IntKind.bits, IntKind.signed]; omega
            have hmk : (Value.int .u8 (b : Int)) = Es.mkB (UInt8.ofNat b) := by
              unfold Es.mkB
              rw [UInt8.toNat_ofNat_of_lt' (by show b < 256; exact hlb)]
            have Hmk := Lib.hid hmk
            have Hsz := Lib.hid hsz
            clear hmk hsz hcl
            by_cases hm : ∃ u, s.data.toList.drop k = Es.code true (UInt8.ofNat b) ++ u
            · obtain ⟨u, hu⟩ := hm
              have hf := hfit u hu
              have hex : s.extract k (k + (Wp.B (Es.code true (UInt8.ofNat b))).size) = Wp.B (Es.code true (UInt8.ofNat b)) := by
                rw [← Wp.B_of (s.extract k _), hxd, hu, Hsz.out, List.take_left']
                rfl
              have Hu := Lib.hid hu
              clear hfit hxd hu
              have hsl := fun W => Es.sub_slice s k (Wp.B (Es.code true (UInt8.ofNat b))).size hf W
              rw [hex] at hsl
              clear hex
              have HE := Lib.hid (show (Wp.B (Es.code true (UInt8.ofNat b))).size = (Es.code true (UInt8.ofNat b)).length from Hsz.out)
              clear Hsz
              have hsp : (Wp.B (Es.code false (UInt8.ofNat b))).size ≤ 6 := by rw [Wp.B_size]; exact (Es.code_len _ _).2
              generalize Wp.B (Es.code true (UInt8.ofNat b)) = cb at *
              generalize Wp.B (Es.code false (UInt8.ofNat b)) = cp at *
              go_wp2_with fail
              refine (HCP.out _).mono ?_
              rintro e w1 ⟨rfl, hb1⟩
              have HB3 := Lib.hid (HB2.out.trans (hb1.mono HB2.out.size))
              have Hown3 := Lib.hid (ownsRow_below Hown2.out hb1)
              clear hb1 Hown2
              go_wp2_with fail
              refine (HCM.out _).mono ?_
              rintro e w2 ⟨rfl, hb2⟩
              have HB4 := Lib.hid (HB3.out.trans (hb2.mono HB3.out.size))
              have Hown4 := Lib.hid (ownsRow_below Hown3.out hb2)
              clear hb2 Hown3 HB3
              have HB3 := Lib.hid HB4.out
              have Hown3 := Lib.hid Hown4.out
              clear HB4 Hown4
              go_wp2_with (at_builtin; refine wpList_append_own _ rfl _ _ 38 rfl w.heap.size 5 i0 _ 1 1 Tryd.underlying38 hi hz0 hz1 hz2 rfl (by decide) _ _ _ rfl (Hown3.out.alloc _) ⟨_, 0, none⟩ 1 1 [.int .u8 (b : Int)] rfl rfl ?c1 ?c2 ?c3 ?c4 ?c5 ?_)
              case c1 => exact Es.cell_new _ _
              case c2 => simp [Value.oneCell']
              case c3 => unfold maxLen; omega
              case c4 => omega
              case c5 => have := HB3.out.size; simp; omega
              intro v' w4 hown4 hgrow4 _
              have hB4 := below_grown (HB3.out.alloc HB3.out.size _) (Hown3.out.alloc _) (Nat.le_refl _) hgrow4
              have Hown4 := Lib.hid hown4
              clear hown4 hgrow4
              go_wp2_with fail
              refine ⟨⟨b + 1, by omega, by go_num, hB4, Or.inr ⟨b, u, by rw [HE.out], Hu.out, ?_⟩⟩, by simp [intOf]; omega⟩
              have := Hown4.out
              rw [Hmk.out] at this
              rw [List.length_append, List.map_append]
              exact this
            · have Hbad := Lib.hid (show ∀ u, s.data.toList.drop k ≠ Es.code true (UInt8.ofNat b) ++ u from fun u h => hm ⟨u, h⟩)
              have hno2 : ∀ j, j < b + 1 → ∀ u, s.data.toList.drop k ≠ Es.code true (UInt8.ofNat j) ++ u := by
                intro j hj u
                by_cases hjb : j < b
                · exact Hnone.out j hjb u
                · obtain rfl : j = b := by omega
                  exact Hbad.out u
              have Hno2 := Lib.hid hno2
              clear hno2 hfit
              by_cases hf : k + (Wp.B (Es.code true (UInt8.ofNat b))).size ≤ s.size
              · have hne : ¬ s.extract k (k + (Wp.B (Es.code true (UInt8.ofNat b))).size) = Wp.B (Es.code true (UInt8.ofNat b)) := by
                  intro h
                  rw [h, Wp.B_data, Hsz.out] at hxd
                  exact hm ⟨_, by
                    conv => lhs; rw [← List.take_append_drop (Es.code true (UInt8.ofNat b)).length (s.data.toList.drop k)]
                    rw [← hxd]⟩
                have hsl := fun W => Es.sub_slice s k (Wp.B (Es.code true (UInt8.ofNat b))).size hf W
                have hq1 := Es.ba_ne hne
                have hq2 := Es.ba_nel hne
                clear hm hxd Hbad Hnone hne Hsz Hmk
                generalize s.extract k (k + (Wp.B (Es.code true (UInt8.ofNat b))).size) = ex at *
                have hsp : (Wp.B (Es.code false (UInt8.ofNat b))).size ≤ 6 := by rw [Wp.B_size]; exact (Es.code_len _ _).2
                generalize Wp.B (Es.code true (UInt8.ofNat b)) = cb at *
                generalize Wp.B (Es.code false (UInt8.ofNat b)) = cp at *
                go_wp2_with fail
                refine (HCP.out _).mono ?_
                rintro e w1 ⟨rfl, hb1⟩
                have HB3 := Lib.hid (HB2.out.trans (hb1.mono HB2.out.size))
                have Hown3 := Lib.hid (ownsRow_below Hown2.out hb1)
                clear hb1 Hown2
                go_wp2_with fail
                refine (HCM.out _).mono ?_
                rintro e w2 ⟨rfl, hb2⟩
                have HB4 := Lib.hid (HB3.out.trans (hb2.mono HB3.out.size))
                have Hown4 := Lib.hid (ownsRow_below Hown3.out hb2)
                clear hb2 Hown3 HB3
                have HB3 := Lib.hid HB4.out
                have Hown3 := Lib.hid Hown4.out
                clear HB4 Hown4
                go_wp2_with fail
                refine ⟨⟨b + 1, by omega, by go_num, HB3.out, Or.inl ⟨rfl, Hno2.out, Hown3.out⟩⟩, by simp [intOf]; omega⟩
              · clear hm hxd Hbad Hnone Hsz Hmk
                have hsp : (Wp.B (Es.code false (UInt8.ofNat b))).size ≤ 6 := by rw [Wp.B_size]; exact (Es.code_len _ _).2
                generalize Wp.B (Es.code true (UInt8.ofNat b)) = cb at *
                generalize Wp.B (Es.code false (UInt8.ofNat b)) = cp at *
                go_wp2_with fail
                refine (HCP.out _).mono ?_
                rintro e w1 ⟨rfl, hb1⟩
                have HB3 := Lib.hid (HB2.out.trans (hb1.mono HB2.out.size))
                have Hown3 := Lib.hid (ownsRow_below Hown2.out hb1)
                clear hb1 Hown2
                go_wp2_with fail
                refine (HCM.out _).mono ?_
                rintro e w2 ⟨rfl, hb2⟩
                have HB4 := Lib.hid (HB3.out.trans (hb2.mono HB3.out.size))
                have Hown4 := Lib.hid (ownsRow_below Hown3.out hb2)
                clear hb2 Hown3 HB3
                have HB3 := Lib.hid HB4.out
                have Hown3 := Lib.hid Hown4.out
                clear HB4 Hown4
                go_wp2_with fail
                refine ⟨⟨b + 1, by omega, by go_num, HB3.out, Or.inl ⟨rfl, Hno2.out, Hown3.out⟩⟩, by simp [intOf]; omega⟩
          · obtain rfl : b = 256 := by omega
            have hR := HNo.out o _ HO.out Hdrop.out (fun c u h => by
              have := Hnone.out c.toNat (by have := c.toNat_lt; omega) u
              rw [UInt8.ofNat_toNat] at this
              exact this h)
            subst hR
            clear HNo HY
            go_wp2_with fail
            go_ret2
            exact ⟨rfl, HB2.out⟩
        · have HU := Lib.hid hyes
          have Hown2 := Lib.hid hown
          have hc1 := Es.code_len true (UInt8.ofNat j)
          have hkn : k + (Es.code true (UInt8.ofNat j)).length ≤ s.size := by
            have h1 := congrArg List.length HU.out
            have h2 := HZ.out
            rw [List.length_drop, List.length_append] at h1
            omega
          have HD := Lib.hid (show s.data.toList = Es.enc true (o ++ [UInt8.ofNat j]) ++ s.data.toList.drop (k + (Es.code true (UInt8.ofNat j)).length) by
            rw [← List.drop_drop, HU.out, List.drop_left']
            · rw [Es.enc_append, List.append_assoc]
              conv => lhs; rw [HO.out, HU.out]
              simp [Es.enc]
            · rfl)
          have hen : (((Es.code true (UInt8.ofNat j)).length : Int) == 0) = false := beq_eq_false_iff_ne.2 (by omega)
          have hol2 : (o ++ [UInt8.ofNat j]).length ≤ k + (Es.code true (UInt8.ofNat j)).length := by rw [List.length_append, List.length_singleton]; omega
          have Hol2 := Lib.hid hol2
          clear hyes hown HNo HY HO HU hol2
          generalize (Es.code true (UInt8.ofNat j)).length = cl at *
          generalize o ++ [UInt8.ofNat j] = o2 at *
          by_cases hlb : b < 256
          · go_wp2_with fail
            refine ⟨⟨k + cl, o2, hkn, by go_num, Hol2.out, HD.out, Hown2.out, HB2.out⟩, by simp [intOf]; omega⟩
          · obtain rfl : b = 256 := by omega
            go_wp2_with fail
            refine ⟨⟨k + cl, o2, hkn, by go_num, Hol2.out, HD.out, Hown2.out, HB2.out⟩, by simp [intOf]; omega⟩
    · obtain rfl : k = s.size := by omega
      have hR := HY.out o (by
        have := HO.out
        rw [HZ.out, List.drop_length, List.append_nil] at this
        exact this)
      subst hR
      clear HNo HY
      obtain ⟨p, c, hv, -⟩ := owns_at Hown.out
      subst hv
      have hcv := Es.conv_own Hown.out
      clear Hown
      go_wp2_with fail
      go_ret2
      exact ⟨rfl, HB.out⟩
end Go.Proofs.YtlhmbmnjajbbaaaDoor
