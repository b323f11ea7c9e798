/-
  The walk of the document's own list of switches (bellmanref06.around): those of the five years around a time, in order. Conditions: the zone is right and has a summer; the time is one.
-/
import Derived.Test.YtpaleljnkejdgaaDoorRZonAt
import Derived.Test.YtpaleljnkejdgaaDoorRZonMath
import Derived.Test.YtpaleljnkejdgaaDoorOwnOne
import Derived.Deep.RegionHeld3
import Derived.Deep.Cut
import Derived.Deep.CutRange
import Derived.Deep.CutBlock
import Derived.WalkSmall
namespace Go.Proofs.YtpaleljnkejdgaaDoor
open Go.RowKit

theorem tyInt64s : Ow.Ty 61 2 (.int .i64 0) := ⟨Tryd.underlying61, by obtain ⟨i, h1, h2, h3, h4⟩ : ∃ i, Tryd.prog.info? 2 = some i ∧ i.zero = some (.int .i64 0) ∧ i.size = 1 ∧ i.bytes = 8 := info_parts (by kernel_rfl); exact ⟨i, h1, h2, h3, by omega⟩, rfl⟩
theorem tyBools : Ow.Ty 94 4 (.bool false) := ⟨Tryd.underlying94, by obtain ⟨i, h1, h2, h3, h4⟩ : ∃ i, Tryd.prog.info? 4 = some i ∧ i.zero = some (.bool false) ∧ i.size = 1 ∧ i.bytes = 1 := info_parts (by kernel_rfl); exact ⟨i, h1, h2, h3, by omega⟩, rfl⟩
def Ar.A (L : List (Int × Bool)) : List Int := L.map (·.1)
def Ar.B (L : List (Int × Bool)) : List Bool := L.map (·.2)
theorem Ar.lenA (L : List (Int × Bool)) : (Ar.A L).length = L.length := List.length_map ..
theorem Ar.lenB (L : List (Int × Bool)) : (Ar.B L).length = L.length := List.length_map ..
/-- The two rows of the call's own. -/
structure Ar.Own (w : World) (base : Nat) (v b : Value) (L : List (Int × Bool)) : Prop where
  a : w.ownsRow base 2 1 v (Ar.A L).length ((Ar.A L).map Wp.mkN)
  b : w.ownsRow base 4 1 b (Ar.B L).length ((Ar.B L).map Wp.mkB)
theorem Ar.Own.nil (w : World) (base : Nat) : Ar.Own w base (.slice none 0 0) (.slice none 0 0) [] := ⟨World.ownsRow_nil _ _ _ _, World.ownsRow_nil _ _ _ _⟩
theorem Ar.Own.below {w w' : World} {base : Nat} {v b : Value} {L : List (Int × Bool)} (h : Ar.Own w base v b L) (hb : Below w.heap.size w w') : Ar.Own w' base v b L := ⟨ownsRow_below h.a hb, ownsRow_below h.b hb⟩
theorem Ar.slice {α : Type} {mk : α → Value} {w : World} {base : Nat} {e : TypeId} {v : Value} {l : List α} (h : w.ownsRow base e 1 v l.length (l.map mk)) :
    ∃ p c, v = .slice p l.length c ∧ Wp.At mk w p l ∧ l.length ≤ c ∧ c ≤ maxLen := by
  obtain ⟨p, c, hv, hA⟩ := owns_at h
  refine ⟨p, c, hv, hA, ?_⟩
  rcases h.2 with ⟨h1, h2⟩ | ⟨g, cap, cur, h1, _, _, h2, h3, _⟩
  · rw [hv, Value.slice.injEq] at h1
    obtain ⟨_, e1, e2⟩ := h1
    exact ⟨by omega, by omega⟩
  · rw [hv, Value.slice.injEq] at h1
    obtain ⟨_, _, e2⟩ := h1
    exact ⟨by omega, by omega⟩
theorem Wp.At.take {α : Type} {mk : α → Value} {w : World} {p : Option Addr} {l : List α} (h : Wp.At mk w p l) (i : Nat) : Wp.At mk w p (l.take i) := by
  rcases h with rfl | ⟨b, off, hp, hc⟩
  · exact Or.inl (by simp)
  · refine Or.inr ⟨b, off, hp, fun k hk => ?_⟩
    rw [List.length_take] at hk
    rw [List.getElem_take]
    exact hc k (by omega)
theorem Wp.At.drop {α : Type} {mk : α → Value} {w : World} {b off : Nat} {l : List α} (h : Wp.At mk w (some ⟨b, off, none⟩) l) (i : Nat) : Wp.At mk w (some ⟨b, off + i, none⟩) (l.drop i) := by
  rcases h with rfl | ⟨b', off', hp, hc⟩
  · exact Or.inl (by simp)
  · cases hp
    refine Or.inr ⟨b, off + i, rfl, fun k hk => ?_⟩
    rw [List.length_drop] at hk
    rw [List.getElem_drop, Nat.add_assoc]
    exact hc (i + k) (by omega)
theorem Ar.ifNone {α : Type} {mk : α → Value} {w : World} {base : Nat} {e : TypeId} {c n : Nat} {l : List α} (h : w.ownsRow base e 1 (.slice none n c) l.length (l.map mk)) : l = [] ∧ n = 0 ∧ c = 0 := by
  rcases h.2 with ⟨h1, h2⟩ | ⟨g, cap, cur, h1, _⟩
  · rw [Value.slice.injEq] at h1
    exact ⟨List.length_eq_zero_iff.1 h2, h1.2.1, h1.2.2⟩
  · rw [Value.slice.injEq] at h1
    cases h1.1
theorem Ar.ifSome {α : Type} {mk : α → Value} {w : World} {base : Nat} {e : TypeId} {c n : Nat} {ad : Addr} {l : List α} (h : w.ownsRow base e 1 (.slice (some ad) n c) l.length (l.map mk)) : ∃ g, ad = ⟨g, 0, none⟩ ∧ g < w.heap.size := by
  rcases h.2 with ⟨h1, h2⟩ | ⟨g, cap, cur, h1, h2⟩
  · rw [Value.slice.injEq] at h1
    cases h1.1
  · rw [Value.slice.injEq] at h1
    exact ⟨g, by cases h1.1; rfl, (Array.getElem?_eq_some_iff.1 h2.2.1).1⟩
theorem Wp.At.dropIf {α : Type} {mk : α → Value} {w : World} {b c : Nat} {l : List α} (h : Wp.At mk w (some ⟨b, 0, none⟩) l) (i : Nat) (hc : l.length ≤ c) : Wp.At mk w (if c = i then some ⟨b, 0, none⟩ else some ⟨b, i, none⟩) (l.drop i) := by
  by_cases e : c = i
  · rw [if_pos e]
    exact Or.inl (List.drop_eq_nil_of_le (by omega))
  · rw [if_neg e]
    have := h.drop i
    rwa [Nat.zero_add] at this
theorem Ar.base {w : World} {base base' : Nat} {e : TypeId} {size : Nat} {v : Value} {n : Nat} {xs : List Value} (h : w.ownsRow base e size v n xs) (hb : base' ≤ base) : w.ownsRow base' e size v n xs := by
  refine ⟨h.1, ?_⟩
  rcases h.2 with h0 | ⟨g, cap, cur, hv, hg, rest⟩
  · exact Or.inl h0
  · exact Or.inr ⟨g, cap, cur, hv, Nat.le_trans hb hg, rest⟩
theorem Ar.putA (L : List (Int × Bool)) (i : Nat) (x : Int × Bool) : Ar.A (L.take i ++ [x] ++ L.drop i) = (Ar.A L).take i ++ [x.1] ++ (Ar.A L).drop i := by
  unfold Ar.A
  rw [List.map_append, List.map_append, List.map_take, List.map_drop]
  rfl
theorem Ar.putB (L : List (Int × Bool)) (i : Nat) (x : Int × Bool) : Ar.B (L.take i ++ [x] ++ L.drop i) = (Ar.B L).take i ++ [x.2] ++ (Ar.B L).drop i := by
  unfold Ar.B
  rw [List.map_append, List.map_append, List.map_take, List.map_drop]
  rfl
def Wp.ArndPost (z : Wp.Zn) (Y : Int) (w : World) (e : Ending) (w' : World) : Prop := ∃ L v b, e = .returned (.tuple #[v, b]) ∧ Wp.Arnd z Y L ∧ Ar.Own w' w.heap.size v b L ∧ Below w.heap.size w w'
set_option maxRecDepth 100000 in
set_option maxHeartbeats 8000000 in
theorem rzon_around (z : Wp.Zn) (t : Int) (m : Wp.Mom) (w : World) (hz : Wp.ZnOk z) (hs : z.save ≠ 0) (hm : Wp.IsOf t m) :
    Calls Tryd.prog 53 #[.agg (Wp.zoneC z), .int .i64 t] w (Wp.ArndPost z m.y w) := by
  obtain ⟨hY1, hY2, _, _⟩ := hm.year
  have A1 := Lib.hid (fun w => rciv_Of_yes t m w hm)
  have AF0 := Lib.hid (fun y w => rzon_at z.fr y z.base w (hz.sws hs).1 (hz.ah_bd false).1 (hz.ah_bd false).2)
  have AT0 := Lib.hid (fun y w => rzon_at z.to y (z.base + z.save) w (hz.sws hs).2.1 (hz.ah_bd true).1 (hz.ah_bd true).2)
  have hv0 := Lib.hid (show ∀ y, z.V false y = Wp.swV z.fr y z.base from fun _ => rfl)
  have hv1 := Lib.hid (show ∀ y, z.V true y = Wp.swV z.to y (z.base + z.save) from fun _ => rfl)
  have ht0 := Lib.hid (show ∀ y, z.T false y = Wp.swT z.fr y z.base from fun _ => rfl)
  have ht1 := Lib.hid (show ∀ y, z.T true y = Wp.swT z.to y (z.base + z.save) from fun _ => rfl)
  have hb := hz.1
  obtain ⟨b1, b2, b3, b4⟩ := hb
  have b5 : 0 < z.save := by omega
  clear hs hm b3 hz
  obtain ⟨Y, MO, D, HO, MI, SS, K⟩ := m
  obtain ⟨base, save, ⟨fm, fn, fw, fi⟩, ⟨tm, tn, tw, ti⟩⟩ := z
  simp only [] at b1 b2 b4 b5 hv0 hv1 ht0 ht1 hY1 hY2 ⊢
  obtain ⟨Z, hZ⟩ : ∃ Z : Wp.Zn, Z = ⟨base, save, ⟨fm, fn, fw, fi⟩, ⟨tm, tn, tw, ti⟩⟩ := ⟨_, rfl⟩
  rw [← hZ] at hv0 hv1 ht0 ht1
  rw [show Wp.ArndPost ⟨base, save, ⟨fm, fn, fw, fi⟩, ⟨tm, tn, tw, ti⟩⟩ Y w = Wp.ArndPost Z Y w by rw [hZ]]
  clear hZ
  unfold Wp.momC at A1
  unfold Wp.swC at AF0 AT0
  unfold Wp.zoneC
  simp only [] at *
  have B00 := Lib.hid (Wp.below_box w (.cells #[.int .i64 base, .int .i64 save, .int .i64 fm, .int .i64 fn, .int .i64 fw, .int .i64 fi, .int .i64 tm, .int .i64 tn, .int .i64 tw, .int .i64 ti] 48))
  have X00 := Lib.hid (cv_new w (.cells #[.int .i64 base, .int .i64 save, .int .i64 fm, .int .i64 fn, .int .i64 fw, .int .i64 fi, .int .i64 tm, .int .i64 tn, .int .i64 tw, .int .i64 ti] 48))
  go_enter Tryd.func53, Tryd.ntmps53
  go_wp2_with fail
  refine (A1.out _).mono ?_
  rintro e w1 ⟨rfl, b1'⟩
  rw [World.size_alloc] at b1'
  have S1 : w.heap.size + 1 ≤ w1.heap.size := by have := b1'.size; rw [World.size_alloc] at this; omega
  have B0 := Lib.hid ((B00.out.trans (b1'.mono (by omega))).alloc (by omega) (.cells #[.int .i64 Y, .int .i64 MO, .int .i64 D, .int .i64 HO, .int .i64 MI, .int .i64 SS, .int .i64 K] 52))
  have XB := Lib.hid ((cv_past w1 (.cells #[.int .i64 Y, .int .i64 MO, .int .i64 D, .int .i64 HO, .int .i64 MI, .int .i64 SS, .int .i64 K] 52) w.heap.size (by omega)).trans ((b1'.block w.heap.size (by omega)).trans X00.out))
  have YB := Lib.hid (cv_new w1 (.cells #[.int .i64 Y, .int .i64 MO, .int .i64 D, .int .i64 HO, .int .i64 MI, .int .i64 SS, .int .i64 K] 52))
  obtain ⟨wB, hwB⟩ : ∃ wB, w1.alloc (.cells #[.int .i64 Y, .int .i64 MO, .int .i64 D, .int .i64 HO, .int .i64 MI, .int .i64 SS, .int .i64 K] 52) = wB := ⟨_, rfl⟩
  have SB : wB.heap.size = w1.heap.size + 1 := by rw [← hwB, World.size_alloc]
  rw [hwB] at B0 XB YB
  have HwB := Lib.hid hwB
  clear hwB b1' X00 B00 A1
  go_wp2_with fail
  rw [HwB.out]
  clear HwB
  go_loopw [8, 9, 10] (fun v bv yv wr => ∃ (j : Nat) (L : List (Int × Bool)), j ≤ 5 ∧ yv = .int .i64 (Y - 2 + j) ∧ Wp.Rd Z Y j 0 L ∧ Ar.Own wr (w1.heap.size + 1) v bv L ∧ Below (w1.heap.size + 1) wB wr) (fun _ _ yv _ => (Y + 3 - intOf yv).toNat)
  case atStart => exact ⟨0, [], by omega, by simp, Wp.Rd.start Z Y, Ar.Own.nil _ _, Below.refl _ _⟩
  case round =>
    obtain ⟨j, L, hj, rfl, hR, hO, hB⟩ := hrel
    have HR := Lib.hid hR
    have OR := Lib.hid hO
    have BR := Lib.hid hB
    have SR : w1.heap.size + 1 ≤ wr.heap.size := by have := hB.size; omega
    clear hR hO hB
    obtain ⟨c0, c1, c2, c3, c4, c5, c6, c7, c8, c9⟩ := Wp.ten_of ((BR.out.block w.heap.size (by omega)).trans XB.out)
    obtain ⟨d0, d1, d2, d3, d4, d5, d6⟩ := Wp.seven_of ((BR.out.block w1.heap.size (by omega)).trans YB.out)
    by_cases hlt : j < 5
    · have hle : Y - 2 + (j : Int) ≤ Y + 2 := by omega
      go_wp2_with fail
      clear c0 c1 c2 c3 c4 c5 c6 c7 c8 c9 d0 d1 d2 d3 d4 d5 d6
      go_loopw [8, 9, 11] (fun v bv kv wr => ∃ (kk : Nat) (kI : Int) (L : List (Int × Bool)), kk ≤ 2 ∧ kI = kk ∧ kv = .int .i64 kI ∧ Wp.Rd Z Y j kk L ∧ Ar.Own wr (w1.heap.size + 1) v bv L ∧ Below (w1.heap.size + 1) wB wr) (fun _ _ kv _ => (2 - intOf kv).toNat)
      case atStart => exact ⟨0, 0, L, by omega, rfl, rfl, HR.out, OR.out, BR.out⟩
      case round =>
        clear HR OR BR SR
        obtain ⟨kk, kI, L, hk, hkI, rfl, hR, hO, hB⟩ := hrel
        have HR := Lib.hid hR
        have OR := Lib.hid hO
        have BR := Lib.hid hB
        have SR : w1.heap.size + 1 ≤ wr.heap.size := by have := hB.size; omega
        clear hR hO hB
        obtain ⟨c0, c1, c2, c3, c4, c5, c6, c7, c8, c9⟩ := Wp.ten_of ((BR.out.block w.heap.size (by omega)).trans XB.out)
        by_cases hk2 : kk = 2
        · obtain rfl : kI = 2 := by omega
          subst hk2
          have HN := Lib.hid HR.out.next
          clear hkI hk c0 c1 c2 c3 c4 c5 c6 c7 c8 c9
          go_wp2_with fail
          exact ⟨⟨j + 1, L, by omega, by go_num, HN.out, OR.out, BR.out⟩, by simp [intOf]; omega⟩
        have hkc : kk = 0 ∨ kk = 1 := by omega
        rcases hkc with rfl | rfl
        · obtain rfl : kI = 0 := by omega
          clear hkI hk hk2
          go_wp2_with fail
          have nn := World.new_ne wr _ c0
          go_region_held3 (fun w' => w'.cell? ⟨w.heap.size, 0, none⟩ = some (.int .i64 base) ∧ w'.cell? ⟨w.heap.size, 1, none⟩ = some (.int .i64 save) ∧ w'.cell? ⟨w.heap.size, 2, none⟩ = some (.int .i64 fm) ∧ w'.cell? ⟨w.heap.size, 3, none⟩ = some (.int .i64 fn) ∧ w'.cell? ⟨w.heap.size, 4, none⟩ = some (.int .i64 fw) ∧ w'.cell? ⟨w.heap.size, 5, none⟩ = some (.int .i64 fi) ∧ w'.cell? ⟨w.heap.size, 6, none⟩ = some (.int .i64 tm) ∧ w'.cell? ⟨w.heap.size, 7, none⟩ = some (.int .i64 tn) ∧ w'.cell? ⟨w.heap.size, 8, none⟩ = some (.int .i64 tw) ∧ w'.cell? ⟨w.heap.size, 9, none⟩ = some (.int .i64 ti))
            (go_keep)
            (first | fail)
          clear nn
          go_wp2_with fail
          have hw2 : Below (w1.heap.size + 1) wB ((wr.alloc (.cells #[.int .i64 fm, .int .i64 fn, .int .i64 fw, .int .i64 fi] 46)).drew) := (BR.out.alloc SR (.cells #[.int .i64 fm, .int .i64 fn, .int .i64 fw, .int .i64 fi] 46)).drew
          have hw3 : Below wr.heap.size wr ((wr.alloc (.cells #[.int .i64 fm, .int .i64 fn, .int .i64 fw, .int .i64 fi] 46)).drew) := ((Below.refl _ _).alloc (Nat.le_refl _) (.cells #[.int .i64 fm, .int .i64 fn, .int .i64 fw, .int .i64 fi] 46)).drew
          have BW := Lib.hid hw2
          have OW := Lib.hid (OR.out.below hw3)
          have SW : w1.heap.size + 1 ≤ ((wr.alloc (.cells #[.int .i64 fm, .int .i64 fn, .int .i64 fw, .int .i64 fi] 46)).drew).heap.size := by have := hw2.size; omega
          clear hw2 hw3 OR BR SR c0 c1 c2 c3 c4 c5 c6 c7 c8 c9
          generalize ((wr.alloc (.cells #[.int .i64 fm, .int .i64 fn, .int .i64 fw, .int .i64 fi] 46)).drew) = W at *
          have AF := Lib.hid (AF0.out (Y - 2 + (j : Int)))
          have hV := hv0.out (Y - 2 + (j : Int))
          have hT := fun (h : Wp.swV ⟨fm, fn, fw, fi⟩ (Y - 2 + (j : Int)) base = true) => (show Wp.turnR ⟨fm, fn, fw, fi⟩ (Y - 2 + (j : Int)) base = Wp.swT ⟨fm, fn, fw, fi⟩ (Y - 2 + (j : Int)) base from if_pos (Wp.swV_iff.1 h).1).trans (ht0.out (Y - 2 + (j : Int))).symm
          generalize Wp.turnR ⟨fm, fn, fw, fi⟩ (Y - 2 + (j : Int)) base = T at *
          generalize Wp.swV ⟨fm, fn, fw, fi⟩ (Y - 2 + (j : Int)) base = V at *
          cases V with
          | false =>
            have HS := Lib.hid (HR.out.skip (q := false) hV)
            clear hT hV
            refine (AF.out _).mono ?_
            rintro e w2 ⟨rfl, hb⟩
            have B2 := Lib.hid (cv_then BW.out hb SW)
            have O2 := Lib.hid (OW.out.below hb)
            clear hb BW OW
            go_wp2_with fail
            exact ⟨⟨0 + 1, _, L, by omega, by rfl, rfl, HS.out, O2.out, B2.out⟩, by simp [intOf]⟩
          | true =>
            have HTT := hT rfl
            have HA := Lib.hid (fun i hi h1 h2 => HR.out.add (q := false) hV i hi h1 h2)
            rw [← HTT] at HA
            clear hT hV HTT
            refine (AF.out _).mono ?_
            rintro e w2 ⟨rfl, hb⟩
            have B2 := Lib.hid (cv_then BW.out hb SW)
            have O2 := Lib.hid (OW.out.below hb)
            have S2 : w1.heap.size + 1 ≤ w2.heap.size := by have := hb.size; omega
            clear hb BW OW SW
            obtain ⟨pa, ca, rfl, hpa, hca, hca2⟩ := Ar.slice O2.out.a
            obtain ⟨pb, cb, rfl, hpb, hcb, hcb2⟩ := Ar.slice O2.out.b
            rw [Ar.lenA] at hca
            rw [Ar.lenB] at hcb
            rw [show maxLen = 9223372036854775807 from rfl] at hca2 hcb2
            have HPA := Lib.hid hpa
            have HPB := Lib.hid hpb
            have hnl := HR.out.len
            clear hpa hpb
            rw [Ar.lenA, Ar.lenB]
            obtain ⟨n, hn⟩ : ∃ n, n = L.length := ⟨_, rfl⟩
            have Hn := Lib.hid hn
            rw [← hn] at hnl hca hcb
            rw [← hn]
            clear hn
            go_upto_block 4 with fail
            go_cut [16] from 37 to 101 (fun iv wx => wx = w2 ∧ ∃ i : Nat, i ≤ n ∧ iv = .int .i64 i ∧ Wp.Rd Z Y j (0 + 1) (L.take i ++ [(T, !false)] ++ L.drop i))
            case first =>
              go_wp2_with fail
              go_loopw [16] (fun iv wr' => ∃ i : Nat, i ≤ n ∧ iv = .int .i64 i ∧ Hid (∀ p (hp : p < L.length), p < i → L[p].1 < T) ∧ wr' = w2) (fun iv _ => (n : Int).toNat - (intOf iv).toNat)
              case atStart => exact ⟨0, Nat.zero_le _, rfl, Lib.hid (fun p _ h => absurd h (Nat.not_lt_zero _)), rfl⟩
              case round =>
                obtain ⟨i, hi, rfl, HL, rfl⟩ := hrel
                have fin : ∀ hx : (∀ hp : i < L.length, T ≤ L[i].1), Wp.Rd Z Y j (0 + 1) (L.take i ++ [(T, !false)] ++ L.drop i) := fun hx => HA.out i (by rw [← Hn.out]; exact hi) HL.out hx
                have FIN := Lib.hid fin
                clear fin
                by_cases hlt : i < n
                · obtain ⟨bb, off, hpe, hc⟩ := HPA.out.get i (by rw [Ar.lenA, ← Hn.out]; exact hlt)
                  subst hpe
                  have hil : i < L.length := by rw [← Hn.out]; exact hlt
                  obtain ⟨x, hx⟩ : ∃ x, x = L[i].1 := ⟨_, rfl⟩
                  rw [show (Ar.A L)[i]'(by rw [Ar.lenA]; exact hil) = x by rw [hx]; unfold Ar.A; rw [List.getElem_map]] at hc
                  unfold Wp.mkN at hc
                  have hi0 : (0 : Int) ≤ (i : Int) := by omega
                  have hi1 : (i : Int) < (n : Int) := by omega
                  by_cases hxT : x < T
                  · have HL2 := Lib.hid (show ∀ p (hp : p < L.length), p < i + 1 → L[p].1 < T from fun p hp hpi => by
                      by_cases e : p = i
                      · subst e; rw [← hx]; exact hxT
                      · exact HL.out p hp (by omega))
                    clear hx hil FIN
                    go_wp2_with fail
                    exact ⟨⟨i + 1, by omega, by go_num, HL2, by trivial⟩, by simp [intOf]; omega⟩
                  · have HS := Lib.hid (FIN.out (fun _ => by rw [← hx]; omega))
                    clear hx hil FIN HL
                    go_wp2_with fail
                    go_meet
                    exact ⟨rfl, i, hi, rfl, HS.out⟩
                · have HS := Lib.hid (FIN.out (fun hp => absurd hp (by rw [← Hn.out]; exact hlt)))
                  obtain rfl : i = n := by omega
                  clear FIN HL
                  go_wp2_with fail
                  go_meet
                  exact ⟨rfl, i, Nat.le_refl _, rfl, HS.out⟩
            case rest =>
              obtain ⟨hwc, i, hi, rfl, hR2⟩ := hcut
              obtain rfl : w2 = wc := hwc.symm
              have HR2 := Lib.hid hR2
              clear hR2 HA hwc
              have hi1 : (0 : Int) ≤ (i : Int) := by omega
              have hi2 : (i : Int) ≤ (ca : Int) := by omega
              have hi3 : (n : Int) ≤ (ca : Int) := by omega
              have hi4 : (i : Int) ≤ (n : Int) := by omega
              have hi5 : (i : Int) ≤ (cb : Int) := by omega
              have hi6 : (n : Int) ≤ (cb : Int) := by omega
              go_upto_region 18 with fail
              go_cut [8] from 37 to 101 (fun v wx => wx.ownsRow w2.heap.size 2 1 v ((Ar.A L).take i ++ [T] ++ (Ar.A L).drop i).length (((Ar.A L).take i ++ [T] ++ (Ar.A L).drop i).map Wp.mkN) ∧ Below w2.heap.size w2 wx)
              case first =>
                cases pa with
                | none =>
                  obtain ⟨hL0, hn0, hc0⟩ := Ar.ifNone O2.out.a
                  have hn1 : n = 0 := by rw [Hn.out, ← Ar.lenA]; exact hn0
                  subst hn1 hc0
                  obtain rfl : i = 0 := by omega
                  go_region_law (first
                    | (refine Ow.step (mk := Wp.mkN) rfl _ _ _ rfl (fun _ => rfl) tyInt64s ([] ++ (Ar.A L).take 0 ++ [T]) ((Ar.A L).drop 0) vb _ _ _ w2.heap.size rfl rfl hob (Or.inl (by rw [hL0]; rfl)) (by rw [List.length_drop, Ar.lenA, ← Hn.out]) (by rw [List.nil_append, List.length_append, List.length_take, Ar.lenA, ← Hn.out, List.length_singleton]; omega) (by rw [List.length_drop, Ar.lenA, ← Hn.out]; omega) eb.size ?_; intro vc wc3 hoc hgc; have ec := Ow.grown eb hob hgc eb.size)
                    | (refine Ow.step (mk := Wp.mkN) rfl _ _ _ rfl (fun _ => rfl) tyInt64s ([] ++ (Ar.A L).take 0) [T] va _ _ _ w2.heap.size rfl rfl (hoa) (Ow.one hB) rfl (by rw [List.nil_append, List.length_take, Ar.lenA, ← Hn.out]; omega) (by simp) (ea).size ?_; intro vb wb hob hgb; have eb := Ow.grown (ea) (hoa) hgb (ea).size)
                    | (refine Ow.step (mk := Wp.mkN) rfl _ _ _ rfl (fun _ => rfl) tyInt64s ([] ++ (Ar.A L).take 0) [T] va _ _ _ w2.heap.size rfl rfl (hoa.alloc _) (Ow.one (Ow.n3 wa 2 _)) rfl (by rw [List.nil_append, List.length_take, Ar.lenA, ← Hn.out]; omega) (by simp) (ea.alloc ea.size _).size ?_; intro vb wb hob hgb; have eb := Ow.grown (ea.alloc ea.size _) (hoa.alloc _) hgb (ea.alloc ea.size _).size)
                    | (refine Ow.step (mk := Wp.mkN) rfl _ _ _ rfl (fun _ => rfl) tyInt64s [] ((Ar.A L).take 0) (.slice (some ⟨w2.heap.size, 0, none⟩) 0 0) _ _ _ w2.heap.size rfl rfl (Ow.a1 w2 2) ((HPA.out.take 0).below (Ow.a2 w2 (.cells #[] 2))) (by rw [List.length_take, Ar.lenA, ← Hn.out]; omega) (by simp) (by rw [List.length_take, Ar.lenA, ← Hn.out]; omega) (Ow.a2 w2 (.cells #[] 2)).size ?_; intro va wa hoa hga; have ea := Ow.grown (Ow.a2 w2 (.cells #[] 2)) (Ow.a1 w2 2) hga (Ow.a2 w2 (.cells #[] 2)).size)
                    | (refine Ow.step (mk := Wp.mkN) rfl _ _ _ rfl (fun _ => rfl) tyInt64s [] ((Ar.A L).take 0) (.slice (some ⟨w2.heap.size, 0, none⟩) 0 0) _ _ _ w2.heap.size rfl rfl (Ow.b1 w2 2 (.cells #[.int .i64 T] 2)) ((HPA.out.take 0).below (Ow.b2 w2 (.cells #[] 2) (.cells #[.int .i64 T] 2))) (by rw [List.length_take, Ar.lenA, ← Hn.out]; omega) (by simp) (by rw [List.length_take, Ar.lenA, ← Hn.out]; omega) (Ow.b2 w2 (.cells #[] 2) (.cells #[.int .i64 T] 2)).size ?_; intro va wa hoa hga; have ea := Ow.grown (Ow.b2 w2 (.cells #[] 2) (.cells #[.int .i64 T] 2)) (Ow.b1 w2 2 (.cells #[.int .i64 T] 2)) hga (Ow.b2 w2 (.cells #[] 2) (.cells #[.int .i64 T] 2)).size; have hB := hga.cell (Ow.b3 w2 2 (.cells #[] 2) (.int .i64 T)) (by simp [Value.ownBlock]))
                    | (refine Ow.step (mk := Wp.mkN) rfl _ _ _ rfl (fun _ => rfl) tyInt64s [] ((Ar.A L).take 0) (.slice (some ⟨w2.heap.size + 1, 0, none⟩) 0 0) _ _ _ w2.heap.size rfl rfl (Ow.c1 w2 2 (.cells #[.int .i64 T] 2)) ((HPA.out.take 0).below (Ow.b2 w2 (.cells #[.int .i64 T] 2) (.cells #[] 2))) (by rw [List.length_take, Ar.lenA, ← Hn.out]; omega) (by simp) (by rw [List.length_take, Ar.lenA, ← Hn.out]; omega) (Ow.b2 w2 (.cells #[.int .i64 T] 2) (.cells #[] 2)).size ?_; intro va wa hoa hga; have ea := Ow.grown (Ow.b2 w2 (.cells #[.int .i64 T] 2) (.cells #[] 2)) (Ow.c1 w2 2 (.cells #[.int .i64 T] 2)) hga (Ow.b2 w2 (.cells #[.int .i64 T] 2) (.cells #[] 2)).size; have hB := hga.cell (Ow.c3 w2 2 (.cells #[] 2) (.int .i64 T)) (by simp [Value.ownBlock])))
                  all_goals (try go_wp2_with fail)
                  all_goals go_meet
                  all_goals exact ⟨hoc, ec⟩
                | some ad =>
                  obtain ⟨ga, hga, hgl⟩ := Ar.ifSome O2.out.a
                  subst hga
                  go_region_law (first
                    | (refine Ow.step (mk := Wp.mkN) rfl _ _ _ rfl (fun _ => rfl) tyInt64s ([] ++ (Ar.A L).take i ++ [T]) ((Ar.A L).drop i) vb _ _ _ w2.heap.size rfl rfl hob ((HPA.out.dropIf (c := ca) i (by rw [Ar.lenA, ← Hn.out]; omega)).below eb) (by rw [List.length_drop, Ar.lenA, ← Hn.out]) (by rw [List.nil_append, List.length_append, List.length_take, Ar.lenA, ← Hn.out, List.length_singleton]; omega) (by rw [List.length_drop, Ar.lenA, ← Hn.out]; omega) eb.size ?_; intro vc wc3 hoc hgc; have ec := Ow.grown eb hob hgc eb.size)
                    | (refine Ow.step (mk := Wp.mkN) rfl _ _ _ rfl (fun _ => rfl) tyInt64s ([] ++ (Ar.A L).take i) [T] va _ _ _ w2.heap.size rfl rfl (hoa) (Ow.one hB) rfl (by rw [List.nil_append, List.length_take, Ar.lenA, ← Hn.out]; omega) (by simp) (ea).size ?_; intro vb wb hob hgb; have eb := Ow.grown (ea) (hoa) hgb (ea).size)
                    | (refine Ow.step (mk := Wp.mkN) rfl _ _ _ rfl (fun _ => rfl) tyInt64s ([] ++ (Ar.A L).take i) [T] va _ _ _ w2.heap.size rfl rfl (hoa.alloc _) (Ow.one (Ow.n3 wa 2 _)) rfl (by rw [List.nil_append, List.length_take, Ar.lenA, ← Hn.out]; omega) (by simp) (ea.alloc ea.size _).size ?_; intro vb wb hob hgb; have eb := Ow.grown (ea.alloc ea.size _) (hoa.alloc _) hgb (ea.alloc ea.size _).size)
                    | (refine Ow.step (mk := Wp.mkN) rfl _ _ _ rfl (fun _ => rfl) tyInt64s [] ((Ar.A L).take i) (.slice (some ⟨w2.heap.size, 0, none⟩) 0 0) _ _ _ w2.heap.size rfl rfl (Ow.a1 w2 2) ((HPA.out.take i).below (Ow.a2 w2 (.cells #[] 2))) (by rw [List.length_take, Ar.lenA, ← Hn.out]; omega) (by simp) (by rw [List.length_take, Ar.lenA, ← Hn.out]; omega) (Ow.a2 w2 (.cells #[] 2)).size ?_; intro va wa hoa hga; have ea := Ow.grown (Ow.a2 w2 (.cells #[] 2)) (Ow.a1 w2 2) hga (Ow.a2 w2 (.cells #[] 2)).size)
                    | (refine Ow.step (mk := Wp.mkN) rfl _ _ _ rfl (fun _ => rfl) tyInt64s [] ((Ar.A L).take i) (.slice (some ⟨w2.heap.size, 0, none⟩) 0 0) _ _ _ w2.heap.size rfl rfl (Ow.b1 w2 2 (.cells #[.int .i64 T] 2)) ((HPA.out.take i).below (Ow.b2 w2 (.cells #[] 2) (.cells #[.int .i64 T] 2))) (by rw [List.length_take, Ar.lenA, ← Hn.out]; omega) (by simp) (by rw [List.length_take, Ar.lenA, ← Hn.out]; omega) (Ow.b2 w2 (.cells #[] 2) (.cells #[.int .i64 T] 2)).size ?_; intro va wa hoa hga; have ea := Ow.grown (Ow.b2 w2 (.cells #[] 2) (.cells #[.int .i64 T] 2)) (Ow.b1 w2 2 (.cells #[.int .i64 T] 2)) hga (Ow.b2 w2 (.cells #[] 2) (.cells #[.int .i64 T] 2)).size; have hB := hga.cell (Ow.b3 w2 2 (.cells #[] 2) (.int .i64 T)) (by simp [Value.ownBlock]))
                    | (refine Ow.step (mk := Wp.mkN) rfl _ _ _ rfl (fun _ => rfl) tyInt64s [] ((Ar.A L).take i) (.slice (some ⟨w2.heap.size + 1, 0, none⟩) 0 0) _ _ _ w2.heap.size rfl rfl (Ow.c1 w2 2 (.cells #[.int .i64 T] 2)) ((HPA.out.take i).below (Ow.b2 w2 (.cells #[.int .i64 T] 2) (.cells #[] 2))) (by rw [List.length_take, Ar.lenA, ← Hn.out]; omega) (by simp) (by rw [List.length_take, Ar.lenA, ← Hn.out]; omega) (Ow.b2 w2 (.cells #[.int .i64 T] 2) (.cells #[] 2)).size ?_; intro va wa hoa hga; have ea := Ow.grown (Ow.b2 w2 (.cells #[.int .i64 T] 2) (.cells #[] 2)) (Ow.c1 w2 2 (.cells #[.int .i64 T] 2)) hga (Ow.b2 w2 (.cells #[.int .i64 T] 2) (.cells #[] 2)).size; have hB := hga.cell (Ow.c3 w2 2 (.cells #[] 2) (.int .i64 T)) (by simp [Value.ownBlock])))
                  all_goals (try go_wp2_with fail)
                  all_goals go_meet
                  all_goals exact ⟨hoc, ec⟩
              case rest =>
                obtain ⟨ho8, hb8⟩ := hcut
                obtain ⟨w3, hw3⟩ : ∃ w3, w3 = wc := ⟨_, rfl⟩
                rw [← hw3] at ho8 hb8 ⊢
                clear hw3
                have HO8 := Lib.hid ho8
                have HB8 := Lib.hid hb8
                have HPB3 := Lib.hid (HPB.out.below hb8)
                have O3 := Lib.hid (ownsRow_below O2.out.b hb8)
                have S3 : w1.heap.size + 1 ≤ w3.heap.size := by have := hb8.size; omega
                clear ho8 hb8 HPA HPB
                go_upto_region 19 with fail
                cases pb with
                | none =>
                  obtain ⟨hL0, hn0, hc0⟩ := Ar.ifNone O3.out
                  have hn1 : n = 0 := by rw [Hn.out, ← Ar.lenB]; exact hn0
                  subst hn1 hc0
                  obtain rfl : i = 0 := by omega
                  go_region_law (first
                    | (refine Ow.step (mk := Wp.mkB) rfl _ _ _ rfl (fun _ => rfl) tyBools ([] ++ (Ar.B L).take 0 ++ [!false]) ((Ar.B L).drop 0) vb _ _ _ w3.heap.size rfl rfl hob (Or.inl (by rw [hL0]; rfl)) (by rw [List.length_drop, Ar.lenB, ← Hn.out]) (by rw [List.nil_append, List.length_append, List.length_take, Ar.lenB, ← Hn.out, List.length_singleton]; omega) (by rw [List.length_drop, Ar.lenB, ← Hn.out]; omega) eb.size ?_; intro vc wc3 hoc hgc; have ec := Ow.grown eb hob hgc eb.size)
                    | (refine Ow.step (mk := Wp.mkB) rfl _ _ _ rfl (fun _ => rfl) tyBools ([] ++ (Ar.B L).take 0) [!false] va _ _ _ w3.heap.size rfl rfl (hoa) (Ow.one hB) rfl (by rw [List.nil_append, List.length_take, Ar.lenB, ← Hn.out]; omega) (by simp) (ea).size ?_; intro vb wb hob hgb; have eb := Ow.grown (ea) (hoa) hgb (ea).size)
                    | (refine Ow.step (mk := Wp.mkB) rfl _ _ _ rfl (fun _ => rfl) tyBools ([] ++ (Ar.B L).take 0) [!false] va _ _ _ w3.heap.size rfl rfl (hoa.alloc _) (Ow.one (Ow.n3 wa 4 _)) rfl (by rw [List.nil_append, List.length_take, Ar.lenB, ← Hn.out]; omega) (by simp) (ea.alloc ea.size _).size ?_; intro vb wb hob hgb; have eb := Ow.grown (ea.alloc ea.size _) (hoa.alloc _) hgb (ea.alloc ea.size _).size)
                    | (refine Ow.step (mk := Wp.mkB) rfl _ _ _ rfl (fun _ => rfl) tyBools [] ((Ar.B L).take 0) (.slice (some ⟨w3.heap.size, 0, none⟩) 0 0) _ _ _ w3.heap.size rfl rfl (Ow.a1 w3 4) ((HPB3.out.take 0).below (Ow.a2 w3 (.cells #[] 4))) (by rw [List.length_take, Ar.lenB, ← Hn.out]; omega) (by simp) (by rw [List.length_take, Ar.lenB, ← Hn.out]; omega) (Ow.a2 w3 (.cells #[] 4)).size ?_; intro va wa hoa hga; have ea := Ow.grown (Ow.a2 w3 (.cells #[] 4)) (Ow.a1 w3 4) hga (Ow.a2 w3 (.cells #[] 4)).size)
                    | (refine Ow.step (mk := Wp.mkB) rfl _ _ _ rfl (fun _ => rfl) tyBools [] ((Ar.B L).take 0) (.slice (some ⟨w3.heap.size, 0, none⟩) 0 0) _ _ _ w3.heap.size rfl rfl (Ow.b1 w3 4 (.cells #[.bool true] 4)) ((HPB3.out.take 0).below (Ow.b2 w3 (.cells #[] 4) (.cells #[.bool true] 4))) (by rw [List.length_take, Ar.lenB, ← Hn.out]; omega) (by simp) (by rw [List.length_take, Ar.lenB, ← Hn.out]; omega) (Ow.b2 w3 (.cells #[] 4) (.cells #[.bool true] 4)).size ?_; intro va wa hoa hga; have ea := Ow.grown (Ow.b2 w3 (.cells #[] 4) (.cells #[.bool true] 4)) (Ow.b1 w3 4 (.cells #[.bool true] 4)) hga (Ow.b2 w3 (.cells #[] 4) (.cells #[.bool true] 4)).size; have hB := hga.cell (Ow.b3 w3 4 (.cells #[] 4) (.bool true)) (by simp [Value.ownBlock]))
                    | (refine Ow.step (mk := Wp.mkB) rfl _ _ _ rfl (fun _ => rfl) tyBools [] ((Ar.B L).take 0) (.slice (some ⟨w3.heap.size + 1, 0, none⟩) 0 0) _ _ _ w3.heap.size rfl rfl (Ow.c1 w3 4 (.cells #[.bool true] 4)) ((HPB3.out.take 0).below (Ow.b2 w3 (.cells #[.bool true] 4) (.cells #[] 4))) (by rw [List.length_take, Ar.lenB, ← Hn.out]; omega) (by simp) (by rw [List.length_take, Ar.lenB, ← Hn.out]; omega) (Ow.b2 w3 (.cells #[.bool true] 4) (.cells #[] 4)).size ?_; intro va wa hoa hga; have ea := Ow.grown (Ow.b2 w3 (.cells #[.bool true] 4) (.cells #[] 4)) (Ow.c1 w3 4 (.cells #[.bool true] 4)) hga (Ow.b2 w3 (.cells #[.bool true] 4) (.cells #[] 4)).size; have hB := hga.cell (Ow.c3 w3 4 (.cells #[] 4) (.bool true)) (by simp [Value.ownBlock])))
                  all_goals
                    have ON := Lib.hid (show Ar.Own wc3 (w1.heap.size + 1) _ _ (L.take 0 ++ [(T, !false)] ++ L.drop 0) from ⟨by rw [Ar.putA]; exact Ar.base (ownsRow_below HO8.out ec) (by omega), by rw [Ar.putB]; exact Ar.base hoc (by omega)⟩)
                    have BN := Lib.hid (B2.out.trans ((HB8.out.mono S2).trans (ec.mono S3)))
                    go_wp2_with fail
                    exact ⟨⟨0 + 1, _, _, by omega, by rfl, rfl, HR2.out, ON.out, BN.out⟩, by simp [intOf]⟩
                | some ad =>
                  obtain ⟨ga, hga, hgl⟩ := Ar.ifSome O3.out
                  subst hga
                  go_region_law (first
                    | (refine Ow.step (mk := Wp.mkB) rfl _ _ _ rfl (fun _ => rfl) tyBools ([] ++ (Ar.B L).take i ++ [!false]) ((Ar.B L).drop i) vb _ _ _ w3.heap.size rfl rfl hob ((HPB3.out.dropIf (c := cb) i (by rw [Ar.lenB, ← Hn.out]; omega)).below eb) (by rw [List.length_drop, Ar.lenB, ← Hn.out]) (by rw [List.nil_append, List.length_append, List.length_take, Ar.lenB, ← Hn.out, List.length_singleton]; omega) (by rw [List.length_drop, Ar.lenB, ← Hn.out]; omega) eb.size ?_; intro vc wc3 hoc hgc; have ec := Ow.grown eb hob hgc eb.size)
                    | (refine Ow.step (mk := Wp.mkB) rfl _ _ _ rfl (fun _ => rfl) tyBools ([] ++ (Ar.B L).take i) [!false] va _ _ _ w3.heap.size rfl rfl (hoa) (Ow.one hB) rfl (by rw [List.nil_append, List.length_take, Ar.lenB, ← Hn.out]; omega) (by simp) (ea).size ?_; intro vb wb hob hgb; have eb := Ow.grown (ea) (hoa) hgb (ea).size)
                    | (refine Ow.step (mk := Wp.mkB) rfl _ _ _ rfl (fun _ => rfl) tyBools ([] ++ (Ar.B L).take i) [!false] va _ _ _ w3.heap.size rfl rfl (hoa.alloc _) (Ow.one (Ow.n3 wa 4 _)) rfl (by rw [List.nil_append, List.length_take, Ar.lenB, ← Hn.out]; omega) (by simp) (ea.alloc ea.size _).size ?_; intro vb wb hob hgb; have eb := Ow.grown (ea.alloc ea.size _) (hoa.alloc _) hgb (ea.alloc ea.size _).size)
                    | (refine Ow.step (mk := Wp.mkB) rfl _ _ _ rfl (fun _ => rfl) tyBools [] ((Ar.B L).take i) (.slice (some ⟨w3.heap.size, 0, none⟩) 0 0) _ _ _ w3.heap.size rfl rfl (Ow.a1 w3 4) ((HPB3.out.take i).below (Ow.a2 w3 (.cells #[] 4))) (by rw [List.length_take, Ar.lenB, ← Hn.out]; omega) (by simp) (by rw [List.length_take, Ar.lenB, ← Hn.out]; omega) (Ow.a2 w3 (.cells #[] 4)).size ?_; intro va wa hoa hga; have ea := Ow.grown (Ow.a2 w3 (.cells #[] 4)) (Ow.a1 w3 4) hga (Ow.a2 w3 (.cells #[] 4)).size)
                    | (refine Ow.step (mk := Wp.mkB) rfl _ _ _ rfl (fun _ => rfl) tyBools [] ((Ar.B L).take i) (.slice (some ⟨w3.heap.size, 0, none⟩) 0 0) _ _ _ w3.heap.size rfl rfl (Ow.b1 w3 4 (.cells #[.bool true] 4)) ((HPB3.out.take i).below (Ow.b2 w3 (.cells #[] 4) (.cells #[.bool true] 4))) (by rw [List.length_take, Ar.lenB, ← Hn.out]; omega) (by simp) (by rw [List.length_take, Ar.lenB, ← Hn.out]; omega) (Ow.b2 w3 (.cells #[] 4) (.cells #[.bool true] 4)).size ?_; intro va wa hoa hga; have ea := Ow.grown (Ow.b2 w3 (.cells #[] 4) (.cells #[.bool true] 4)) (Ow.b1 w3 4 (.cells #[.bool true] 4)) hga (Ow.b2 w3 (.cells #[] 4) (.cells #[.bool true] 4)).size; have hB := hga.cell (Ow.b3 w3 4 (.cells #[] 4) (.bool true)) (by simp [Value.ownBlock]))
                    | (refine Ow.step (mk := Wp.mkB) rfl _ _ _ rfl (fun _ => rfl) tyBools [] ((Ar.B L).take i) (.slice (some ⟨w3.heap.size + 1, 0, none⟩) 0 0) _ _ _ w3.heap.size rfl rfl (Ow.c1 w3 4 (.cells #[.bool true] 4)) ((HPB3.out.take i).below (Ow.b2 w3 (.cells #[.bool true] 4) (.cells #[] 4))) (by rw [List.length_take, Ar.lenB, ← Hn.out]; omega) (by simp) (by rw [List.length_take, Ar.lenB, ← Hn.out]; omega) (Ow.b2 w3 (.cells #[.bool true] 4) (.cells #[] 4)).size ?_; intro va wa hoa hga; have ea := Ow.grown (Ow.b2 w3 (.cells #[.bool true] 4) (.cells #[] 4)) (Ow.c1 w3 4 (.cells #[.bool true] 4)) hga (Ow.b2 w3 (.cells #[.bool true] 4) (.cells #[] 4)).size; have hB := hga.cell (Ow.c3 w3 4 (.cells #[] 4) (.bool true)) (by simp [Value.ownBlock])))
                  all_goals
                    have ON := Lib.hid (show Ar.Own wc3 (w1.heap.size + 1) _ _ (L.take i ++ [(T, !false)] ++ L.drop i) from ⟨by rw [Ar.putA]; exact Ar.base (ownsRow_below HO8.out ec) (by omega), by rw [Ar.putB]; exact Ar.base hoc (by omega)⟩)
                    have BN := Lib.hid (B2.out.trans ((HB8.out.mono S2).trans (ec.mono S3)))
                    go_wp2_with fail
                    exact ⟨⟨0 + 1, _, _, by omega, by rfl, rfl, HR2.out, ON.out, BN.out⟩, by simp [intOf]⟩
        · obtain rfl : kI = 1 := by omega
          clear hkI hk hk2
          go_wp2_with fail
          have nn := World.new_ne wr _ c0
          go_region_held3 (fun w' => w'.cell? ⟨w.heap.size, 0, none⟩ = some (.int .i64 base) ∧ w'.cell? ⟨w.heap.size, 1, none⟩ = some (.int .i64 save) ∧ w'.cell? ⟨w.heap.size, 2, none⟩ = some (.int .i64 fm) ∧ w'.cell? ⟨w.heap.size, 3, none⟩ = some (.int .i64 fn) ∧ w'.cell? ⟨w.heap.size, 4, none⟩ = some (.int .i64 fw) ∧ w'.cell? ⟨w.heap.size, 5, none⟩ = some (.int .i64 fi) ∧ w'.cell? ⟨w.heap.size, 6, none⟩ = some (.int .i64 tm) ∧ w'.cell? ⟨w.heap.size, 7, none⟩ = some (.int .i64 tn) ∧ w'.cell? ⟨w.heap.size, 8, none⟩ = some (.int .i64 tw) ∧ w'.cell? ⟨w.heap.size, 9, none⟩ = some (.int .i64 ti))
            (go_keep)
            (first | fail)
          clear nn
          go_wp2_with fail
          go_region_held3 (fun w' => w'.cell? ⟨w.heap.size, 0, none⟩ = some (.int .i64 base) ∧ w'.cell? ⟨w.heap.size, 1, none⟩ = some (.int .i64 save) ∧ w'.cell? ⟨w.heap.size, 2, none⟩ = some (.int .i64 fm) ∧ w'.cell? ⟨w.heap.size, 3, none⟩ = some (.int .i64 fn) ∧ w'.cell? ⟨w.heap.size, 4, none⟩ = some (.int .i64 fw) ∧ w'.cell? ⟨w.heap.size, 5, none⟩ = some (.int .i64 fi) ∧ w'.cell? ⟨w.heap.size, 6, none⟩ = some (.int .i64 tm) ∧ w'.cell? ⟨w.heap.size, 7, none⟩ = some (.int .i64 tn) ∧ w'.cell? ⟨w.heap.size, 8, none⟩ = some (.int .i64 tw) ∧ w'.cell? ⟨w.heap.size, 9, none⟩ = some (.int .i64 ti))
            (go_keep)
            (first | fail)
          go_wp2_with fail
          have hw2 : Below (w1.heap.size + 1) wB ((wr.alloc (.cells #[.int .i64 tm, .int .i64 tn, .int .i64 tw, .int .i64 ti] 46)).drew.drew) := ((BR.out.alloc SR (.cells #[.int .i64 tm, .int .i64 tn, .int .i64 tw, .int .i64 ti] 46)).drew).drew
          have hw3 : Below wr.heap.size wr ((wr.alloc (.cells #[.int .i64 tm, .int .i64 tn, .int .i64 tw, .int .i64 ti] 46)).drew.drew) := (((Below.refl _ _).alloc (Nat.le_refl _) (.cells #[.int .i64 tm, .int .i64 tn, .int .i64 tw, .int .i64 ti] 46)).drew).drew
          have BW := Lib.hid hw2
          have OW := Lib.hid (OR.out.below hw3)
          have SW : w1.heap.size + 1 ≤ ((wr.alloc (.cells #[.int .i64 tm, .int .i64 tn, .int .i64 tw, .int .i64 ti] 46)).drew.drew).heap.size := by have := hw2.size; omega
          clear hw2 hw3 OR BR SR c0 c1 c2 c3 c4 c5 c6 c7 c8 c9
          generalize ((wr.alloc (.cells #[.int .i64 tm, .int .i64 tn, .int .i64 tw, .int .i64 ti] 46)).drew.drew) = W at *
          have AF := Lib.hid (AT0.out (Y - 2 + (j : Int)))
          have hV := hv1.out (Y - 2 + (j : Int))
          have hT := fun (h : Wp.swV ⟨tm, tn, tw, ti⟩ (Y - 2 + (j : Int)) (base + save) = true) => (show Wp.turnR ⟨tm, tn, tw, ti⟩ (Y - 2 + (j : Int)) (base + save) = Wp.swT ⟨tm, tn, tw, ti⟩ (Y - 2 + (j : Int)) (base + save) from if_pos (Wp.swV_iff.1 h).1).trans (ht1.out (Y - 2 + (j : Int))).symm
          generalize Wp.turnR ⟨tm, tn, tw, ti⟩ (Y - 2 + (j : Int)) (base + save) = T at *
          generalize Wp.swV ⟨tm, tn, tw, ti⟩ (Y - 2 + (j : Int)) (base + save) = V at *
          cases V with
          | false =>
            have HS := Lib.hid (HR.out.skip (q := true) hV)
            clear hT hV
            refine (AF.out _).mono ?_
            rintro e w2 ⟨rfl, hb⟩
            have B2 := Lib.hid (cv_then BW.out hb SW)
            have O2 := Lib.hid (OW.out.below hb)
            clear hb BW OW
            go_wp2_with fail
            exact ⟨⟨1 + 1, _, L, by omega, by rfl, rfl, HS.out, O2.out, B2.out⟩, by simp [intOf]⟩
          | true =>
            have HTT := hT rfl
            have HA := Lib.hid (fun i hi h1 h2 => HR.out.add (q := true) hV i hi h1 h2)
            rw [← HTT] at HA
            clear hT hV HTT
            refine (AF.out _).mono ?_
            rintro e w2 ⟨rfl, hb⟩
            have B2 := Lib.hid (cv_then BW.out hb SW)
            have O2 := Lib.hid (OW.out.below hb)
            have S2 : w1.heap.size + 1 ≤ w2.heap.size := by have := hb.size; omega
            clear hb BW OW SW
            obtain ⟨pa, ca, rfl, hpa, hca, hca2⟩ := Ar.slice O2.out.a
            obtain ⟨pb, cb, rfl, hpb, hcb, hcb2⟩ := Ar.slice O2.out.b
            rw [Ar.lenA] at hca
            rw [Ar.lenB] at hcb
            rw [show maxLen = 9223372036854775807 from rfl] at hca2 hcb2
            have HPA := Lib.hid hpa
            have HPB := Lib.hid hpb
            have hnl := HR.out.len
            clear hpa hpb
            rw [Ar.lenA, Ar.lenB]
            obtain ⟨n, hn⟩ : ∃ n, n = L.length := ⟨_, rfl⟩
            have Hn := Lib.hid hn
            rw [← hn] at hnl hca hcb
            rw [← hn]
            clear hn
            go_upto_block 4 with fail
            go_cut [16] from 37 to 101 (fun iv wx => wx = w2 ∧ ∃ i : Nat, i ≤ n ∧ iv = .int .i64 i ∧ Wp.Rd Z Y j (1 + 1) (L.take i ++ [(T, !true)] ++ L.drop i))
            case first =>
              go_wp2_with fail
              go_loopw [16] (fun iv wr' => ∃ i : Nat, i ≤ n ∧ iv = .int .i64 i ∧ Hid (∀ p (hp : p < L.length), p < i → L[p].1 < T) ∧ wr' = w2) (fun iv _ => (n : Int).toNat - (intOf iv).toNat)
              case atStart => exact ⟨0, Nat.zero_le _, rfl, Lib.hid (fun p _ h => absurd h (Nat.not_lt_zero _)), rfl⟩
              case round =>
                obtain ⟨i, hi, rfl, HL, rfl⟩ := hrel
                have fin : ∀ hx : (∀ hp : i < L.length, T ≤ L[i].1), Wp.Rd Z Y j (1 + 1) (L.take i ++ [(T, !true)] ++ L.drop i) := fun hx => HA.out i (by rw [← Hn.out]; exact hi) HL.out hx
                have FIN := Lib.hid fin
                clear fin
                by_cases hlt : i < n
                · obtain ⟨bb, off, hpe, hc⟩ := HPA.out.get i (by rw [Ar.lenA, ← Hn.out]; exact hlt)
                  subst hpe
                  have hil : i < L.length := by rw [← Hn.out]; exact hlt
                  obtain ⟨x, hx⟩ : ∃ x, x = L[i].1 := ⟨_, rfl⟩
                  rw [show (Ar.A L)[i]'(by rw [Ar.lenA]; exact hil) = x by rw [hx]; unfold Ar.A; rw [List.getElem_map]] at hc
                  unfold Wp.mkN at hc
                  have hi0 : (0 : Int) ≤ (i : Int) := by omega
                  have hi1 : (i : Int) < (n : Int) := by omega
                  by_cases hxT : x < T
                  · have HL2 := Lib.hid (show ∀ p (hp : p < L.length), p < i + 1 → L[p].1 < T from fun p hp hpi => by
                      by_cases e : p = i
                      · subst e; rw [← hx]; exact hxT
                      · exact HL.out p hp (by omega))
                    clear hx hil FIN
                    go_wp2_with fail
                    exact ⟨⟨i + 1, by omega, by go_num, HL2, by trivial⟩, by simp [intOf]; omega⟩
                  · have HS := Lib.hid (FIN.out (fun _ => by rw [← hx]; omega))
                    clear hx hil FIN HL
                    go_wp2_with fail
                    go_meet
                    exact ⟨rfl, i, hi, rfl, HS.out⟩
                · have HS := Lib.hid (FIN.out (fun hp => absurd hp (by rw [← Hn.out]; exact hlt)))
                  obtain rfl : i = n := by omega
                  clear FIN HL
                  go_wp2_with fail
                  go_meet
                  exact ⟨rfl, i, Nat.le_refl _, rfl, HS.out⟩
            case rest =>
              obtain ⟨hwc, i, hi, rfl, hR2⟩ := hcut
              obtain rfl : w2 = wc := hwc.symm
              have HR2 := Lib.hid hR2
              clear hR2 HA hwc
              have hi1 : (0 : Int) ≤ (i : Int) := by omega
              have hi2 : (i : Int) ≤ (ca : Int) := by omega
              have hi3 : (n : Int) ≤ (ca : Int) := by omega
              have hi4 : (i : Int) ≤ (n : Int) := by omega
              have hi5 : (i : Int) ≤ (cb : Int) := by omega
              have hi6 : (n : Int) ≤ (cb : Int) := by omega
              go_upto_region 18 with fail
              go_cut [8] from 37 to 101 (fun v wx => wx.ownsRow w2.heap.size 2 1 v ((Ar.A L).take i ++ [T] ++ (Ar.A L).drop i).length (((Ar.A L).take i ++ [T] ++ (Ar.A L).drop i).map Wp.mkN) ∧ Below w2.heap.size w2 wx)
              case first =>
                cases pa with
                | none =>
                  obtain ⟨hL0, hn0, hc0⟩ := Ar.ifNone O2.out.a
                  have hn1 : n = 0 := by rw [Hn.out, ← Ar.lenA]; exact hn0
                  subst hn1 hc0
                  obtain rfl : i = 0 := by omega
                  go_region_law (first
                    | (refine Ow.step (mk := Wp.mkN) rfl _ _ _ rfl (fun _ => rfl) tyInt64s ([] ++ (Ar.A L).take 0 ++ [T]) ((Ar.A L).drop 0) vb _ _ _ w2.heap.size rfl rfl hob (Or.inl (by rw [hL0]; rfl)) (by rw [List.length_drop, Ar.lenA, ← Hn.out]) (by rw [List.nil_append, List.length_append, List.length_take, Ar.lenA, ← Hn.out, List.length_singleton]; omega) (by rw [List.length_drop, Ar.lenA, ← Hn.out]; omega) eb.size ?_; intro vc wc3 hoc hgc; have ec := Ow.grown eb hob hgc eb.size)
                    | (refine Ow.step (mk := Wp.mkN) rfl _ _ _ rfl (fun _ => rfl) tyInt64s ([] ++ (Ar.A L).take 0) [T] va _ _ _ w2.heap.size rfl rfl (hoa) (Ow.one hB) rfl (by rw [List.nil_append, List.length_take, Ar.lenA, ← Hn.out]; omega) (by simp) (ea).size ?_; intro vb wb hob hgb; have eb := Ow.grown (ea) (hoa) hgb (ea).size)
                    | (refine Ow.step (mk := Wp.mkN) rfl _ _ _ rfl (fun _ => rfl) tyInt64s ([] ++ (Ar.A L).take 0) [T] va _ _ _ w2.heap.size rfl rfl (hoa.alloc _) (Ow.one (Ow.n3 wa 2 _)) rfl (by rw [List.nil_append, List.length_take, Ar.lenA, ← Hn.out]; omega) (by simp) (ea.alloc ea.size _).size ?_; intro vb wb hob hgb; have eb := Ow.grown (ea.alloc ea.size _) (hoa.alloc _) hgb (ea.alloc ea.size _).size)
                    | (refine Ow.step (mk := Wp.mkN) rfl _ _ _ rfl (fun _ => rfl) tyInt64s [] ((Ar.A L).take 0) (.slice (some ⟨w2.heap.size, 0, none⟩) 0 0) _ _ _ w2.heap.size rfl rfl (Ow.a1 w2 2) ((HPA.out.take 0).below (Ow.a2 w2 (.cells #[] 2))) (by rw [List.length_take, Ar.lenA, ← Hn.out]; omega) (by simp) (by rw [List.length_take, Ar.lenA, ← Hn.out]; omega) (Ow.a2 w2 (.cells #[] 2)).size ?_; intro va wa hoa hga; have ea := Ow.grown (Ow.a2 w2 (.cells #[] 2)) (Ow.a1 w2 2) hga (Ow.a2 w2 (.cells #[] 2)).size)
                    | (refine Ow.step (mk := Wp.mkN) rfl _ _ _ rfl (fun _ => rfl) tyInt64s [] ((Ar.A L).take 0) (.slice (some ⟨w2.heap.size, 0, none⟩) 0 0) _ _ _ w2.heap.size rfl rfl (Ow.b1 w2 2 (.cells #[.int .i64 T] 2)) ((HPA.out.take 0).below (Ow.b2 w2 (.cells #[] 2) (.cells #[.int .i64 T] 2))) (by rw [List.length_take, Ar.lenA, ← Hn.out]; omega) (by simp) (by rw [List.length_take, Ar.lenA, ← Hn.out]; omega) (Ow.b2 w2 (.cells #[] 2) (.cells #[.int .i64 T] 2)).size ?_; intro va wa hoa hga; have ea := Ow.grown (Ow.b2 w2 (.cells #[] 2) (.cells #[.int .i64 T] 2)) (Ow.b1 w2 2 (.cells #[.int .i64 T] 2)) hga (Ow.b2 w2 (.cells #[] 2) (.cells #[.int .i64 T] 2)).size; have hB := hga.cell (Ow.b3 w2 2 (.cells #[] 2) (.int .i64 T)) (by simp [Value.ownBlock]))
                    | (refine Ow.step (mk := Wp.mkN) rfl _ _ _ rfl (fun _ => rfl) tyInt64s [] ((Ar.A L).take 0) (.slice (some ⟨w2.heap.size + 1, 0, none⟩) 0 0) _ _ _ w2.heap.size rfl rfl (Ow.c1 w2 2 (.cells #[.int .i64 T] 2)) ((HPA.out.take 0).below (Ow.b2 w2 (.cells #[.int .i64 T] 2) (.cells #[] 2))) (by rw [List.length_take, Ar.lenA, ← Hn.out]; omega) (by simp) (by rw [List.length_take, Ar.lenA, ← Hn.out]; omega) (Ow.b2 w2 (.cells #[.int .i64 T] 2) (.cells #[] 2)).size ?_; intro va wa hoa hga; have ea := Ow.grown (Ow.b2 w2 (.cells #[.int .i64 T] 2) (.cells #[] 2)) (Ow.c1 w2 2 (.cells #[.int .i64 T] 2)) hga (Ow.b2 w2 (.cells #[.int .i64 T] 2) (.cells #[] 2)).size; have hB := hga.cell (Ow.c3 w2 2 (.cells #[] 2) (.int .i64 T)) (by simp [Value.ownBlock])))
                  all_goals (try go_wp2_with fail)
                  all_goals go_meet
                  all_goals exact ⟨hoc, ec⟩
                | some ad =>
                  obtain ⟨ga, hga, hgl⟩ := Ar.ifSome O2.out.a
                  subst hga
                  go_region_law (first
                    | (refine Ow.step (mk := Wp.mkN) rfl _ _ _ rfl (fun _ => rfl) tyInt64s ([] ++ (Ar.A L).take i ++ [T]) ((Ar.A L).drop i) vb _ _ _ w2.heap.size rfl rfl hob ((HPA.out.dropIf (c := ca) i (by rw [Ar.lenA, ← Hn.out]; omega)).below eb) (by rw [List.length_drop, Ar.lenA, ← Hn.out]) (by rw [List.nil_append, List.length_append, List.length_take, Ar.lenA, ← Hn.out, List.length_singleton]; omega) (by rw [List.length_drop, Ar.lenA, ← Hn.out]; omega) eb.size ?_; intro vc wc3 hoc hgc; have ec := Ow.grown eb hob hgc eb.size)
                    | (refine Ow.step (mk := Wp.mkN) rfl _ _ _ rfl (fun _ => rfl) tyInt64s ([] ++ (Ar.A L).take i) [T] va _ _ _ w2.heap.size rfl rfl (hoa) (Ow.one hB) rfl (by rw [List.nil_append, List.length_take, Ar.lenA, ← Hn.out]; omega) (by simp) (ea).size ?_; intro vb wb hob hgb; have eb := Ow.grown (ea) (hoa) hgb (ea).size)
                    | (refine Ow.step (mk := Wp.mkN) rfl _ _ _ rfl (fun _ => rfl) tyInt64s ([] ++ (Ar.A L).take i) [T] va _ _ _ w2.heap.size rfl rfl (hoa.alloc _) (Ow.one (Ow.n3 wa 2 _)) rfl (by rw [List.nil_append, List.length_take, Ar.lenA, ← Hn.out]; omega) (by simp) (ea.alloc ea.size _).size ?_; intro vb wb hob hgb; have eb := Ow.grown (ea.alloc ea.size _) (hoa.alloc _) hgb (ea.alloc ea.size _).size)
                    | (refine Ow.step (mk := Wp.mkN) rfl _ _ _ rfl (fun _ => rfl) tyInt64s [] ((Ar.A L).take i) (.slice (some ⟨w2.heap.size, 0, none⟩) 0 0) _ _ _ w2.heap.size rfl rfl (Ow.a1 w2 2) ((HPA.out.take i).below (Ow.a2 w2 (.cells #[] 2))) (by rw [List.length_take, Ar.lenA, ← Hn.out]; omega) (by simp) (by rw [List.length_take, Ar.lenA, ← Hn.out]; omega) (Ow.a2 w2 (.cells #[] 2)).size ?_; intro va wa hoa hga; have ea := Ow.grown (Ow.a2 w2 (.cells #[] 2)) (Ow.a1 w2 2) hga (Ow.a2 w2 (.cells #[] 2)).size)
                    | (refine Ow.step (mk := Wp.mkN) rfl _ _ _ rfl (fun _ => rfl) tyInt64s [] ((Ar.A L).take i) (.slice (some ⟨w2.heap.size, 0, none⟩) 0 0) _ _ _ w2.heap.size rfl rfl (Ow.b1 w2 2 (.cells #[.int .i64 T] 2)) ((HPA.out.take i).below (Ow.b2 w2 (.cells #[] 2) (.cells #[.int .i64 T] 2))) (by rw [List.length_take, Ar.lenA, ← Hn.out]; omega) (by simp) (by rw [List.length_take, Ar.lenA, ← Hn.out]; omega) (Ow.b2 w2 (.cells #[] 2) (.cells #[.int .i64 T] 2)).size ?_; intro va wa hoa hga; have ea := Ow.grown (Ow.b2 w2 (.cells #[] 2) (.cells #[.int .i64 T] 2)) (Ow.b1 w2 2 (.cells #[.int .i64 T] 2)) hga (Ow.b2 w2 (.cells #[] 2) (.cells #[.int .i64 T] 2)).size; have hB := hga.cell (Ow.b3 w2 2 (.cells #[] 2) (.int .i64 T)) (by simp [Value.ownBlock]))
                    | (refine Ow.step (mk := Wp.mkN) rfl _ _ _ rfl (fun _ => rfl) tyInt64s [] ((Ar.A L).take i) (.slice (some ⟨w2.heap.size + 1, 0, none⟩) 0 0) _ _ _ w2.heap.size rfl rfl (Ow.c1 w2 2 (.cells #[.int .i64 T] 2)) ((HPA.out.take i).below (Ow.b2 w2 (.cells #[.int .i64 T] 2) (.cells #[] 2))) (by rw [List.length_take, Ar.lenA, ← Hn.out]; omega) (by simp) (by rw [List.length_take, Ar.lenA, ← Hn.out]; omega) (Ow.b2 w2 (.cells #[.int .i64 T] 2) (.cells #[] 2)).size ?_; intro va wa hoa hga; have ea := Ow.grown (Ow.b2 w2 (.cells #[.int .i64 T] 2) (.cells #[] 2)) (Ow.c1 w2 2 (.cells #[.int .i64 T] 2)) hga (Ow.b2 w2 (.cells #[.int .i64 T] 2) (.cells #[] 2)).size; have hB := hga.cell (Ow.c3 w2 2 (.cells #[] 2) (.int .i64 T)) (by simp [Value.ownBlock])))
                  all_goals (try go_wp2_with fail)
                  all_goals go_meet
                  all_goals exact ⟨hoc, ec⟩
              case rest =>
                obtain ⟨ho8, hb8⟩ := hcut
                obtain ⟨w3, hw3⟩ : ∃ w3, w3 = wc := ⟨_, rfl⟩
                rw [← hw3] at ho8 hb8 ⊢
                clear hw3
                have HO8 := Lib.hid ho8
                have HB8 := Lib.hid hb8
                have HPB3 := Lib.hid (HPB.out.below hb8)
                have O3 := Lib.hid (ownsRow_below O2.out.b hb8)
                have S3 : w1.heap.size + 1 ≤ w3.heap.size := by have := hb8.size; omega
                clear ho8 hb8 HPA HPB
                go_upto_region 19 with fail
                cases pb with
                | none =>
                  obtain ⟨hL0, hn0, hc0⟩ := Ar.ifNone O3.out
                  have hn1 : n = 0 := by rw [Hn.out, ← Ar.lenB]; exact hn0
                  subst hn1 hc0
                  obtain rfl : i = 0 := by omega
                  go_region_law (first
                    | (refine Ow.step (mk := Wp.mkB) rfl _ _ _ rfl (fun _ => rfl) tyBools ([] ++ (Ar.B L).take 0 ++ [!true]) ((Ar.B L).drop 0) vb _ _ _ w3.heap.size rfl rfl hob (Or.inl (by rw [hL0]; rfl)) (by rw [List.length_drop, Ar.lenB, ← Hn.out]) (by rw [List.nil_append, List.length_append, List.length_take, Ar.lenB, ← Hn.out, List.length_singleton]; omega) (by rw [List.length_drop, Ar.lenB, ← Hn.out]; omega) eb.size ?_; intro vc wc3 hoc hgc; have ec := Ow.grown eb hob hgc eb.size)
                    | (refine Ow.step (mk := Wp.mkB) rfl _ _ _ rfl (fun _ => rfl) tyBools ([] ++ (Ar.B L).take 0) [!true] va _ _ _ w3.heap.size rfl rfl (hoa) (Ow.one hB) rfl (by rw [List.nil_append, List.length_take, Ar.lenB, ← Hn.out]; omega) (by simp) (ea).size ?_; intro vb wb hob hgb; have eb := Ow.grown (ea) (hoa) hgb (ea).size)
                    | (refine Ow.step (mk := Wp.mkB) rfl _ _ _ rfl (fun _ => rfl) tyBools ([] ++ (Ar.B L).take 0) [!true] va _ _ _ w3.heap.size rfl rfl (hoa.alloc _) (Ow.one (Ow.n3 wa 4 _)) rfl (by rw [List.nil_append, List.length_take, Ar.lenB, ← Hn.out]; omega) (by simp) (ea.alloc ea.size _).size ?_; intro vb wb hob hgb; have eb := Ow.grown (ea.alloc ea.size _) (hoa.alloc _) hgb (ea.alloc ea.size _).size)
                    | (refine Ow.step (mk := Wp.mkB) rfl _ _ _ rfl (fun _ => rfl) tyBools [] ((Ar.B L).take 0) (.slice (some ⟨w3.heap.size, 0, none⟩) 0 0) _ _ _ w3.heap.size rfl rfl (Ow.a1 w3 4) ((HPB3.out.take 0).below (Ow.a2 w3 (.cells #[] 4))) (by rw [List.length_take, Ar.lenB, ← Hn.out]; omega) (by simp) (by rw [List.length_take, Ar.lenB, ← Hn.out]; omega) (Ow.a2 w3 (.cells #[] 4)).size ?_; intro va wa hoa hga; have ea := Ow.grown (Ow.a2 w3 (.cells #[] 4)) (Ow.a1 w3 4) hga (Ow.a2 w3 (.cells #[] 4)).size)
                    | (refine Ow.step (mk := Wp.mkB) rfl _ _ _ rfl (fun _ => rfl) tyBools [] ((Ar.B L).take 0) (.slice (some ⟨w3.heap.size, 0, none⟩) 0 0) _ _ _ w3.heap.size rfl rfl (Ow.b1 w3 4 (.cells #[.bool false] 4)) ((HPB3.out.take 0).below (Ow.b2 w3 (.cells #[] 4) (.cells #[.bool false] 4))) (by rw [List.length_take, Ar.lenB, ← Hn.out]; omega) (by simp) (by rw [List.length_take, Ar.lenB, ← Hn.out]; omega) (Ow.b2 w3 (.cells #[] 4) (.cells #[.bool false] 4)).size ?_; intro va wa hoa hga; have ea := Ow.grown (Ow.b2 w3 (.cells #[] 4) (.cells #[.bool false] 4)) (Ow.b1 w3 4 (.cells #[.bool false] 4)) hga (Ow.b2 w3 (.cells #[] 4) (.cells #[.bool false] 4)).size; have hB := hga.cell (Ow.b3 w3 4 (.cells #[] 4) (.bool false)) (by simp [Value.ownBlock]))
                    | (refine Ow.step (mk := Wp.mkB) rfl _ _ _ rfl (fun _ => rfl) tyBools [] ((Ar.B L).take 0) (.slice (some ⟨w3.heap.size + 1, 0, none⟩) 0 0) _ _ _ w3.heap.size rfl rfl (Ow.c1 w3 4 (.cells #[.bool false] 4)) ((HPB3.out.take 0).below (Ow.b2 w3 (.cells #[.bool false] 4) (.cells #[] 4))) (by rw [List.length_take, Ar.lenB, ← Hn.out]; omega) (by simp) (by rw [List.length_take, Ar.lenB, ← Hn.out]; omega) (Ow.b2 w3 (.cells #[.bool false] 4) (.cells #[] 4)).size ?_; intro va wa hoa hga; have ea := Ow.grown (Ow.b2 w3 (.cells #[.bool false] 4) (.cells #[] 4)) (Ow.c1 w3 4 (.cells #[.bool false] 4)) hga (Ow.b2 w3 (.cells #[.bool false] 4) (.cells #[] 4)).size; have hB := hga.cell (Ow.c3 w3 4 (.cells #[] 4) (.bool false)) (by simp [Value.ownBlock])))
                  all_goals
                    have ON := Lib.hid (show Ar.Own wc3 (w1.heap.size + 1) _ _ (L.take 0 ++ [(T, !true)] ++ L.drop 0) from ⟨by rw [Ar.putA]; exact Ar.base (ownsRow_below HO8.out ec) (by omega), by rw [Ar.putB]; exact Ar.base hoc (by omega)⟩)
                    have BN := Lib.hid (B2.out.trans ((HB8.out.mono S2).trans (ec.mono S3)))
                    go_wp2_with fail
                    exact ⟨⟨1 + 1, _, _, by omega, by rfl, rfl, HR2.out, ON.out, BN.out⟩, by simp [intOf]⟩
                | some ad =>
                  obtain ⟨ga, hga, hgl⟩ := Ar.ifSome O3.out
                  subst hga
                  go_region_law (first
                    | (refine Ow.step (mk := Wp.mkB) rfl _ _ _ rfl (fun _ => rfl) tyBools ([] ++ (Ar.B L).take i ++ [!true]) ((Ar.B L).drop i) vb _ _ _ w3.heap.size rfl rfl hob ((HPB3.out.dropIf (c := cb) i (by rw [Ar.lenB, ← Hn.out]; omega)).below eb) (by rw [List.length_drop, Ar.lenB, ← Hn.out]) (by rw [List.nil_append, List.length_append, List.length_take, Ar.lenB, ← Hn.out, List.length_singleton]; omega) (by rw [List.length_drop, Ar.lenB, ← Hn.out]; omega) eb.size ?_; intro vc wc3 hoc hgc; have ec := Ow.grown eb hob hgc eb.size)
                    | (refine Ow.step (mk := Wp.mkB) rfl _ _ _ rfl (fun _ => rfl) tyBools ([] ++ (Ar.B L).take i) [!true] va _ _ _ w3.heap.size rfl rfl (hoa) (Ow.one hB) rfl (by rw [List.nil_append, List.length_take, Ar.lenB, ← Hn.out]; omega) (by simp) (ea).size ?_; intro vb wb hob hgb; have eb := Ow.grown (ea) (hoa) hgb (ea).size)
                    | (refine Ow.step (mk := Wp.mkB) rfl _ _ _ rfl (fun _ => rfl) tyBools ([] ++ (Ar.B L).take i) [!true] va _ _ _ w3.heap.size rfl rfl (hoa.alloc _) (Ow.one (Ow.n3 wa 4 _)) rfl (by rw [List.nil_append, List.length_take, Ar.lenB, ← Hn.out]; omega) (by simp) (ea.alloc ea.size _).size ?_; intro vb wb hob hgb; have eb := Ow.grown (ea.alloc ea.size _) (hoa.alloc _) hgb (ea.alloc ea.size _).size)
                    | (refine Ow.step (mk := Wp.mkB) rfl _ _ _ rfl (fun _ => rfl) tyBools [] ((Ar.B L).take i) (.slice (some ⟨w3.heap.size, 0, none⟩) 0 0) _ _ _ w3.heap.size rfl rfl (Ow.a1 w3 4) ((HPB3.out.take i).below (Ow.a2 w3 (.cells #[] 4))) (by rw [List.length_take, Ar.lenB, ← Hn.out]; omega) (by simp) (by rw [List.length_take, Ar.lenB, ← Hn.out]; omega) (Ow.a2 w3 (.cells #[] 4)).size ?_; intro va wa hoa hga; have ea := Ow.grown (Ow.a2 w3 (.cells #[] 4)) (Ow.a1 w3 4) hga (Ow.a2 w3 (.cells #[] 4)).size)
                    | (refine Ow.step (mk := Wp.mkB) rfl _ _ _ rfl (fun _ => rfl) tyBools [] ((Ar.B L).take i) (.slice (some ⟨w3.heap.size, 0, none⟩) 0 0) _ _ _ w3.heap.size rfl rfl (Ow.b1 w3 4 (.cells #[.bool false] 4)) ((HPB3.out.take i).below (Ow.b2 w3 (.cells #[] 4) (.cells #[.bool false] 4))) (by rw [List.length_take, Ar.lenB, ← Hn.out]; omega) (by simp) (by rw [List.length_take, Ar.lenB, ← Hn.out]; omega) (Ow.b2 w3 (.cells #[] 4) (.cells #[.bool false] 4)).size ?_; intro va wa hoa hga; have ea := Ow.grown (Ow.b2 w3 (.cells #[] 4) (.cells #[.bool false] 4)) (Ow.b1 w3 4 (.cells #[.bool false] 4)) hga (Ow.b2 w3 (.cells #[] 4) (.cells #[.bool false] 4)).size; have hB := hga.cell (Ow.b3 w3 4 (.cells #[] 4) (.bool false)) (by simp [Value.ownBlock]))
                    | (refine Ow.step (mk := Wp.mkB) rfl _ _ _ rfl (fun _ => rfl) tyBools [] ((Ar.B L).take i) (.slice (some ⟨w3.heap.size + 1, 0, none⟩) 0 0) _ _ _ w3.heap.size rfl rfl (Ow.c1 w3 4 (.cells #[.bool false] 4)) ((HPB3.out.take i).below (Ow.b2 w3 (.cells #[.bool false] 4) (.cells #[] 4))) (by rw [List.length_take, Ar.lenB, ← Hn.out]; omega) (by simp) (by rw [List.length_take, Ar.lenB, ← Hn.out]; omega) (Ow.b2 w3 (.cells #[.bool false] 4) (.cells #[] 4)).size ?_; intro va wa hoa hga; have ea := Ow.grown (Ow.b2 w3 (.cells #[.bool false] 4) (.cells #[] 4)) (Ow.c1 w3 4 (.cells #[.bool false] 4)) hga (Ow.b2 w3 (.cells #[.bool false] 4) (.cells #[] 4)).size; have hB := hga.cell (Ow.c3 w3 4 (.cells #[] 4) (.bool false)) (by simp [Value.ownBlock])))
                  all_goals
                    have ON := Lib.hid (show Ar.Own wc3 (w1.heap.size + 1) _ _ (L.take i ++ [(T, !true)] ++ L.drop i) from ⟨by rw [Ar.putA]; exact Ar.base (ownsRow_below HO8.out ec) (by omega), by rw [Ar.putB]; exact Ar.base hoc (by omega)⟩)
                    have BN := Lib.hid (B2.out.trans ((HB8.out.mono S2).trans (ec.mono S3)))
                    go_wp2_with fail
                    exact ⟨⟨1 + 1, _, _, by omega, by rfl, rfl, HR2.out, ON.out, BN.out⟩, by simp [intOf]⟩
    · obtain rfl : j = 5 := by omega
      have hd : decide (Y - 2 + ((5 : Nat) : Int) ≤ Y + 2) = false := decide_eq_false (by omega)
      have HD := Lib.hid HR.out.done
      have OD := Lib.hid (show Ar.Own wr w.heap.size u8 u9 L from ⟨Ar.base OR.out.a (by omega), Ar.base OR.out.b (by omega)⟩)
      have BD := Lib.hid (B0.out.trans (BR.out.mono (by omega)))
      clear hlt hj
      go_wp2_with fail
      go_ret2
      exact ⟨L, _, _, rfl, HD.out, OD.out, BD.out⟩
end Go.Proofs.YtpaleljnkejdgaaDoor
