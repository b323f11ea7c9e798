/-
  The walks of wire's functions on one number and one text: each hands back what Wp's plain functions say, and what was there stays. Conditions: a text takes at most 2^48 bytes.
  The walk of bellmantop.begins: what is asked of wire ahead of each of the stages' theorems is answered as the document says. No condition.
  The walk of TopGrown: of whatever text, the law answers true. Conditions: the words' table and the errors lie as they are laid, the search's limit is set.
-/
import Derived.Test.YteiccjakaabfnaaGreatDoorZ26
import Derived.Deep.QuietTactic
import Derived.BigQuiet
import Derived.Laws.BitsAllLaws
import Derived.Lib.Strings
import Derived.Deep.RegionWith
import Derived.IntWalk
import Derived.Test.YteiccjakaabfnaaGreatDoorZ19
import Derived.Test.YteiccjakaabfnaaGreatDoorZ23
namespace Go.Proofs.YteiccjakaabfnaaGreatDoor
open Go.RowKit

theorem below_drewN {B : Nat} {a w : World} (h : Below B a w) (q : Nat) : Below B a (w.drewN q) := by
  refine h.trans ?_
  induction q with
  | zero => exact Below.refl _ _
  | succ q ih => exact ih.drew
theorem below_then {a b c : World} {B : Nat} (h1 : Below B a b) (h2 : Below b.heap.size b c) (hB : B ≤ b.heap.size) : Below B a c := h1.trans (h2.mono hB)
theorem isEmpty_yes (s : ByteArray) (h : s.size = 0) : s.toList.isEmpty = true := by
  rw [Lib.toList_data]
  have hd : s.data.toList = [] := by rw [← List.length_eq_zero_iff, ← Wp.size_len]; exact h
  rw [hd]; rfl
theorem isEmpty_no (s : ByteArray) (h : 0 < s.size) : s.toList.isEmpty = false := by
  rw [Lib.toList_data, Wp.cons_of s h]; rfl
theorem or_round (s : ByteArray) (k : Nat) (hk : k < s.size) (h8 : s.size ≤ 8) :
    bits BinOp.or IntKind.u64 (IntKind.u64.wrap ((Wp.val (s.data.toList.take k) : Int) * 256)) (IntKind.u64.wrap (s[k].toNat : Int)) = ((Wp.val (s.data.toList.take (k + 1)) : Nat) : Int) := by
  have hv := Wp.val_lt (s.data.toList.take k)
  have hp : (256 : Nat) ^ (s.data.toList.take k).length ≤ 256 ^ 7 := Nat.pow_le_pow_right (by omega) (by rw [List.length_take]; omega)
  have h7 : (256 : Nat) ^ 7 = 72057594037927936 := by decide
  have hb := s[k].toNat_lt
  have w64 : ∀ n : Int, IntKind.u64.wrap n = n % 18446744073709551616 := fun n => by simp [IntKind.wrap, IntKind.bits, IntKind.signed]
  rw [w64, w64, Wp.take_snoc s k hk, Wp.val_snoc]
  generalize Wp.val (s.data.toList.take k) = v at *
  generalize s[k].toNat = b at *
  rw [show ((v : Int) * 256) % 18446744073709551616 = ((256 * v : Nat) : Int) by omega, show ((b : Int)) % 18446744073709551616 = (b : Int) by omega]
  rw [u64_or_nat _ _ (by omega) (by omega), nat_join 8 _ _ (by omega) (by omega)]

set_option maxHeartbeats 400000 in
theorem number_any (below : Bool) (mg : ByteArray) (w : World) (hl : mg.size ≤ 8) :
    Calls Tryz.prog 203 #[.bool below, .string mg] w fun e w' => e = .returned (.tuple #[.int .i64 (Wp.numOf below mg.data.toList), .bool (Wp.okMag below mg.data.toList)]) ∧ w = w' := by
  by_cases h0 : mg.size = 0
  · have hd : mg.data.toList = [] := by rw [← List.length_eq_zero_iff, ← Wp.size_len]; exact h0
    have h1 := isEmpty_yes mg h0
    rw [hd]
    go_enter Tryz.func203, Tryz.ntmps203
    go_wp2
    go_ret2
    exact ⟨rfl, rfl⟩
  · have hpos : 0 < mg.size := by omega
    have he := isEmpty_no mg hpos
    by_cases hz : mg[0] = 0
    · have hz' : ((mg[0].toNat : Int) == 0) = true := by rw [hz]; rfl
      have e1 := Lib.hid (Wp.okMag_zero below mg hpos hz)
      have e2 := Lib.hid (Wp.numOf_zero below mg hpos hz)
      clear hz
      go_enter Tryz.func203, Tryz.ntmps203
      go_wp2
      go_ret2
      exact ⟨by rw [e1.out, e2.out]; rfl, rfl⟩
    · have hz' : ((mg[0].toNat : Int) == 0) = false := by
        rw [beq_eq_false_iff_ne]
        intro c
        exact hz (UInt8.toNat_inj.1 (by simpa using c))
      have e1 := Lib.hid (Wp.okMag_cons below mg hpos hz)
      have e2 := Lib.hid (Wp.numOf_cons below mg hpos hz)
      clear hz
      go_enter Tryz.func203, Tryz.ntmps203
      go_wp2
      go_loop [6, 7, 17] (fun m _ i => ∃ k : Nat, k ≤ mg.size ∧ i = .int .i64 k ∧ m = .int .u64 (Wp.val (mg.data.toList.take k) : Nat)) (fun _ _ i => mg.size - (intOf i).toNat)
      case atStart => exact ⟨0, Nat.zero_le _, rfl, rfl⟩
      case round =>
        obtain ⟨k, hk, rfl, rfl⟩ := hrel
        by_cases hlt : k < mg.size
        · have hor := Lib.hid (or_round mg k hlt hl)
          go_wp2
          refine ⟨⟨k + 1, by omega, by go_num, by rw [hor.out]⟩, by simp [intOf]; omega⟩
        · obtain rfl : k = mg.size := by omega
          rw [show mg.data.toList.take mg.size = mg.data.toList from List.take_of_length_le (by rw [← Wp.size_len]; omega)]
          obtain ⟨v, hv⟩ : ∃ v, v = Wp.val mg.data.toList := ⟨_, rfl⟩
          rw [← hv] at e1 e2 ⊢
          clear hv
          cases below
          · go_wp2
            go_ret2
            exact ⟨by rw [e1.out, e2.out]; simp; exact ⟨(IntWalk.i64_left _).symm, by omega⟩, rfl⟩
          · go_wp2
            go_ret2
            exact ⟨by rw [e1.out, e2.out]; simp; exact ⟨(IntWalk.i64_left _).symm, by omega⟩, rfl⟩

set_option maxHeartbeats 400000 in
theorem cutNum_any (s : ByteArray) (w : World) (hl : s.size ≤ 281474976710656) :
    Calls Tryz.prog 132 #[.string s] w fun e w' => e = .returned (.tuple #[.int .i64 (Wp.gn s).1, .string (Wp.B (Wp.gn s).2.1), .int .i64 (Wp.gn s).2.2]) ∧ Below w.heap.size w w' := by
  by_cases h0 : s.size = 0
  · have h1 := isEmpty_yes s h0
    have hg := Lib.hid (Wp.gn_empty s h0)
    clear h0
    go_enter Tryz.func132, Tryz.ntmps132
    go_wp2_with fail
    go_ret3
    exact ⟨by rw [hg.out]; rfl, Below.refl _ _⟩
  have hpos : 0 < s.size := by omega
  have he := isEmpty_no s hpos
  obtain ⟨k, hk⟩ : ∃ k, s[0].toNat % 128 = k := ⟨_, rfl⟩
  obtain ⟨b, hb⟩ : ∃ b, decide (128 ≤ s[0].toNat) = b := ⟨_, rfl⟩
  obtain ⟨mg, hm⟩ : ∃ mg, mg = s.extract 1 (1 + k) := ⟨_, rfl⟩
  have hg := Wp.gn_eq s hpos k hk b hb mg hm
  have hk' : ((s[0].toNat : Int) % 128) = (k : Int) := by omega
  have hb' : decide ((128 : Int) ≤ (s[0].toNat : Int)) = b := by rw [← hb]; exact decide_eq_decide.2 (by omega)
  have Hk := Lib.hid hk'
  have Hb := Lib.hid hb'
  have Hm := Lib.hid hm
  clear hk hb hk' hb' hm h0
  by_cases h8 : 8 < k
  · rw [if_pos h8] at hg
    have Hg := Lib.hid hg
    clear hg
    go_enter Tryz.func132, Tryz.ntmps132
    go_wp2_with fail
    go_quiet (fail)
    simp only [Hk.out, Hb.out]
    go_wp2_with fail
    go_ret3
    exact ⟨by rw [Hg.out]; rfl, below_drewN (Below.refl _ _) _⟩
  rw [if_neg h8] at hg
  by_cases hs : s.size < 1 + k
  · rw [if_pos hs] at hg
    have Hg := Lib.hid hg
    clear hg
    go_enter Tryz.func132, Tryz.ntmps132
    go_wp2_with fail
    go_quiet (fail)
    simp only [Hk.out, Hb.out]
    go_wp2_with fail
    go_ret3
    exact ⟨by rw [Hg.out]; rfl, below_drewN (Below.refl _ _) _⟩
  rw [if_neg hs] at hg
  have hsz : mg.size ≤ 8 := by rw [Hm.out, ByteArray.size_extract]; omega
  have hs2 : 1 + k ≤ s.size := by omega
  cases hok : Wp.okMag b mg.data.toList with
  | false =>
    rw [hok, if_neg (by simp)] at hg
    have Hg := Lib.hid hg
    clear hg
    go_enter Tryz.func132, Tryz.ntmps132
    go_wp2_with fail
    go_quiet (fail)
    simp only [Hk.out, Hb.out]
    go_wp2_with fail
    rw [← Hm.out]
    refine (number_any _ _ _ hsz).mono ?_
    rintro e w' ⟨rfl, rfl⟩
    go_wp2_with fail
    go_ret3
    exact ⟨by rw [Hg.out]; rfl, below_drewN (Below.refl _ _) _⟩
  | true =>
    rw [hok, if_pos rfl, ← Wp.numOf_ok b _ hok] at hg
    have Hg := Lib.hid hg
    clear hg
    go_enter Tryz.func132, Tryz.ntmps132
    go_wp2_with fail
    go_quiet (fail)
    simp only [Hk.out, Hb.out]
    go_wp2_with fail
    rw [← Hm.out]
    refine (number_any _ _ _ hsz).mono ?_
    rintro e w' ⟨rfl, rfl⟩
    go_wp2_with fail
    go_quiet (fail)
    go_wp2_with fail
    go_ret3
    exact ⟨by rw [Hg.out, Wp.B_of]; rfl, below_drewN (below_drewN (Below.refl _ _) _) _⟩

theorem clone_any (s : ByteArray) (w : World) (hl : s.size ≤ 281474976710656) :
    Calls Tryz.prog 48 #[.string s] w fun e w' => e = .returned (.string s) ∧ Below w.heap.size w w' := by
  go_enter Tryz.func48, Tryz.ntmps48
  go_wp2_with fail
  refine (Tryz.stringslite_Clone s _ hl).mono ?_
  rintro e w1 ⟨rfl, hb⟩
  go_wp2_with fail
  go_ret
  exact ⟨rfl, hb⟩

set_option maxHeartbeats 400000 in
theorem getNum_any (s : ByteArray) (w : World) (hl : s.size ≤ 281474976710656) :
    Calls Tryz.prog 85 #[.string s] w fun e w' => e = .returned (.tuple #[.int .i64 (Wp.gn s).1, .string (Wp.B (Wp.gn s).2.1), .int .i64 (Wp.gn s).2.2]) ∧ Below w.heap.size w w' := by
  have hc := fun w => cutNum_any s w hl
  obtain ⟨⟨n, r, er⟩, hg⟩ : ∃ g, Wp.gn s = g := ⟨_, rfl⟩
  have hr := Wp.gn_rest s _ _ _ hg
  rw [hg] at hc ⊢
  simp only [] at hc ⊢
  clear hg
  go_enter Tryz.func85, Tryz.ntmps85
  go_wp2_with fail
  refine (hc _).mono ?_
  rintro e w1 ⟨rfl, hb⟩
  go_wp2_with fail
  refine (clone_any _ _ (by rw [Wp.B_size]; omega)).mono ?_
  rintro e w2 ⟨rfl, hb2⟩
  go_wp2_with fail
  go_ret3
  exact ⟨rfl, hb.trans (hb2.mono hb.size)⟩

end Go.Proofs.YteiccjakaabfnaaGreatDoor
namespace Go.Proofs.YteiccjakaabfnaaGreatDoor
open Go.RowKit

theorem begins_any (w : World) : Calls Tryz.prog 42 #[] w fun e w' => e = .returned (.bool true) ∧ Below w.heap.size w w' := by
  have c1 : ∀ w, Calls Tryz.prog 86 #[.int .i64 300] w fun e w' => e = .returned (.string ⟨#[2, 1, 44]⟩) ∧ Below w.heap.size w w' := fun w => by
    have h := num_any 300 w (by omega) (by omega)
    rw [show Wp.numB 300 = [2, 1, 44] by decide +kernel] at h
    exact h
  have c2 : ∀ w, Calls Tryz.prog 85 #[.string ⟨#[2, 1, 44, 120]⟩] w fun e w' => e = .returned (.tuple #[.int .i64 300, .string ⟨#[120]⟩, .int .i64 0]) ∧ Below w.heap.size w w' := fun w => by
    have h := getNum_any ⟨#[2, 1, 44, 120]⟩ w (by decide)
    rw [show Wp.gn ⟨#[2, 1, 44, 120]⟩ = (300, [120], 0) by decide +kernel] at h
    exact h
  go_enter Tryz.func42, Tryz.ntmps42
  go_wp2_with fail
  refine (c1 _).mono ?_
  rintro e w1 ⟨rfl, b1⟩
  go_wp2_with fail
  refine (c2 _).mono ?_
  rintro e w2 ⟨rfl, b2⟩
  go_wp2_with fail
  go_ret
  exact ⟨rfl, below_then b1 b2 b1.size⟩
end Go.Proofs.YteiccjakaabfnaaGreatDoor
namespace Go.Proofs.YteiccjakaabfnaaGreatDoor
open Go.RowKit Go.Shelf

set_option maxRecDepth 100000 in
set_option maxHeartbeats 4000000 in
theorem topGrown_law (s : ByteArray) (w : World) (a b : Addr) (hs : s.size ≤ 140737488351232) (hT : Sc.Laid w) (hM : Sc.MaxLen w) (hE : Nd.Errs w a b) :
    Calls Tryz.prog 12 #[.string s] w fun e w' => e = .returned (.bool true) ∧ Below w.heap.size w w' := by
  have CL := Lib.hid (begins_any w)
  have CP := Lib.hid (fun W (hb : Below w.heap.size w W) => ndParse_any s W a b (by omega) (hT.below hb) (hM.below hb) (hE.below hb))
  have HO := Lib.hid (fun (h : (Nd.parseR s.data.toList).2 = 0) => (by
    obtain ⟨h1, h2, h3, h4, h5⟩ := Nd.parse_ok h
    exact ⟨h4, fun t ht => by have := (Nd.toks_short h1).2.1 t (h5.mem t ht); omega⟩ : Nd.good (Nd.parseR s.data.toList).1 = true ∧ ∀ t ∈ Nd.toksL (Nd.parseR s.data.toList).1, t.text.size ≤ 4000000000))
  have HX := Lib.hid (fun (h : (Nd.parseR s.data.toList).2 ≠ 0) => Nd.parse_bad h)
  generalize Nd.parseR s.data.toList = R at *
  obtain ⟨m, cm⟩ := R
  simp only at HO HX
  have HT := Lib.hid hT
  have HM := Lib.hid hM
  clear hE hs hT hM
  go_enter Tryz.func12, Tryz.ntmps12
  go_wp2_with fail
  refine CL.out.mono ?_
  rintro e w1 ⟨rfl, hb⟩
  have B1 := Lib.hid hb
  have C2 := Lib.hid (CP.out w1 hb)
  clear hb CL CP
  go_wp2_with fail
  refine C2.out.mono ?_
  rintro e w2 ⟨v2, rfl, hO2, hb⟩
  obtain ⟨p2, c2, hv2, -, hA2⟩ := hO2.at
  have hv2 : v2 = .slice p2 m.length c2 := hv2
  subst hv2
  have HA2 := Lib.hid (show Nd.Row w2 p2 m from hA2)
  have B2 := Lib.hid (B1.out.trans (hb.mono B1.out.size))
  clear hb hO2 hA2 C2 B1
  by_cases hcm : cm = 0
  · subst hcm
    obtain ⟨hg, hts⟩ := HO.out rfl
    have hml : m.length ≤ 256 := by
      have h2 := (Nd.good_okL hg).2
      have := Nd.cntL_len m
      omega
    obtain ⟨hr1, hr2, hr3, hr4, hr5⟩ := Tg.facts hg
    have hck := (Nd.chk_good).1 hg
    have CW := Lib.hid (fun W (hb : Below w.heap.size w W) p c (hA : Nd.Row W p m) => (by
      have := ndPaths_any m p c W (by omega) hA hts (HT.out.below hb) (HM.out.below hb)
      rw [Nd.pathsR_eq, Nd.toksR_ok hg] at this
      exact this : Calls Tryz.prog 38 #[.slice p m.length c] W (Nd.PathsPost (Nd.wordsT (Nd.toksL m), 0) W)))
    have CR := Lib.hid (fun W (hb : Below w.heap.size w W) p c (hA : Nd.Row W p m) => (by
      have := vtRoots_any m p c W (by omega) hA hts (HT.out.below hb) (HM.out.below hb)
      unfold Vt.RootsPost at this
      rw [hck] at this
      exact this : Calls Tryz.prog 14 #[.slice p m.length c] W fun e w' => ∃ p c, e = .returned (.tuple #[.slice p (Vt.rootsR m).length c, .int .i64 0]) ∧ (Vt.rootsR m).length ≤ c ∧ Wp.At Wp.mkT w' p (Vt.rootsR m) ∧ Below W.heap.size W w'))
    have CC := Lib.hid (fun W (hb : Below w.heap.size w W) p c (hA : Nd.Row W p m) => (by
      have := vtCount_any m p c W (by omega) hA hts (HT.out.below hb) (HM.out.below hb)
      rw [hck, hg] at this
      exact this : Calls Tryz.prog 18 #[.slice p m.length c] W fun e w' => e = .returned (.tuple #[.int .i64 (Nd.cntL m : Nat), .int .i64 0]) ∧ Below W.heap.size W w'))
    have CO := Lib.hid (fun W (hb : Below w.heap.size w W) p c (hA : Nd.Row W p m) pn cn (hN : Wp.At Wp.mkT W pn ((Nd.wordsT (Nd.toksL m)).map Tg.fst)) => (by
      have := vtOnly_any m p c ((Nd.wordsT (Nd.toksL m)).map Tg.fst) pn cn W (by omega) hA hts (HT.out.below hb) (HM.out.below hb) hN (by rw [List.length_map]; omega)
      rw [hr2] at this
      exact this : Calls Tryz.prog 24 #[.slice p m.length c, .slice pn ((Nd.wordsT (Nd.toksL m)).map Tg.fst).length cn] W fun e w' => e = .returned (.int .i64 0) ∧ Below W.heap.size W w'))
    have HRo := Lib.hid hr1
    have HWo := Lib.hid hr5
    have hrl := Vt.rootsR_len m
    generalize Nd.cntL m = cnt at *
    generalize Nd.wordsT (Nd.toksL m) = ws at *
    generalize Vt.rootsR m = R at *
    clear hr1 hr2 hr5 hck hg hts HO HX
    generalize m.length = mn at *
    go_wp2_with fail
    refine (CW.out _ B2.out _ _ HA2.out).mono ?_
    rintro e w3 ⟨v3, rfl, hO3, hb⟩
    obtain ⟨p3, c3, rfl, -, hA3⟩ := Nd.texts_off hO3
    have HA3 := Lib.hid (hA3 w3 (fun _ _ _ => rfl))
    have HN3 := Lib.hid (HA2.out.below hb)
    have B3 := Lib.hid (B2.out.trans (hb.mono B2.out.size))
    clear hb hO3 hA3 CW HA2 B2
    go_wp2_with fail
    refine (CR.out _ B3.out _ _ HN3.out).mono ?_
    rintro e w4 ⟨p4, c4, rfl, -, hA4, hb⟩
    have HP4 := Lib.hid (HA3.out.below hb)
    have HN4 := Lib.hid (HN3.out.below hb)
    have HR4 := Lib.hid hA4
    have B4 := Lib.hid (B3.out.trans (hb.mono B3.out.size))
    clear hb hA4 CR HA3 HN3 B3
    obtain ⟨n, hn⟩ : ∃ n, n = ws.length := ⟨_, rfl⟩
    have HN := Lib.hid hn
    obtain ⟨nr, hnr⟩ : ∃ n, n = R.length := ⟨_, rfl⟩
    have HNr := Lib.hid hnr
    dsimp only
    rw [← hn] at hr3 hr4 ⊢
    rw [← hnr] at hrl ⊢
    clear hn hnr
    go_wp2_with fail
    go_loopw [9, 11, 12, 13, 45] (fun v9 _ _ _ t wr => ∃ k : Nat, k ≤ n ∧ t = .int .i64 k ∧ Hid (wr.ownsRow w4.heap.size 9 1 v9 ((ws.take k).map Tg.fst).length (((ws.take k).map Tg.fst).map Wp.mkT)) ∧ Hid (Below w4.heap.size w4 wr)) (fun _ _ _ _ t _ => n - (intOf t).toNat)
    case atStart => exact ⟨0, Nat.zero_le _, rfl, Lib.hid (World.ownsRow_nil _ _ _ _), Lib.hid (Below.refl _ _)⟩
    case round =>
      obtain ⟨k, hk, rfl, HOw, HB⟩ := hrel
      by_cases hlt : k < n
      · have hkl : k < ws.length := by rw [← HN.out]; exact hlt
        obtain ⟨pb, off, rfl, hcell⟩ := (HP4.out.below HB.out).get k hkl
        obtain ⟨hz1, hz2, hz3, hz4⟩ := HWo.out ws[k] (List.getElem_mem hkl)
        have hB := B4.out.trans (HB.out.mono B4.out.size)
        have CPa := Lib.hid (scPath_any ws[k] wr (by omega) (HT.out.below hB) (HM.out.below hB))
        have hsn : (ws.take (k + 1)).map Tg.fst = (ws.take k).map Tg.fst ++ [Tg.fst ws[k]] := by rw [List.take_succ_eq_append_getElem hkl, List.map_append]; rfl
        have hfk : Tg.fst ws[k] = Vt.rt (Sc.pathR ws[k].data.toList).1 := rfl
        have hlk : ((ws.take k).map Tg.fst).length ≤ 1000 := by rw [List.length_map, List.length_take]; omega
        rw [show Wp.mkT ws[k] = .string ws[k] from rfl] at hcell
        generalize Tg.fst ws[k] = f at *
        generalize Sc.pathR ws[k].data.toList = T at *
        obtain ⟨pl, zc⟩ := T
        simp only at hz2 hz3 hz4 hfk
        subst hz2
        cases pl with
        | nil => exact absurd rfl hz3
        | cons x0 rest =>
          obtain rfl : f = x0 := hfk
          have HSn := Lib.hid hsn
          have HLk := Lib.hid hlk
          generalize (ws.take k).map Tg.fst = FK at *
          generalize ws[k] = wd at *
          obtain ⟨q, hq⟩ : ∃ q, q = (f :: rest).length := ⟨_, rfl⟩
          have hqz : ((q : Int) == 0) = false := beq_eq_false_iff_ne.2 (by omega)
          have hq1 : q ≠ 0 := by omega
          have hq2 : (0 : Int) < (q : Int) := by omega
          have HQ := Lib.hid hq
          clear hz1 hz3 hz4 hsn hlk hB hq
          go_wp2_with fail
          refine CPa.out.mono ?_
          rintro e w5 ⟨p5, c5, rfl, -, hoff, hb⟩
          have hpl : Wp.At Wp.mkT w5 p5 (f :: rest) := hoff w5 (fun _ _ _ => rfl)
          obtain ⟨b5, o5, rfl, hc5⟩ := hpl.get 0 (by simp)
          rw [Nat.add_zero] at hc5
          replace hc5 : w5.cell? ⟨b5, o5, none⟩ = some (.string f) := hc5
          dsimp only
          rw [← HQ.out]
          have HB5 := Lib.hid (HB.out.trans (hb.mono HB.out.size))
          have HO5 := Lib.hid ((ownsRow_below HOw.out hb).alloc (.cells #[.string f] 9))
          have HB6 := Lib.hid (HB5.out.alloc HB5.out.size (.cells #[.string f] 9))
          clear hb hoff hpl CPa HOw HB
          go_wp2_with (at_builtin; go_loud (refine Vt.listW (mk := Wp.mkT) rfl _ _ _ rfl (fun _ => rfl) Vt.tyTexts FK [f] _ _ _ _ w4.heap.size rfl rfl HO5.out (Ow.one (Ow.n3 w5 9 _)) rfl (by have := HLk.out; omega) (by simp) HB6.out.size ?_))
          intro v6 w6 hO6 hg6
          have HB7 := Lib.hid (Ow.grown HB6.out HO5.out hg6 HB6.out.size)
          have HO7 := Lib.hid (show w6.ownsRow w4.heap.size 9 1 v6 ((ws.take (k + 1)).map Tg.fst).length (((ws.take (k + 1)).map Tg.fst).map Wp.mkT) by rw [HSn.out, List.length_append, List.map_append]; exact hO6)
          clear hO6 hg6 HO5 HB5 HB6
          go_wp2_with fail
          exact ⟨⟨k + 1, by omega, by go_num, HO7, HB7⟩, by simp [intOf]; omega⟩
      · obtain rfl : k = n := by omega
        have hO1 := HOw.out
        rw [HN.out, List.take_length] at hO1
        obtain ⟨pf, cf, rfl, hAf⟩ := owns_at (mk := Wp.mkT) hO1
        have hFl : (ws.map Tg.fst).length ≤ 256 := by rw [List.length_map, ← HN.out]; exact hr4
        have HF := Lib.hid hAf
        have B5 := Lib.hid (B4.out.trans (HB.out.mono B4.out.size))
        have HN5 := Lib.hid (HN4.out.below HB.out)
        have HR5 := Lib.hid (HR4.out.below HB.out)
        have CO2 := Lib.hid (fun W (hb : Below w.heap.size w W) p c (hA : Nd.Row W p m) pn cn (hN : Wp.At Wp.mkT W pn (ws.map Tg.fst)) => CO.out W hb p c hA pn cn hN)
        generalize ws.map Tg.fst = F at *
        obtain ⟨nf, hnf⟩ : ∃ n, n = F.length := ⟨_, rfl⟩
        have HNf := Lib.hid hnf
        rw [← hnf] at hFl CO2 ⊢
        clear hO1 hAf hnf HOw HB HN4 HR4 B4 CO HP4
        go_wp2_with fail
        go_loopw [15, 16, 18, 70] (fun _ _ _ t wq => ∃ k : Nat, k ≤ nr ∧ t = .int .i64 k ∧ wq = wr) (fun _ _ _ t _ => nr - (intOf t).toNat)
        case atStart => exact ⟨0, Nat.zero_le _, rfl, rfl⟩
        case round =>
          obtain ⟨k2, hk2, rfl, rfl⟩ := hrel
          by_cases hlt2 : k2 < nr
          · have hkl : k2 < R.length := by rw [← HNr.out]; exact hlt2
            obtain ⟨pb, off, rfl, hcell⟩ := HR5.out.get k2 hkl
            obtain ⟨hx1, hx2⟩ := HRo.out R[k2] (List.getElem_mem hkl)
            rw [show Wp.mkT R[k2] = .string R[k2] from rfl] at hcell
            generalize R[k2] = x at *
            have HX1 := Lib.hid hx1
            clear hx1
            go_wp2_with fail
            go_loopw [16, 18, 76] (fun v16 _ t wq => ∃ (j : Nat) (is : Bool), j ≤ nf ∧ t = .int .i64 j ∧ v16 = .bool is ∧ Hid (is = true ↔ x ∈ F.take j) ∧ wq = wr) (fun _ _ t _ => nf - (intOf t).toNat)
            case atStart => exact ⟨0, false, Nat.zero_le _, rfl, rfl, Lib.hid (by simp), rfl⟩
            case round =>
              obtain ⟨j, is, hj, rfl, rfl, HI, rfl⟩ := hrel
              by_cases hjl : j < nf
              · have hjf : j < F.length := by rw [← HNf.out]; exact hjl
                obtain ⟨fb, fo, rfl, hfc⟩ := HF.out.get j hjf
                rw [show Wp.mkT F[j] = .string F[j] from rfl] at hfc
                have hst : x ∈ F.take (j + 1) ↔ x ∈ F.take j ∨ F[j] = x := by rw [List.take_succ_eq_append_getElem hjf, List.mem_append, List.mem_singleton, eq_comm]
                generalize F[j] = y at *
                have HS := Lib.hid hst
                clear hst
                cases is with
                | true =>
                  have HJ : Hid (true = true ↔ x ∈ F.take (j + 1)) := Lib.hid ⟨fun _ => HS.out.2 (Or.inl (HI.out.1 rfl)), fun _ => rfl⟩
                  clear HI HS
                  go_wp2_with fail
                  exact ⟨⟨j + 1, true, by omega, by go_num, rfl, HJ, trivial⟩, by simp [intOf]; omega⟩
                | false =>
                  by_cases hyx : y = x
                  · have HJ : Hid (true = true ↔ x ∈ F.take (j + 1)) := Lib.hid ⟨fun _ => HS.out.2 (Or.inr hyx), fun _ => rfl⟩
                    subst hyx
                    clear HI HS
                    go_wp2_with fail
                    exact ⟨⟨j + 1, true, by omega, by go_num, rfl, HJ, trivial⟩, by simp [intOf]; omega⟩
                  · have HJ : Hid (false = true ↔ x ∈ F.take (j + 1)) := Lib.hid ⟨fun h => Bool.noConfusion h, fun h => (HS.out.1 h).elim (fun h => (HI.out.2 h)) (fun h => absurd h hyx)⟩
                    have hq1 : (y == x) = false := Tg.ba_ne hyx
                    have hq2 : (y.toList == x.toList) = false := Tg.ba_nel hyx
                    clear HI HS hyx
                    go_wp2_with fail
                    exact ⟨⟨j + 1, false, by omega, by go_num, rfl, HJ, trivial⟩, by simp [intOf]; omega⟩
              · obtain rfl : j = nf := by omega
                have hi := HI.out
                rw [HNf.out, List.take_length] at hi
                obtain rfl : is = true := hi.2 HX1.out
                clear hi HI HX1
                go_wp2_with fail
                exact ⟨⟨k2 + 1, by omega, by go_num, trivial⟩, by simp [intOf]; omega⟩
          · obtain rfl : k2 = nr := by omega
            go_wp2_with fail
            refine (CC.out _ B5.out _ _ HN5.out).mono ?_
            rintro e w6 ⟨rfl, hb⟩
            have HF6 := Lib.hid (HF.out.below hb)
            have HN6 := Lib.hid (HN5.out.below hb)
            have B6 := Lib.hid (B5.out.trans (hb.mono B5.out.size))
            have C9 := Lib.hid (CO2.out _ B6.out p2 c2 HN6.out pf cf HF6.out)
            have hge : ((k : Int)) ≤ (cnt : Int) := by omega
            clear hb CC CO2 HN5 B5 HF
            go_wp2_with fail
            refine C9.out.mono ?_
            rintro e w7 ⟨rfl, hb⟩
            have B7 := Lib.hid (B6.out.trans (hb.mono B6.out.size))
            clear hb C9
            go_wp2_with fail
            go_ret
            exact ⟨rfl, B7.out⟩
  · obtain rfl : m = [] := HX.out hcm
    have q0 : (cm != 0) = true := by rw [bne_iff_ne]; exact hcm
    clear HO hcm HX
    go_wp2_with fail
    go_ret
    exact ⟨rfl, B2.out⟩
end Go.Proofs.YteiccjakaabfnaaGreatDoor
