
/-
  The walk of scan's source. Conditions: the token is right; the words' table reads as it is laid.
-/
import Derived.Test.YteajjlilpikdeaaGreatDoorScSrcMath
import Derived.Test.YteajjlilpikdeaaGreatDoorScRightW
import Derived.Deep.RegionHeld3
import Derived.Deep.Cut
import Derived.Deep.CutRange
namespace Go.Proofs.YteajjlilpikdeaaGreatDoor
open Go.RowKit Go.Shelf

theorem Sc.join_any (pn : Option Addr) (cn : Nat) (p : List ByteArray) (w : World) (hp : Wp.At Wp.mkT w pn p) (hc : p.length ≤ cn) (h4 : p.length ≤ 4) (hl : (Sc.joinP p).length ≤ 131) :
    Calls Tryz.prog 57 #[.slice pn p.length cn, .string ⟨#[46]⟩] w fun e w' => e = .returned (.string (Wp.B (Sc.joinP p))) ∧ Below w.heap.size w w' := by
  rcases hp with rfl | ⟨b, off, rfl, hcell⟩
  · refine (Tryz.strings_Join_none pn cn ⟨#[46]⟩ w).mono ?_
    rintro e w' ⟨rfl, rfl⟩
    exact ⟨rfl, Below.refl _ _⟩
  · cases p with
    | nil =>
      refine (Tryz.strings_Join_none (some ⟨b, off, none⟩) cn ⟨#[46]⟩ w).mono ?_
      rintro e w' ⟨rfl, rfl⟩
      exact ⟨rfl, Below.refl _ _⟩
    | cons a r =>
      have hcs : ∀ (j : Nat) x, (a :: r)[j]? = some x → w.cell? ⟨b, off + j, none⟩ = some (.string x) := fun j x hx => by
        obtain ⟨hj, he⟩ := List.getElem?_eq_some_iff.1 hx
        rw [hcell j hj, he]
        rfl
      have hb : b < w.heap.size := World.block_lt_of_cell? w _ (hcs 0 a rfl)
      have h := Tryz.strings_Join b off cn (a :: r) ⟨#[46]⟩ w hcs hb (by omega) hc (by rw [show (⟨#[46]⟩ : ByteArray).data.toList = [46] from rfl, Sc.join_eq]; omega)
      rw [show (⟨#[46]⟩ : ByteArray).data.toList = [46] from rfl, Sc.join_eq] at h
      exact h
theorem Sc.Laid.kwc {w : World} (h : Sc.Laid w) (k : Nat) (h2 : 2 ≤ k) (h6 : k ≤ 6) : w.cell? ⟨2, k, none⟩ = some (.string (Sc.kw k)) := by
  obtain ⟨c0, c1, c2, c3, c4, c5, c6⟩ := h.cells
  have : k = 2 ∨ k = 3 ∨ k = 4 ∨ k = 5 ∨ k = 6 := by omega
  rcases this with rfl | rfl | rfl | rfl | rfl
  · exact c2
  · exact c3
  · exact c4
  · exact c5
  · exact c6
theorem Sc.trim_any (l : List UInt8) (w : World) (hl : l.length ≤ 1000000) :
    Calls Tryz.prog 128 #[.string (Wp.B l), .string ⟨#[32]⟩] w fun e w' => e = .returned (.string (Wp.B (Lib.trimB l 32))) ∧ Below w.heap.size w w' := by
  refine (Tryz.strings_Trim_one (Wp.B l) 32 (by decide) w (by rw [Wp.B_size]; omega)).mono ?_
  rintro e w' ⟨rfl, h⟩
  refine ⟨rfl, ?_⟩
  rcases h with rfl | rfl
  · exact Below.refl _ _
  · exact (Below.refl _ _).drew
set_option maxRecDepth 100000 in
set_option maxHeartbeats 2000000 in
theorem scSource_any (t : Sc.T) (v : Value) (w : World) (hA : Sc.Tok w v t) (hok : Sc.okT t = true) (hT : Sc.Laid w) :
    Calls Tryz.prog 99 #[v] w fun e w' => e = .returned (.string (Wp.B (Sc.srcT t))) ∧ Below w.heap.size w w' := by
  obtain ⟨pn, cn, rfl, ⟨⟨f1, fc⟩, f2, f3, f4⟩, hp⟩ := hA
  have HB0 := Lib.hid ((Below.refl w.heap.size w).alloc (Nat.le_refl _) (.cells #[.int .u8 (t.kind : Nat), .string t.text, .slice pn t.path.length cn] 46))
  have HV0 := Lib.hid (Vl.new w (.cells #[.int .u8 (t.kind : Nat), .string t.text, .slice pn t.path.length cn] 46))
  by_cases h1 : t.kind = 1
  · have HS := Lib.hid (show Wp.B (Sc.srcT t) = t.text by unfold Sc.srcT; rw [if_pos h1, Wp.B_of])
    rw [HS.out]
    rw [h1] at HB0 HV0 ⊢
    obtain ⟨m0, m1, m2⟩ := Sc.three_of HV0.out
    clear hp hok hT fc f1 f2 f3 f4 h1
    generalize t.text = tx at *
    generalize t.path.length = n at *
    go_enter Tryz.func99, Tryz.ntmps99
    go_wp2_with fail
    go_ret
    exact ⟨rfl, HB0.out⟩
  · obtain ⟨g4, gj, g6, g2⟩ := Sc.mid_len hok h1
    have hmid := Sc.trim_mid hok h1
    have HJ : Hid (∀ W, Below w.heap.size w W → Calls Tryz.prog 57 #[.slice pn t.path.length cn, .string ⟨#[46]⟩] W fun e w' => e = .returned (.string (Wp.B (Sc.joinP t.path))) ∧ Below W.heap.size W w') := Lib.hid (fun W h => Sc.join_any pn cn t.path W (hp.below h) fc g4 gj)
    have HT : Hid (∀ W, Calls Tryz.prog 128 #[.string (Wp.B (Sc.midT t)), .string ⟨#[32]⟩] W fun e w' => e = .returned (.string (Wp.B (Sc.wordT t))) ∧ Below W.heap.size W w') := Lib.hid (fun W => by
      have hk : (Sc.kw t.kind).data.toList.length ≤ 4 := by
        have : t.kind = 2 ∨ t.kind = 3 ∨ t.kind = 4 ∨ t.kind = 5 ∨ t.kind = 6 := by omega
        rcases this with h | h | h | h | h <;> (rw [h]; decide)
      have := Sc.trim_any (Sc.midT t) W (by unfold Sc.midT; simp only [List.length_append, List.length_singleton]; omega)
      rwa [hmid] at this)
    have HSm := Lib.hid (show (Sc.kw t.kind ++ (⟨#[32]⟩ : ByteArray)) ++ Wp.B (Sc.joinP t.path) = Wp.B (Sc.midT t) by
      rw [← Wp.B_of (Sc.kw t.kind), show (⟨#[32]⟩ : ByteArray) = Wp.B [32] from rfl, Wp.B_append, Wp.B_data, Wp.B_append, Wp.B_data, List.append_assoc]; rfl)
    have HSr := Lib.hid (show ((⟨#[123, 123]⟩ : ByteArray) ++ Wp.B (Sc.wordT t)) ++ (⟨#[125, 125]⟩ : ByteArray) = Wp.B (Sc.srcT t) by
      rw [show (⟨#[123, 123]⟩ : ByteArray) = Wp.B [123, 123] from rfl, show (⟨#[125, 125]⟩ : ByteArray) = Wp.B [125, 125] from rfl, Wp.B_append, Wp.B_data, Wp.B_append, Wp.B_data]
      unfold Sc.srcT
      rw [if_neg h1, List.append_assoc]; rfl)
    have hj1 : (Wp.B (Sc.joinP t.path)).size ≤ 131 := by rw [Wp.B_size]; exact gj
    have hw1 : (Wp.B (Sc.wordT t)).size ≤ 200 := by
      rw [Wp.B_size]
      unfold Sc.wordT
      repeat' split
      all_goals first | omega | (simp [Sc.wIf, Sc.wEach, Sc.wElse, Sc.wEnd]; done) | (simp [Sc.wIf, Sc.wEach, Sc.wElse, Sc.wEnd]; omega)
    have e1 : ((t.kind : Int) == 1) = false := beq_eq_false_iff_ne.2 (by omega)
    have HT0 := Lib.hid hT
    obtain ⟨m0, m1, m2⟩ := Sc.three_of HV0.out
    have zg := (Array.getElem?_eq_some_iff.1 HV0.out).1
    have hkw : (Sc.kw t.kind).size ≤ 4 := by
      have : t.kind = 2 ∨ t.kind = 3 ∨ t.kind = 4 ∨ t.kind = 5 ∨ t.kind = 6 := by omega
      rcases this with h | h | h | h | h <;> (rw [h]; decide)
    have hkc := Sc.Laid.kwc (hT.below HB0.out) t.kind g2 g6
    have hkl : 2 < (w.alloc (.cells #[.int .u8 (t.kind : Nat), .string t.text, .slice pn t.path.length cn] 46)).heap.size := World.block_lt_of_cell? _ _ hkc
    clear hp hok hmid hT h1
    generalize Sc.kw t.kind = kwt at *
    generalize Wp.B (Sc.joinP t.path) = jp at *
    generalize Wp.B (Sc.wordT t) = wt at *
    generalize Wp.B (Sc.srcT t) = R at *
    generalize Wp.B (Sc.midT t) = mt at *
    generalize t.text = tx at *
    generalize t.path.length = n at *
    generalize t.kind = k at *
    have hk7 : (k : Int) < 7 := by omega
    have hk0 : (0 : Int) ≤ (k : Int) := by omega
    have HszM := Lib.hid (show mt.size ≤ 200 by rw [← HSm.out, ByteArray.size_append, ByteArray.size_append]; show kwt.size + 1 + jp.size ≤ 200; omega)
    go_enter Tryz.func99, Tryz.ntmps99
    go_upto_region 3 with fail
    have HB1 := Lib.hid HB0.out
    generalize (w.alloc (.cells #[.int .u8 k, .string tx, .slice pn n cn] 46)) = W0 at *
    have hg0 : w.heap.size < W0.heap.size := zg
    have hsz2 : (kwt ++ (⟨#[32]⟩ : ByteArray)).size ≤ 5 := by rw [ByteArray.size_append]; show kwt.size + 1 ≤ 5; omega
    have HKp : Hid (∀ w' : World, Below W0.heap.size W0 w' → (fun w' => w'.cell? ⟨w.heap.size, 0, none⟩ = some (.int .u8 k) ∧ w'.cell? ⟨w.heap.size, 2, none⟩ = some (.slice pn n cn) ∧ w'.cell? ⟨2, k, none⟩ = some (.string kwt)) w') := Lib.hid (fun w' h => ⟨(h.cell (p := ⟨w.heap.size, 0, none⟩) zg).trans m0, (h.cell (p := ⟨w.heap.size, 2, none⟩) zg).trans m2, (h.cell (p := ⟨2, k, none⟩) hkl).trans hkc⟩)
    have HJ2 := Lib.hid (HJ.out _ (HB1.out.trans ((Below.refl _ W0).drew.mono HB1.out.size)))
    -- BEGIN3
    refine wp_region_held_drew (S := (fun w' => w'.cell? ⟨w.heap.size, 0, none⟩ = some (.int .u8 k) ∧ w'.cell? ⟨w.heap.size, 2, none⟩ = some (.slice pn n cn) ∧ w'.cell? ⟨2, k, none⟩ = some (.string kwt))) (by kernel_rfl) (HKp.out _ (Below.refl _ W0).drew) (fun hH1 => ?_)
    refine wpAnyH_take (i := 0) (v := ?_) rfl (by kernel_rfl) (by kernel_rfl) (by kernel_rfl) (fun _ _ _ h => h) (Or.inl ⟨by kernel_rfl, ?_⟩) (by assumption) ?_
    rotate_left 1
    · (intro w hSw; (try dsimp only at hSw); go_simp; first | (with_reducible rfl) | (rw [if_neg (by omega)]) | skip)
    simp only [List.getElem_toArray, List.getElem_cons_succ, List.getElem_cons_zero, Act.put, List.setIfInBounds_toArray, List.set_cons_succ, List.set_cons_zero]
    refine wpAnyH_take (i := 1) (v := ?_) rfl (by kernel_rfl) (by kernel_rfl) (by kernel_rfl) (fun _ _ _ h => h) (Or.inl ⟨by kernel_rfl, ?_⟩) (by assumption) ?_
    rotate_left 1
    · (intro w hSw; (try dsimp only at hSw); go_simp; first | (with_reducible rfl) | (rw [if_neg (by omega)]) | skip)
    simp only [List.getElem_toArray, List.getElem_cons_succ, List.getElem_cons_zero, Act.put, List.setIfInBounds_toArray, List.set_cons_succ, List.set_cons_zero]
    refine wpAnyH_take (i := 2) (v := ?_) rfl (by kernel_rfl) (by kernel_rfl) (by kernel_rfl) (fun _ _ _ h => h) (Or.inl ⟨by kernel_rfl, ?_⟩) (by assumption) ?_
    rotate_left 1
    · (intro w hSw; (try dsimp only at hSw); go_simp; first | (with_reducible rfl) | (rw [if_neg (by omega)]) | skip)
    simp only [List.getElem_toArray, List.getElem_cons_succ, List.getElem_cons_zero, Act.put, List.setIfInBounds_toArray, List.set_cons_succ, List.set_cons_zero]
    refine wpAnyH_take (i := 3) (v := ?_) rfl (by kernel_rfl) (by kernel_rfl) (by kernel_rfl) (fun _ _ _ h => h) (Or.inl ⟨by kernel_rfl, ?_⟩) (by assumption) ?_
    rotate_left 1
    · (intro w hSw; (try dsimp only at hSw); go_simp; first | (with_reducible rfl) | (rw [if_neg (by omega)]) | skip)
    simp only [List.getElem_toArray, List.getElem_cons_succ, List.getElem_cons_zero, Act.put, List.setIfInBounds_toArray, List.set_cons_succ, List.set_cons_zero]
    refine wpAnyH_take (i := 4) (v := ?_) rfl (by kernel_rfl) (by kernel_rfl) (by kernel_rfl) (fun _ _ _ h => h) (Or.inl ⟨by kernel_rfl, ?_⟩) (by assumption) ?_
    rotate_left 1
    · (intro w hSw; (try dsimp only at hSw); go_simp; first | (with_reducible rfl) | (rw [if_neg (by omega)]) | skip)
    simp only [List.getElem_toArray, List.getElem_cons_succ, List.getElem_cons_zero, Act.put, List.setIfInBounds_toArray, List.set_cons_succ, List.set_cons_zero]
    refine wpAnyH_take (i := 5) (v := ?_) rfl (by kernel_rfl) (by kernel_rfl) (by kernel_rfl) (fun _ _ _ h => h) (Or.inl ⟨by kernel_rfl, ?_⟩) (by assumption) ?_
    rotate_left 1
    · (intro w hSw; (try dsimp only at hSw); go_simp; first | (with_reducible rfl) | (rw [if_neg (by omega)]) | skip)
    simp only [List.getElem_toArray, List.getElem_cons_succ, List.getElem_cons_zero, Act.put, List.setIfInBounds_toArray, List.set_cons_succ, List.set_cons_zero]
    refine wpAnyH_take (i := 6) (v := ?_) rfl (by kernel_rfl) (by kernel_rfl) (by kernel_rfl) (fun _ _ _ h => h) (Or.inl ⟨by kernel_rfl, ?_⟩) (by assumption) ?_
    rotate_left 1
    · (intro w hSw; (try dsimp only at hSw); go_simp; first | (with_reducible rfl) | (rw [if_neg (by omega)]) | skip)
    simp only [List.getElem_toArray, List.getElem_cons_succ, List.getElem_cons_zero, Act.put, List.setIfInBounds_toArray, List.set_cons_succ, List.set_cons_zero]
    refine wpAnyH_ready (rs := [7]) (by kernel_rfl) (by simp) ?_
    refine AllReadyH.cons rfl (fun K hK => ?_) AllReadyH.nil
    go_simp
    with_reducible refine HJ2.out.mono ?_
    rintro e wA ⟨rfl, eb⟩
    have e1 : Below W0.heap.size W0 wA := ((Below.refl _ W0).drew.trans eb)
    go_simp
    refine hK.out _ _ (HKp.out _ e1) (fun hH2 => ?_)
    clear hK K
    refine wpAnyH_take (i := 8) (v := ?_) rfl (by kernel_rfl) (by kernel_rfl) (by kernel_rfl) (fun _ _ _ h => h) (Or.inl ⟨by kernel_rfl, ?_⟩) (by assumption) ?_
    rotate_left 1
    · (intro w hSw; (try dsimp only at hSw); go_simp; first | (with_reducible rfl) | (rw [if_neg (by omega)]) | skip)
    simp only [List.getElem_toArray, List.getElem_cons_succ, List.getElem_cons_zero, Act.put, List.setIfInBounds_toArray, List.set_cons_succ, List.set_cons_zero]
    refine wpAnyH_take (i := 9) (v := ?_) rfl (by kernel_rfl) (by kernel_rfl) (by kernel_rfl) (fun _ _ _ h => h) (Or.inl ⟨by kernel_rfl, ?_⟩) (by assumption) ?_
    rotate_left 1
    · (intro w hSw; (try dsimp only at hSw); go_simp; first | (with_reducible rfl) | (rw [if_neg (by omega)]) | skip)
    simp only [List.getElem_toArray, List.getElem_cons_succ, List.getElem_cons_zero, Act.put, List.setIfInBounds_toArray, List.set_cons_succ, List.set_cons_zero]
    refine wpAnyH_done (by kernel_rfl) ?_ _
    -- END3
    have HB9 := Lib.hid (HB1.out.trans (e1.mono HB1.out.size))
    rw [HSm.out]
    have hzm := HszM.out
    have hadd : (⟨#[123, 123]⟩ : ByteArray).size = 2 := rfl
    clear hadd m0 m2 hkc hH1 hH2 e1
    go_wp2_with fail
    refine (HT.out _).mono ?_
    rintro e wC ⟨rfl, eb3⟩
    have HB10 := Lib.hid (HB9.out.trans (eb3.mono HB9.out.size))
    clear eb3
    go_wp2_with fail
    go_ret
    exact ⟨by rw [← HSr.out]; rfl, HB10.out⟩
end Go.Proofs.YteajjlilpikdeaaGreatDoor
