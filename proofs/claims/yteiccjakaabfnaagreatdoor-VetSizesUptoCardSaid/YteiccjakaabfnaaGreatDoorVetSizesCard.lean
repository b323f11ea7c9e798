
/-
  The tied card of VetSizes, where what it reads is of bulk at most 1048576, proved: whatever the arguments, the law hands back true and leaves them as they were. Condition: the form's own reach and that bulk; what the table holds is tied to the program's text.
-/
import Derived.Test.YteiccjakaabfnaaGreatDoorVetSizesLaid
import Derived.Test.YteiccjakaabfnaaGreatDoorVetSizesOwn
import Derived.Test.YteiccjakaabfnaaGreatDoorSeatA
import Derived.Test.YteiccjakaabfnaaGreatDoorSeatB
import Derived.Test.YteiccjakaabfnaaGreatDoorSeatC
import Derived.Test.YteiccjakaabfnaaGreatDoorSeatD
import Derived.Test.YteiccjakaabfnaaGreatDoorVetSizesLaw
import Derived.Test.YteiccjakaabfnaaGreatDoorZ52
import Derived.Test.YteiccjakaabfnaaGreatDoorCards
import Derived.Test.YteiccjakaabfnaaGreatDoorZ42
import Derived.Test.YteiccjakaabfnaaGreatDoorTie
import Derived.Deep.DeepHandedRow
import Derived.Lib.LaidTab
import Derived.Test.YteiccjakaabfnaaGreatDoorZ46
namespace Go.Proofs.YteiccjakaabfnaaGreatDoor.vetSizes
open Go.ChangeShapes Go.WideShapes Go.ChangeAt Go.RowKit
open Go.ChangeMaps (open_string)

theorem laid_of {W : World} (h : laidMetH Tryz.prog Rows.vetSizesUptoRow.laid W) : Sc.Laid W ∧ ∃ a b, Nd.Errs W a b := Nd.laid_of h
theorem max_of {W : World} (h : W.ShapedOpen Tryz.prog) : Sc.MaxLen W := Tryz.laysM145.s1_3 W h

set_option maxRecDepth 100000 in
theorem contract (H : Type) (enc : TypeId × Value → H) (W : World) (base : Nat) (args : Array Value) (ds gs : List (DataW H)) (before : List MemPlace) (ts' : List TypeId)
    (hval : ∀ (j : Nat) t v, Tryz.f5.params[j]? = some t → args[j]? = some v → Value.okWide Tryz.prog W .any base t v)
    (hW : DataW.Whole enc Tryz.prog Tryz.f5.params.toList Rows.vetSizesSpec.vars false W args.toList ds gs before)
    (hsz : (DataW.weightsEach Tryz.prog (Tryz.f5.params.toList ++ ts') (ds ++ gs)).all (· ≤ reachBytes) = true) (hk : Rows.uptoSmall H (ds ++ gs) = true) (hLd : Sc.Laid W) (ea eb : Addr) (hEr : Nd.Errs W ea eb) (hMx : Sc.MaxLen W) :
    Calls Tryz.prog 5 args W fun e W' => ∃ v, e = .returned v ∧ Rows.vetSizesSpec.post enc Tryz.prog Tryz.f5 false true false false W args v W' := by
  have hW' := hW
  obtain ⟨p, q, hA0, hV, rfl, hfz, hnd⟩ := hW
  have hA : DataW.TrodAll enc Tryz.prog W 0 (fun _ => true) true Tryz.f5.params.toList args.toList ds p := hA0
  rw [Tryz.params5] at hA hval hsz
  obtain ⟨v0, vs0, d0, ds0, p0, q0, hargs, rfl, rfl, h0, r0⟩ := trodAll_cons hA
  obtain ⟨v1, vs1, d1, ds1, p1, q1, rfl, rfl, rfl, h1, r1⟩ := trodAll_cons r0
  obtain ⟨rfl, rfl, rfl⟩ := trodAll_nil r1
  obtain rfl : args = #[v0, v1] := by cases args; simp_all
  obtain ⟨rfl, rfl⟩ := trodVars_none hV
  obtain ⟨p0', c0, l0, rfl, t0, m0, x0, b0⟩ := Nd.open_nodesL hsz 0 rfl rfl (hval 0 22 v0 rfl rfl) h0
  obtain ⟨p1', c1, l1, rfl, t1, m1, x1, b1⟩ := Nd.open_nodesL hsz 1 rfl rfl (hval 1 22 v1 rfl rfl) h1
  have k0 := fun t ht => Nat.le_trans (x0 t ht).1 (Sc.bulk_get hk d0 (by simp))
  have n0 := fun t ht => Nat.le_trans (x0 t ht).2 (Sc.bulk_get hk d0 (by simp))
  have j0 := Nat.le_trans b0 (Sc.bulk_get hk d0 (by simp))
  have k1 := fun t ht => Nat.le_trans (x1 t ht).1 (Sc.bulk_get hk d1 (by simp))
  have n1 := fun t ht => Nat.le_trans (x1 t ht).2 (Sc.bulk_get hk d1 (by simp))
  have j1 := Nat.le_trans b1 (Sc.bulk_get hk d1 (by simp))
  refine (vetSizes_law p0' p1' c0 c1 l0 l1 W ea eb t0 t1 j0 j1 (fun t ht => Nat.le_trans (k0 t ht) (by omega)) (fun t ht => Nat.le_trans (k1 t ht) (by omega)) hLd hMx hEr).mono fun e W' ⟨he, hg⟩ => ?_
  subst he
  exact ⟨_, rfl, law_post laidOut (by kernel_rfl) rfl rfl Tryz.underlying4 rfl hW' hg⟩

set_option maxRecDepth 100000 in
theorem lifted (os : Os) (started : os.Started) (H : Type) (enc : TypeId × Value → H) (F : Stop.Interp) :
    ReturnsInHanded {} Tryz.checked os 5 .any ((Rows.OpenSpec.upto Rows.vetSizesSpec).preRow enc Tryz.prog Tryz.f5 Rows.vetSizesUptoRow.domain false Rows.vetSizesUptoRow.laid) (((Rows.OpenSpec.upto Rows.vetSizesSpec).at F).post enc Tryz.prog Tryz.f5 false true false false) := by
  obtain ⟨places, hx⟩ := reads os enc
  refine returnsInHanded_of_row (C := Tryz.checked) (s := Rows.OpenSpec.upto Rows.vetSizesSpec) own started (by kernel_rfl) Tryz.func5
    (witness_row_at (enc := enc) (C := Tryz.checked) false (laidWorld os) #[Value.slice none 0 0, Value.slice none 0 0] rfl (w2 os) (w3 os) (w4 os)
      (OpenSpec.preRow_of_cond 8 hx (by kernel_rfl) (fun k hk => by cases hk; kernel_rfl) (w7 os enc) (laid_met os))) ?_
  intro W base args ds gs before hval hW _ hcond hsz hL hsh _
  exact contract H enc W base args ds gs before _ hval hW hsz (hcond _ rfl) (laid_of hL).1 _ _ (laid_of hL).2.choose_spec.choose_spec (max_of hsh)

theorem j0 : (Rows.vetSizesUptoRow.wf (OpenSpec.ofChange (Rows.OpenSpec.upto Rows.vetSizesSpec).bare)) = true := by kernel_rfl
theorem j3 : (Tryz.f5.params.all (Tryz.pinned.checked.prog.readableRec ·)) = true := by kernel_rfl
theorem j4 : (namedTie Tryz.pinned.checked.prog Rows.vetSizesUptoRow.named (Rows.OpenSpec.upto Rows.vetSizesSpec).bare.vars) = true := by kernel_rfl
theorem j5 : ((Rows.vetSizesUptoRow.stops == [])) = true := by kernel_rfl
theorem j7 : ((Rows.vetSizesUptoRow.knobs == [])) = true := by kernel_rfl
theorem j13 : ((Rows.vetSizesUptoRow.maps == (Tryz.f5.params.toList ++ (Rows.OpenSpec.upto Rows.vetSizesSpec).bare.plain.varTypes Tryz.pinned.checked.prog).any (Tryz.pinned.checked.prog.mapsRec ·))) = true := by kernel_rfl
theorem j14 : ((Rows.vetSizesUptoRow.ifaces == (Tryz.f5.params.toList ++ (Rows.OpenSpec.upto Rows.vetSizesSpec).bare.plain.varTypes Tryz.pinned.checked.prog).any (Tryz.pinned.checked.prog.ifacesRec ·))) = true := by kernel_rfl
theorem j15 : ((Rows.vetSizesUptoRow.mapsOut == Tryz.pinned.checked.prog.mapsAmong Tryz.f5.resultTypes.toList)) = true := by kernel_rfl
theorem j16 : ((Rows.vetSizesUptoRow.loops == (Tryz.f5.params.toList ++ (Rows.OpenSpec.upto Rows.vetSizesSpec).bare.plain.varTypes Tryz.pinned.checked.prog).any (Tryz.pinned.checked.prog.loopsFrom ·))) = true := by kernel_rfl
theorem j17 : ((Rows.vetSizesUptoRow.wideKeys == (Tryz.f5.params.toList ++ (Rows.OpenSpec.upto Rows.vetSizesSpec).bare.plain.varTypes Tryz.pinned.checked.prog ++ Tryz.f5.resultTypes.toList).any (Tryz.pinned.checked.prog.wideKeysFrom ·))) = true := by kernel_rfl
theorem j18 : ((Rows.OpenSpec.upto Rows.vetSizesSpec).bare.vars.all (Tryz.pinned.checked.prog.varReadable ·)) = true := by kernel_rfl
theorem j19 : (Tryz.f5.resultTypes.all (fun t => Tryz.pinned.checked.prog.readableRec t && decide (t < Tryz.pinned.checked.prog.types.size))) = true := by kernel_rfl
theorem j20 : ((Rows.vetSizesUptoRow.ifacesOut == Tryz.f5.resultTypes.toList.any (Tryz.pinned.checked.prog.ifacesRec ·))) = true := by kernel_rfl
theorem j21 : ((Rows.vetSizesUptoRow.loopsOut == Tryz.f5.resultTypes.toList.any (Tryz.pinned.checked.prog.loopsFrom ·))) = true := by kernel_rfl
theorem j23 : (Rows.vetSizesUptoRow.shortTexts.isNone) = true := by kernel_rfl
theorem j28 : ((Rows.vetSizesUptoRow.kinds == (if Rows.vetSizesUptoRow.domain.isEmpty then [] else Tryz.f5.params.toList.map fun t => match Tryz.pinned.checked.prog.underlying t with | some (.int k) => some k | _ => none))) = true := by kernel_rfl
theorem j29 : ((Rows.vetSizesUptoRow.pinned == Rows.vetSizesUptoRow.pinnedBy)) = true := by kernel_rfl
theorem j30 : ((Rows.vetSizesUptoRow.veiled == (Tryz.f5.params.toList ++ (Rows.OpenSpec.upto Rows.vetSizesSpec).bare.plain.varTypes Tryz.pinned.checked.prog ++ Tryz.f5.resultTypes.toList).any (Tryz.pinned.checked.prog.veiledRec ·))) = true := by kernel_rfl
theorem j31 : (Rows.vetSizesUptoRow.veiledFits Tryz.pinned.checked.prog Tryz.f5.params.toList (Tryz.f5.params.toList ++ (Rows.OpenSpec.upto Rows.vetSizesSpec).bare.plain.varTypes Tryz.pinned.checked.prog ++ Tryz.f5.resultTypes.toList)) = true := by kernel_rfl
set_option maxRecDepth 100000 in
theorem closed : joinedFacts Tryz.pinned.checked.prog 5 Tryz.f5 (Rows.OpenSpec.upto Rows.vetSizesSpec).bare Rows.vetSizesUptoRow = true := by
  unfold joinedFacts
  exact (Seat.and2 (Seat.and2 (Seat.and2 (Seat.and2 (Seat.and2 (Seat.and2 (Seat.and2 (Seat.and2 (Seat.and2 (Seat.and2 (Seat.and2 (Seat.and2 (Seat.and2 (Seat.and2 (Seat.and2 (Seat.and2 (Seat.and2 (Seat.and2 (Seat.and2 (Seat.and2 (Seat.and2 (Seat.and2 (Seat.and2 (Seat.and2 (Seat.and2 (Seat.and2 (Seat.and2 (Seat.and2 (Seat.and2 (Seat.and2 (Seat.and2 j0 Seat.laid) Seat.rowed) j3) j4) j5) Seat.stops) j7) Seat.stopKnobs) j9) j10) j11) j12) j13) j14) j15) j16) j17) j18) j19) j20) j21) Seat.keys) j23) Seat.heard) Seat.enter) Seat.lifted) Seat.make) j28) j29) j30) j31)

theorem said : Rows.VetSizesUptoSaid :=
  OpenClaim.holds_of_cond 5 Tryz.f5 rfl rfl rfl rfl rfl rfl rfl ⟨rfl, rfl, rfl, rfl, rfl⟩ rfl rfl rfl rfl rfl (by kernel_rfl) Tryz.func5 closed
    (of_decide_eq_true (by kernel_rfl)) (by unfold Func.isWrapper; first | (rw [if_pos (by decide +kernel)]; kernel_rfl) | (rw [if_neg (by decide +kernel)]; exact ⟨rfl, rfl⟩))
    (fun os started H enc _ F => by rw [OpenClaim.pre_eq_preRow]; exact lifted os started H enc F)

theorem plain (f : FuncId) (fn : Func) (hf : Tryz.pinned.checked.prog.funcNamed "bellman/bellmanlaw12.VetSizes" = some f) (hfn : Tryz.pinned.checked.prog.funcs[f]? = some fn) :
    true = Tryz.pinned.checked.prog.looks [] ∧ ∀ (j : Nat) t, fn.params[j]? = some t → Tryz.pinned.checked.prog.wantsStandIn t = false := by
  obtain rfl : f = 5 := Option.some.inj ((show Tryz.prog.funcNamed "bellman/bellmanlaw12.VetSizes" = some 5 by kernel_rfl).symm.trans hf) |>.symm
  obtain rfl : fn = Tryz.f5 := (Option.some.inj (Tryz.func5.symm.trans hfn)).symm
  refine ⟨Seat.looks, fun j t ht => ?_⟩
  rw [Tryz.params5] at ht
  have hall : ([22, 22] : List TypeId).all (fun t => !(Tryz.prog.wantsStandIn t)) = true := by kernel_rfl
  have hm : t ∈ ([22, 22] : List TypeId) := by
    have := Array.mem_of_getElem? ht
    simpa using this
  have := List.all_eq_true.1 hall t hm
  have h2 : Tryz.prog.wantsStandIn t = false := by simpa using this
  exact h2

theorem proved : Rows.VetSizesUptoCardSaid :=
  Claim7.holds_tied_plain_at .later [] _ _ _ _ said (fun _ h => by cases h) (by kernel_rfl) (fun _ h => by cases h) vetSizesUpto_row_tie rfl ⟨rfl, rfl⟩ (by kernel_rfl) rfl plain (by kernel_rfl)
end Go.Proofs.YteiccjakaabfnaaGreatDoor.vetSizes
