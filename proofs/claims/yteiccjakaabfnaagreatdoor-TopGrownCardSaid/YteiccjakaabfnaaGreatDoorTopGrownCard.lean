
/-
  The tied card of TopGrown, proved: whatever the arguments, the law hands back true and leaves them as they were. Condition: the form's own reach; what the table holds is tied to the program's text.
-/
import Derived.Test.YteiccjakaabfnaaGreatDoorTopGrownLaid
import Derived.Test.YteiccjakaabfnaaGreatDoorTopGrownOwn
import Derived.Test.YteiccjakaabfnaaGreatDoorSeatA
import Derived.Test.YteiccjakaabfnaaGreatDoorSeatB
import Derived.Test.YteiccjakaabfnaaGreatDoorSeatC
import Derived.Test.YteiccjakaabfnaaGreatDoorSeatD
import Derived.Test.YteiccjakaabfnaaGreatDoorZ38
import Derived.Test.YteiccjakaabfnaaGreatDoorRowKit
import Derived.Test.YteiccjakaabfnaaGreatDoorZ14
import Derived.Test.YteiccjakaabfnaaGreatDoorCards
import Derived.Test.YteiccjakaabfnaaGreatDoorTie
import Derived.Deep.DeepHandedRow
import Derived.Lib.LaidTab
import Derived.Test.YteiccjakaabfnaaGreatDoorZ8
namespace Go.Proofs.YteiccjakaabfnaaGreatDoor.topGrown
open Go.ChangeShapes Go.WideShapes Go.ChangeAt Go.RowKit
open Go.ChangeMaps (open_string)

theorem laid_of {W : World} (h : laidMetH Tryz.prog Rows.topGrownRow.laid W) : Sc.Laid W ∧ ∃ a b, Nd.Errs W a b := Nd.laid_of h
theorem max_of {W : World} (h : W.ShapedOpen Tryz.prog) : Sc.MaxLen W := Tryz.laysM145.s1_3 W h

set_option maxRecDepth 100000 in
theorem contract (H : Type) (enc : TypeId × Value → H) (W : World) (base : Nat) (args : Array Value) (ds gs : List (DataW H)) (before : List MemPlace) (ts' : List TypeId)
    (hval : ∀ (j : Nat) t v, Tryz.f12.params[j]? = some t → args[j]? = some v → Value.okWide Tryz.prog W .any base t v)
    (hW : DataW.Whole enc Tryz.prog Tryz.f12.params.toList Rows.topGrownSpec.vars false W args.toList ds gs before)
    (hsz : (DataW.weightsEach Tryz.prog (Tryz.f12.params.toList ++ ts') (ds ++ gs)).all (· ≤ reachBytes) = true) (hLd : Sc.Laid W) (ea eb : Addr) (hEr : Nd.Errs W ea eb) (hMx : Sc.MaxLen W) :
    Calls Tryz.prog 12 args W fun e W' => ∃ v, e = .returned v ∧ Rows.topGrownSpec.post enc Tryz.prog Tryz.f12 false true false false W args v W' := by
  have hW' := hW
  obtain ⟨p, q, hA0, hV, rfl, hfz, hnd⟩ := hW
  have hA : DataW.TrodAll enc Tryz.prog W 0 (fun _ => true) true Tryz.f12.params.toList args.toList ds p := hA0
  rw [Tryz.params12] at hA hval hsz
  obtain ⟨v0, vs0, d0, ds0, p0, q0, hargs, rfl, rfl, h0, r0⟩ := trodAll_cons hA
  obtain ⟨rfl, rfl, rfl⟩ := trodAll_nil r0
  obtain rfl : args = #[v0] := by cases args; simp_all
  obtain ⟨rfl, rfl⟩ := trodVars_none hV
  obtain ⟨s0, rfl, rfl, rfl, w0⟩ := open_string Tryz.underlying9 (hval 0 9 v0 rfl rfl) h0
  have x0 : s0.size ≤ 140737488351232 := by have := sized_string hsz (j := 0) rfl rfl; rw [← Wp.size_len] at this; exact this
  refine (topGrown_law s0 W ea eb x0 hLd hMx hEr).mono fun e W' ⟨he, hg⟩ => ?_
  subst he
  exact ⟨_, rfl, law_post laidOut (by kernel_rfl) rfl rfl Tryz.underlying4 rfl hW' hg⟩

set_option maxRecDepth 100000 in
theorem lifted (os : Os) (started : os.Started) (H : Type) (enc : TypeId × Value → H) (F : Stop.Interp) :
    ReturnsInHanded {} Tryz.checked os 12 .any ((OpenSpec.ofChange Rows.topGrownSpec).preRow enc Tryz.prog Tryz.f12 Rows.topGrownRow.domain false Rows.topGrownRow.laid) (((OpenSpec.ofChange Rows.topGrownSpec).at F).post enc Tryz.prog Tryz.f12 false true false false) := by
  obtain ⟨places, hx⟩ := reads os enc
  refine returnsInHanded_of_row (C := Tryz.checked) (s := OpenSpec.ofChange Rows.topGrownSpec) own started (by kernel_rfl) Tryz.func12
    (witness_row_at (enc := enc) (C := Tryz.checked) false (laidWorld os) #[Value.string ⟨#[]⟩] rfl (w2 os) (w3 os) (w4 os)
      (OpenSpec.preRow_of_cond 8 hx (by kernel_rfl) (fun k hk => by cases hk) (by kernel_rfl) (laid_met os))) ?_
  intro W base args ds gs before hval hW _ hcond hsz hL hsh _
  exact contract H enc W base args ds gs before _ hval hW hsz (laid_of hL).1 _ _ (laid_of hL).2.choose_spec.choose_spec (max_of hsh)

theorem j0 : (Rows.topGrownRow.wf (OpenSpec.ofChange (OpenSpec.ofChange Rows.topGrownSpec).bare)) = true := by kernel_rfl
theorem j3 : (Tryz.f12.params.all (Tryz.pinned.checked.prog.readableRec ·)) = true := by kernel_rfl
theorem j4 : (namedTie Tryz.pinned.checked.prog Rows.topGrownRow.named (OpenSpec.ofChange Rows.topGrownSpec).bare.vars) = true := by kernel_rfl
theorem j5 : ((Rows.topGrownRow.stops == [])) = true := by kernel_rfl
theorem j7 : ((Rows.topGrownRow.knobs == [])) = true := by kernel_rfl
theorem j13 : ((Rows.topGrownRow.maps == (Tryz.f12.params.toList ++ (OpenSpec.ofChange Rows.topGrownSpec).bare.plain.varTypes Tryz.pinned.checked.prog).any (Tryz.pinned.checked.prog.mapsRec ·))) = true := by kernel_rfl
theorem j14 : ((Rows.topGrownRow.ifaces == (Tryz.f12.params.toList ++ (OpenSpec.ofChange Rows.topGrownSpec).bare.plain.varTypes Tryz.pinned.checked.prog).any (Tryz.pinned.checked.prog.ifacesRec ·))) = true := by kernel_rfl
theorem j15 : ((Rows.topGrownRow.mapsOut == Tryz.pinned.checked.prog.mapsAmong Tryz.f12.resultTypes.toList)) = true := by kernel_rfl
theorem j16 : ((Rows.topGrownRow.loops == (Tryz.f12.params.toList ++ (OpenSpec.ofChange Rows.topGrownSpec).bare.plain.varTypes Tryz.pinned.checked.prog).any (Tryz.pinned.checked.prog.loopsFrom ·))) = true := by kernel_rfl
theorem j17 : ((Rows.topGrownRow.wideKeys == (Tryz.f12.params.toList ++ (OpenSpec.ofChange Rows.topGrownSpec).bare.plain.varTypes Tryz.pinned.checked.prog ++ Tryz.f12.resultTypes.toList).any (Tryz.pinned.checked.prog.wideKeysFrom ·))) = true := by kernel_rfl
theorem j18 : ((OpenSpec.ofChange Rows.topGrownSpec).bare.vars.all (Tryz.pinned.checked.prog.varReadable ·)) = true := by kernel_rfl
theorem j19 : (Tryz.f12.resultTypes.all (fun t => Tryz.pinned.checked.prog.readableRec t && decide (t < Tryz.pinned.checked.prog.types.size))) = true := by kernel_rfl
theorem j20 : ((Rows.topGrownRow.ifacesOut == Tryz.f12.resultTypes.toList.any (Tryz.pinned.checked.prog.ifacesRec ·))) = true := by kernel_rfl
theorem j21 : ((Rows.topGrownRow.loopsOut == Tryz.f12.resultTypes.toList.any (Tryz.pinned.checked.prog.loopsFrom ·))) = true := by kernel_rfl
theorem j23 : (Rows.topGrownRow.shortTexts.isNone) = true := by kernel_rfl
theorem j28 : ((Rows.topGrownRow.kinds == (if Rows.topGrownRow.domain.isEmpty then [] else Tryz.f12.params.toList.map fun t => match Tryz.pinned.checked.prog.underlying t with | some (.int k) => some k | _ => none))) = true := by kernel_rfl
theorem j29 : ((Rows.topGrownRow.pinned == Rows.topGrownRow.pinnedBy)) = true := by kernel_rfl
theorem j30 : ((Rows.topGrownRow.veiled == (Tryz.f12.params.toList ++ (OpenSpec.ofChange Rows.topGrownSpec).bare.plain.varTypes Tryz.pinned.checked.prog ++ Tryz.f12.resultTypes.toList).any (Tryz.pinned.checked.prog.veiledRec ·))) = true := by kernel_rfl
theorem j31 : (Rows.topGrownRow.veiledFits Tryz.pinned.checked.prog Tryz.f12.params.toList (Tryz.f12.params.toList ++ (OpenSpec.ofChange Rows.topGrownSpec).bare.plain.varTypes Tryz.pinned.checked.prog ++ Tryz.f12.resultTypes.toList)) = true := by kernel_rfl
set_option maxRecDepth 100000 in
theorem closed : joinedFacts Tryz.pinned.checked.prog 12 Tryz.f12 (OpenSpec.ofChange Rows.topGrownSpec).bare Rows.topGrownRow = true := by
  unfold joinedFacts
  exact (Seat.and2 (Seat.and2 (Seat.and2 (Seat.and2 (Seat.and2 (Seat.and2 (Seat.and2 (Seat.and2 (Seat.and2 (Seat.and2 (Seat.and2 (Seat.and2 (Seat.and2 (Seat.and2 (Seat.and2 (Seat.and2 (Seat.and2 (Seat.and2 (Seat.and2 (Seat.and2 (Seat.and2 (Seat.and2 (Seat.and2 (Seat.and2 (Seat.and2 (Seat.and2 (Seat.and2 (Seat.and2 (Seat.and2 (Seat.and2 (Seat.and2 j0 Seat.laid) Seat.rowed) j3) j4) j5) Seat.stops) j7) Seat.stopKnobs) j9) j10) j11) j12) j13) j14) j15) j16) j17) j18) j19) j20) j21) Seat.keys) j23) Seat.heard) Seat.enter) Seat.lifted) Seat.make) j28) j29) j30) j31)

theorem said : Rows.TopGrownSaid :=
  OpenClaim.holds_of_cond 12 Tryz.f12 rfl rfl rfl rfl rfl rfl rfl ⟨rfl, rfl, rfl, rfl, rfl⟩ rfl rfl rfl rfl rfl (by kernel_rfl) Tryz.func12 closed
    (of_decide_eq_true (by kernel_rfl)) (by unfold Func.isWrapper; first | (rw [if_pos (by decide +kernel)]; kernel_rfl) | (rw [if_neg (by decide +kernel)]; exact ⟨rfl, rfl⟩))
    (fun os started H enc _ F => by rw [OpenClaim.pre_eq_preRow]; exact lifted os started H enc F)

theorem plain (f : FuncId) (fn : Func) (hf : Tryz.pinned.checked.prog.funcNamed "bellman/bellmantop.TopGrown" = some f) (hfn : Tryz.pinned.checked.prog.funcs[f]? = some fn) :
    true = Tryz.pinned.checked.prog.looks [] ∧ ∀ (j : Nat) t, fn.params[j]? = some t → Tryz.pinned.checked.prog.wantsStandIn t = false := by
  obtain rfl : f = 12 := Option.some.inj ((show Tryz.prog.funcNamed "bellman/bellmantop.TopGrown" = some 12 by kernel_rfl).symm.trans hf) |>.symm
  obtain rfl : fn = Tryz.f12 := (Option.some.inj (Tryz.func12.symm.trans hfn)).symm
  refine ⟨Seat.looks, fun j t ht => ?_⟩
  rw [Tryz.params12] at ht
  have hall : ([9] : List TypeId).all (fun t => !(Tryz.prog.wantsStandIn t)) = true := by kernel_rfl
  have hm : t ∈ ([9] : List TypeId) := by
    have := Array.mem_of_getElem? ht
    simpa using this
  have := List.all_eq_true.1 hall t hm
  have h2 : Tryz.prog.wantsStandIn t = false := by simpa using this
  exact h2

theorem proved : Rows.TopGrownCardSaid :=
  Claim7.holds_tied_plain_at .later [] _ _ _ _ said (fun _ h => by cases h) (by kernel_rfl) (fun _ h => by cases h) topGrown_row_tie rfl ⟨rfl, rfl⟩ (by kernel_rfl) rfl plain (by kernel_rfl)
end Go.Proofs.YteiccjakaabfnaaGreatDoor.topGrown
