/-
  errors.Is by its contracts, for what everyday code hands it where the target is a sentinel of errors.New's make: the sentinel itself, nil, another one. Conditions: the errors lie in blocks that are not frozen.
  The walks of tree's paired, bounded and laid. Conditions: lists are of a size that a machine holds; the two errors lie where they were laid.
  The table of the words that tags begin with: its cells, out of what the row lists of it. No condition but those that the theorems state.
  What the rows of tree's laws list, read: the table of the words, and the two errors. No condition but those that the theorems state.
-/
import Derived.Test.YteiccjakaabfnaaGreatDoorRows
import Derived.WalkKit
import Derived.LaidEql
import Derived.Stop.Asserts
import Derived.RowKitTokens
import Derived.Test.YteiccjakaabfnaaGreatDoorZ49
import Derived.Test.YteiccjakaabfnaaGreatDoorNdParse
import Derived.Test.YteiccjakaabfnaaGreatDoorZ26
import Derived.Laws.OwnMore
import Derived.WalkSmall
import Derived.Test.YteiccjakaabfnaaGreatDoorZ25
import Derived.OpenShut
import Derived.LaidLaws
import Derived.Lib.LaidTab
import Derived.Stop.LaidTwo
namespace Go.Proofs.YteiccjakaabfnaaGreatDoor
open Go.RowKit Go.Extern.Stop Go.Stop Go.Extern Go.Extern.Rtype

theorem Er.typeOf (v : Value) (w : World) : (Extern.ReflectliteType.typeOf #[.iface 297 v]).run Tryz.prog w = .ok (.iface 242 (.agg #[.pointer (some ⟨13, 297, none⟩)])) w := by kernel_rfl
def Er.cmpM : Array Value → Sem Value := Extern.ReflectliteType.method fun t => do noPackHeld "Comparable" t; pure (.bool (← typeInfo t).comparable)
theorem Er.comparable (w : World) : (Er.cmpM #[.agg #[.pointer (some ⟨13, 297, none⟩)]]).run Tryz.prog w = .ok (.bool true) w := by kernel_rfl
theorem Er.methodComparable (v : Value) (w : World) : (Go.method 437 242 v "Comparable").run Tryz.prog w = .ok (301, v) w := by kernel_rfl
theorem Er.comp : (Tryz.prog.info? 297).map (·.comparable) = some true := by kernel_rfl
theorem Er.size : (Tryz.prog.info? 299).map (·.size) = some 1 := by kernel_rfl
theorem Er.noIs (v : Value) (xT : TypeId) (w : World) : (Instr.typeAssert (.iface 297 v) xT 265 true).run Tryz.prog w = .ok (.tuple #[.nilIface, .bool false]) w := run_typeAssert_lacksB Tryz.underlying265 (by kernel_rfl) (by kernel_rfl) v xT w
theorem Er.noUnwrap (v : Value) (xT : TypeId) (w : World) : (Instr.typeAssert (.iface 297 v) xT 249 true).run Tryz.prog w = .ok (.tuple #[.nilIface, .bool false]) w := run_typeAssert_lacksB Tryz.underlying249 (by kernel_rfl) (by kernel_rfl) v xT w
theorem Er.noUnwraps (v : Value) (xT : TypeId) (w : World) : (Instr.typeAssert (.iface 297 v) xT 251 true).run Tryz.prog w = .ok (.tuple #[.nilIface, .bool false]) w := run_typeAssert_lacksB Tryz.underlying251 (by kernel_rfl) (by kernel_rfl) v xT w
set_option maxRecDepth 100000 in
/-- errors.Is(x, x), x a pointer to an errors.errorString. -/
theorem is_same (a : Addr) (w : World) :
    Calls Tryz.prog 119 #[.iface 297 (.pointer (some a)), .iface 297 (.pointer (some a))] w fun e w' => e = .returned (.bool true) ∧ w' = w := by
  obtain ⟨i, hi, hcmp⟩ := Option.map_eq_some_iff.1 Er.comp
  obtain ⟨j, hj, hjs⟩ := Option.map_eq_some_iff.1 Er.size
  have h8 := @run_callFunc_extern Tryz.prog 189 _ Extern.ReflectliteType.typeOf Tryz.func189 (by kernel_rfl) (by kernel_rfl) (by kernel_rfl) (by kernel_rfl)
  have h32 := @run_callFunc_extern Tryz.prog 301 _ Er.cmpM Tryz.func301 (by kernel_rfl) (by kernel_rfl) (by kernel_rfl) (by kernel_rfl)
  have tT := Er.typeOf
  have cT := Er.comparable
  have mR := Er.methodComparable
  have heq := run_eql_iface_ptr_same (P := Tryz.prog) w a Tryz.underlying93 Tryz.underlying297 hi hcmp hj
  go_enter Tryz.func119, Tryz.ntmps119
  go_wp2
  refine wp_loop_rounds 1 ?_
  rw [rounds_succ]
  go_wp2
  go_ret
  exact ⟨rfl, rfl⟩
set_option maxRecDepth 100000 in
/-- errors.Is(nil, x). -/
theorem is_nil (b : Addr) (w : World) :
    Calls Tryz.prog 119 #[.nilIface, .iface 297 (.pointer (some b))] w fun e w' => e = .returned (.bool false) ∧ w' = w := by
  have hn := run_eql_iface_nil_left (P := Tryz.prog) w 297 (.pointer (some b)) Tryz.underlying93
  go_enter Tryz.func119, Tryz.ntmps119
  go_wp2
  go_ret
  exact ⟨rfl, rfl⟩
set_option maxRecDepth 100000 in
/-- errors.Is(x, y), two different pointers to errors.errorString: neither has Is nor Unwrap: false. -/
theorem is_other (a b : Addr) (ca cb : Array Value) (ta tb : TypeId) (w : World) (hne : a ≠ b) (ha : w.heap[a.block]? = some (.cells ca ta (0, 0))) (hb : w.heap[b.block]? = some (.cells cb tb (0, 0))) :
    Calls Tryz.prog 119 #[.iface 297 (.pointer (some a)), .iface 297 (.pointer (some b))] w fun e w' => e = .returned (.bool false) ∧ w' = w := by
  obtain ⟨i, hi, hcmp⟩ := Option.map_eq_some_iff.1 Er.comp
  obtain ⟨j, hj, hjs⟩ := Option.map_eq_some_iff.1 Er.size
  have h8 := @run_callFunc_extern Tryz.prog 189 _ Extern.ReflectliteType.typeOf Tryz.func189 (by kernel_rfl) (by kernel_rfl) (by kernel_rfl) (by kernel_rfl)
  have h32 := @run_callFunc_extern Tryz.prog 301 _ Er.cmpM Tryz.func301 (by kernel_rfl) (by kernel_rfl) (by kernel_rfl) (by kernel_rfl)
  have tT := Er.typeOf
  have cT := Er.comparable
  have mR := Er.methodComparable
  have nE := Er.noIs
  have uE := Er.noUnwrap
  have vE := Er.noUnwraps
  have heq := run_eql_iface_ptr_other (P := Tryz.prog) w Tryz.underlying93 Tryz.underlying297 hi hcmp hj (by rw [hjs]; decide) hne ha hb
  go_enter Tryz.func119, Tryz.ntmps119
  go_wp2
  refine wp_loop_rounds 1 ?_
  rw [rounds_succ]
  go_wp2
  go_ret
  exact ⟨rfl, rfl⟩
end Go.Proofs.YteiccjakaabfnaaGreatDoor
namespace Go.Proofs.YteiccjakaabfnaaGreatDoor
open Go.RowKit

/-- The two errors, each in a block of its own. -/
def Nd.Errs (w : World) (a b : Addr) : Prop :=
  w.cell? ⟨1, 0, none⟩ = some (.iface 297 (.pointer (some a))) ∧ w.cell? ⟨2, 0, none⟩ = some (.iface 297 (.pointer (some b))) ∧ a ≠ b ∧
  (∃ c t, w.heap[a.block]? = some (.cells c t (0, 0))) ∧ (∃ c t, w.heap[b.block]? = some (.cells c t (0, 0)))
theorem Nd.Errs.below {w w' : World} {a b : Addr} (h : Nd.Errs w a b) (hb : Below w.heap.size w w') : Nd.Errs w' a b := by
  obtain ⟨h1, h2, h3, ⟨c, t, h4⟩, ⟨d, u, h5⟩⟩ := h
  exact ⟨(hb.cell (World.block_lt_of_cell? w _ h1)).trans h1, (hb.cell (World.block_lt_of_cell? w _ h2)).trans h2, h3, ⟨c, t, (hb.block _ (Array.getElem?_eq_some_iff.1 h4).1).trans h4⟩, ⟨d, u, (hb.block _ (Array.getElem?_eq_some_iff.1 h5).1).trans h5⟩⟩
def Nd.kenc (k : Nat) : Value := .int .u8 (k : Nat)
/-- What stands open, as it lies. -/
def Nd.KRow (B : Nat) (W : World) (v : Value) (st : List Nat) : Prop := W.ownsRow B 35 1 v st.length (st.reverse.map Nd.kenc)
theorem Nd.KRow.form {B : Nat} {W : World} {v : Value} {st : List Nat} (h : Nd.KRow B W v st) : ∃ p c, v = .slice p st.length c := by
  rcases h.2 with ⟨h1, h2⟩ | ⟨g, cap, cur, h1, _⟩
  · exact ⟨none, 0, by rw [h2]; exact h1⟩
  · exact ⟨_, _, h1⟩
theorem Nd.KRow.top {B : Nat} {W : World} {v : Value} {a : Nat} {s : List Nat} (h : Nd.KRow B W v (a :: s)) :
    ∃ g cap, v = .slice (some ⟨g, 0, none⟩) (s.length + 1) cap ∧ s.length + 1 ≤ cap ∧ W.cell? ⟨g, s.length, none⟩ = some (.int .u8 (a : Nat)) ∧ W.frozen? ⟨g, s.length, none⟩ = false ∧ B ≤ g ∧ g < W.heap.size := by
  have h0 := h
  rcases h.2 with ⟨h1, h2⟩ | ⟨g, cap, cur, h1, h2, h3, h4, _⟩
  · simp at h2
  · subst h1
    have hc := World.ownsRow.cellAt h0 s.length (by simp)
    have hf := World.ownsRow.frozenAt h0 s.length
    refine ⟨g, cap, rfl, h4, ?_, hf, h2, (Array.getElem?_eq_some_iff.1 h3).1⟩
    rw [hc]
    simp [Nd.kenc]
theorem Nd.KRow.setTop {B : Nat} {W : World} {g cap a : Nat} {s : List Nat} (h : Nd.KRow B W (.slice (some ⟨g, 0, none⟩) (s.length + 1) cap) (a :: s)) (b : Nat) :
    Nd.KRow B (W.setCell ⟨g, s.length, none⟩ (.int .u8 (b : Nat))) (.slice (some ⟨g, 0, none⟩) (s.length + 1) cap) (b :: s) := by
  have := (World.ownsRow.stored h s.length (.int .u8 (b : Nat))).1
  unfold Nd.KRow
  have e : (((a :: s).reverse.map Nd.kenc).set s.length (.int .u8 (b : Nat))) = (b :: s).reverse.map Nd.kenc := by
    rw [List.reverse_cons, List.reverse_cons, List.map_append, List.map_append, List.set_append_right _ _ (by simp)]
    simp [Nd.kenc]
  rw [← e]
  exact this
theorem Nd.KRow.pop {B : Nat} {W : World} {g cap a : Nat} {s : List Nat} (h : Nd.KRow B W (.slice (some ⟨g, 0, none⟩) (s.length + 1) cap) (a :: s)) :
    Nd.KRow B W (.slice (some ⟨g, 0, none⟩) s.length cap) s := by
  rcases h.2 with ⟨h1, h2⟩ | ⟨g', cap', cur, h1, h2, h3, h4, h5, h6, h7⟩
  · simp at h2
  · cases h1
    refine ⟨by simp, Or.inr ⟨g, cap, cur, rfl, h2, h3, by simp at h4; omega, h5, h6, ?_⟩⟩
    have : cur.toList.take (s.length * 1) = (cur.toList.take ((a :: s).length * 1)).take s.length := by
      rw [List.take_take]
      congr 1
      simp
    rw [this, h7, List.reverse_cons, List.map_append]
    simp
theorem Nd.infoKind : ∃ i, Tryz.prog.info? 35 = some i ∧ i.zero = some (.int .u8 0) ∧ i.size = 1 ∧ i.bytes = 1 := info_parts (by kernel_rfl)
/-- append of one kind. -/
theorem Nd.kindApp {ops : Array Oper} {rest : List Oper} {o : Oper} {a : Act} {w : World} {Q : Exit → Act → World → Prop} (hgd : o.guard = none) (s x : Operand) (ho : o.op = .call { callee := .builtin .append, args := #[s, x], argTypes := #[264, 264] })
    (B : Nat) (v : Value) (st : List Nat) (g : Nat) (k : Nat) (hs : a.eval s = v) (hx : a.eval x = .slice (some ⟨g, 0, none⟩) 1 1) (hT : Nd.KRow B w v st) (hg : w.heap[g]? = some (.cells #[.int .u8 (k : Nat)] 35 (0, 0)))
    (hl : st.length ≤ 140737488351232) (hB : B ≤ w.heap.size)
    (h : ∀ v' w', Nd.KRow B w' v' (k :: st) → w.grownBy w' v.ownBlock → wpList Tryz.prog ops Q rest (a.put o.dst v') w') : wpList Tryz.prog ops Q (o :: rest) a w := by
  obtain ⟨i0, hi, hz0, hz1, hz2⟩ := Nd.infoKind
  refine Vl.listApp w hgd s x 264 ho B 35 i0 _ 1 1 Tryz.underlying264 hi hz0 hz1 hz2 rfl (by decide) v st.length _ hs hT ⟨g, 0, none⟩ 1 1 [.int .u8 (k : Nat)] hx rfl ?_ ?_ (by unfold maxLen; omega) (by omega) hB ?_
  · intro j q hq
    match j, hq with
    | 0, hq => cases hq; rw [Addr.add_lit]; exact (by rw [Lib.cell_of_heap hg]; rfl)
    | j + 1, hq => simp at hq
  · intro q hq; simp at hq; subst hq; rfl
  · intro v' w' hown' hgr _
    refine h v' w' ?_ hgr
    unfold Nd.KRow
    rw [List.reverse_cons, List.map_append]
    exact hown'
/-- Nil, or that error. -/
def Nd.errV (a : Addr) (s : Bool) : Value := if s then .nilIface else .iface 297 (.pointer (some a))
theorem Nd.drop_get {α : Type} {l : List α} {k : Nat} (h : k < l.length) : l.drop k = l[k] :: l.drop (k + 1) := List.drop_eq_getElem_cons h
set_option maxRecDepth 100000 in
set_option maxHeartbeats 4000000 in
theorem ndPaired_any (l : List Sc.T) (q : Option Addr) (c : Nat) (w : World) (a b : Addr) (hA : Sc.At w q l) (hl : l.length ≤ 140737488351232) (hE : Nd.Errs w a b) :
    Calls Tryz.prog 187 #[.slice q l.length c] w fun e w' => e = .returned (Nd.errV a (Nd.stk [] l)) ∧ Below w.heap.size w w' := by
  have HA := Lib.hid hA
  have HE := Lib.hid hE
  obtain ⟨S, hS⟩ : ∃ S, S = Nd.stk [] l := ⟨_, rfl⟩
  rw [← hS]
  have HS0 := Lib.hid (show S = Nd.stk [] (l.drop 0) by rw [List.drop_zero]; exact hS)
  obtain ⟨n, hn⟩ : ∃ n, n = l.length := ⟨_, rfl⟩
  rw [← hn] at hl ⊢
  have HN := Lib.hid hn
  clear hA hE hS hn
  go_enter Tryz.func187, Tryz.ntmps187
  go_wp2_with fail
  go_loopw [3, 5, 6, 9] (fun v _ _ t wr => ∃ (k : Nat) (st : List Nat), k ≤ n ∧ t = .int .i64 k ∧ st.length ≤ k ∧ Hid (Nd.KRow w.heap.size wr v st) ∧ Hid (Below w.heap.size w wr) ∧ Hid (S = Nd.stk st (l.drop k))) (fun _ _ _ t _ => n - (intOf t).toNat)
  case atStart => exact ⟨0, [], Nat.zero_le _, rfl, Nat.le_refl _, Lib.hid (World.ownsRow_nil _ _ _ _), Lib.hid (Below.refl _ _), HS0⟩
  case round =>
    obtain ⟨k, st, hk, rfl, hsk, HR, HB, HS⟩ := hrel
    by_cases hlt : k < n
    · have hkl : k < l.length := by rw [← HN.out]; exact hlt
      have hs := HS.out
      rw [Nd.drop_get hkl, Nd.stk_cons] at hs
      obtain ⟨bb, off, pn, cn, rfl, e0, e1, e2, -⟩ := (HA.out.below HB.out).cells k hkl
      generalize l[k].kind = kd at *
      generalize l[k].text = tx at *
      generalize l[k].path.length = np at *
      have HS2 := Lib.hid hs
      have HX := Lib.hid ((Below.refl wr.heap.size wr).alloc (Nat.le_refl _) (.cells #[.int .u8 (kd : Nat), .string tx, .slice pn np cn] 110))
      have HV := Lib.hid (Vl.new wr (.cells #[.int .u8 (kd : Nat), .string tx, .slice pn np cn] 110))
      have HBx := Lib.hid (HB.out.alloc HB.out.size (.cells #[.int .u8 (kd : Nat), .string tx, .slice pn np cn] 110))
      have HRx := Lib.hid (show Nd.KRow w.heap.size (wr.alloc (.cells #[.int .u8 (kd : Nat), .string tx, .slice pn np cn] 110)) _ st from World.ownsRow.alloc HR.out _)
      have hEx := HE.out.below HBx.out
      have g0 := hEx.1
      have HEx := Lib.hid hEx
      have hwr := HB.out.size
      obtain ⟨p3, c3, rfl⟩ := HR.out.form
      clear hs hEx HR HS
      obtain ⟨k0, k1, k2⟩ := Sc.three_of HV.out
      by_cases h35 : kd = 3 ∨ kd = 5
      · have HS3 := Lib.hid (show S = Nd.stk (kd :: st) (l.drop (k + 1)) by rw [HS2.out, if_pos h35])
        clear HS2
        have hns : st.length ≤ 140737488351232 := by omega
        by_cases h3 : kd = 3
        · have q3 : ((kd : Int) == 3) = true := by rw [beq_iff_eq]; omega
          clear h3 h35
          have HKx := Lib.hid (show Nd.KRow w.heap.size ((wr.alloc (.cells #[.int .u8 (kd : Nat), .string tx, .slice pn np cn] 110)).alloc (.cells #[.int .u8 (kd : Nat)] 35)) _ st from World.ownsRow.alloc HRx.out _)
          have HVk := Lib.hid (Vl.newAt (wr.alloc (.cells #[.int .u8 (kd : Nat), .string tx, .slice pn np cn] 110)) (.cells #[.int .u8 (kd : Nat)] 35) (wr.heap.size + 1) (by rw [World.size_alloc]))
          have HBk := Lib.hid (HBx.out.alloc HBx.out.size (.cells #[.int .u8 (kd : Nat)] 35))
          go_wp2_with (at_builtin; refine Nd.kindApp rfl _ _ rfl w.heap.size _ st (wr.heap.size + 1) kd rfl rfl HKx.out HVk.out (by omega) (by rw [World.size_alloc, World.size_alloc]; omega) ?_)
          intro v' w2 hK2 hg2
          have HB2 := Lib.hid (HBk.out.grown hg2 HBk.out.size (fun j e => (World.ownsRow.lt HKx.out j e).1))
          have HR2 := Lib.hid hK2
          clear hK2 hg2 HKx HVk HBk g0 k0 k1 k2 e0 e1 e2
          go_wp2_with fail
          exact ⟨⟨k + 1, kd :: st, by omega, by go_num, by rw [List.length_cons]; omega, HR2, HB2, HS3⟩, by simp [intOf]; omega⟩
        · have h5 : kd = 5 := h35.resolve_left h3
          have q3 : ((kd : Int) == 3) = false := beq_eq_false_iff_ne.2 (by omega)
          have q5 : ((kd : Int) == 5) = true := by rw [beq_iff_eq]; omega
          clear h3 h35 h5
          have HKx := Lib.hid (show Nd.KRow w.heap.size ((wr.alloc (.cells #[.int .u8 (kd : Nat), .string tx, .slice pn np cn] 110)).alloc (.cells #[.int .u8 (kd : Nat)] 35)) _ st from World.ownsRow.alloc HRx.out _)
          have HVk := Lib.hid (Vl.newAt (wr.alloc (.cells #[.int .u8 (kd : Nat), .string tx, .slice pn np cn] 110)) (.cells #[.int .u8 (kd : Nat)] 35) (wr.heap.size + 1) (by rw [World.size_alloc]))
          have HBk := Lib.hid (HBx.out.alloc HBx.out.size (.cells #[.int .u8 (kd : Nat)] 35))
          go_wp2_with (at_builtin; refine Nd.kindApp rfl _ _ rfl w.heap.size _ st (wr.heap.size + 1) kd rfl rfl HKx.out HVk.out (by omega) (by rw [World.size_alloc, World.size_alloc]; omega) ?_)
          intro v' w2 hK2 hg2
          have HB2 := Lib.hid (HBk.out.grown hg2 HBk.out.size (fun j e => (World.ownsRow.lt HKx.out j e).1))
          have HR2 := Lib.hid hK2
          clear hK2 hg2 HKx HVk HBk g0 k0 k1 k2 e0 e1 e2
          go_wp2_with fail
          exact ⟨⟨k + 1, kd :: st, by omega, by go_num, by rw [List.length_cons]; omega, HR2, HB2, HS3⟩, by simp [intOf]; omega⟩
      · by_cases h4 : kd = 4
        · have hs := HS2.out
          rw [if_neg h35, if_pos h4] at hs
          have q3 : ((kd : Int) == 3) = false := beq_eq_false_iff_ne.2 (by omega)
          have q5 : ((kd : Int) == 5) = false := beq_eq_false_iff_ne.2 (by omega)
          have q4 : ((kd : Int) == 4) = true := by rw [beq_iff_eq]; omega
          clear h35 h4
          cases st with
          | nil =>
            have HS3 := Lib.hid (show S = false from hs)
            clear hs HS2
            have HZ := Lib.hid (show Nd.errV a S = .iface 297 (.pointer (some a)) by rw [HS3.out]; rfl)
            go_wp2_with fail
            go_ret
            exact ⟨(congrArg Ending.returned HZ.out).symm, HBx.out⟩
          | cons x s =>
            have hsz := HRx.out
            obtain ⟨g, cap, hv, hcap, t1, t2, t3, t4⟩ := HRx.out.top
            simp only [Value.slice.injEq] at hv
            obtain ⟨rfl, -, rfl⟩ := hv
            rw [List.length_cons] at hsk hsz ⊢
            have HK := Lib.hid hsz
            clear hsz HRx
            generalize hm : s.length = m at *
            have Hm := Lib.hid hm
            clear hm
            have hm1 : ((m + 1 : Nat) : Int) - 1 = (m : Int) := by omega
            have hm2 : ¬ (m : Int) < 0 := by omega
            by_cases hx : x = 3
            · have qx : ((x : Int) != 3) = false := by rw [hx]; rfl
              have HS3 := Lib.hid (show S = Nd.stk (4 :: s) (l.drop (k + 1)) from hs.trans (if_pos hx))
              have HR3 := Lib.hid (by have := (show Nd.KRow w.heap.size _ (.slice (some ⟨g, 0, none⟩) (s.length + 1) c3) (x :: s) by rw [Hm.out]; exact HK.out).setTop 4; rw [Hm.out] at this; exact this)
              have HB3 := Lib.hid (HBx.out.setCell (p := ⟨g, m, none⟩) t3 (.int .u8 (4 : Nat)))
              clear hs HS2 hx
              go_wp2_with fail
              exact ⟨⟨k + 1, 4 :: s, by omega, by go_num, by rw [List.length_cons, Hm.out]; omega, HR3, HB3, HS3⟩, by simp [intOf]; omega⟩
            · have qx : ((x : Int) != 3) = true := by rw [bne_iff_ne]; omega
              have HS3 := Lib.hid (show S = false from hs.trans (if_neg hx))
              clear hs HS2 hx
              have HZ := Lib.hid (show Nd.errV a S = .iface 297 (.pointer (some a)) by rw [HS3.out]; rfl)
              go_wp2_with fail
              go_ret
              exact ⟨(congrArg Ending.returned HZ.out).symm, HBx.out⟩
        · by_cases h6 : kd = 6
          · have hs := HS2.out
            rw [if_neg h35, if_neg h4, if_pos h6] at hs
            have q3 : ((kd : Int) == 3) = false := beq_eq_false_iff_ne.2 (by omega)
            have q5 : ((kd : Int) == 5) = false := beq_eq_false_iff_ne.2 (by omega)
            have q4 : ((kd : Int) == 4) = false := beq_eq_false_iff_ne.2 (by omega)
            have q6 : ((kd : Int) == 6) = true := by rw [beq_iff_eq]; omega
            clear h35 h4 h6
            cases st with
            | nil =>
              have HS3 := Lib.hid (show S = false from hs)
              clear hs HS2
              have HZ := Lib.hid (show Nd.errV a S = .iface 297 (.pointer (some a)) by rw [HS3.out]; rfl)
              go_wp2_with fail
              go_ret
              exact ⟨(congrArg Ending.returned HZ.out).symm, HBx.out⟩
            | cons x s =>
              have hsz := HRx.out
              obtain ⟨g, cap, hv, hcap, t1, t2, t3, t4⟩ := HRx.out.top
              simp only [Value.slice.injEq] at hv
              obtain ⟨rfl, -, rfl⟩ := hv
              rw [List.length_cons] at hsk hsz ⊢
              have HK := Lib.hid hsz
              clear hsz HRx
              generalize hm : s.length = m at *
              have Hm := Lib.hid hm
              clear hm
              have hm1 : ((m + 1 : Nat) : Int) - 1 = (m : Int) := by omega
              have hm2 : ¬ (m : Int) < 0 := by omega
              have HS3 := Lib.hid (show S = Nd.stk s (l.drop (k + 1)) from hs)
              have HR3 := Lib.hid (by have := (show Nd.KRow w.heap.size _ (.slice (some ⟨g, 0, none⟩) (s.length + 1) c3) (x :: s) by rw [Hm.out]; exact HK.out).pop; rw [Hm.out] at this; exact this)
              clear hs HS2
              have hcz : (m : Int) ≤ (c3 : Int) := by omega
              go_wp2_with fail
              exact ⟨⟨k + 1, s, by omega, by go_num, by rw [Hm.out]; omega, HR3, HBx, HS3⟩, by simp [intOf]; omega⟩
          · have hs := HS2.out
            rw [if_neg h35, if_neg h4, if_neg h6] at hs
            have HS3 := Lib.hid hs
            have q3 : ((kd : Int) == 3) = false := beq_eq_false_iff_ne.2 (by omega)
            have q5 : ((kd : Int) == 5) = false := beq_eq_false_iff_ne.2 (by omega)
            have q4 : ((kd : Int) == 4) = false := beq_eq_false_iff_ne.2 (by omega)
            have q6 : ((kd : Int) == 6) = false := beq_eq_false_iff_ne.2 (by omega)
            clear hs HS2 h35 h4 h6
            go_wp2_with fail
            exact ⟨⟨k + 1, st, by omega, by go_num, by omega, HRx, HBx, HS3⟩, by simp [intOf]; omega⟩
    · obtain rfl : k = n := by omega
      have hs := HS.out
      rw [HN.out, List.drop_length] at hs
      have hE2 := (HE.out.below HB.out).1
      obtain ⟨p3, c3, rfl⟩ := HR.out.form
      cases st with
      | nil =>
        have HZ := Lib.hid (show Nd.errV a S = .nilIface by rw [hs]; rfl)
        clear hs
        go_wp2_with fail
        go_ret
        exact ⟨(congrArg Ending.returned HZ.out).symm, HB.out⟩
      | cons x s =>
        have HZ := Lib.hid (show Nd.errV a S = .iface 297 (.pointer (some a)) by rw [hs]; rfl)
        have hpos : (0 : Int) < (((x :: s).length : Nat) : Int) := by rw [List.length_cons]; omega
        generalize (x :: s).length = m at *
        clear hs
        go_wp2_with fail
        go_ret
        exact ⟨(congrArg Ending.returned HZ.out).symm, HB.out⟩
end Go.Proofs.YteiccjakaabfnaaGreatDoor
namespace Go.Proofs.YteiccjakaabfnaaGreatDoor
open Go.ChangeShapes Go.WideShapes Go.RowKit

section
variable {H : Type} {enc : TypeId × Value → H} {W : World} {base : Nat} {sp : Nat → Bool} {hd : Bool} {n : Nat}
theorem Sc.strc {c : List Value} {l : List UInt8} {p : List MemPlace} (h : DataW.trod enc Tryz.prog W base sp hd n 9 c = some (.lit (.string l), p)) : c = [.string ⟨l.toArray⟩] := by
  obtain ⟨s, hy, hx, _⟩ := DataW.trod_string Tryz.underlying9 h
  simp only [Prod.mk.injEq, DataW.lit.injEq, Lit.string.injEq] at hx
  rw [hy, hx.1]
theorem Sc.fst_get {xs : List (DataW H × List MemPlace)} {l : List (DataW H)} (h : xs.map (·.1) = l) (i : Nat) {d : DataW H} (hd : l[i]? = some d) : ∃ p, xs[i]? = some (d, p) := by
  rw [← h, List.getElem?_map] at hd
  obtain ⟨x, hx, rfl⟩ := Option.map_eq_some_iff.1 hd
  exact ⟨x.2, hx⟩
set_option maxRecDepth 100000 in
theorem Sc.kwc {c : List Value} {p : List MemPlace} (h : DataW.trod enc Tryz.prog W base sp hd n 231 c = some (.agg [.lit (.string []), .lit (.string []), .lit (.string []), .lit (.string [105, 102]), .lit (.string [101, 108, 115, 101]), .lit (.string [101, 97, 99, 104]), .lit (.string [101, 110, 100])], p)) : c = Sc.kws.toList := by
  obtain ⟨xs, m, _, hx, hlen, _, hg⟩ := DataW.trod_array Tryz.underlying231 h
  have h1 : Tryz.prog.cellsOf 9 = 1 := by kernel_rfl
  have hl : c.length = 7 := hlen.trans (by kernel_rfl)
  rw [h1] at hg
  simp only [Prod.mk.injEq, DataW.agg.injEq] at hx
  have hm := hx.1.symm
  have key : ∀ i, i < 7 → ∀ w, ([[], [], [], [105, 102], [101, 108, 115, 101], [101, 97, 99, 104], [101, 110, 100]] : List (List UInt8))[i]? = some w → (c.drop (i * 1)).take 1 = [.string ⟨w.toArray⟩] := by
    intro i hi w hw
    obtain ⟨p, e⟩ := Sc.fst_get hm i (d := .lit (.string w)) (by
      have := congrArg (Option.map (fun w => (DataW.lit (.string w) : DataW H))) hw
      rw [← List.getElem?_map] at this
      exact this)
    exact Sc.strc ((hg i hi).trans e)
  have r0 := key 0 (by omega) _ rfl
  have r1 := key 1 (by omega) _ rfl
  have r2 := key 2 (by omega) _ rfl
  have r3 := key 3 (by omega) _ rfl
  have r4 := key 4 (by omega) _ rfl
  have r5 := key 5 (by omega) _ rfl
  have r6 := key 6 (by omega) _ rfl
  clear h hlen hg
  match c, hl, r0, r1, r2, r3, r4, r5, r6 with
  | [a0, a1, a2, a3, a4, a5, a6], _, r0, r1, r2, r3, r4, r5, r6 =>
    simp only [Nat.mul_one, List.drop_succ_cons, List.drop_zero, List.take_succ_cons, List.take_zero, List.cons.injEq, and_true] at r0 r1 r2 r3 r4 r5 r6
    subst r0 r1 r2 r3 r4 r5 r6
    rfl
end
theorem Sc.gKw : Tryz.prog.globalNamed "bellman/scan.keywords" = some 4 := by kernel_rfl
theorem Sc.gKwType : (Tryz.prog.globals[4]?).map (·.type) = some 231 := by kernel_rfl
set_option maxRecDepth 100000 in
theorem Sc.laid_of {W : World} {cs : Array Value} {fuel : Nat} {p : List MemPlace} (hv : W.var? Tryz.prog "bellman/scan.keywords" = some cs)
    (h : DataW.trod (fun _ => ()) Tryz.prog W 0 (fun _ => true) false fuel 231 cs.toList = some (Rows.laid_bellman_scan_keywords, p)) : Sc.Laid W := by
  have hc : cs.toList = Sc.kws.toList := Sc.kwc (p := p) (h.trans rfl)
  have hc2 : cs = Sc.kws := Array.toList_inj.1 hc
  subst hc2
  simp only [World.var?, Sc.gKw, Option.bind_some] at hv
  split at hv
  · next c t fr hh =>
    simp only [Option.some.injEq] at hv
    subst hv
    exact ⟨t, fr, hh⟩
  · cases hv
end Go.Proofs.YteiccjakaabfnaaGreatDoor
namespace Go.Proofs.YteiccjakaabfnaaGreatDoor
open Go.ChangeShapes Go.WideShapes Go.RowKit

theorem Nd.g0 : Tryz.prog.globalNamed "bellman/tree.errStray" = some 1 := by kernel_rfl
theorem Nd.g0Type : (Tryz.prog.globals[1]?).map (·.type) = some 93 := by kernel_rfl
theorem Nd.g1 : Tryz.prog.globalNamed "bellman/tree.errDeep" = some 2 := by kernel_rfl
theorem Nd.g1Type : (Tryz.prog.globals[2]?).map (·.type) = some 93 := by kernel_rfl
theorem Nd.var_heap {W : World} {nm : String} {g : Nat} {cs : Array Value} (hg : Tryz.prog.globalNamed nm = some g) (hv : W.var? Tryz.prog nm = some cs) : ∃ t fr, W.heap[g]? = some (.cells cs t fr) := by
  simp only [World.var?, hg, Option.bind_some] at hv
  split at hv
  · next c t fr hh =>
    simp only [Option.some.injEq] at hv
    subst hv
    exact ⟨t, fr, hh⟩
  · cases hv
theorem Nd.star : "*" ++ "errors.errorString" = "*errors.errorString" := by decide
theorem Nd.rowErr (u : TypeId) (h : Tryz.prog.typeName? 3 u = some "*errors.errorString") : u = 297 :=
  typeName_ptr_named (nm := "errors.errorString") (by rw [Nd.star]; kernel_rfl) (by kernel_rfl) (by decide) u (by rw [Nd.star]; exact h)
set_option maxRecDepth 100000 in
theorem Nd.laid_of {W : World} (h : laidMet Tryz.prog [("unicode/utf8.acceptRanges", Rows.laid_unicode_utf8_acceptRanges), ("bellman/scan.keywords", Rows.laid_bellman_scan_keywords), ("bellman/tree.errStray", Rows.laid_bellman_tree_errStray), ("bellman/tree.errDeep", Rows.laid_bellman_tree_errDeep), ("unicode/utf8.first", Rows.laid_unicode_utf8_first)] W) : Sc.Laid W ∧ ∃ a b, Nd.Errs W a b := by
  have h2 := laidMet.tail (laidMet.tail h)
  refine ⟨?_, ?_⟩
  · obtain ⟨_, ⟨_, _, _, _, _, _, _, _, _, _, ⟨g2, t2, c2, f2, p2, q2, hg2, ht2, hv2, hd2, _, _⟩, _⟩, _⟩ := h
    obtain rfl := Option.some.inj (Sc.gKwType.symm.trans ((Option.some.inj (Sc.gKw.symm.trans hg2) ▸ rfl : (Tryz.prog.globals[4]?).map (·.type) = (Tryz.prog.globals[g2]?).map (·.type)).trans ht2))
    exact Sc.laid_of hv2 hd2
  · obtain ⟨a0, a1, s0, s1, c0, c1, t0, t1, hv0, hv1, _, _, _, _, _, _, hne, hb0, hb1⟩ := laid_sentinels2 h2 Nd.g0 Nd.g0Type Nd.g1 Nd.g1Type Tryz.underlying93 (tp := 297) Nd.rowErr Tryz.underlying297 Tryz.underlying299 rfl rfl Tryz.underlying9 (by kernel_rfl) (by kernel_rfl)
    obtain ⟨_, _, hh0⟩ := Nd.var_heap Nd.g0 hv0
    obtain ⟨_, _, hh1⟩ := Nd.var_heap Nd.g1 hv1
    exact ⟨a0, a1, by rw [Lib.cell_of_heap hh0]; rfl, by rw [Lib.cell_of_heap hh1]; rfl, hne, ⟨c0, t0, hb0⟩, ⟨c1, t1, hb1⟩⟩
end Go.Proofs.YteiccjakaabfnaaGreatDoor
