
/-
  The walks of value's put, putItems and putText: a value's bytes go to a builder. Condition: the value is right.
-/
import Derived.Test.YtckcbdnlligndaaDoorVlFind
import Derived.Test.YtckcbdnlligndaaDoorVlEnc
import Derived.Test.YtckcbdnlligndaaDoorBuilderK
import Derived.Test.YtckcbdnlligndaaDoorWire
namespace Go.Proofs.YtckcbdnlligndaaDoor
open Go.RowKit

theorem Vl.builder_below {T e : TypeId} {B b : Nat} {bs : List Value} {w w' : World} (h : Lib.IsBuilderF T e B b bs w) (hb : Below w.heap.size w w') : Lib.IsBuilderF T e B b bs w' := by
  have key : ∀ p, Lib.BuilderAtF T e B b p bs w → Lib.BuilderAtF T e B b p bs w' := by
    intro p h
    have hlt := h.lt
    obtain ⟨hB, v, hc, hown, hne⟩ := h
    exact ⟨hB, v, (hb.block b hlt).trans hc, hown.kept (row := none) ⟨hb.os, hb.tape, hb.output, hb.size, fun k hk _ => hb.block k hk⟩ (Classical.em _), hne⟩
  exact h.elim (fun x => .inl (key _ x)) (fun x => .inr (key _ x))
/-- What stands where bytes were put behind what a builder had. -/
structure Vl.Put (B g : Nat) (pre add : List UInt8) (w w' : World) : Prop where
  bld : Lib.IsBuilderF 61 5 B g (Lib.byteCells (pre ++ add)) w'
  below : Below B w w'
  others : Lib.OthersKept 5 (some g) w w'
  size : w.heap.size ≤ w'.heap.size
theorem Vl.kept_below {w w' : World} (h : Below w.heap.size w w') (e : TypeId) (g : Option Nat) : Lib.OthersKept e g w w' := fun k _ hk _ _ => (h.block k (Array.getElem?_eq_some_iff.1 hk).1).trans hk
theorem Vl.Put.trans {B g : Nat} {pre a b : List UInt8} {w w1 w2 : World} (h : Vl.Put B g pre a w w1) (k : Vl.Put B g (pre ++ a) b w1 w2) : Vl.Put B g pre (a ++ b) w w2 :=
  ⟨by rw [← List.append_assoc]; exact k.bld, h.below.trans k.below, h.others.trans k.others, Nat.le_trans h.size k.size⟩
theorem Vl.Put.from {B g : Nat} {pre a : List UInt8} {w w0 w1 : World} (hb : Below w.heap.size w w0) (hB : B ≤ w.heap.size) (h : Vl.Put B g pre a w0 w1) : Vl.Put B g pre a w w1 :=
  ⟨h.bld, (hb.mono hB).trans h.below, (Vl.kept_below hb _ _).trans h.others, Nat.le_trans hb.size h.size⟩
theorem Vl.Put.nil {B g : Nat} {pre : List UInt8} {w w' : World} (h : Lib.IsBuilderF 61 5 B g (Lib.byteCells pre) w) (hb : Below w.heap.size w w') (hB : B ≤ w.heap.size) : Vl.Put B g pre [] w w' :=
  ⟨by rw [List.append_nil]; exact Vl.builder_below h hb, hb.mono hB, Vl.kept_below hb _ _, hb.size⟩
theorem Vl.putString {B g : Nat} {pre : List UInt8} (s : ByteArray) (w : World) (h : Lib.IsBuilderF 61 5 B g (Lib.byteCells pre) w) (hl : pre.length + s.size ≤ 140737488355328) (hB : B ≤ w.heap.size) :
    Calls Tryd.prog 55 #[.pointer (some ⟨g, 0, none⟩), .string s] w fun e w' => e = .returned (.tuple #[.int .i64 s.size, .nilIface]) ∧ Vl.Put B g pre s.data.toList w w' := by
  refine (Tryd.Builder_PutString B g _ s w h (by rw [Lib.byteCells_length]; exact hl) hB).mono ?_
  rintro e w' ⟨rfl, h1, h2, h3⟩
  refine ⟨rfl, Or.inr ?_, h2, h3, h2.size⟩
  rw [Lib.byteCells_append, ← Lib.strCells_eq]
  exact h1
theorem Vl.ret0 {fn : Func} (h : fn.results = #[]) (tmps : Array Value) (P : Program) (w : World) : (results fn tmps).run P w = .ok (.tuple #[]) w := by
  simp only [results, h]
  simp
set_option maxRecDepth 100000 in
/-- putText, of a text that is not too long. -/
theorem putText_any {B g : Nat} {pre : List UInt8} (s : ByteArray) (w : World) (hs : s.size ≤ 4096) (h : Lib.IsBuilderF 61 5 B g (Lib.byteCells pre) w) (hl : pre.length + 5000 ≤ 140737488355328) (hB : B ≤ w.heap.size) :
    Calls Tryd.prog 65 #[.pointer (some ⟨g, 0, none⟩), .string s] w fun e w' => e = .returned (.tuple #[]) ∧ Vl.Put B g pre (Wp.textB s.data.toList) w w' := by
  have hc := text_any s w (by omega)
  rw [if_neg (by omega)] at hc
  have hsz : (Wp.textB s.data.toList).length ≤ 4105 := by
    have := Wp.numB_len s.data.toList.length
    rw [Wp.textB, List.length_append, ← Wp.size_len]
    rw [← Wp.size_len] at this
    omega
  have HC := Lib.hid hc
  have H := Lib.hid h
  clear hc h
  generalize Wp.textB s.data.toList = tb at *
  go_enter Tryd.func65, Tryd.ntmps65
  go_wp2_with fail
  refine HC.out.mono ?_
  rintro e w1 ⟨rfl, hb1⟩
  have hw := Lib.hid (Vl.putString (Wp.B tb) w1 (Vl.builder_below H.out hb1) (by rw [Wp.B_size]; omega) (Nat.le_trans hB hb1.size))
  have Hb1 := Lib.hid hb1
  clear hb1
  go_wp2_with fail
  refine hw.out.mono ?_
  rintro e w2 ⟨rfl, hp⟩
  have Hp := Lib.hid hp
  clear hp
  go_wp2_with fail
  refine bodyPost_end (Vl.ret0 rfl _ _ _) rfl ⟨rfl, ?_⟩
  have h2 := Hp.out
  rw [Wp.B_data] at h2
  exact Vl.Put.from Hb1.out hB h2
theorem Vl.rise_small : ∀ {a : ByteArray} {l : List ByteArray}, Vl.rise a l = true → ∀ s ∈ l, s.size ≤ 32
  | _, [], _, s, hs => by simp at hs
  | a, x :: l, h, s, hs => by
    rw [Vl.rise, Bool.and_eq_true, Bool.and_eq_true] at h
    rcases List.mem_cons.1 hs with rfl | hs
    · have h1 := h.1.1
      unfold Vl.named Vl.nameL at h1
      rw [Bool.and_eq_true, Bool.and_eq_true, decide_eq_true_eq] at h1
      rw [Wp.size_len]
      exact h1.1.1
    · exact Vl.rise_small h.2 s hs
theorem Vl.names_small {l : List ByteArray} (h : Vl.namesOk l = true) : ∀ s ∈ l, s.size ≤ 32 := Vl.rise_small h
theorem Vl.encBd : ∀ (l : Nat) (x : Vl.V), Vl.okV l x = true → x.enc.length + 100 ≤ 5000 * x.cnt
  | 0, _, h => by cases h
  | l + 1, x, h => by
    rw [Vl.okV, Bool.and_eq_true] at h
    have hlf := h.1
    have hall := List.all_eq_true.1 h.2
    have key : ∀ (b : Bool) (m : List Vl.V) (names : List ByteArray), (∀ y ∈ m, Vl.okV l y = true) → (b = true → ∀ s ∈ names, s.size ≤ 32) → (Vl.encL b m names).length ≤ 5000 * Vl.cntL m := by
      intro b m
      induction m with
      | nil => intro names _ _; rw [Vl.encL_nil]; simp
      | cons y m ih =>
        intro names hm hn
        rw [Vl.encL_cons, Vl.cntL_cons, List.length_append, List.length_append]
        have h1 := Vl.encBd l y (hm y (by simp))
        have h2 := ih names.tail (fun z hz => hm z (by simp [hz])) (fun hb s hs => hn hb s (List.mem_of_mem_tail hs))
        have h3 : (if b then Wp.textB (names.headD ⟨#[]⟩).data.toList else []).length ≤ 41 := by
          cases b with
          | false => simp
          | true =>
            have h4 : (names.headD ⟨#[]⟩).size ≤ 32 := by
              cases names with
              | nil => decide
              | cons a t => exact hn rfl a (by simp)
            have := Wp.numB_len (names.headD ⟨#[]⟩).data.toList.length
            rw [if_pos rfl, Wp.textB, List.length_append, ← Wp.size_len]
            rw [← Wp.size_len] at this
            omega
        omega
    have hcnt := x.cnt_eq
    have hN := fun n => Wp.numB_len n
    rw [Vl.V.enc_eq, List.length_cons]
    unfold Vl.leaf Vl.leafC at hlf
    split
    · rename_i hk
      rw [hk] at hlf
      simp only [Bool.and_eq_true, decide_eq_true_eq] at hlf
      have := hN x.text.data.toList.length
      rw [Wp.textB, List.length_append, ← Wp.size_len]
      rw [← Wp.size_len] at this
      omega
    · split
      · have := hN x.num
        omega
      · split
        · have := hN x.items.length
          have := key false x.items x.names hall (fun h => by cases h)
          rw [List.length_append]
          omega
        · split
          · rename_i hk
            rw [hk] at hlf
            simp only [Bool.and_eq_true, decide_eq_true_eq] at hlf
            have := hN x.items.length
            have := key true x.items x.names hall (fun _ => Vl.names_small hlf.2)
            rw [List.length_append]
            omega
          · simp; omega
theorem Vl.Okay.text {x : Vl.V} (h : Vl.Okay x) : x.kind = 1 → x.text.size ≤ 4096 := fun hk => by
  obtain ⟨⟨l, hl⟩, _⟩ := h
  cases l with
  | zero => cases hl
  | succ l =>
    rw [Vl.okV, Bool.and_eq_true] at hl
    have hle := hl.1
    unfold Vl.leaf Vl.leafC at hle
    rw [hk] at hle
    simp only [Bool.and_eq_true, decide_eq_true_eq] at hle
    omega
theorem Vl.Okay.map {x : Vl.V} (h : Vl.Okay x) : x.kind = 5 → x.names.length = x.items.length ∧ Vl.namesOk x.names = true := fun hk => by
  obtain ⟨⟨l, hl⟩, _⟩ := h
  cases l with
  | zero => cases hl
  | succ l =>
    rw [Vl.okV, Bool.and_eq_true] at hl
    have hle := hl.1
    unfold Vl.leaf Vl.leafC at hle
    rw [hk] at hle
    simp only [Bool.and_eq_true, decide_eq_true_eq] at hle
    exact ⟨hle.1.2, hle.2⟩
theorem Vl.Okay.enc {x : Vl.V} (h : Vl.Okay x) : x.enc.length ≤ 1280000 := by
  obtain ⟨⟨l, hl⟩, hc⟩ := h
  have := Vl.encBd l x hl
  omega
theorem Vl.encL_le (b : Bool) : ∀ (l : List Vl.V) (names : List ByteArray) (k : Nat), (Vl.encL b (l.take k) names).length ≤ (Vl.encL b l names).length
  | [], _, k => by rw [List.take_nil]; exact Nat.le_refl _
  | x :: l, names, 0 => by rw [List.take_zero, Vl.encL_nil]; simp
  | x :: l, names, k + 1 => by
    rw [List.take_succ_cons, Vl.encL_cons, Vl.encL_cons]
    have := Vl.encL_le b l names.tail k
    simp only [List.length_append]
    omega
/-- What putting a value does. -/
def Vl.PutCall (d : Nat) (w0 : World) (g : Nat) (y : Vl.V) : Prop := ∀ (u : Value) (W : World) (pre : List UInt8), Vl.At d w0 u y → Vl.Okay y → Below w0.heap.size w0 W → Lib.IsBuilderF 61 5 w0.heap.size g (Lib.byteCells pre) W → pre.length + y.enc.length ≤ 100000000000 →
  Calls Tryd.prog 32 #[.pointer (some ⟨g, 0, none⟩), u] W fun e w' => e = .returned (.tuple #[]) ∧ Vl.Put w0.heap.size g pre y.enc W w'
set_option maxRecDepth 100000 in
set_option maxHeartbeats 2000000 in
theorem putItems_any (d : Nat) (w0 : World) (g : Nat) (x : Vl.V) (b : Bool) (hk : x.kind = if b then 5 else 4) (ih : ∀ y, Vl.PutCall d w0 g y) (v : Value) (w : World) (pre : List UInt8) (hA : Vl.At (d + 1) w0 v x) (hO : Vl.Okay x) (hB : Below w0.heap.size w0 w)
    (hbd : Lib.IsBuilderF 61 5 w0.heap.size g (Lib.byteCells pre) w) (hl : pre.length + (Wp.numB (x.items.length : Int) ++ Vl.encL b x.items x.names).length ≤ 100000000000) :
    Calls Tryd.prog 66 #[.pointer (some ⟨g, 0, none⟩), v] w fun e w' => e = .returned (.tuple #[]) ∧ Vl.Put w0.heap.size g pre (Wp.numB (x.items.length : Int) ++ Vl.encL b x.items x.names) w w' := by
  obtain ⟨pi, ci, pn, cn, rfl, ⟨q1, q2, q3, q4, q5, q6⟩, hnm, hi⟩ := hA
  have hrow := Vl.rowIs hi
  have hmap : b = true → x.names.length = x.items.length ∧ Vl.namesOk x.names = true := fun h => hO.map (by rw [hk, h]; rfl)
  have hstep : ∀ k y, x.items[k]? = some y → Vl.encL b (x.items.take (k + 1)) x.names = Vl.encL b (x.items.take k) x.names ++ ((if b then Wp.textB (x.names.getD k ⟨#[]⟩).data.toList else []) ++ y.enc) := fun k y hy => by
    obtain ⟨h, rfl⟩ := List.getElem?_eq_some_iff.1 hy
    exact Vl.encL_take b x.items x.names k h (fun h => (hmap h).1)
  have hbx := Lib.hid (Vl.new w (.cells #[.int .u8 (x.kind : Nat), .string x.text, .int .i64 x.num, .slice pi x.items.length ci, .slice pn x.names.length cn] 26))
  have hb0 := Lib.hid ((Below.refl w.heap.size w).alloc (Nat.le_refl _) (.cells #[.int .u8 (x.kind : Nat), .string x.text, .int .i64 x.num, .slice pi x.items.length ci, .slice pn x.names.length cn] 26))
  have hs0 : w.heap.size < (w.alloc (.cells #[.int .u8 (x.kind : Nat), .string x.text, .int .i64 x.num, .slice pi x.items.length ci, .slice pn x.names.length cn] 26)).heap.size := by simp
  have hnum := Lib.hid (num_any (x.items.length : Int) (w.alloc (.cells #[.int .u8 (x.kind : Nat), .string x.text, .int .i64 x.num, .slice pi x.items.length ci, .slice pn x.names.length cn] 26)) (by omega) (by omega))
  have hnl := Wp.numB_len (x.items.length : Int)
  have HI := Lib.hid ih
  have HB := Lib.hid hB
  have Hbd := Lib.hid hbd
  have Hrow := Lib.hid hrow
  have Hstep := Lib.hid hstep
  have Hmap := Lib.hid hmap
  have Hnm := Lib.hid hnm
  have HO := Lib.hid hO
  have Hl := Lib.hid hl
  have hBs : w0.heap.size ≤ w.heap.size := hB.size
  have hkb : (b = true ∧ ((x.kind : Nat) : Int) = 5) ∨ (b = false ∧ ((x.kind : Nat) : Int) = 4) := by
    cases b with
    | true => exact Or.inl ⟨rfl, by rw [hk]; rfl⟩
    | false => exact Or.inr ⟨rfl, by rw [hk]; rfl⟩
  have hgl : g < w.heap.size := by rcases hbd with h | h <;> exact h.lt
  clear hi hrow hmap hstep ih hB hbd hnm hO hl q6 hk
  have hkind : x.kind ≤ 255 := q1
  generalize hni : x.items.length = ni at *
  have Hni := Lib.hid hni
  generalize hnn : x.names.length = nn at *
  have Hnn := Lib.hid hnn
  clear hni hnn
  generalize x.kind = k at *
  generalize x.text = t at *
  generalize x.num = i at *
  go_enter Tryd.func66, Tryd.ntmps66
  go_wp2_with fail
  refine hnum.out.mono ?_
  rintro e w1 ⟨rfl, hb1⟩
  have hs1 : w.heap.size < w1.heap.size := by have := hb1.size; omega
  have hws := Lib.hid (Vl.putString (Wp.B (Wp.numB (ni : Int))) w1 (Vl.builder_below Hbd.out (hb0.out.trans (hb1.mono (by omega)))) (by have := Hl.out; rw [List.length_append] at this; rw [Wp.B_size]; omega) (by omega))
  have Hb1 := Lib.hid hb1
  clear hb1
  go_wp2_with fail
  refine hws.out.mono ?_
  rintro e w2 ⟨rfl, hp⟩
  rw [Wp.B_data] at hp
  have HP := Lib.hid (Vl.Put.from Hb1.out (by omega) hp : Vl.Put w0.heap.size g pre (Wp.numB (ni : Int)) (w.alloc (.cells #[.int .u8 (k : Nat), .string t, .int .i64 i, .slice pi ni ci, .slice pn nn cn] 26)) w2)
  have hx2 := HP.out.others _ _ hbx.out (fun e => by cases e; omega) (fun c fz e => by cases e)
  obtain ⟨m0, m1, m2, m3, m4⟩ := Vl.five_of hx2
  clear hp hnum hws Hb1 hx2
  go_wp2_with fail
  go_loopw [4, 5, 15] (fun _ _ s wr => ∃ kk : Nat, kk ≤ ni ∧ s = .int .i64 kk ∧ Hid (Vl.Put w0.heap.size g pre (Wp.numB (ni : Int) ++ Vl.encL b (x.items.take kk) x.names) (w.alloc (.cells #[.int .u8 (k : Nat), .string t, .int .i64 i, .slice pi ni ci, .slice pn nn cn] 26)) wr)) (fun _ _ s _ => ni - (intOf s).toNat)
  case atStart => exact ⟨0, Nat.zero_le _, rfl, Lib.hid (by rw [List.take_zero, Vl.encL_nil, List.append_nil]; exact HP.out)⟩
  case round =>
    obtain ⟨kk, hkk, rfl, HQ⟩ := hrel
    have hxr := HQ.out.others _ _ hbx.out (fun e => by cases e; omega) (fun c fz e => by cases e)
    clear m0 m1 m2 m3 m4
    obtain ⟨m0, m1, m2, m3, m4⟩ := Vl.five_of hxr
    have hszr := HQ.out.size
    have hwr := Nat.lt_of_lt_of_le hs0 hszr
    have hBr : Below w0.heap.size w0 wr := (HB.out.trans (hb0.out.mono hBs)).trans HQ.out.below
    by_cases hlt : kk < ni
    · obtain ⟨b2, off2, c0, c1, c2, c3, c4, rfl, ⟨e0, e1, e2, e3, e4⟩, y, hy, hAy⟩ := Hrow.out wr hBr kk hlt
      obtain ⟨k1, t1, i1, pi1, ni1, ci1, pn1, nn1, cn1, hsh⟩ := hAy.shape
      simp only [Value.agg.injEq, Array.mk.injEq, List.cons.injEq, and_true] at hsh
      obtain ⟨rfl, rfl, rfl, rfl, rfl⟩ := hsh
      have Hst := Lib.hid (Hstep.out kk y hy)
      have hyO : Vl.Okay y := HO.out.item (List.mem_of_getElem? hy)
      have Hby := Lib.hid (Vl.new wr (.cells #[.int .u8 (k1 : Nat), .string t1, .int .i64 i1, .slice pi1 ni1 ci1, .slice pn1 nn1 cn1] 26))
      have hbw := (Below.refl wr.heap.size wr).alloc (Nat.le_refl _) (.cells #[.int .u8 (k1 : Nat), .string t1, .int .i64 i1, .slice pi1 ni1 ci1, .slice pn1 nn1 cn1] 26)
      have Hbw := Lib.hid hbw
      have Hbd1 := Lib.hid (Vl.builder_below HQ.out.bld hbw)
      have hle : (pre ++ (Wp.numB (ni : Int) ++ Vl.encL b (x.items.take (kk + 1)) x.names)).length ≤ 100000000000 := by
        have h1 := Hl.out
        have h2 := Vl.encL_le b x.items x.names (kk + 1)
        rw [List.length_append] at h1
        rw [List.length_append, List.length_append]
        omega
      have hgr : g ≠ wr.heap.size := by have := hszr; omega
      have hBs1 : w0.heap.size ≤ (wr.alloc (.cells #[.int .u8 (k1 : Nat), .string t1, .int .i64 i1, .slice pi1 ni1 ci1, .slice pn1 nn1 cn1] 26)).heap.size := by have := hBr.size; simp; omega
      have HBr := Lib.hid hBr
      rcases hkb with ⟨rfl, hk5⟩ | ⟨rfl, hk4⟩
      · obtain ⟨hm1, hm2⟩ := Hmap.out rfl
        have hke : ((k : Int) == 5) = true := by rw [hk5]; rfl
        have hkn : kk < x.names.length := by rw [Hnn.out, hm1]; exact hlt
        obtain ⟨b5, o5, rfl, hcell⟩ := (Hnm.out.below (hBr.trans (hbw.mono hBr.size))).get kk hkn
        rw [show Wp.mkT x.names[kk] = Value.string x.names[kk] from rfl] at hcell
        have hns := Vl.names_small hm2 x.names[kk] (List.getElem_mem _)
        rw [if_pos rfl, show x.names.getD kk ⟨#[]⟩ = x.names[kk] by rw [List.getD_eq_getElem?_getD, List.getElem?_eq_getElem hkn]; rfl] at Hst
        have hye := hyO.enc
        generalize x.names[kk] = sx at *
        have hkn2 : (kk : Int) < (nn : Int) := by omega
        have hlen2 : (pre ++ (Wp.numB (ni : Int) ++ Vl.encL true (x.items.take kk) x.names)).length ≤ 100000000000 := by
          have h1 := Hl.out
          have h2 := Vl.encL_le true x.items x.names kk
          rw [List.length_append] at h1
          rw [List.length_append, List.length_append]
          omega
        have hpt := Lib.hid (putText_any sx _ (by omega) Hbd1.out (by omega) hBs1)
        have hle2 := hle
        rw [Hst.out, ← List.append_assoc, ← List.append_assoc, ← List.append_assoc, List.length_append] at hle2
        have Hle := Lib.hid hle2
        have HyO := Lib.hid hyO
        have HAy := Lib.hid hAy
        clear hAy hy hbw Hbd1 hxr hle hle2 hyO hkn hm1 hm2 hlen2 hk5
        go_wp2_with fail
        refine hpt.out.mono ?_
        rintro e w3 ⟨rfl, hp3⟩
        have hby3 := hp3.others _ _ Hby.out (fun e => by cases e; omega) (fun c fz e => by cases e)
        obtain ⟨r0, r1, r2, r3, r4⟩ := Vl.five_of hby3
        have hput := Lib.hid (HI.out y _ _ _ HAy.out HyO.out ((HBr.out.trans (Hbw.out.mono HBr.out.size)).trans hp3.below) hp3.bld (by have := Hle.out; rwa [← List.append_assoc]))
        have HP3 := Lib.hid (HQ.out.trans (Vl.Put.from Hbw.out HBr.out.size hp3))
        clear hp3 hby3 hpt
        go_wp2_with fail
        refine hput.out.mono ?_
        rintro e w4 ⟨rfl, hp4⟩
        have HP4 := Lib.hid (HP3.out.trans (by rw [← List.append_assoc pre]; exact hp4))
        clear hp4 hput
        go_wp2_with fail
        refine ⟨⟨kk + 1, by omega, by go_num, Lib.hid (by rw [Hst.out, ← List.append_assoc, ← List.append_assoc]; exact HP4.out)⟩, by simp [intOf]; omega⟩
      · have hke : ((k : Int) == 5) = false := by rw [hk4]; rfl
        clear hk4
        rw [show (if (false = true) then Wp.textB (x.names.getD kk ⟨#[]⟩).data.toList else []) = [] from rfl, List.nil_append] at Hst
        have hput := Lib.hid (HI.out y _ _ _ hAy hyO (hBr.trans (hbw.mono hBr.size)) Hbd1.out (by rw [Hst.out, ← List.append_assoc, ← List.append_assoc, List.length_append] at hle; rw [← List.append_assoc]; exact hle))
        clear hAy hy hbw Hbd1 hxr
        go_wp2_with fail
        refine hput.out.mono ?_
        rintro e w4 ⟨rfl, hp4⟩
        have HP4 := Lib.hid (HQ.out.trans (Vl.Put.from Hbw.out HBr.out.size hp4))
        clear hp4 hput
        go_wp2_with fail
        refine ⟨⟨kk + 1, by omega, by go_num, Lib.hid (by rw [Hst.out, ← List.append_assoc]; exact HP4.out)⟩, by simp [intOf]; omega⟩
    · obtain rfl : kk = ni := by omega
      go_wp2_with fail
      refine bodyPost_end (Vl.ret0 rfl _ _ _) rfl ⟨rfl, ?_⟩
      have h2 := HQ.out
      rw [List.take_of_length_le (by rw [Hni.out]; exact Nat.le_refl _)] at h2
      exact Vl.Put.from hb0.out hBs h2
theorem Vl.Okay.kind {x : Vl.V} (h : Vl.Okay x) : x.kind = 1 ∨ x.kind = 2 ∨ x.kind = 3 ∨ x.kind = 4 ∨ x.kind = 5 := by
  obtain ⟨⟨l, hl⟩, _⟩ := h
  cases l with
  | zero => cases hl
  | succ l =>
    rw [Vl.okV, Bool.and_eq_true] at hl
    have hle := hl.1
    unfold Vl.leaf Vl.leafC at hle
    split at hle <;> first | omega | cases hle
theorem Vl.putByte {B g : Nat} {pre : List UInt8} (k : Nat) (hk : k ≤ 255) (w : World) (h : Lib.IsBuilderF 61 5 B g (Lib.byteCells pre) w) (hl : pre.length + 1 ≤ 140737488355328) (hB : B ≤ w.heap.size) :
    Calls Tryd.prog 64 #[.pointer (some ⟨g, 0, none⟩), .int .u8 k] w fun e w' => e = .returned .nilIface ∧ Vl.Put B g pre [UInt8.ofNat k] w w' := by
  refine (Tryd.Builder_PutByte B g _ k w h (by rw [Lib.byteCells_length]; exact hl) hB).mono ?_
  rintro e w' ⟨rfl, h1, h2, h3⟩
  refine ⟨rfl, Or.inr ?_, h2, h3, h2.size⟩
  rw [Lib.byteCells_append, show Lib.byteCells [UInt8.ofNat k] = [.int .u8 k] by show [Value.int .u8 ((UInt8.ofNat k).toNat : Nat)] = _; rw [UInt8.toNat_ofNat_of_lt' (by show k < 256; omega)]]
  exact h1
set_option maxRecDepth 100000 in
set_option maxHeartbeats 2000000 in
/-- put, of whatever right value. -/
theorem put_any : ∀ (d : Nat) (w0 : World) (g : Nat) (x : Vl.V), Vl.PutCall d w0 g x
  | 0, _, _, _ => fun _ _ _ h => h.elim
  | d + 1, w0, g, x => fun v w pre hA hO hB hbd hl => by
    have ih : ∀ y, Vl.PutCall d w0 g y := put_any d w0 g
    have hit := fun b hk W pre' (h1 : Below w0.heap.size w0 W) h2 h3 => putItems_any d w0 g x b hk ih v W pre' hA hO h1 h2 h3
    have hel := hO.enc
    have hen := x.enc_eq
    have hkd := hO.kind
    have htx := hO.text
    obtain ⟨pi, ci, pn, cn, rfl, ⟨q1, q2, q3, q4, q5, q6⟩, -, -⟩ := hA
    have hb0 := (Below.refl w.heap.size w).alloc (Nat.le_refl _) (.cells #[.int .u8 (x.kind : Nat), .string x.text, .int .i64 x.num, .slice pi x.items.length ci, .slice pn x.names.length cn] 26)
    have hbx := Lib.hid (Vl.new w (.cells #[.int .u8 (x.kind : Nat), .string x.text, .int .i64 x.num, .slice pi x.items.length ci, .slice pn x.names.length cn] 26))
    have hbs : w0.heap.size ≤ (w.alloc (.cells #[.int .u8 (x.kind : Nat), .string x.text, .int .i64 x.num, .slice pi x.items.length ci, .slice pn x.names.length cn] 26)).heap.size := by have := hB.size; simp; omega
    have hgl : g < w.heap.size := by rcases hbd with h | h <;> exact h.lt
    have hw1 := Lib.hid (Vl.putByte x.kind q1 _ (Vl.builder_below hbd hb0) (by omega) hbs)
    have Hb0 := Lib.hid hb0
    have HB := Lib.hid hB
    have Hit := Lib.hid hit
    have Hen := Lib.hid hen
    have hBs := hB.size
    have hnl := Wp.numB_len (x.items.length : Int)
    have hnl2 := Wp.numB_len x.num
    obtain ⟨hq1, hq2⟩ := q3
    have hnum := Lib.hid (fun W => num_any x.num W hq1 hq2)
    clear hit hen hb0 hB hbd hO ih q6
    generalize x.enc = en at *
    generalize x.items.length = ni at *
    generalize x.names.length = nn at *
    generalize x.kind = k at *
    generalize x.text = t at *
    generalize x.num = i at *
    go_enter Tryd.func32, Tryd.ntmps32
    go_wp2_with fail
    refine hw1.out.mono ?_
    rintro e w1 ⟨rfl, hp1⟩
    have hx1 := hp1.others _ _ hbx.out (fun e => by cases e; omega) (fun c fz e => by cases e)
    obtain ⟨m0, m1, m2, m3, m4⟩ := Vl.five_of hx1
    have HP1 := Lib.hid hp1
    have hs1 : w0.heap.size ≤ w1.heap.size := Nat.le_trans hbs hp1.size
    clear hp1 hx1 hw1
    by_cases k1 : k = 1
    · subst k1
      have hE : en = UInt8.ofNat 1 :: Wp.textB t.data.toList := Hen.out
      have hpt := Lib.hid (putText_any t w1 (htx rfl) HP1.out.bld (by rw [List.length_append]; simp; omega) hs1)
      go_wp2_with fail
      refine hpt.out.mono ?_
      rintro e w2 ⟨rfl, hp2⟩
      have HP2 := Lib.hid (HP1.out.trans hp2)
      clear hp2 hpt
      go_wp2_with fail
      refine bodyPost_end (Vl.ret0 rfl _ _ _) rfl ⟨rfl, ?_⟩
      rw [hE]
      exact Vl.Put.from Hb0.out hBs HP2.out
    · have e1 : ((k : Int) == 1) = false := beq_eq_false_iff_ne.2 (by omega)
      by_cases k23 : k = 2 ∨ k = 3
      · have hE : en = UInt8.ofNat k :: Wp.numB i := by rw [Hen.out, if_neg k1, if_pos k23]
        rcases k23 with rfl | rfl
        · go_wp2_with fail
          refine (hnum.out _).mono ?_
          rintro e w2 ⟨rfl, hb2⟩
          have hw2 := Lib.hid (Vl.putString (Wp.B (Wp.numB i)) w2 (Vl.builder_below HP1.out.bld hb2) (by rw [Wp.B_size, List.length_append]; simp; omega) (Nat.le_trans hs1 hb2.size))
          have Hb2 := Lib.hid hb2
          clear hb2
          go_wp2_with fail
          refine hw2.out.mono ?_
          rintro e w3 ⟨rfl, hp3⟩
          rw [Wp.B_data] at hp3
          have HP2 := Lib.hid (HP1.out.trans (Vl.Put.from Hb2.out hs1 hp3))
          clear hp3 hw2
          go_wp2_with fail
          refine bodyPost_end (Vl.ret0 rfl _ _ _) rfl ⟨rfl, ?_⟩
          rw [hE]
          exact Vl.Put.from Hb0.out hBs HP2.out
        · go_wp2_with fail
          refine (hnum.out _).mono ?_
          rintro e w2 ⟨rfl, hb2⟩
          have hw2 := Lib.hid (Vl.putString (Wp.B (Wp.numB i)) w2 (Vl.builder_below HP1.out.bld hb2) (by rw [Wp.B_size, List.length_append]; simp; omega) (Nat.le_trans hs1 hb2.size))
          have Hb2 := Lib.hid hb2
          clear hb2
          go_wp2_with fail
          refine hw2.out.mono ?_
          rintro e w3 ⟨rfl, hp3⟩
          rw [Wp.B_data] at hp3
          have HP2 := Lib.hid (HP1.out.trans (Vl.Put.from Hb2.out hs1 hp3))
          clear hp3 hw2
          go_wp2_with fail
          refine bodyPost_end (Vl.ret0 rfl _ _ _) rfl ⟨rfl, ?_⟩
          rw [hE]
          exact Vl.Put.from Hb0.out hBs HP2.out
      · have e2 : ((k : Int) == 2) = false := beq_eq_false_iff_ne.2 (by omega)
        have e3 : ((k : Int) == 3) = false := beq_eq_false_iff_ne.2 (by omega)
        have hbel : Below w0.heap.size w0 w1 := (HB.out.trans (Hb0.out.mono hBs)).trans HP1.out.below
        by_cases k4 : k = 4
        · subst k4
          have hE : en = UInt8.ofNat 4 :: (Wp.numB (ni : Int) ++ Vl.encL false x.items x.names) := Hen.out
          have hpi := Lib.hid (Hit.out false rfl w1 _ hbel HP1.out.bld (by rw [hE, List.length_cons] at hel; rw [List.length_append]; rw [hE, List.length_cons] at hl; simp only [List.length_cons, List.length_nil]; omega))
          go_wp2_with fail
          refine hpi.out.mono ?_
          rintro e w2 ⟨rfl, hp2⟩
          have HP2 := Lib.hid (HP1.out.trans hp2)
          clear hp2 hpi
          go_wp2_with fail
          refine bodyPost_end (Vl.ret0 rfl _ _ _) rfl ⟨rfl, ?_⟩
          rw [hE]
          exact Vl.Put.from Hb0.out hBs HP2.out
        · obtain rfl : k = 5 := by omega
          have hE : en = UInt8.ofNat 5 :: (Wp.numB (ni : Int) ++ Vl.encL true x.items x.names) := Hen.out
          have hpi := Lib.hid (Hit.out true rfl w1 _ hbel HP1.out.bld (by rw [List.length_append]; rw [hE, List.length_cons] at hl; simp only [List.length_cons, List.length_nil]; omega))
          go_wp2_with fail
          refine hpi.out.mono ?_
          rintro e w2 ⟨rfl, hp2⟩
          have HP2 := Lib.hid (HP1.out.trans hp2)
          clear hp2 hpi
          go_wp2_with fail
          refine bodyPost_end (Vl.ret0 rfl _ _ _) rfl ⟨rfl, ?_⟩
          rw [hE]
          exact Vl.Put.from Hb0.out hBs HP2.out
end Go.Proofs.YtckcbdnlligndaaDoor
