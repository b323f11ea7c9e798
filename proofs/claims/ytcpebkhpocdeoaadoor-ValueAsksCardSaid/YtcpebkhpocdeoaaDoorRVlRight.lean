/-
  The walk of the document's own right and Check (bellmanref09.right, Check). Condition: a value's texts and lists are of a size that a machine holds.
-/
import Derived.Test.YtcpebkhpocdeoaaDoorRVlLeaf
import Derived.Test.YtcpebkhpocdeoaaDoorVlFind
namespace Go.Proofs.YtcpebkhpocdeoaaDoor
open Go.RowKit

namespace Vl
def rrAll (f : V → Nat × Bool) : List V → Nat → Nat × Bool
  | [], n => (n, true)
  | x :: m, n => if (f x).2 = true ∧ n + (f x).1 ≤ 256 then rrAll f m (n + (f x).1) else (0, false)
def rr : Nat → V → Nat × Bool
  | 0, _ => (0, false)
  | l + 1, v => if leaf v = true then rrAll (rr l) v.items 1 else (0, false)
theorem rr_eq : ∀ (l : Nat) (v : V), rr l v = if okV l v = true ∧ v.cnt ≤ 256 then (v.cnt, true) else (0, false)
  | 0, v => by rw [rr, okV, if_neg (by simp)]
  | l + 1, v => by
    have ih := rr_eq l
    have key : ∀ (m : List V) (n : Nat), n ≤ 256 → rrAll (rr l) m n = if m.all (okV l) = true ∧ n + cntL m ≤ 256 then (n + cntL m, true) else (0, false) := by
      intro m
      induction m with
      | nil => intro n hn; rw [rrAll, cntL_nil, if_pos ⟨rfl, by omega⟩]; rfl
      | cons x m ihm =>
        intro n hn
        rw [rrAll, ih x, cntL_cons, List.all_cons]
        by_cases hx : okV l x = true ∧ x.cnt ≤ 256
        · rw [if_pos hx]
          by_cases h2 : n + x.cnt ≤ 256
          · rw [if_pos ⟨rfl, h2⟩, ihm _ h2, hx.1, Bool.true_and, Nat.add_assoc]
          · rw [if_neg (fun h => h2 h.2), if_neg (fun h => h2 (by have := h.2; omega))]
        · rw [if_neg hx, if_neg (fun h => by simp at h), if_neg (fun h => hx ⟨by have := h.1; rw [Bool.and_eq_true] at this; exact this.1, by have := h.2; omega⟩)]
    rw [rr, okV, V.cnt_eq]
    by_cases hl : leaf v = true
    · rw [if_pos hl, key _ 1 (by omega), hl, Bool.true_and, Nat.add_comm 1]
    · rw [if_neg hl, if_neg (fun h => hl (by have := h.1; rw [Bool.and_eq_true] at this; exact this.1))]
theorem rr_good (v : V) : (rr 8 v).2 = good v := by
  rw [rr_eq]
  unfold good
  by_cases h : okV 8 v = true ∧ v.cnt ≤ 256
  · rw [if_pos h, h.1, decide_eq_true h.2]; rfl
  · rw [if_neg h]
    cases h1 : okV 8 v with
    | false => rfl
    | true => rw [decide_eq_false (fun h2 => h ⟨h1, h2⟩)]; rfl
theorem rr_le (l : Nat) (v : V) : (rr l v).1 ≤ 256 := by
  rw [rr_eq]
  split
  · rename_i h; exact h.2
  · exact Nat.zero_le _
theorem rrAll_bad {f : V → Nat × Bool} {x : V} {m : List V} {n : Nat} (h : ¬ ((f x).2 = true ∧ n + (f x).1 ≤ 256)) : rrAll f (x :: m) n = (0, false) := by rw [rrAll, if_neg h]
theorem rrAll_on {f : V → Nat × Bool} {x : V} {m : List V} {n : Nat} (h : (f x).2 = true) (h2 : n + (f x).1 ≤ 256) : rrAll f (x :: m) n = rrAll f m (n + (f x).1) := by rw [rrAll, if_pos ⟨h, h2⟩]
end Vl
set_option maxRecDepth 100000 in
theorem refRight_zero (d : Nat) (x : Vl.V) (v : Value) (w : World) (hA : Vl.At d w v x) :
    Calls Tryd.prog 35 #[v, .int .i64 0] w fun e w' => e = .returned (.tuple #[.int .i64 ((0 : Nat) : Int), .bool false]) ∧ Below w.heap.size w w' := by
  obtain ⟨k5, t5, i5, pi5, ni5, ci5, pn5, nn5, cn5, rfl⟩ := hA.shape
  clear hA
  go_enter Tryd.func35, Tryd.ntmps35
  go_wp2_with fail
  go_ret2
  exact ⟨rfl, (Below.refl _ _).alloc (Nat.le_refl _) _⟩
set_option maxRecDepth 100000 in
set_option maxHeartbeats 2000000 in
theorem refRight_step (d : Nat) (f : Vl.V → Nat × Bool) (k : Nat) (t : ByteArray) (i : Int) (ns : List Vl.V) (pi : Option Addr) (n ci : Nat) (pn : Option Addr) (nn cn : Nat) (lf : Bool) (T : Nat × Bool) (w : World) (z : Int) (hz1 : 1 ≤ z) (hz2 : z ≤ 8) (q4 : n ≤ 140737488351232) (hN : n = ns.length) (hle : ∀ y, (f y).1 ≤ 256)
    (hLf : ∀ W, Below w.heap.size w W → Calls Tryd.prog 56 #[.agg #[.int .u8 k, .string t, .int .i64 i, .slice pi n ci, .slice pn nn cn]] W fun e w' => e = .returned (.bool lf) ∧ Below W.heap.size W w')
    (hrow : ∀ W, Below w.heap.size w W → Vl.RowIs W pi n (Vl.G d w ns))
    (hih : ∀ y u W, Vl.At d W u y → Calls Tryd.prog 35 #[u, .int .i64 (z - 1)] W fun e w' => e = .returned (.tuple #[.int .i64 ((f y).1 : Nat), .bool (f y).2]) ∧ Below W.heap.size W w')
    (hT : T = if lf = true then Vl.rrAll f ns 1 else (0, false)) :
    Calls Tryd.prog 35 #[.agg #[.int .u8 k, .string t, .int .i64 i, .slice pi n ci, .slice pn nn cn], .int .i64 z] w fun e w' => e = .returned (.tuple #[.int .i64 (T.1 : Nat), .bool T.2]) ∧ Below w.heap.size w w' := by
  have HLf := Lib.hid hLf
  have Hrow := Lib.hid hrow
  have ih := Lib.hid hih
  have Hle := Lib.hid hle
  have HT := Lib.hid hT
  have HN := Lib.hid hN
  have Hb0 := Lib.hid ((Below.refl w.heap.size w).alloc (Nat.le_refl _) (.cells #[.int .u8 k, .string t, .int .i64 i, .slice pi n ci, .slice pn nn cn] 26))
  have HX0 := Lib.hid (Vl.new w (.cells #[.int .u8 k, .string t, .int .i64 i, .slice pi n ci, .slice pn nn cn] 26))
  have hz0 : ((z : Int) == 0) = false := beq_eq_false_iff_ne.2 (by omega)
  clear hLf hrow hih hle hT hN
  go_enter Tryd.func35, Tryd.ntmps35
  go_wp2_with fail
  refine (HLf.out _ Hb0.out).mono ?_
  rintro e w1 ⟨rfl, hb1⟩
  have HB1 := Lib.hid (Hb0.out.trans (hb1.mono Hb0.out.size))
  have hx1 := (hb1.block w.heap.size (Array.getElem?_eq_some_iff.1 HX0.out).1).trans HX0.out
  clear hb1 HLf Hb0 HX0
  cases lf with
  | false =>
    have e : T = (0, false) := HT.out
    subst e
    clear HT hx1
    go_wp2_with fail
    go_ret2
    exact ⟨rfl, HB1.out⟩
  | true =>
    have HR : Hid (T = Vl.rrAll f (ns.drop 0) 1) := Lib.hid HT.out
    obtain ⟨m0, m1, m2, m3, m4⟩ := Vl.five_of hx1
    clear HT hx1
    go_wp2_with fail
    go_loopw [6, 21] (fun a s wr => ∃ (kk : Nat) (c : Nat), kk ≤ n ∧ s = .int .i64 kk ∧ a = .int .i64 c ∧ c ≤ 256 ∧ Hid (T = Vl.rrAll f (ns.drop kk) c) ∧ Hid (Below w.heap.size w wr)) (fun _ s _ => n - (intOf s).toNat)
    case atStart => exact ⟨0, 1, Nat.zero_le _, rfl, rfl, by omega, HR, HB1⟩
    case round =>
      obtain ⟨kk, c, hkk, rfl, rfl, hc, HR, HB⟩ := hrel
      by_cases hlt : kk < n
      · obtain ⟨b2, off2, c0, c1, c2, c3, c4, rfl, ⟨e0, e1, e2, e3, e4⟩, y, hy, hAy⟩ := Hrow.out _ HB.out kk hlt
        obtain ⟨k5, t5, i5, pi5, ni5, ci5, pn5, nn5, cn5, hsh⟩ := hAy.shape
        simp only [Value.agg.injEq, Array.mk.injEq, List.cons.injEq, and_true] at hsh
        obtain ⟨rfl, rfl, rfl, rfl, rfl⟩ := hsh
        have hkl : kk < ns.length := by rw [← HN.out]; exact hlt
        have hye : ns[kk] = y := by rw [List.getElem?_eq_getElem hkl] at hy; exact Option.some.inj hy
        have HR2 := Lib.hid (show T = Vl.rrAll f (y :: ns.drop (kk + 1)) c by rw [← hye, ← List.drop_eq_getElem_cons hkl]; exact HR.out)
        have hby := (Below.refl wr.heap.size wr).alloc (Nat.le_refl _) (.cells #[.int .u8 k5, .string t5, .int .i64 i5, .slice pi5 ni5 ci5, .slice pn5 nn5 cn5] 26)
        have HBy := Lib.hid (HB.out.trans (hby.mono HB.out.size))
        have HC := Lib.hid (ih.out y _ _ ((hAy.below HB.out).below hby))
        have hyl := Hle.out y
        obtain ⟨y0, y1, y2, y3, y4⟩ := Vl.five_of (Vl.new wr (.cells #[.int .u8 k5, .string t5, .int .i64 i5, .slice pi5 ni5 ci5, .slice pn5 nn5 cn5] 26))
        clear hy hAy hkl hye HR hby
        have hj0 : (0 : Int) ≤ (kk : Int) := by omega
        have hj1 : (kk : Int) < (n : Int) := by omega
        go_wp2_with fail
        refine HC.out.mono ?_
        rintro e w4 ⟨rfl, hb4⟩
        have HB4 := Lib.hid (HBy.out.trans (hb4.mono HBy.out.size))
        clear hb4 HC HBy HB y0 y1 y2 y3 y4 e0 e1 e2 e3 e4
        have Hbad := Lib.hid (fun (h : ¬ ((f y).2 = true ∧ c + (f y).1 ≤ 256)) => HR2.out.trans (Vl.rrAll_bad h))
        have Hon := Lib.hid (fun (h : (f y).2 = true) (h2 : c + (f y).1 ≤ 256) => HR2.out.trans (Vl.rrAll_on h h2))
        clear HR2
        generalize (f y).1 = c2 at *
        generalize (f y).2 = b2 at *
        cases b2 with
        | false =>
          have e : T = (0, false) := Hbad.out (fun h => by simp at h)
          subst e
          clear Hbad Hon
          go_wp2_with fail
          go_ret2
          exact ⟨rfl, HB4.out⟩
        | true =>
          by_cases h256 : c + c2 ≤ 256
          · have HR3 := Lib.hid (Hon.out rfl h256)
            clear Hbad Hon
            have hgt : ¬ ((256 : Int) < (c : Int) + (c2 : Int)) := by omega
            go_wp2_with fail
            refine ⟨⟨kk + 1, c + c2, by omega, by go_num, by go_num, h256, HR3, HB4⟩, by simp [intOf]; omega⟩
          · have e : T = (0, false) := Hbad.out (fun h => h256 h.2)
            subst e
            clear Hbad Hon
            have hgt : (256 : Int) < (c : Int) + (c2 : Int) := by omega
            go_wp2_with fail
            go_ret2
            exact ⟨rfl, HB4.out⟩
      · have hkn : kk = n := by omega
        have e := HR.out
        rw [hkn, HN.out, List.drop_length, Vl.rrAll] at e
        subst e
        clear HR
        subst hkn
        go_wp2_with fail
        go_ret2
        exact ⟨rfl, HB.out⟩
theorem refRight_any : ∀ (l d : Nat) (x : Vl.V) (v : Value) (w : World) (z : Int), l ≤ 8 → z = (l : Int) → Vl.At d w v x →
    Calls Tryd.prog 35 #[v, .int .i64 z] w fun e w' => e = .returned (.tuple #[.int .i64 ((Vl.rr l x).1 : Nat), .bool (Vl.rr l x).2]) ∧ Below w.heap.size w w'
  | 0, d, x, v, w, z, _, hz, hA => by
    have hz' : z = 0 := hz
    rw [hz', Vl.rr]
    exact refRight_zero d x v w hA
  | _ + 1, 0, _, _, _, _, _, _, hA => hA.elim
  | l + 1, d + 1, x, v, w, z, hl, hz, hA => by
    obtain ⟨pi, ci, pn, cn, rfl, ⟨q1, q2, q3, q4, q5, q6⟩, hn, hi⟩ := hA
    exact refRight_step d (Vl.rr l) x.kind x.text x.num x.items pi x.items.length ci pn x.names.length cn (Vl.leaf x) (Vl.rr (l + 1) x) w z (by omega) (by omega) q4 rfl (fun y => Vl.rr_le l y)
      (fun W h => refLeaf_any x.kind x.text x.num pi x.items.length ci pn cn x.names W q1 q2 q3 q5 q6 (hn.below h)) (Vl.rowIs hi)
      (fun y u W ha => refRight_any l d y u W (z - 1) (by omega) (by omega) ha) rfl
end Go.Proofs.YtcpebkhpocdeoaaDoor
