
/-
  The walks of value's checkWith and With. Condition: values' texts and lists are of a size that a machine holds.
-/
import Derived.Test.YtcpebkhpocdeoaaDoorVlWith
namespace Go.Proofs.YtcpebkhpocdeoaaDoor
open Go.RowKit

/-- Why a value can't be put in. -/
def Vl.chkW (v : Vl.V) (s : ByteArray) (x : Vl.V) : Int := if Vl.good v then (if Vl.good x then (if v.kind = 5 then Vl.nameC s else 2) else 2) else 2
set_option maxRecDepth 100000 in
set_option maxHeartbeats 1000000 in
theorem checkWith_any (d : Nat) (v x : Vl.V) (a b : Value) (s : ByteArray) (w : World) (hs : s.size ≤ 140737488351232) (hA : Vl.At d w a v) (hX : Vl.At d w b x) :
    Calls Tryd.prog 44 #[a, .string s, b] w fun e w' => e = .returned (.int .i64 (Vl.chkW v s x)) ∧ Below w.heap.size w w' := by
  have hc1 := Lib.hid (fun W (h : Below w.heap.size w W) => vlCheck_any d v a W (hA.below h))
  have hc2 := Lib.hid (fun W (h : Below w.heap.size w W) => vlCheck_any d x b W (hX.below h))
  have hkk : ∃ (pi : Option Addr) (ni ci : Nat) (pn : Option Addr) (nn cn : Nat), a = .agg #[.int .u8 (v.kind : Nat), .string v.text, .int .i64 v.num, .slice pi ni ci, .slice pn nn cn] := by
    cases d with
    | zero => exact hA.elim
    | succ d =>
      obtain ⟨pi, ci, pn, cn, e, _⟩ := hA
      exact ⟨_, _, _, _, _, _, e⟩
  obtain ⟨pi, ni, ci, pn, nn, cn, rfl⟩ := hkk
  obtain ⟨k5, t5, i5, pi5, ni5, ci5, pn5, nn5, cn5, rfl⟩ := hX.shape
  have Hn := Lib.hid (fun W => vlName_any s W (by omega))
  have hdef : Vl.chkW v s x = if Vl.good v then (if Vl.good x then (if v.kind = 5 then Vl.nameC s else 2) else 2) else 2 := rfl
  rw [show Vl.chk v = if Vl.good v then 0 else 2 from rfl] at hc1
  rw [show Vl.chk x = if Vl.good x then 0 else 2 from rfl] at hc2
  have hbA : Below w.heap.size w ((w.alloc (.cells #[.int .u8 (v.kind : Nat), .string v.text, .int .i64 v.num, .slice pi ni ci, .slice pn nn cn] 26)).alloc (.cells #[.int .u8 k5, .string t5, .int .i64 i5, .slice pi5 ni5 ci5, .slice pn5 nn5 cn5] 26)) := ((Below.refl w.heap.size w).alloc (Nat.le_refl _) _).alloc (by simp) _
  have hx0 : ((w.alloc (.cells #[.int .u8 (v.kind : Nat), .string v.text, .int .i64 v.num, .slice pi ni ci, .slice pn nn cn] 26)).alloc (.cells #[.int .u8 k5, .string t5, .int .i64 i5, .slice pi5 ni5 ci5, .slice pn5 nn5 cn5] 26)).heap[w.heap.size]? = some (.cells #[.int .u8 (v.kind : Nat), .string v.text, .int .i64 v.num, .slice pi ni ci, .slice pn nn cn] 26 (0, 0)) := by rw [Vl.past _ _ _ (by simp)]; exact Vl.new _ _
  have hx1 : ((w.alloc (.cells #[.int .u8 (v.kind : Nat), .string v.text, .int .i64 v.num, .slice pi ni ci, .slice pn nn cn] 26)).alloc (.cells #[.int .u8 k5, .string t5, .int .i64 i5, .slice pi5 ni5 ci5, .slice pn5 nn5 cn5] 26)).heap[w.heap.size + 1]? = some (.cells #[.int .u8 k5, .string t5, .int .i64 i5, .slice pi5 ni5 ci5, .slice pn5 nn5 cn5] 26 (0, 0)) := Vl.newAt _ _ _ (by simp)
  have hsA : ((w.alloc (.cells #[.int .u8 (v.kind : Nat), .string v.text, .int .i64 v.num, .slice pi ni ci, .slice pn nn cn] 26)).alloc (.cells #[.int .u8 k5, .string t5, .int .i64 i5, .slice pi5 ni5 ci5, .slice pn5 nn5 cn5] 26)).heap.size = w.heap.size + 2 := by simp
  have HbA := Lib.hid hbA
  have HX0 := Lib.hid hx0
  have HX1 := Lib.hid hx1
  have HsA := Lib.hid hsA
  generalize Vl.chkW v s x = r at *
  have Hdef := Lib.hid hdef
  generalize Vl.good v = g1 at *
  generalize Vl.good x = g2 at *
  generalize v.kind = k at *
  generalize v.text = t at *
  generalize v.num = i at *
  generalize Vl.nameC s = nm at *
  clear hbA hx0 hx1 hsA hA hX hdef
  go_enter Tryd.func44, Tryd.ntmps44
  go_wp2_with fail
  refine (hc1.out _ HbA.out).mono ?_
  rintro e w1 ⟨rfl, hb1⟩
  have hB1 := HbA.out.trans (hb1.mono HbA.out.size)
  have HB1 := Lib.hid hB1
  have hx0 := (hb1.block w.heap.size (by rw [HsA.out]; omega)).trans HX0.out
  have hx1 := (hb1.block (w.heap.size + 1) (by rw [HsA.out]; omega)).trans HX1.out
  have hs1 : w.heap.size + 2 ≤ w1.heap.size := by have := hb1.size; rwa [HsA.out] at this
  have HX0' := Lib.hid hx0
  have HX1' := Lib.hid hx1
  clear hb1 HX0 HX1 hB1 hx0 hx1 hc1
  cases g1 with
  | false =>
    obtain rfl : r = 2 := Hdef.out
    go_wp2_with fail
    go_ret
    exact ⟨rfl, HB1.out⟩
  | true =>
    obtain ⟨r0, r1, r2, r3, r4⟩ := Vl.five_of HX1'.out
    go_wp2_with fail
    refine (hc2.out _ HB1.out).mono ?_
    rintro e w2 ⟨rfl, hb2⟩
    have HB2 := Lib.hid (HB1.out.trans (hb2.mono HB1.out.size))
    have hx0 := (hb2.block w.heap.size (by omega)).trans HX0'.out
    clear hb2 r0 r1 r2 r3 r4
    cases g2 with
    | false =>
      obtain rfl : r = 2 := Hdef.out
      clear hx0
      go_wp2_with fail
      go_ret
      exact ⟨rfl, HB2.out⟩
    | true =>
      obtain ⟨m0, m1, m2, m3, m4⟩ := Vl.five_of hx0
      clear hx0 HX0' HX1'
      by_cases hk : k = 5
      · subst hk
        obtain rfl : r = nm := Hdef.out
        go_wp2_with fail
        refine (Hn.out _).mono ?_
        rintro e w3 ⟨rfl, rfl⟩
        go_wp2_with fail
        go_ret
        exact ⟨rfl, HB2.out⟩
      · obtain rfl : r = 2 := by have := Hdef.out; simpa [hk] using this
        have hne : ((k : Int) != 5) = true := by rw [bne_iff_ne]; omega
        go_wp2_with fail
        go_ret
        exact ⟨rfl, HB2.out⟩
/-- What is put in, read off blocks of the call's own. -/
theorem Vl.WPost.off {d B : Nat} {k0 : Nat} {t : ByteArray} {n : Int} {is : List Vl.V} {ns : List ByteArray} {W : World} {vi vn : Value} (h : Vl.Rows2 d B W vi vn is ns) (hk : k0 ≤ 255) (ht : t.size ≤ 140737488351232) (hn : Wp.I64 n) (hi : is.length ≤ 140737488351232) (hnl : ns.length ≤ 140737488351232) (hs : ∀ s ∈ ns, s.size ≤ 140737488351232) :
    ∃ pi ci pn cn, vi = .slice pi is.length ci ∧ vn = .slice pn ns.length cn ∧ ∀ W' : World, (∀ j, B ≤ j → j < W.heap.size → W'.heap[j]? = W.heap[j]?) → Vl.At (d + 1) W' (.agg #[.int .u8 (k0 : Nat), .string t, .int .i64 n, .slice pi is.length ci, .slice pn ns.length cn]) (.mk k0 t n is ns) := by
  obtain ⟨pi, ci, pn, cn, e1, e2, hoff⟩ := h.off
  exact ⟨pi, ci, pn, cn, e1, e2, fun W' hW => ⟨pi, ci, pn, cn, rfl, ⟨hk, ht, hn, hi, hnl, hs⟩, (hoff W' hW).2, (hoff W' hW).1⟩⟩
/-- What is read off blocks of the call's own, but for three. -/
def Vl.PH (d B b9 : Nat) (W : World) (p q : Option Nat) (u : Value) (y : Vl.V) : Prop := ∀ W' : World, (∀ j, B ≤ j → j < W.heap.size → j ≠ b9 → some j ≠ p → some j ≠ q → W'.heap[j]? = W.heap[j]?) → Vl.At d W' u y
theorem with_call {d B Bx b9 k0 : Nat} {t : ByteArray} {n : Int} {wA wC Wc : World} {vi vn u : Value} {is : List Vl.V} {ns : List ByteArray} {s : ByteArray} {x : Vl.V} (hRA : Vl.Rows2 d B wA vi vn is ns) (hAC : Below wA.heap.size wA wC) (hCc : Below wC.heap.size wC Wc) (hoC : Vl.Off d Bx wC none u x)
    (hp : wA.heap.size ≤ Bx) (hB : B ≤ wA.heap.size) (h9 : b9 < B ∨ wA.heap.size ≤ b9) (h9x : b9 < Bx ∨ wC.heap.size ≤ b9) (hlen : ns.length = is.length) (hle : is.length ≤ 256) (hr : Vl.rise ⟨#[]⟩ ns = true) :
    Calls Tryd.prog 45 #[.agg #[.int .u8 (k0 : Nat), .string t, .int .i64 n, vi, vn], .string s, u] Wc (Vl.WPost (Vl.PH d B b9 wC vi.ownBlock vn.ownBlock) B k0 t n (Vl.insIs ns is s x) (Vl.insNs ns s) vi.ownBlock vn.ownBlock Wc) := by
  have hl := hRA.lt
  obtain ⟨⟨cs, hO, hc⟩, hN⟩ := hRA
  have hAc := hAC.trans (hCc.mono hAC.size)
  refine with_any _ B k0 t n vi vn is ns s ⟨#[]⟩ x u cs Wc (ownsRow_below hO hAc) (ownsRow_below hN hAc) (fun i y hy => ?_) (fun u y h => ⟨d, wC, h wC (fun _ _ _ _ _ _ => rfl)⟩) (Nat.le_trans hB hAc.size) ?_ hlen hle hr
  · obtain ⟨c0, c1, c2, c3, c4, h5, hoff⟩ := hc i y hy
    refine ⟨c0, c1, c2, c3, c4, h5, fun W' hW => hoff W' (fun j h1 h2 h3 h4 => (hW j h1 (Nat.lt_of_lt_of_le h2 hAC.size) (by omega) h3 h4).trans (hAC.block j h2))⟩
  · exact fun W' hW => hoC W' (fun j h1 h2 _ => hW j (by omega) h2 (by omega) (fun e => by have := (hl.1 j e.symm).2; omega) (fun e => by have := (hl.2 j e.symm).2; omega))
/-- What was put in reads as it is to. -/
theorem Vl.withFin {d B b9 k0 : Nat} {t : ByteArray} {n : Int} {wC wD W9 : World} {p q : Option Nat} {pi pn : Option Addr} {ci cn : Nat} {is : List Vl.V} {ns : List ByteArray} {cs : List Value} (hI : wD.ownsRow B 26 5 (.slice pi is.length ci) is.length cs) (hN : wD.ownsRow B 9 1 (.slice pn ns.length cn) ns.length (ns.map Wp.mkT))
    (hc : ∀ i y, is[i]? = some y → ∃ c0 c1 c2 c3 c4, Vl.Has5 cs (i * 5) c0 c1 c2 c3 c4 ∧ Vl.PH d B b9 wC p q (.agg #[c0, c1, c2, c3, c4]) y) (hk : ∀ j, j < wC.heap.size → some j ≠ p → some j ≠ q → wD.heap[j]? = wC.heap[j]?) (hs : wC.heap.size ≤ wD.heap.size)
    (h9 : ∀ j, j < wD.heap.size → j ≠ b9 → W9.heap[j]? = wD.heap[j]?) (hs9 : wD.heap.size ≤ W9.heap.size) (hp9 : ∀ j, pi.map (·.block) = some j → j ≠ b9) (hn9 : ∀ j, pn.map (·.block) = some j → j ≠ b9)
    (hkd : k0 ≤ 255) (ht : t.size ≤ 140737488351232) (hn : Wp.I64 n) (hi : is.length ≤ 140737488351232) (hnl : ns.length ≤ 140737488351232) (hsm : ∀ s ∈ ns, s.size ≤ 140737488351232) :
    ∀ W2 : World, (∀ j, B ≤ j → j < W9.heap.size → j ≠ b9 → W2.heap[j]? = W9.heap[j]?) → Vl.At (d + 1) W2 (.agg #[.int .u8 (k0 : Nat), .string t, .int .i64 n, .slice pi is.length ci, .slice pn ns.length cn]) (.mk k0 t n is ns) := fun W2 hW => by
  refine ⟨pi, ci, pn, cn, rfl, ⟨hkd, ht, hn, hi, hnl, hsm⟩, ?_, ?_⟩
  · rcases hN.2 with ⟨e, h0⟩ | ⟨g, cap, cur, e, hg, hcell, _, _, _, ht'⟩
    · exact Or.inl (List.length_eq_zero_iff.1 h0)
    · cases e
      refine Or.inr ⟨g, 0, rfl, fun i hi => ?_⟩
      change i < ns.length at hi
      show W2.cell? _ = some (Wp.mkT ns[i])
      have hgl := (Array.getElem?_eq_some_iff.1 hcell).1
      have hg9 : g ≠ b9 := hn9 g rfl
      have hb : W2.heap[g]? = wD.heap[g]? := (hW g hg (by omega) hg9).trans (h9 g hgl hg9)
      rw [Nat.zero_add, Lib.cell_of_heap (hb.trans hcell), ← Array.getElem?_toList]
      have h2 : (cur.toList.take (ns.length * 1))[i]? = (ns.map Wp.mkT)[i]? := by rw [ht']
      rw [List.getElem?_take_of_lt (by omega), List.getElem?_map, List.getElem?_eq_getElem hi] at h2
      exact h2
  · rcases hI.2 with ⟨e, h0⟩ | ⟨g, cap, cur, e, hg, hcell, _, _, _, ht'⟩
    · exact Or.inl (List.length_eq_zero_iff.1 h0)
    · cases e
      refine Or.inr ⟨g, 0, rfl, fun i hi => ?_⟩
      change i < is.length at hi
      have hgl := (Array.getElem?_eq_some_iff.1 hcell).1
      have hg9 : g ≠ b9 := hp9 g rfl
      have hb : W2.heap[g]? = wD.heap[g]? := (hW g hg (by omega) hg9).trans (h9 g hgl hg9)
      obtain ⟨c0, c1, c2, c3, c4, ⟨e0, e1, e2, e3, e4⟩, hoff⟩ := hc i is[i] (List.getElem?_eq_getElem hi)
      have key : ∀ j q, cs[j]? = some q → W2.cell? ⟨g, 0 + j, none⟩ = some q := fun j q hq => by
        rw [Nat.zero_add, Lib.cell_of_heap (hb.trans hcell), ← Array.getElem?_toList]
        rw [← ht'] at hq
        obtain ⟨hjl, _⟩ := List.getElem?_eq_some_iff.1 hq
        rw [List.length_take] at hjl
        rwa [List.getElem?_take_of_lt (by omega)] at hq
      exact ⟨c0, c1, c2, c3, c4, ⟨key _ _ e0, key _ _ e1, key _ _ e2, key _ _ e3, key _ _ e4⟩, hoff W2 (fun j h1 h2 h3 h4 h5 => (hW j h1 (by omega) h3).trans ((h9 j (by omega) h3).trans (hk j h2 h4 h5)))⟩
/-- What With hands back. -/
def Vl.TPost (d : Nat) (T : Vl.V × Int) (w : World) (e : Ending) (w' : World) : Prop := ∃ u, e = .returned (.tuple #[u, .int .i64 T.2]) ∧ Vl.At (d + 1) w' u T.1 ∧ Below w.heap.size w w'
theorem Vl.withR_bad {v x : Vl.V} {s : ByteArray} (h : Vl.chkW v s x ≠ 0) : Vl.withR v s x = (Vl.zero, Vl.chkW v s x) := by
  unfold Vl.chkW at h ⊢
  unfold Vl.withR
  cases hg : Vl.good v with
  | false => rfl
  | true =>
    cases hx : Vl.good x with
    | false => rfl
    | true =>
      by_cases hk : v.kind = 5
      · simp only [hg, hx, hk, if_true] at h ⊢
        unfold Vl.nameC at h ⊢
        cases hn : Vl.named s with
        | false => rfl
        | true => rw [hn] at h; exact absurd rfl h
      · simp [hk]
theorem Vl.chkW_ok {v x : Vl.V} {s : ByteArray} (h : Vl.chkW v s x = 0) : Vl.good v = true ∧ Vl.good x = true ∧ v.kind = 5 ∧ Vl.named s = true := by
  unfold Vl.chkW Vl.nameC at h
  split at h
  · split at h
    · split at h
      · split at h
        · exact ⟨by assumption, by assumption, by assumption, by assumption⟩
        · omega
      · omega
    · omega
  · omega
theorem Vl.withR_ok {v x : Vl.V} {s : ByteArray} (h : Vl.chkW v s x = 0) : Vl.withR v s x = if Vl.good (Vl.withV v s x) then (Vl.withV v s x, 0) else (Vl.zero, 11) := by
  obtain ⟨h1, h2, h3, h4⟩ := Vl.chkW_ok h
  unfold Vl.withR
  rw [h1, h2, h4, h3]
  cases Vl.good (Vl.withV v s x) <;> rfl
theorem Vl.insNs_len {ns : List ByteArray} {s : ByteArray} (h : ns.length ≤ 256) (hs : s.size ≤ 140737488351232) (hn : ∀ x ∈ ns, x.size ≤ 140737488351232) : (Vl.insNs ns s).length ≤ 140737488351232 ∧ ∀ x ∈ Vl.insNs ns s, x.size ≤ 140737488351232 := by
  unfold Vl.insNs
  split
  · exact ⟨by omega, hn⟩
  · refine ⟨by simp; omega, fun x hx => ?_⟩
    rcases List.mem_append.1 hx with h1 | h1
    · exact hn x (List.mem_of_mem_take h1)
    · rcases List.mem_cons.1 h1 with rfl | h1
      · exact hs
      · exact hn x (List.mem_of_mem_drop h1)
theorem Vl.insIs_len {ns : List ByteArray} {is : List Vl.V} {s : ByteArray} {x : Vl.V} (h : is.length ≤ 256) : (Vl.insIs ns is s x).length ≤ 140737488351232 := by
  unfold Vl.insIs
  split
  · rw [List.length_set]; omega
  · simp; omega
set_option maxRecDepth 100000 in
set_option maxHeartbeats 1000000 in
theorem vlWith_any (d : Nat) (v x : Vl.V) (a b : Value) (s : ByteArray) (w : World) (hs : s.size ≤ 140737488351232) (hA : Vl.At (d + 1) w a v) (hX : Vl.At d w b x) :
    Calls Tryd.prog 24 #[a, .string s, b] w (Vl.TPost d (Vl.withR v s x) w) := by
  have hck := Lib.hid (fun W (h : Below w.heap.size w W) => checkWith_any (d + 1) v x a b s W hs (hA.below h) (hX.succ.below h))
  have HcV := Lib.hid (fun (hg : Vl.good v = true) W (h : Below w.heap.size w W) => copiedR_any d v a W (hA.below h) (Vl.few_of _ _ (Vl.Okay.of hg).1 (Vl.Okay.of hg).2))
  have HcX := Lib.hid (fun (hg : Vl.good x = true) W (h : Below w.heap.size w W) => copied_any d x b W (hX.below h) (Vl.few_of _ _ (Vl.Okay.of hg).1 (Vl.Okay.of hg).2))
  have HcT := Lib.hid (fun W => vlClone_any s W (by omega))
  obtain ⟨pi, ci, pn, cn, rfl, ⟨q1, q2, q3, q4, q5, q6⟩, -, -⟩ := hA
  obtain ⟨k5, t5, i5, pi5, ni5, ci5, pn5, nn5, cn5, rfl⟩ := hX.shape
  have hb0 : Below w.heap.size w (((w.alloc (.cells #[.int .u8 (v.kind : Nat), .string v.text, .int .i64 v.num, .slice pi v.items.length ci, .slice pn v.names.length cn] 26)).alloc (.cells #[.int .u8 k5, .string t5, .int .i64 i5, .slice pi5 ni5 ci5, .slice pn5 nn5 cn5] 26)).alloc (.cells #[.int .u8 0, .string ⟨#[]⟩, .int .i64 0, .slice none 0 0, .slice none 0 0] 26)) := (((Below.refl w.heap.size w).alloc (Nat.le_refl _) _).alloc (by simp) _).alloc (by simp; omega) _
  have hs0 : (((w.alloc (.cells #[.int .u8 (v.kind : Nat), .string v.text, .int .i64 v.num, .slice pi v.items.length ci, .slice pn v.names.length cn] 26)).alloc (.cells #[.int .u8 k5, .string t5, .int .i64 i5, .slice pi5 ni5 ci5, .slice pn5 nn5 cn5] 26)).alloc (.cells #[.int .u8 0, .string ⟨#[]⟩, .int .i64 0, .slice none 0 0, .slice none 0 0] 26)).heap.size = w.heap.size + 3 := by simp
  have hx0 : (((w.alloc (.cells #[.int .u8 (v.kind : Nat), .string v.text, .int .i64 v.num, .slice pi v.items.length ci, .slice pn v.names.length cn] 26)).alloc (.cells #[.int .u8 k5, .string t5, .int .i64 i5, .slice pi5 ni5 ci5, .slice pn5 nn5 cn5] 26)).alloc (.cells #[.int .u8 0, .string ⟨#[]⟩, .int .i64 0, .slice none 0 0, .slice none 0 0] 26)).heap[w.heap.size]? = some (.cells #[.int .u8 (v.kind : Nat), .string v.text, .int .i64 v.num, .slice pi v.items.length ci, .slice pn v.names.length cn] 26 (0, 0)) := by rw [Vl.past _ _ _ (by simp; omega), Vl.past _ _ _ (by simp)]; exact Vl.new _ _
  have hx1 : (((w.alloc (.cells #[.int .u8 (v.kind : Nat), .string v.text, .int .i64 v.num, .slice pi v.items.length ci, .slice pn v.names.length cn] 26)).alloc (.cells #[.int .u8 k5, .string t5, .int .i64 i5, .slice pi5 ni5 ci5, .slice pn5 nn5 cn5] 26)).alloc (.cells #[.int .u8 0, .string ⟨#[]⟩, .int .i64 0, .slice none 0 0, .slice none 0 0] 26)).heap[w.heap.size + 1]? = some (.cells #[.int .u8 k5, .string t5, .int .i64 i5, .slice pi5 ni5 ci5, .slice pn5 nn5 cn5] 26 (0, 0)) := by rw [Vl.past _ _ _ (by simp)]; exact Vl.newAt _ _ _ (by simp)
  have hx2 : (((w.alloc (.cells #[.int .u8 (v.kind : Nat), .string v.text, .int .i64 v.num, .slice pi v.items.length ci, .slice pn v.names.length cn] 26)).alloc (.cells #[.int .u8 k5, .string t5, .int .i64 i5, .slice pi5 ni5 ci5, .slice pn5 nn5 cn5] 26)).alloc (.cells #[.int .u8 0, .string ⟨#[]⟩, .int .i64 0, .slice none 0 0, .slice none 0 0] 26)).heap[w.heap.size + 2]? = some (.cells #[.int .u8 0, .string ⟨#[]⟩, .int .i64 0, .slice none 0 0, .slice none 0 0] 26 (0, 0)) := Vl.newAt _ _ _ (by simp)
  have Hb0 := Lib.hid hb0
  have Hs0 := Lib.hid hs0
  have HX0 := Lib.hid hx0
  have HX1 := Lib.hid hx1
  have HX2 := Lib.hid hx2
  have Hbad := Lib.hid (fun (h : Vl.chkW v s x ≠ 0) => Vl.withR_bad h)
  have Hok := Lib.hid (fun (h : Vl.chkW v s x = 0) => Vl.withR_ok h)
  have Hgd := Lib.hid (fun (h : Vl.chkW v s x = 0) => (⟨(Vl.chkW_ok h).1, (Vl.chkW_ok h).2.1⟩ : Vl.good v = true ∧ Vl.good x = true))
  have Hfacts := Lib.hid (fun (h : Vl.chkW v s x = 0) => (⟨(Vl.goodMap (Vl.chkW_ok h).1 (Vl.chkW_ok h).2.2.1).1, (Vl.goodMap (Vl.chkW_ok h).1 (Vl.chkW_ok h).2.2.1).2.1, (by have hc := (Vl.Okay.of (Vl.chkW_ok h).1).2; have hcl := Vl.cntL_len v.items; rw [Vl.V.cnt_eq] at hc; omega)⟩ : Vl.rise ⟨#[]⟩ v.names = true ∧ v.names.length = v.items.length ∧ v.items.length ≤ 256))
  have HxV := Lib.hid (Vl.withV_eq v s x)
  have Q6 := Lib.hid q6
  clear hb0 hs0 hx0 hx1 hx2 hX q6
  generalize Vl.withR v s x = T at *
  generalize Vl.withV v s x = xV at *
  generalize Vl.chkW v s x = c at *
  generalize v.kind = k at *
  generalize v.text = t at *
  generalize v.num = i at *
  go_enter Tryd.func24, Tryd.ntmps24
  go_wp2_with fail
  refine (hck.out _ Hb0.out).mono ?_
  rintro e w1 ⟨rfl, hb1⟩
  have hs1 : w.heap.size + 3 ≤ w1.heap.size := by have := hb1.size; rwa [Hs0.out] at this
  have HB1 := Lib.hid (Hb0.out.trans (hb1.mono (by rw [Hs0.out]; omega)))
  have hx0 := (hb1.block w.heap.size (by rw [Hs0.out]; omega)).trans HX0.out
  have hx1 := (hb1.block (w.heap.size + 1) (by rw [Hs0.out]; omega)).trans HX1.out
  have hx2 := (hb1.block (w.heap.size + 2) (by rw [Hs0.out]; omega)).trans HX2.out
  have HR1 := Lib.hid hx2
  clear hb1 Hb0 HX0 HX1 HX2 Hs0 hck
  by_cases hc : c = 0
  · subst hc
    have HT := Lib.hid (Hok.out rfl)
    obtain ⟨g1, g2⟩ := Hgd.out rfl
    obtain ⟨m0, m1, m2, m3, m4⟩ := Vl.five_of hx0
    obtain ⟨r0, r1, r2, r3, r4⟩ := Vl.five_of hx1
    have HKp : Hid (∀ w' : World, Below w1.heap.size w1 w' → (fun w' => w'.cell? ⟨w.heap.size, 0, none⟩ = some (.int .u8 (k : Nat)) ∧ w'.cell? ⟨w.heap.size, 1, none⟩ = some (.string t) ∧ w'.cell? ⟨w.heap.size, 2, none⟩ = some (.int .i64 i) ∧ w'.cell? ⟨w.heap.size, 3, none⟩ = some (.slice pi v.items.length ci) ∧ w'.cell? ⟨w.heap.size, 4, none⟩ = some (.slice pn v.names.length cn) ∧ w'.cell? ⟨w.heap.size + 1, 0, none⟩ = some (.int .u8 k5) ∧ w'.cell? ⟨w.heap.size + 1, 1, none⟩ = some (.string t5) ∧ w'.cell? ⟨w.heap.size + 1, 2, none⟩ = some (.int .i64 i5) ∧ w'.cell? ⟨w.heap.size + 1, 3, none⟩ = some (.slice pi5 ni5 ci5) ∧ w'.cell? ⟨w.heap.size + 1, 4, none⟩ = some (.slice pn5 nn5 cn5)) w') := Lib.hid (fun w' h => ⟨(h.cell (p := ⟨w.heap.size, 0, none⟩) (by show w.heap.size < _; omega)).trans m0, (h.cell (p := ⟨w.heap.size, 1, none⟩) (by show w.heap.size < _; omega)).trans m1, (h.cell (p := ⟨w.heap.size, 2, none⟩) (by show w.heap.size < _; omega)).trans m2, (h.cell (p := ⟨w.heap.size, 3, none⟩) (by show w.heap.size < _; omega)).trans m3, (h.cell (p := ⟨w.heap.size, 4, none⟩) (by show w.heap.size < _; omega)).trans m4, (h.cell (p := ⟨w.heap.size + 1, 0, none⟩) (by show w.heap.size + 1 < _; omega)).trans r0, (h.cell (p := ⟨w.heap.size + 1, 1, none⟩) (by show w.heap.size + 1 < _; omega)).trans r1, (h.cell (p := ⟨w.heap.size + 1, 2, none⟩) (by show w.heap.size + 1 < _; omega)).trans r2, (h.cell (p := ⟨w.heap.size + 1, 3, none⟩) (by show w.heap.size + 1 < _; omega)).trans r3, (h.cell (p := ⟨w.heap.size + 1, 4, none⟩) (by show w.heap.size + 1 < _; omega)).trans r4⟩)
    have HKq : Hid (∀ (w' : World) (q : Nat) (a b c d e : Value), Below w1.heap.size w1 w' → w.heap.size + 2 ≤ q → (fun w' => w'.cell? ⟨w.heap.size, 0, none⟩ = some (.int .u8 (k : Nat)) ∧ w'.cell? ⟨w.heap.size, 1, none⟩ = some (.string t) ∧ w'.cell? ⟨w.heap.size, 2, none⟩ = some (.int .i64 i) ∧ w'.cell? ⟨w.heap.size, 3, none⟩ = some (.slice pi v.items.length ci) ∧ w'.cell? ⟨w.heap.size, 4, none⟩ = some (.slice pn v.names.length cn) ∧ w'.cell? ⟨w.heap.size + 1, 0, none⟩ = some (.int .u8 k5) ∧ w'.cell? ⟨w.heap.size + 1, 1, none⟩ = some (.string t5) ∧ w'.cell? ⟨w.heap.size + 1, 2, none⟩ = some (.int .i64 i5) ∧ w'.cell? ⟨w.heap.size + 1, 3, none⟩ = some (.slice pi5 ni5 ci5) ∧ w'.cell? ⟨w.heap.size + 1, 4, none⟩ = some (.slice pn5 nn5 cn5)) (((((w'.setCell ⟨q, 0, none⟩ a).setCell ⟨q, 1, none⟩ b).setCell ⟨q, 2, none⟩ c).setCell ⟨q, 3, none⟩ d).setCell ⟨q, 4, none⟩ e)) := Lib.hid (fun w' q a b c d e h hq => by
      obtain ⟨o0, o1, o2, o3, o4, o5, o6, o7, o8, o9⟩ := HKp.out w' h
      exact ⟨(World.cell?_of_block (a := ⟨w.heap.size, 0, none⟩) (Vl.set5_rest w' q a b c d e (w.heap.size) (by omega))).trans o0, (World.cell?_of_block (a := ⟨w.heap.size, 1, none⟩) (Vl.set5_rest w' q a b c d e (w.heap.size) (by omega))).trans o1, (World.cell?_of_block (a := ⟨w.heap.size, 2, none⟩) (Vl.set5_rest w' q a b c d e (w.heap.size) (by omega))).trans o2, (World.cell?_of_block (a := ⟨w.heap.size, 3, none⟩) (Vl.set5_rest w' q a b c d e (w.heap.size) (by omega))).trans o3, (World.cell?_of_block (a := ⟨w.heap.size, 4, none⟩) (Vl.set5_rest w' q a b c d e (w.heap.size) (by omega))).trans o4, (World.cell?_of_block (a := ⟨w.heap.size + 1, 0, none⟩) (Vl.set5_rest w' q a b c d e (w.heap.size + 1) (by omega))).trans o5, (World.cell?_of_block (a := ⟨w.heap.size + 1, 1, none⟩) (Vl.set5_rest w' q a b c d e (w.heap.size + 1) (by omega))).trans o6, (World.cell?_of_block (a := ⟨w.heap.size + 1, 2, none⟩) (Vl.set5_rest w' q a b c d e (w.heap.size + 1) (by omega))).trans o7, (World.cell?_of_block (a := ⟨w.heap.size + 1, 3, none⟩) (Vl.set5_rest w' q a b c d e (w.heap.size + 1) (by omega))).trans o8, (World.cell?_of_block (a := ⟨w.heap.size + 1, 4, none⟩) (Vl.set5_rest w' q a b c d e (w.heap.size + 1) (by omega))).trans o9⟩)
    have HV1 := Lib.hid (fun W (h : Below w1.heap.size w1 W) => HcV.out g1 W (HB1.out.trans (h.mono (by omega))))
    have HX1 := Lib.hid (fun W (h : Below w1.heap.size w1 W) => HcX.out g2 W (HB1.out.trans (h.mono (by omega))))
    have HF := Lib.hid (Hfacts.out rfl)
    clear hx0 hx1 hx2 Hbad Hok Hgd HcV HcX Hfacts g1 g2
    go_wp2_with fail
    have nc0 : ∀ W : World, (W.alloc (.cells #[.int .u8 0, .string ⟨#[]⟩, .int .i64 0, .slice none 0 0, .slice none 0 0] 26)).cell? ⟨W.heap.size, 0, none⟩ = some (.int .u8 0) := fun W => (Vl.five_of (Vl.new W (.cells #[.int .u8 0, .string ⟨#[]⟩, .int .i64 0, .slice none 0 0, .slice none 0 0] 26))).1
    have nf0 : ∀ W : World, (W.alloc (.cells #[.int .u8 0, .string ⟨#[]⟩, .int .i64 0, .slice none 0 0, .slice none 0 0] 26)).frozen? ⟨W.heap.size, 0, none⟩ = false := fun W => (Vl.fiveF_of (Vl.new W (.cells #[.int .u8 0, .string ⟨#[]⟩, .int .i64 0, .slice none 0 0, .slice none 0 0] 26))).1
    have nc1 : ∀ W : World, (W.alloc (.cells #[.int .u8 0, .string ⟨#[]⟩, .int .i64 0, .slice none 0 0, .slice none 0 0] 26)).cell? ⟨W.heap.size, 1, none⟩ = some (.string ⟨#[]⟩) := fun W => (Vl.five_of (Vl.new W (.cells #[.int .u8 0, .string ⟨#[]⟩, .int .i64 0, .slice none 0 0, .slice none 0 0] 26))).2.1
    have nf1 : ∀ W : World, (W.alloc (.cells #[.int .u8 0, .string ⟨#[]⟩, .int .i64 0, .slice none 0 0, .slice none 0 0] 26)).frozen? ⟨W.heap.size, 1, none⟩ = false := fun W => (Vl.fiveF_of (Vl.new W (.cells #[.int .u8 0, .string ⟨#[]⟩, .int .i64 0, .slice none 0 0, .slice none 0 0] 26))).2.1
    have nc2 : ∀ W : World, (W.alloc (.cells #[.int .u8 0, .string ⟨#[]⟩, .int .i64 0, .slice none 0 0, .slice none 0 0] 26)).cell? ⟨W.heap.size, 2, none⟩ = some (.int .i64 0) := fun W => (Vl.five_of (Vl.new W (.cells #[.int .u8 0, .string ⟨#[]⟩, .int .i64 0, .slice none 0 0, .slice none 0 0] 26))).2.2.1
    have nf2 : ∀ W : World, (W.alloc (.cells #[.int .u8 0, .string ⟨#[]⟩, .int .i64 0, .slice none 0 0, .slice none 0 0] 26)).frozen? ⟨W.heap.size, 2, none⟩ = false := fun W => (Vl.fiveF_of (Vl.new W (.cells #[.int .u8 0, .string ⟨#[]⟩, .int .i64 0, .slice none 0 0, .slice none 0 0] 26))).2.2.1
    have nc3 : ∀ W : World, (W.alloc (.cells #[.int .u8 0, .string ⟨#[]⟩, .int .i64 0, .slice none 0 0, .slice none 0 0] 26)).cell? ⟨W.heap.size, 3, none⟩ = some (.slice none 0 0) := fun W => (Vl.five_of (Vl.new W (.cells #[.int .u8 0, .string ⟨#[]⟩, .int .i64 0, .slice none 0 0, .slice none 0 0] 26))).2.2.2.1
    have nf3 : ∀ W : World, (W.alloc (.cells #[.int .u8 0, .string ⟨#[]⟩, .int .i64 0, .slice none 0 0, .slice none 0 0] 26)).frozen? ⟨W.heap.size, 3, none⟩ = false := fun W => (Vl.fiveF_of (Vl.new W (.cells #[.int .u8 0, .string ⟨#[]⟩, .int .i64 0, .slice none 0 0, .slice none 0 0] 26))).2.2.2.1
    have nc4 : ∀ W : World, (W.alloc (.cells #[.int .u8 0, .string ⟨#[]⟩, .int .i64 0, .slice none 0 0, .slice none 0 0] 26)).cell? ⟨W.heap.size, 4, none⟩ = some (.slice none 0 0) := fun W => (Vl.five_of (Vl.new W (.cells #[.int .u8 0, .string ⟨#[]⟩, .int .i64 0, .slice none 0 0, .slice none 0 0] 26))).2.2.2.2
    have nf4 : ∀ W : World, (W.alloc (.cells #[.int .u8 0, .string ⟨#[]⟩, .int .i64 0, .slice none 0 0, .slice none 0 0] 26)).frozen? ⟨W.heap.size, 4, none⟩ = false := fun W => (Vl.fiveF_of (Vl.new W (.cells #[.int .u8 0, .string ⟨#[]⟩, .int .i64 0, .slice none 0 0, .slice none 0 0] 26))).2.2.2.2
    go_region_held3 (fun w' => w'.cell? ⟨w.heap.size, 0, none⟩ = some (.int .u8 (k : Nat)) ∧ w'.cell? ⟨w.heap.size, 1, none⟩ = some (.string t) ∧ w'.cell? ⟨w.heap.size, 2, none⟩ = some (.int .i64 i) ∧ w'.cell? ⟨w.heap.size, 3, none⟩ = some (.slice pi v.items.length ci) ∧ w'.cell? ⟨w.heap.size, 4, none⟩ = some (.slice pn v.names.length cn) ∧ w'.cell? ⟨w.heap.size + 1, 0, none⟩ = some (.int .u8 k5) ∧ w'.cell? ⟨w.heap.size + 1, 1, none⟩ = some (.string t5) ∧ w'.cell? ⟨w.heap.size + 1, 2, none⟩ = some (.int .i64 i5) ∧ w'.cell? ⟨w.heap.size + 1, 3, none⟩ = some (.slice pi5 ni5 ci5) ∧ w'.cell? ⟨w.heap.size + 1, 4, none⟩ = some (.slice pn5 nn5 cn5))
      (first | (with_reducible exact HKp.out _ eD) | (with_reducible exact HKq.out _ _ _ _ _ _ _ eD hq9) | (with_reducible exact HKp.out _ (eD.alloc eD.size _)) | (with_reducible exact HKp.out _ eC) | (with_reducible exact HKp.out _ (eC.alloc eC.size _)) | (with_reducible exact HKp.out _ eB) | (with_reducible exact HKp.out _ (eB.alloc eB.size _)) | (with_reducible exact HKp.out _ eA) | (with_reducible exact HKp.out _ (eA.alloc eA.size _)) | (with_reducible exact HKp.out _ ((Below.refl _ w1).drew.alloc (Nat.le_refl _) _)) | (go_keep; done))
      (first
        | (go_at_call 27; (with_reducible refine (HV1.out _ (Below.refl _ w1).drew).mono ?_); rintro e wA ⟨vi', vn', rfl, hRA, hbA, hzA⟩; obtain ⟨pi', ci', pn', cn', rfl, rfl, -⟩ := hRA.off; have hl := hRA.lt; have eA : Below w1.heap.size w1 wA := ((Below.refl _ w1).drew.trans hbA))
        | (go_at_call 27; (with_reducible refine (HV1.out _ (((Below.refl _ w1).alloc (Nat.le_refl _) (.cells #[.int .u8 0, .string ⟨#[]⟩, .int .i64 0, .slice none 0 0, .slice none 0 0] 26)).drew)).mono ?_); rintro e wA ⟨vi', vn', rfl, hRA, hbA, hzA⟩; obtain ⟨pi', ci', pn', cn', rfl, rfl, -⟩ := hRA.off; have hl := hRA.lt; have eA : Below w1.heap.size w1 wA := (((Below.refl _ w1).alloc (Nat.le_refl _) (.cells #[.int .u8 0, .string ⟨#[]⟩, .int .i64 0, .slice none 0 0, .slice none 0 0] 26)).drew.trans (hbA.mono (by show w1.heap.size ≤ (w1.alloc (.cells #[.int .u8 0, .string ⟨#[]⟩, .int .i64 0, .slice none 0 0, .slice none 0 0] 26)).heap.size; rw [World.size_alloc]; omega))); have hsQ : (w1.alloc (.cells #[.int .u8 0, .string ⟨#[]⟩, .int .i64 0, .slice none 0 0, .slice none 0 0] 26)).drew.heap.size = w1.heap.size + 1 := World.size_alloc _ _; have hx9 : wA.heap[w1.heap.size]? = some (.cells #[.int .u8 0, .string ⟨#[]⟩, .int .i64 0, .slice none 0 0, .slice none 0 0] 26 (0, 0)) := (hbA.block _ (by rw [hsQ]; omega)).trans (Vl.new w1 (.cells #[.int .u8 0, .string ⟨#[]⟩, .int .i64 0, .slice none 0 0, .slice none 0 0] 26)); have hAlt1 : w1.heap.size < wA.heap.size := (Array.getElem?_eq_some_iff.1 hx9).1)
        | (go_at_call 29; (with_reducible refine (HcT.out wA).mono ?_); rintro e wB ⟨rfl, hbB⟩; have eB : Below w1.heap.size w1 wB := eA.trans (hbB.mono eA.size); have eAB : Below wA.heap.size wA wB := hbB; try (replace hx9 := (eAB.block _ (Array.getElem?_eq_some_iff.1 hx9).1).trans hx9))
        | (go_at_call 29; (with_reducible refine (HcT.out (wA.alloc (.cells #[.int .u8 0, .string ⟨#[]⟩, .int .i64 0, .slice none 0 0, .slice none 0 0] 26))).mono ?_); rintro e wB ⟨rfl, hbB⟩; have eAB : Below wA.heap.size wA wB := ((Below.refl _ wA).alloc (Nat.le_refl _) (.cells #[.int .u8 0, .string ⟨#[]⟩, .int .i64 0, .slice none 0 0, .slice none 0 0] 26)).trans (hbB.mono (by simp)); have eB : Below w1.heap.size w1 wB := eA.trans (eAB.mono eA.size); have hx9 : wB.heap[wA.heap.size]? = some (.cells #[.int .u8 0, .string ⟨#[]⟩, .int .i64 0, .slice none 0 0, .slice none 0 0] 26 (0, 0)) := (hbB.block _ (by simp)).trans (Vl.new wA (.cells #[.int .u8 0, .string ⟨#[]⟩, .int .i64 0, .slice none 0 0, .slice none 0 0] 26)); have hAlt : wA.heap.size < wB.heap.size := (Array.getElem?_eq_some_iff.1 hx9).1)
        | (go_at_call 27; (with_reducible refine (HX1.out wB eB).mono ?_); rintro e wC ⟨u', rfl, hoC, hbC⟩; obtain ⟨k6, t6, i6, pi6, ni6, ci6, pn6, nn6, cn6, rfl⟩ := hoC.at.shape; have eBC : Below wB.heap.size wB wC := hbC; have eC : Below w1.heap.size w1 wC := eB.trans (eBC.mono eB.size); have eAC : Below wA.heap.size wA wC := eAB.trans (eBC.mono eAB.size); have hBx := eAB.size; try (replace hx9 := (eBC.block _ (Array.getElem?_eq_some_iff.1 hx9).1).trans hx9))
        | (go_at_call 27; (with_reducible refine (HX1.out (wB.alloc (.cells #[.int .u8 0, .string ⟨#[]⟩, .int .i64 0, .slice none 0 0, .slice none 0 0] 26)) (eB.alloc eB.size (.cells #[.int .u8 0, .string ⟨#[]⟩, .int .i64 0, .slice none 0 0, .slice none 0 0] 26))).mono ?_); rintro e wC ⟨u', rfl, hoC, hbC⟩; obtain ⟨k6, t6, i6, pi6, ni6, ci6, pn6, nn6, cn6, rfl⟩ := hoC.at.shape; have eBC : Below wB.heap.size wB wC := ((Below.refl _ wB).alloc (Nat.le_refl _) (.cells #[.int .u8 0, .string ⟨#[]⟩, .int .i64 0, .slice none 0 0, .slice none 0 0] 26)).trans (hbC.mono (by simp)); have eC : Below w1.heap.size w1 wC := eB.trans (eBC.mono eB.size); have eAC : Below wA.heap.size wA wC := eAB.trans (eBC.mono eAB.size); have hsB : (wB.alloc (.cells #[.int .u8 0, .string ⟨#[]⟩, .int .i64 0, .slice none 0 0, .slice none 0 0] 26)).heap.size = wB.heap.size + 1 := World.size_alloc _ _; have hBx : wA.heap.size ≤ (wB.alloc (.cells #[.int .u8 0, .string ⟨#[]⟩, .int .i64 0, .slice none 0 0, .slice none 0 0] 26)).heap.size := (by have := eAB.size; omega); have hx9 : wC.heap[wB.heap.size]? = some (.cells #[.int .u8 0, .string ⟨#[]⟩, .int .i64 0, .slice none 0 0, .slice none 0 0] 26 (0, 0)) := (hbC.block _ (by simp)).trans (Vl.new wB (.cells #[.int .u8 0, .string ⟨#[]⟩, .int .i64 0, .slice none 0 0, .slice none 0 0] 26)))
        | (go_at_call 45; have hy9 : wC.heap[wB.heap.size]? = some (.cells #[.int .u8 0, .string ⟨#[]⟩, .int .i64 0, .slice none 0 0, .slice none 0 0] 26 (0, 0)) := (by with_reducible exact hx9); (with_reducible refine (with_call (b9 := wB.heap.size) hRA eAC (Below.refl _ wC) hoC hBx hzA (Or.inr eAB.size) (Or.inl (by omega)) HF.out.2.1 HF.out.2.2 HF.out.1).mono ?_); rintro e wD ⟨vi7, vn7, cs7, rfl, l1, l2, l3, l4, l5, l6, l7, l8⟩; obtain ⟨pi7, ci7, rfl⟩ := Vl.own_shape l1; obtain ⟨pn7, cn7, rfl⟩ := Vl.own_shape l2; have hzw : w1.drew.heap.size = w1.heap.size := rfl; have hsA := eA.size; have hsAB := eAB.size; have hsBC := eBC.size; have hsAC := eAC.size; have eD : Below w1.heap.size w1 wD := eC.trans (l8.mono (by omega)); have hx9D : wD.heap[wB.heap.size]? = some (.cells #[.int .u8 0, .string ⟨#[]⟩, .int .i64 0, .slice none 0 0, .slice none 0 0] 26 (0, 0)) := (l4 _ (Array.getElem?_eq_some_iff.1 hy9).1 (fun e => by have h1 := (hl.1 _ e.symm).1; have h2 := (hl.1 _ e.symm).2; omega) (fun e => by have h1 := (hl.2 _ e.symm).1; have h2 := (hl.2 _ e.symm).2; omega)).trans hy9; obtain ⟨y0, y1, y2, y3, y4⟩ := Vl.five_of hx9D; obtain ⟨z0, z1, z2, z3, z4⟩ := Vl.fiveF_of hx9D; have hq9 : w.heap.size + 2 ≤ wB.heap.size := (by omega))
        | (go_at_call 45; have hy9 : wC.heap[wA.heap.size]? = some (.cells #[.int .u8 0, .string ⟨#[]⟩, .int .i64 0, .slice none 0 0, .slice none 0 0] 26 (0, 0)) := (by with_reducible exact hx9); (with_reducible refine (with_call (b9 := wA.heap.size) hRA eAC (Below.refl _ wC) hoC hBx hzA (Or.inr (Nat.le_refl _)) (Or.inl hAlt) HF.out.2.1 HF.out.2.2 HF.out.1).mono ?_); rintro e wD ⟨vi7, vn7, cs7, rfl, l1, l2, l3, l4, l5, l6, l7, l8⟩; obtain ⟨pi7, ci7, rfl⟩ := Vl.own_shape l1; obtain ⟨pn7, cn7, rfl⟩ := Vl.own_shape l2; have hzw : w1.drew.heap.size = w1.heap.size := rfl; have hsA := eA.size; have hsAB := eAB.size; have hsBC := eBC.size; have hsAC := eAC.size; have eD : Below w1.heap.size w1 wD := eC.trans (l8.mono (by omega)); have hx9D : wD.heap[wA.heap.size]? = some (.cells #[.int .u8 0, .string ⟨#[]⟩, .int .i64 0, .slice none 0 0, .slice none 0 0] 26 (0, 0)) := (l4 _ (Array.getElem?_eq_some_iff.1 hy9).1 (fun e => by have h1 := (hl.1 _ e.symm).1; have h2 := (hl.1 _ e.symm).2; omega) (fun e => by have h1 := (hl.2 _ e.symm).1; have h2 := (hl.2 _ e.symm).2; omega)).trans hy9; obtain ⟨y0, y1, y2, y3, y4⟩ := Vl.five_of hx9D; obtain ⟨z0, z1, z2, z3, z4⟩ := Vl.fiveF_of hx9D; have hq9 : w.heap.size + 2 ≤ wA.heap.size := (by omega))
        | (go_at_call 45; have hy9 : wC.heap[w1.heap.size]? = some (.cells #[.int .u8 0, .string ⟨#[]⟩, .int .i64 0, .slice none 0 0, .slice none 0 0] 26 (0, 0)) := (by with_reducible exact hx9); (with_reducible refine (with_call (b9 := w1.heap.size) hRA eAC (Below.refl _ wC) hoC hBx hzA (Or.inl (by omega)) (Or.inl (by have := eA.size; have := hAlt1; have := eAB.size; omega)) HF.out.2.1 HF.out.2.2 HF.out.1).mono ?_); rintro e wD ⟨vi7, vn7, cs7, rfl, l1, l2, l3, l4, l5, l6, l7, l8⟩; obtain ⟨pi7, ci7, rfl⟩ := Vl.own_shape l1; obtain ⟨pn7, cn7, rfl⟩ := Vl.own_shape l2; have hzw : w1.drew.heap.size = w1.heap.size := rfl; have hsA := eA.size; have hsAB := eAB.size; have hsBC := eBC.size; have hsAC := eAC.size; have eD : Below w1.heap.size w1 wD := eC.trans (l8.mono (by omega)); have hx9D : wD.heap[w1.heap.size]? = some (.cells #[.int .u8 0, .string ⟨#[]⟩, .int .i64 0, .slice none 0 0, .slice none 0 0] 26 (0, 0)) := (l4 _ (Array.getElem?_eq_some_iff.1 hy9).1 (fun e => by have h1 := (hl.1 _ e.symm).1; have h2 := (hl.1 _ e.symm).2; omega) (fun e => by have h1 := (hl.2 _ e.symm).1; have h2 := (hl.2 _ e.symm).2; omega)).trans hy9; obtain ⟨y0, y1, y2, y3, y4⟩ := Vl.five_of hx9D; obtain ⟨z0, z1, z2, z3, z4⟩ := Vl.fiveF_of hx9D; have hq9 : w.heap.size + 2 ≤ w1.heap.size := (by omega))
        | (go_at_call 45; (with_reducible refine (with_call (b9 := wC.heap.size) (Wc := wC.alloc (.cells #[.int .u8 0, .string ⟨#[]⟩, .int .i64 0, .slice none 0 0, .slice none 0 0] 26)) hRA eAC ((Below.refl _ wC).alloc (Nat.le_refl _) (.cells #[.int .u8 0, .string ⟨#[]⟩, .int .i64 0, .slice none 0 0, .slice none 0 0] 26)) hoC hBx hzA (Or.inr eAC.size) (Or.inr (Nat.le_refl _)) HF.out.2.1 HF.out.2.2 HF.out.1).mono ?_); rintro e wD ⟨vi7, vn7, cs7, rfl, l1, l2, l3, l4, l5, l6, l7, l8⟩; obtain ⟨pi7, ci7, rfl⟩ := Vl.own_shape l1; obtain ⟨pn7, cn7, rfl⟩ := Vl.own_shape l2; have hzw : w1.drew.heap.size = w1.heap.size := rfl; have hsA := eA.size; have hsAB := eAB.size; have hsBC := eBC.size; have hsAC := eAC.size; have eD : Below w1.heap.size w1 wD := (eC.alloc eC.size (.cells #[.int .u8 0, .string ⟨#[]⟩, .int .i64 0, .slice none 0 0, .slice none 0 0] 26)).trans (l8.mono (by omega)); have hx9D : wD.heap[wC.heap.size]? = some (.cells #[.int .u8 0, .string ⟨#[]⟩, .int .i64 0, .slice none 0 0, .slice none 0 0] 26 (0, 0)) := (l4 wC.heap.size (by simp) (fun e => by have := (hl.1 _ e.symm).2; omega) (fun e => by have := (hl.2 _ e.symm).2; omega)).trans (Vl.new wC (.cells #[.int .u8 0, .string ⟨#[]⟩, .int .i64 0, .slice none 0 0, .slice none 0 0] 26)); obtain ⟨y0, y1, y2, y3, y4⟩ := Vl.five_of hx9D; obtain ⟨z0, z1, z2, z3, z4⟩ := Vl.fiveF_of hx9D; have hq9 : w.heap.size + 2 ≤ wC.heap.size := (by have := eC.size; omega))
        | (go_at_call 45; (with_reducible refine (with_call (b9 := w.heap.size) hRA eAC (Below.refl _ wC) hoC hBx hzA (Or.inl (by have hzw : w1.drew.heap.size = w1.heap.size := rfl; omega)) (Or.inl (by have hzw : w1.drew.heap.size = w1.heap.size := rfl; have := eA.size; have := eAB.size; omega)) HF.out.2.1 HF.out.2.2 HF.out.1).mono ?_); rintro e wD ⟨vi7, vn7, cs7, rfl, l1, l2, l3, l4, l5, l6, l7, l8⟩; obtain ⟨pi7, ci7, rfl⟩ := Vl.own_shape l1; obtain ⟨pn7, cn7, rfl⟩ := Vl.own_shape l2; have hzw : w1.drew.heap.size = w1.heap.size := rfl; have hsA := eA.size; have hsAB := eAB.size; have hsBC := eBC.size; have hsAC := eAC.size; have eD : Below w1.heap.size w1 wD := eC.trans (l8.mono (by omega)); have hsD := l5))
    · have hzw : w1.drew.heap.size = w1.heap.size := rfl
      have hq1 := eBC.size
      have hb9 := (Below.refl wD.heap.size wD).alloc (Nat.le_refl _) (.cells #[.int .u8 (k : Nat), .string t, .int .i64 i, .slice pi7 (Vl.insIs v.names v.items s x).length ci7, .slice pn7 (Vl.insNs v.names s).length cn7] 26)
      have hdl : wC.heap.size ≤ wD.heap.size := by omega
      have hk4 : ∀ j, j < wC.heap.size → some j ≠ (Value.slice pi' v.items.length ci').ownBlock → some j ≠ (Value.slice pn' v.names.length cn').ownBlock → wD.heap[j]? = wC.heap[j]? := fun j h1 h2 h3 => l4 j h1 h2 h3
      have h9 : ∀ j, j < wD.heap.size → j ≠ w.heap.size → (wD.alloc (.cells #[.int .u8 (k : Nat), .string t, .int .i64 i, .slice pi7 (Vl.insIs v.names v.items s x).length ci7, .slice pn7 (Vl.insNs v.names s).length cn7] 26)).heap[j]? = wD.heap[j]? := fun j h1 _ => Vl.past _ _ _ h1
      have hs9 : wD.heap.size ≤ (wD.alloc (.cells #[.int .u8 (k : Nat), .string t, .int .i64 i, .slice pi7 (Vl.insIs v.names v.items s x).length ci7, .slice pn7 (Vl.insNs v.names s).length cn7] 26)).heap.size := by rw [World.size_alloc]; omega
      have hp9 : ∀ j, pi7.map (·.block) = some j → j ≠ w.heap.size := fun j hj => by
        have e : (Value.slice pi7 (Vl.insIs v.names v.items s x).length ci7).ownBlock = some j := by
          cases pi7 with
          | none => cases hj
          | some a => exact hj
        have hb := (l1.lt j e).1
        rcases l6 with h | h
        · have h1 := hl.1 j (h.symm.trans e)
          omega
        · have h1 := h j e
          omega
      have hn9 : ∀ j, pn7.map (·.block) = some j → j ≠ w.heap.size := fun j hj => by
        have e : (Value.slice pn7 (Vl.insNs v.names s).length cn7).ownBlock = some j := by
          cases pn7 with
          | none => cases hj
          | some a => exact hj
        have hb := (l2.lt j e).1
        rcases l7 with h | h
        · have h1 := hl.2 j (h.symm.trans e)
          omega
        · have h1 := h j e
          omega
      obtain ⟨l9a, l9b⟩ := Vl.insNs_len (ns := v.names) (s := s) (by have := HF.out.2.1; have := HF.out.2.2; omega) hs Q6.out
      have hfin := Vl.withFin (d := d) (b9 := w.heap.size) (W9 := (wD.alloc (.cells #[.int .u8 (k : Nat), .string t, .int .i64 i, .slice pi7 (Vl.insIs v.names v.items s x).length ci7, .slice pn7 (Vl.insNs v.names s).length cn7] 26))) l1 l2 l3 hk4 hdl h9 hs9 hp9 hn9 q1 q2 q3 (Vl.insIs_len HF.out.2.2) l9a l9b
      rw [← HxV.out] at hfin
      have F9 := Lib.hid hfin
      have X9 := Lib.hid (Vl.new _ _ : (wD.alloc (.cells #[.int .u8 (k : Nat), .string t, .int .i64 i, .slice pi7 (Vl.insIs v.names v.items s x).length ci7, .slice pn7 (Vl.insNs v.names s).length cn7] 26)).heap[wD.heap.size]? = some (.cells #[.int .u8 (k : Nat), .string t, .int .i64 i, .slice pi7 (Vl.insIs v.names v.items s x).length ci7, .slice pn7 (Vl.insNs v.names s).length cn7] 26 (0, 0)))
      have hr9 := (eD.block (w.heap.size + 2) (by omega)).trans HR1.out
      have R9 := Lib.hid ((h9 (w.heap.size + 2) (by have := eD.size; omega) (by omega)).trans hr9)
      have B9 := Lib.hid (HB1.out.trans ((eD.trans (hb9.mono eD.size)).mono (by omega)))
      have hl9 : w.heap.size + 3 ≤ wD.heap.size := by omega
      have hsz9 : w.heap.size + 3 ≤ (wD.alloc (.cells #[.int .u8 (k : Nat), .string t, .int .i64 i, .slice pi7 (Vl.insIs v.names v.items s x).length ci7, .slice pn7 (Vl.insNs v.names s).length cn7] 26)).heap.size := by have := eD.size; omega
      clear l1 l2 l3 l4 l5 l6 l7 l8 hfin hk4 h9 hp9 hn9 l9a l9b hr9 hl eD eC eB eA eAB eAC eBC hoC hRA hbC hbB hbA hb9
      generalize (wD.alloc (.cells #[.int .u8 (k : Nat), .string t, .int .i64 i, .slice pi7 (Vl.insIs v.names v.items s x).length ci7, .slice pn7 (Vl.insNs v.names s).length cn7] 26)) = W9 at *
      have hck9 := Lib.hid (vlCheck_any (d + 1) xV _ W9 (F9.out W9 (fun _ _ _ _ => rfl)))
      rw [show Vl.chk xV = if Vl.good xV then 0 else 2 from rfl] at hck9
      obtain ⟨m0, m1, m2, m3, m4⟩ := Vl.five_of X9.out
      go_wp2_with fail
      refine hck9.out.mono ?_
      rintro e wE ⟨rfl, hbE⟩
      have hrE := (hbE.block (w.heap.size + 2) (by omega)).trans R9.out
      have hxE := (hbE.block wD.heap.size (Array.getElem?_eq_some_iff.1 X9.out).1).trans X9.out
      have BE := Lib.hid (B9.out.trans (hbE.mono (by omega)))
      have hsE := hbE.size
      have KE := Lib.hid (fun j (h : j < W9.heap.size) => hbE.block j h)
      have RE := Lib.hid hrE
      obtain ⟨r0, r1, r2, r3, r4⟩ := Vl.five_of hrE
      obtain ⟨n0, n1, n2, n3, n4⟩ := Vl.fiveF_of hrE
      clear m0 m1 m2 m3 m4 hbE hrE hck9
      cases hgd : Vl.good xV with
      | false =>
        have hTe : T = (Vl.zero, 11) := by rw [HT.out, hgd]; rfl
        subst hTe
        clear hxE hgd
        go_wp2_with fail
        refine bodyPost_ret (Vl.ret2 rfl _ _ (w.heap.size + 2) 26 _ _ rfl (Vl.set5 RE.out _ _ _ _ _) Tryd.underlying26 rfl (by kernel_rfl)) rfl ?_
        exact ⟨_, rfl, Vl.At.zero d _, below_grownBy BE.out (Vl.set5_grown _ _ _ _ _ _ _) (by omega) (by omega)⟩
      | true =>
        have hTe : T = (xV, 0) := by rw [HT.out, hgd]; rfl
        subst hTe
        obtain ⟨m0, m1, m2, m3, m4⟩ := Vl.five_of hxE
        clear hxE hgd
        go_wp2_with fail
        refine bodyPost_ret (Vl.ret2 rfl _ _ (w.heap.size + 2) 26 _ _ rfl (Vl.set5 RE.out _ _ _ _ _) Tryd.underlying26 rfl (by kernel_rfl)) rfl ?_
        exact ⟨_, rfl, F9.out _ (fun j h1 h2 _ => (Vl.set5_rest _ _ _ _ _ _ _ j (by omega)).trans (KE.out j h2)), below_grownBy BE.out (Vl.set5_grown _ _ _ _ _ _ _) (by omega) (by omega)⟩
    · have hzc : (wC.alloc (.cells #[.int .u8 0, .string ⟨#[]⟩, .int .i64 0, .slice none 0 0, .slice none 0 0] 26)).heap.size = wC.heap.size + 1 := World.size_alloc _ _
      have hzw : w1.drew.heap.size = w1.heap.size := rfl
      have hq1 := eBC.size
      have hgr := Vl.set5_grown wD wC.heap.size (.int .u8 (k : Nat)) (.string t) (.int .i64 i) (.slice pi7 (Vl.insIs v.names v.items s x).length ci7) (.slice pn7 (Vl.insNs v.names s).length cn7)
      have hdl : wC.heap.size ≤ wD.heap.size := by omega
      have hk4 : ∀ j, j < wC.heap.size → some j ≠ (Value.slice pi' v.items.length ci').ownBlock → some j ≠ (Value.slice pn' v.names.length cn').ownBlock → wD.heap[j]? = wC.heap[j]? := fun j h1 h2 h3 => (l4 j (by omega) h2 h3).trans (Vl.past _ _ _ h1)
      have h9 : ∀ j, j < wD.heap.size → j ≠ wC.heap.size → (((((wD.setCell ⟨wC.heap.size, 0, none⟩ (.int .u8 (k : Nat))).setCell ⟨wC.heap.size, 1, none⟩ (.string t)).setCell ⟨wC.heap.size, 2, none⟩ (.int .i64 i)).setCell ⟨wC.heap.size, 3, none⟩ (.slice pi7 (Vl.insIs v.names v.items s x).length ci7)).setCell ⟨wC.heap.size, 4, none⟩ (.slice pn7 (Vl.insNs v.names s).length cn7)).heap[j]? = wD.heap[j]? := fun j _ h2 => Vl.set5_rest _ _ _ _ _ _ _ j h2
      have hs9 : wD.heap.size ≤ (((((wD.setCell ⟨wC.heap.size, 0, none⟩ (.int .u8 (k : Nat))).setCell ⟨wC.heap.size, 1, none⟩ (.string t)).setCell ⟨wC.heap.size, 2, none⟩ (.int .i64 i)).setCell ⟨wC.heap.size, 3, none⟩ (.slice pi7 (Vl.insIs v.names v.items s x).length ci7)).setCell ⟨wC.heap.size, 4, none⟩ (.slice pn7 (Vl.insNs v.names s).length cn7)).heap.size := by rw [Vl.set5_size]; omega
      have hp9 : ∀ j, pi7.map (·.block) = some j → j ≠ wC.heap.size := fun j hj => by
        have e : (Value.slice pi7 (Vl.insIs v.names v.items s x).length ci7).ownBlock = some j := by
          cases pi7 with
          | none => cases hj
          | some a => exact hj
        have hb := (l1.lt j e).1
        rcases l6 with h | h
        · have h1 := hl.1 j (h.symm.trans e)
          omega
        · have h1 := h j e
          omega
      have hn9 : ∀ j, pn7.map (·.block) = some j → j ≠ wC.heap.size := fun j hj => by
        have e : (Value.slice pn7 (Vl.insNs v.names s).length cn7).ownBlock = some j := by
          cases pn7 with
          | none => cases hj
          | some a => exact hj
        have hb := (l2.lt j e).1
        rcases l7 with h | h
        · have h1 := hl.2 j (h.symm.trans e)
          omega
        · have h1 := h j e
          omega
      obtain ⟨l9a, l9b⟩ := Vl.insNs_len (ns := v.names) (s := s) (by have := HF.out.2.1; have := HF.out.2.2; omega) hs Q6.out
      have hfin := Vl.withFin (d := d) (b9 := wC.heap.size) (W9 := (((((wD.setCell ⟨wC.heap.size, 0, none⟩ (.int .u8 (k : Nat))).setCell ⟨wC.heap.size, 1, none⟩ (.string t)).setCell ⟨wC.heap.size, 2, none⟩ (.int .i64 i)).setCell ⟨wC.heap.size, 3, none⟩ (.slice pi7 (Vl.insIs v.names v.items s x).length ci7)).setCell ⟨wC.heap.size, 4, none⟩ (.slice pn7 (Vl.insNs v.names s).length cn7))) l1 l2 l3 hk4 hdl h9 hs9 hp9 hn9 q1 q2 q3 (Vl.insIs_len HF.out.2.2) l9a l9b
      rw [← HxV.out] at hfin
      have F9 := Lib.hid hfin
      have X9 := Lib.hid (Vl.set5 hx9D _ _ _ _ _ : (((((wD.setCell ⟨wC.heap.size, 0, none⟩ (.int .u8 (k : Nat))).setCell ⟨wC.heap.size, 1, none⟩ (.string t)).setCell ⟨wC.heap.size, 2, none⟩ (.int .i64 i)).setCell ⟨wC.heap.size, 3, none⟩ (.slice pi7 (Vl.insIs v.names v.items s x).length ci7)).setCell ⟨wC.heap.size, 4, none⟩ (.slice pn7 (Vl.insNs v.names s).length cn7)).heap[wC.heap.size]? = some (.cells #[.int .u8 (k : Nat), .string t, .int .i64 i, .slice pi7 (Vl.insIs v.names v.items s x).length ci7, .slice pn7 (Vl.insNs v.names s).length cn7] 26 (0, 0)))
      have hr9 := (eD.block (w.heap.size + 2) (by omega)).trans HR1.out
      have R9 := Lib.hid ((h9 (w.heap.size + 2) (by have := eD.size; omega) (by omega)).trans hr9)
      have B9 := Lib.hid (below_grownBy (HB1.out.trans (eD.mono (by omega))) hgr (by omega) (by have := eD.size; omega))
      have hl9 : w.heap.size + 3 ≤ wC.heap.size := by omega
      have hsz9 : w.heap.size + 3 ≤ (((((wD.setCell ⟨wC.heap.size, 0, none⟩ (.int .u8 (k : Nat))).setCell ⟨wC.heap.size, 1, none⟩ (.string t)).setCell ⟨wC.heap.size, 2, none⟩ (.int .i64 i)).setCell ⟨wC.heap.size, 3, none⟩ (.slice pi7 (Vl.insIs v.names v.items s x).length ci7)).setCell ⟨wC.heap.size, 4, none⟩ (.slice pn7 (Vl.insNs v.names s).length cn7)).heap.size := by have := eD.size; omega
      clear l1 l2 l3 l4 l5 l6 l7 l8 hfin hk4 h9 hp9 hn9 l9a l9b hr9 hl eD eC eB eA eAB eAC eBC hoC hRA hbC hbB hbA hgr hx9D y0 y1 y2 y3 y4 z0 z1 z2 z3 z4
      generalize (((((wD.setCell ⟨wC.heap.size, 0, none⟩ (.int .u8 (k : Nat))).setCell ⟨wC.heap.size, 1, none⟩ (.string t)).setCell ⟨wC.heap.size, 2, none⟩ (.int .i64 i)).setCell ⟨wC.heap.size, 3, none⟩ (.slice pi7 (Vl.insIs v.names v.items s x).length ci7)).setCell ⟨wC.heap.size, 4, none⟩ (.slice pn7 (Vl.insNs v.names s).length cn7)) = W9 at *
      have hck9 := Lib.hid (vlCheck_any (d + 1) xV _ W9 (F9.out W9 (fun _ _ _ _ => rfl)))
      rw [show Vl.chk xV = if Vl.good xV then 0 else 2 from rfl] at hck9
      obtain ⟨m0, m1, m2, m3, m4⟩ := Vl.five_of X9.out
      go_wp2_with fail
      refine hck9.out.mono ?_
      rintro e wE ⟨rfl, hbE⟩
      have hrE := (hbE.block (w.heap.size + 2) (by omega)).trans R9.out
      have hxE := (hbE.block wC.heap.size (Array.getElem?_eq_some_iff.1 X9.out).1).trans X9.out
      have BE := Lib.hid (B9.out.trans (hbE.mono (by omega)))
      have hsE := hbE.size
      have KE := Lib.hid (fun j (h : j < W9.heap.size) => hbE.block j h)
      have RE := Lib.hid hrE
      obtain ⟨r0, r1, r2, r3, r4⟩ := Vl.five_of hrE
      obtain ⟨n0, n1, n2, n3, n4⟩ := Vl.fiveF_of hrE
      clear m0 m1 m2 m3 m4 hbE hrE hck9
      cases hgd : Vl.good xV with
      | false =>
        have hTe : T = (Vl.zero, 11) := by rw [HT.out, hgd]; rfl
        subst hTe
        clear hxE hgd
        go_wp2_with fail
        refine bodyPost_ret (Vl.ret2 rfl _ _ (w.heap.size + 2) 26 _ _ rfl (Vl.set5 RE.out _ _ _ _ _) Tryd.underlying26 rfl (by kernel_rfl)) rfl ?_
        exact ⟨_, rfl, Vl.At.zero d _, below_grownBy BE.out (Vl.set5_grown _ _ _ _ _ _ _) (by omega) (by omega)⟩
      | true =>
        have hTe : T = (xV, 0) := by rw [HT.out, hgd]; rfl
        subst hTe
        obtain ⟨m0, m1, m2, m3, m4⟩ := Vl.five_of hxE
        clear hxE hgd
        go_wp2_with fail
        refine bodyPost_ret (Vl.ret2 rfl _ _ (w.heap.size + 2) 26 _ _ rfl (Vl.set5 RE.out _ _ _ _ _) Tryd.underlying26 rfl (by kernel_rfl)) rfl ?_
        exact ⟨_, rfl, F9.out _ (fun j h1 h2 _ => (Vl.set5_rest _ _ _ _ _ _ _ j (by omega)).trans (KE.out j h2)), below_grownBy BE.out (Vl.set5_grown _ _ _ _ _ _ _) (by omega) (by omega)⟩
    · have hzw : w1.drew.heap.size = w1.heap.size := rfl
      have hq1 := eBC.size
      have hy9l := (Array.getElem?_eq_some_iff.1 hy9).1
      have hgr := Vl.set5_grown wD wB.heap.size (.int .u8 (k : Nat)) (.string t) (.int .i64 i) (.slice pi7 (Vl.insIs v.names v.items s x).length ci7) (.slice pn7 (Vl.insNs v.names s).length cn7)
      have hdl : wC.heap.size ≤ wD.heap.size := by omega
      have hk4 : ∀ j, j < wC.heap.size → some j ≠ (Value.slice pi' v.items.length ci').ownBlock → some j ≠ (Value.slice pn' v.names.length cn').ownBlock → wD.heap[j]? = wC.heap[j]? := fun j h1 h2 h3 => l4 j h1 h2 h3
      have h9 : ∀ j, j < wD.heap.size → j ≠ wB.heap.size → (((((wD.setCell ⟨wB.heap.size, 0, none⟩ (.int .u8 (k : Nat))).setCell ⟨wB.heap.size, 1, none⟩ (.string t)).setCell ⟨wB.heap.size, 2, none⟩ (.int .i64 i)).setCell ⟨wB.heap.size, 3, none⟩ (.slice pi7 (Vl.insIs v.names v.items s x).length ci7)).setCell ⟨wB.heap.size, 4, none⟩ (.slice pn7 (Vl.insNs v.names s).length cn7)).heap[j]? = wD.heap[j]? := fun j _ h2 => Vl.set5_rest _ _ _ _ _ _ _ j h2
      have hs9 : wD.heap.size ≤ (((((wD.setCell ⟨wB.heap.size, 0, none⟩ (.int .u8 (k : Nat))).setCell ⟨wB.heap.size, 1, none⟩ (.string t)).setCell ⟨wB.heap.size, 2, none⟩ (.int .i64 i)).setCell ⟨wB.heap.size, 3, none⟩ (.slice pi7 (Vl.insIs v.names v.items s x).length ci7)).setCell ⟨wB.heap.size, 4, none⟩ (.slice pn7 (Vl.insNs v.names s).length cn7)).heap.size := by rw [Vl.set5_size]; omega
      have hp9 : ∀ j, pi7.map (·.block) = some j → j ≠ wB.heap.size := fun j hj => by
        have e : (Value.slice pi7 (Vl.insIs v.names v.items s x).length ci7).ownBlock = some j := by
          cases pi7 with
          | none => cases hj
          | some a => exact hj
        have hb := (l1.lt j e).1
        rcases l6 with h | h
        · have h1 := hl.1 j (h.symm.trans e)
          omega
        · have h1 := h j e
          omega
      have hn9 : ∀ j, pn7.map (·.block) = some j → j ≠ wB.heap.size := fun j hj => by
        have e : (Value.slice pn7 (Vl.insNs v.names s).length cn7).ownBlock = some j := by
          cases pn7 with
          | none => cases hj
          | some a => exact hj
        have hb := (l2.lt j e).1
        rcases l7 with h | h
        · have h1 := hl.2 j (h.symm.trans e)
          omega
        · have h1 := h j e
          omega
      obtain ⟨l9a, l9b⟩ := Vl.insNs_len (ns := v.names) (s := s) (by have := HF.out.2.1; have := HF.out.2.2; omega) hs Q6.out
      have hfin := Vl.withFin (d := d) (b9 := wB.heap.size) (W9 := (((((wD.setCell ⟨wB.heap.size, 0, none⟩ (.int .u8 (k : Nat))).setCell ⟨wB.heap.size, 1, none⟩ (.string t)).setCell ⟨wB.heap.size, 2, none⟩ (.int .i64 i)).setCell ⟨wB.heap.size, 3, none⟩ (.slice pi7 (Vl.insIs v.names v.items s x).length ci7)).setCell ⟨wB.heap.size, 4, none⟩ (.slice pn7 (Vl.insNs v.names s).length cn7))) l1 l2 l3 hk4 hdl h9 hs9 hp9 hn9 q1 q2 q3 (Vl.insIs_len HF.out.2.2) l9a l9b
      rw [← HxV.out] at hfin
      have F9 := Lib.hid hfin
      have X9 := Lib.hid (Vl.set5 hx9D _ _ _ _ _ : (((((wD.setCell ⟨wB.heap.size, 0, none⟩ (.int .u8 (k : Nat))).setCell ⟨wB.heap.size, 1, none⟩ (.string t)).setCell ⟨wB.heap.size, 2, none⟩ (.int .i64 i)).setCell ⟨wB.heap.size, 3, none⟩ (.slice pi7 (Vl.insIs v.names v.items s x).length ci7)).setCell ⟨wB.heap.size, 4, none⟩ (.slice pn7 (Vl.insNs v.names s).length cn7)).heap[wB.heap.size]? = some (.cells #[.int .u8 (k : Nat), .string t, .int .i64 i, .slice pi7 (Vl.insIs v.names v.items s x).length ci7, .slice pn7 (Vl.insNs v.names s).length cn7] 26 (0, 0)))
      have hr9 := (eD.block (w.heap.size + 2) (by omega)).trans HR1.out
      have R9 := Lib.hid ((h9 (w.heap.size + 2) (by have := eD.size; omega) (by omega)).trans hr9)
      have B9 := Lib.hid (below_grownBy (HB1.out.trans (eD.mono (by omega))) hgr (by omega) (by have := eD.size; omega))
      have hl9 : w.heap.size + 3 ≤ wB.heap.size := by omega
      have hsz9 : w.heap.size + 3 ≤ (((((wD.setCell ⟨wB.heap.size, 0, none⟩ (.int .u8 (k : Nat))).setCell ⟨wB.heap.size, 1, none⟩ (.string t)).setCell ⟨wB.heap.size, 2, none⟩ (.int .i64 i)).setCell ⟨wB.heap.size, 3, none⟩ (.slice pi7 (Vl.insIs v.names v.items s x).length ci7)).setCell ⟨wB.heap.size, 4, none⟩ (.slice pn7 (Vl.insNs v.names s).length cn7)).heap.size := by have := eD.size; omega
      clear l1 l2 l3 l4 l5 l6 l7 l8 hfin hk4 h9 hp9 hn9 l9a l9b hr9 hl eD eC eB eA eAB eAC eBC hoC hRA hbC hbB hbA hgr hx9D y0 y1 y2 y3 y4 z0 z1 z2 z3 z4 hx9 hy9
      generalize (((((wD.setCell ⟨wB.heap.size, 0, none⟩ (.int .u8 (k : Nat))).setCell ⟨wB.heap.size, 1, none⟩ (.string t)).setCell ⟨wB.heap.size, 2, none⟩ (.int .i64 i)).setCell ⟨wB.heap.size, 3, none⟩ (.slice pi7 (Vl.insIs v.names v.items s x).length ci7)).setCell ⟨wB.heap.size, 4, none⟩ (.slice pn7 (Vl.insNs v.names s).length cn7)) = W9 at *
      have hck9 := Lib.hid (vlCheck_any (d + 1) xV _ W9 (F9.out W9 (fun _ _ _ _ => rfl)))
      rw [show Vl.chk xV = if Vl.good xV then 0 else 2 from rfl] at hck9
      obtain ⟨m0, m1, m2, m3, m4⟩ := Vl.five_of X9.out
      go_wp2_with fail
      refine hck9.out.mono ?_
      rintro e wE ⟨rfl, hbE⟩
      have hrE := (hbE.block (w.heap.size + 2) (by omega)).trans R9.out
      have hxE := (hbE.block wB.heap.size (Array.getElem?_eq_some_iff.1 X9.out).1).trans X9.out
      have BE := Lib.hid (B9.out.trans (hbE.mono (by omega)))
      have hsE := hbE.size
      have KE := Lib.hid (fun j (h : j < W9.heap.size) => hbE.block j h)
      have RE := Lib.hid hrE
      obtain ⟨r0, r1, r2, r3, r4⟩ := Vl.five_of hrE
      obtain ⟨n0, n1, n2, n3, n4⟩ := Vl.fiveF_of hrE
      clear m0 m1 m2 m3 m4 hbE hrE hck9
      cases hgd : Vl.good xV with
      | false =>
        have hTe : T = (Vl.zero, 11) := by rw [HT.out, hgd]; rfl
        subst hTe
        clear hxE hgd
        go_wp2_with fail
        refine bodyPost_ret (Vl.ret2 rfl _ _ (w.heap.size + 2) 26 _ _ rfl (Vl.set5 RE.out _ _ _ _ _) Tryd.underlying26 rfl (by kernel_rfl)) rfl ?_
        exact ⟨_, rfl, Vl.At.zero d _, below_grownBy BE.out (Vl.set5_grown _ _ _ _ _ _ _) (by omega) (by omega)⟩
      | true =>
        have hTe : T = (xV, 0) := by rw [HT.out, hgd]; rfl
        subst hTe
        obtain ⟨m0, m1, m2, m3, m4⟩ := Vl.five_of hxE
        clear hxE hgd
        go_wp2_with fail
        refine bodyPost_ret (Vl.ret2 rfl _ _ (w.heap.size + 2) 26 _ _ rfl (Vl.set5 RE.out _ _ _ _ _) Tryd.underlying26 rfl (by kernel_rfl)) rfl ?_
        exact ⟨_, rfl, F9.out _ (fun j h1 h2 _ => (Vl.set5_rest _ _ _ _ _ _ _ j (by omega)).trans (KE.out j h2)), below_grownBy BE.out (Vl.set5_grown _ _ _ _ _ _ _) (by omega) (by omega)⟩
    · have hzw : w1.drew.heap.size = w1.heap.size := rfl
      have hq1 := eBC.size
      have hy9l := (Array.getElem?_eq_some_iff.1 hy9).1
      have hgr := Vl.set5_grown wD wA.heap.size (.int .u8 (k : Nat)) (.string t) (.int .i64 i) (.slice pi7 (Vl.insIs v.names v.items s x).length ci7) (.slice pn7 (Vl.insNs v.names s).length cn7)
      have hdl : wC.heap.size ≤ wD.heap.size := by omega
      have hk4 : ∀ j, j < wC.heap.size → some j ≠ (Value.slice pi' v.items.length ci').ownBlock → some j ≠ (Value.slice pn' v.names.length cn').ownBlock → wD.heap[j]? = wC.heap[j]? := fun j h1 h2 h3 => l4 j h1 h2 h3
      have h9 : ∀ j, j < wD.heap.size → j ≠ wA.heap.size → (((((wD.setCell ⟨wA.heap.size, 0, none⟩ (.int .u8 (k : Nat))).setCell ⟨wA.heap.size, 1, none⟩ (.string t)).setCell ⟨wA.heap.size, 2, none⟩ (.int .i64 i)).setCell ⟨wA.heap.size, 3, none⟩ (.slice pi7 (Vl.insIs v.names v.items s x).length ci7)).setCell ⟨wA.heap.size, 4, none⟩ (.slice pn7 (Vl.insNs v.names s).length cn7)).heap[j]? = wD.heap[j]? := fun j _ h2 => Vl.set5_rest _ _ _ _ _ _ _ j h2
      have hs9 : wD.heap.size ≤ (((((wD.setCell ⟨wA.heap.size, 0, none⟩ (.int .u8 (k : Nat))).setCell ⟨wA.heap.size, 1, none⟩ (.string t)).setCell ⟨wA.heap.size, 2, none⟩ (.int .i64 i)).setCell ⟨wA.heap.size, 3, none⟩ (.slice pi7 (Vl.insIs v.names v.items s x).length ci7)).setCell ⟨wA.heap.size, 4, none⟩ (.slice pn7 (Vl.insNs v.names s).length cn7)).heap.size := by rw [Vl.set5_size]; omega
      have hp9 : ∀ j, pi7.map (·.block) = some j → j ≠ wA.heap.size := fun j hj => by
        have e : (Value.slice pi7 (Vl.insIs v.names v.items s x).length ci7).ownBlock = some j := by
          cases pi7 with
          | none => cases hj
          | some a => exact hj
        have hb := (l1.lt j e).1
        rcases l6 with h | h
        · have h1 := hl.1 j (h.symm.trans e)
          omega
        · have h1 := h j e
          omega
      have hn9 : ∀ j, pn7.map (·.block) = some j → j ≠ wA.heap.size := fun j hj => by
        have e : (Value.slice pn7 (Vl.insNs v.names s).length cn7).ownBlock = some j := by
          cases pn7 with
          | none => cases hj
          | some a => exact hj
        have hb := (l2.lt j e).1
        rcases l7 with h | h
        · have h1 := hl.2 j (h.symm.trans e)
          omega
        · have h1 := h j e
          omega
      obtain ⟨l9a, l9b⟩ := Vl.insNs_len (ns := v.names) (s := s) (by have := HF.out.2.1; have := HF.out.2.2; omega) hs Q6.out
      have hfin := Vl.withFin (d := d) (b9 := wA.heap.size) (W9 := (((((wD.setCell ⟨wA.heap.size, 0, none⟩ (.int .u8 (k : Nat))).setCell ⟨wA.heap.size, 1, none⟩ (.string t)).setCell ⟨wA.heap.size, 2, none⟩ (.int .i64 i)).setCell ⟨wA.heap.size, 3, none⟩ (.slice pi7 (Vl.insIs v.names v.items s x).length ci7)).setCell ⟨wA.heap.size, 4, none⟩ (.slice pn7 (Vl.insNs v.names s).length cn7))) l1 l2 l3 hk4 hdl h9 hs9 hp9 hn9 q1 q2 q3 (Vl.insIs_len HF.out.2.2) l9a l9b
      rw [← HxV.out] at hfin
      have F9 := Lib.hid hfin
      have X9 := Lib.hid (Vl.set5 hx9D _ _ _ _ _ : (((((wD.setCell ⟨wA.heap.size, 0, none⟩ (.int .u8 (k : Nat))).setCell ⟨wA.heap.size, 1, none⟩ (.string t)).setCell ⟨wA.heap.size, 2, none⟩ (.int .i64 i)).setCell ⟨wA.heap.size, 3, none⟩ (.slice pi7 (Vl.insIs v.names v.items s x).length ci7)).setCell ⟨wA.heap.size, 4, none⟩ (.slice pn7 (Vl.insNs v.names s).length cn7)).heap[wA.heap.size]? = some (.cells #[.int .u8 (k : Nat), .string t, .int .i64 i, .slice pi7 (Vl.insIs v.names v.items s x).length ci7, .slice pn7 (Vl.insNs v.names s).length cn7] 26 (0, 0)))
      have hr9 := (eD.block (w.heap.size + 2) (by omega)).trans HR1.out
      have R9 := Lib.hid ((h9 (w.heap.size + 2) (by have := eD.size; omega) (by omega)).trans hr9)
      have B9 := Lib.hid (below_grownBy (HB1.out.trans (eD.mono (by omega))) hgr (by omega) (by have := eD.size; omega))
      have hl9 : w.heap.size + 3 ≤ wA.heap.size := by omega
      have hsz9 : w.heap.size + 3 ≤ (((((wD.setCell ⟨wA.heap.size, 0, none⟩ (.int .u8 (k : Nat))).setCell ⟨wA.heap.size, 1, none⟩ (.string t)).setCell ⟨wA.heap.size, 2, none⟩ (.int .i64 i)).setCell ⟨wA.heap.size, 3, none⟩ (.slice pi7 (Vl.insIs v.names v.items s x).length ci7)).setCell ⟨wA.heap.size, 4, none⟩ (.slice pn7 (Vl.insNs v.names s).length cn7)).heap.size := by have := eD.size; omega
      clear l1 l2 l3 l4 l5 l6 l7 l8 hfin hk4 h9 hp9 hn9 l9a l9b hr9 hl eD eC eB eA eAB eAC eBC hoC hRA hbC hbB hbA hgr hx9D y0 y1 y2 y3 y4 z0 z1 z2 z3 z4 hx9 hy9
      generalize (((((wD.setCell ⟨wA.heap.size, 0, none⟩ (.int .u8 (k : Nat))).setCell ⟨wA.heap.size, 1, none⟩ (.string t)).setCell ⟨wA.heap.size, 2, none⟩ (.int .i64 i)).setCell ⟨wA.heap.size, 3, none⟩ (.slice pi7 (Vl.insIs v.names v.items s x).length ci7)).setCell ⟨wA.heap.size, 4, none⟩ (.slice pn7 (Vl.insNs v.names s).length cn7)) = W9 at *
      have hck9 := Lib.hid (vlCheck_any (d + 1) xV _ W9 (F9.out W9 (fun _ _ _ _ => rfl)))
      rw [show Vl.chk xV = if Vl.good xV then 0 else 2 from rfl] at hck9
      obtain ⟨m0, m1, m2, m3, m4⟩ := Vl.five_of X9.out
      go_wp2_with fail
      refine hck9.out.mono ?_
      rintro e wE ⟨rfl, hbE⟩
      have hrE := (hbE.block (w.heap.size + 2) (by omega)).trans R9.out
      have hxE := (hbE.block wA.heap.size (Array.getElem?_eq_some_iff.1 X9.out).1).trans X9.out
      have BE := Lib.hid (B9.out.trans (hbE.mono (by omega)))
      have hsE := hbE.size
      have KE := Lib.hid (fun j (h : j < W9.heap.size) => hbE.block j h)
      have RE := Lib.hid hrE
      obtain ⟨r0, r1, r2, r3, r4⟩ := Vl.five_of hrE
      obtain ⟨n0, n1, n2, n3, n4⟩ := Vl.fiveF_of hrE
      clear m0 m1 m2 m3 m4 hbE hrE hck9
      cases hgd : Vl.good xV with
      | false =>
        have hTe : T = (Vl.zero, 11) := by rw [HT.out, hgd]; rfl
        subst hTe
        clear hxE hgd
        go_wp2_with fail
        refine bodyPost_ret (Vl.ret2 rfl _ _ (w.heap.size + 2) 26 _ _ rfl (Vl.set5 RE.out _ _ _ _ _) Tryd.underlying26 rfl (by kernel_rfl)) rfl ?_
        exact ⟨_, rfl, Vl.At.zero d _, below_grownBy BE.out (Vl.set5_grown _ _ _ _ _ _ _) (by omega) (by omega)⟩
      | true =>
        have hTe : T = (xV, 0) := by rw [HT.out, hgd]; rfl
        subst hTe
        obtain ⟨m0, m1, m2, m3, m4⟩ := Vl.five_of hxE
        clear hxE hgd
        go_wp2_with fail
        refine bodyPost_ret (Vl.ret2 rfl _ _ (w.heap.size + 2) 26 _ _ rfl (Vl.set5 RE.out _ _ _ _ _) Tryd.underlying26 rfl (by kernel_rfl)) rfl ?_
        exact ⟨_, rfl, F9.out _ (fun j h1 h2 _ => (Vl.set5_rest _ _ _ _ _ _ _ j (by omega)).trans (KE.out j h2)), below_grownBy BE.out (Vl.set5_grown _ _ _ _ _ _ _) (by omega) (by omega)⟩
    · have hzq : (w1.alloc (.cells #[.int .u8 0, .string ⟨#[]⟩, .int .i64 0, .slice none 0 0, .slice none 0 0] 26)).drew.heap.size = w1.heap.size + 1 := World.size_alloc _ _
      have hzw : w1.drew.heap.size = w1.heap.size := rfl
      have hq1 := eBC.size
      have hy9l := (Array.getElem?_eq_some_iff.1 hy9).1
      have hgr := Vl.set5_grown wD w1.heap.size (.int .u8 (k : Nat)) (.string t) (.int .i64 i) (.slice pi7 (Vl.insIs v.names v.items s x).length ci7) (.slice pn7 (Vl.insNs v.names s).length cn7)
      have hdl : wC.heap.size ≤ wD.heap.size := by omega
      have hk4 : ∀ j, j < wC.heap.size → some j ≠ (Value.slice pi' v.items.length ci').ownBlock → some j ≠ (Value.slice pn' v.names.length cn').ownBlock → wD.heap[j]? = wC.heap[j]? := fun j h1 h2 h3 => l4 j h1 h2 h3
      have h9 : ∀ j, j < wD.heap.size → j ≠ w1.heap.size → (((((wD.setCell ⟨w1.heap.size, 0, none⟩ (.int .u8 (k : Nat))).setCell ⟨w1.heap.size, 1, none⟩ (.string t)).setCell ⟨w1.heap.size, 2, none⟩ (.int .i64 i)).setCell ⟨w1.heap.size, 3, none⟩ (.slice pi7 (Vl.insIs v.names v.items s x).length ci7)).setCell ⟨w1.heap.size, 4, none⟩ (.slice pn7 (Vl.insNs v.names s).length cn7)).heap[j]? = wD.heap[j]? := fun j _ h2 => Vl.set5_rest _ _ _ _ _ _ _ j h2
      have hs9 : wD.heap.size ≤ (((((wD.setCell ⟨w1.heap.size, 0, none⟩ (.int .u8 (k : Nat))).setCell ⟨w1.heap.size, 1, none⟩ (.string t)).setCell ⟨w1.heap.size, 2, none⟩ (.int .i64 i)).setCell ⟨w1.heap.size, 3, none⟩ (.slice pi7 (Vl.insIs v.names v.items s x).length ci7)).setCell ⟨w1.heap.size, 4, none⟩ (.slice pn7 (Vl.insNs v.names s).length cn7)).heap.size := by rw [Vl.set5_size]; omega
      have hp9 : ∀ j, pi7.map (·.block) = some j → j ≠ w1.heap.size := fun j hj => by
        have e : (Value.slice pi7 (Vl.insIs v.names v.items s x).length ci7).ownBlock = some j := by
          cases pi7 with
          | none => cases hj
          | some a => exact hj
        have hb := (l1.lt j e).1
        rcases l6 with h | h
        · have h1 := hl.1 j (h.symm.trans e)
          omega
        · have h1 := h j e
          omega
      have hn9 : ∀ j, pn7.map (·.block) = some j → j ≠ w1.heap.size := fun j hj => by
        have e : (Value.slice pn7 (Vl.insNs v.names s).length cn7).ownBlock = some j := by
          cases pn7 with
          | none => cases hj
          | some a => exact hj
        have hb := (l2.lt j e).1
        rcases l7 with h | h
        · have h1 := hl.2 j (h.symm.trans e)
          omega
        · have h1 := h j e
          omega
      obtain ⟨l9a, l9b⟩ := Vl.insNs_len (ns := v.names) (s := s) (by have := HF.out.2.1; have := HF.out.2.2; omega) hs Q6.out
      have hfin := Vl.withFin (d := d) (b9 := w1.heap.size) (W9 := (((((wD.setCell ⟨w1.heap.size, 0, none⟩ (.int .u8 (k : Nat))).setCell ⟨w1.heap.size, 1, none⟩ (.string t)).setCell ⟨w1.heap.size, 2, none⟩ (.int .i64 i)).setCell ⟨w1.heap.size, 3, none⟩ (.slice pi7 (Vl.insIs v.names v.items s x).length ci7)).setCell ⟨w1.heap.size, 4, none⟩ (.slice pn7 (Vl.insNs v.names s).length cn7))) l1 l2 l3 hk4 hdl h9 hs9 hp9 hn9 q1 q2 q3 (Vl.insIs_len HF.out.2.2) l9a l9b
      rw [← HxV.out] at hfin
      have F9 := Lib.hid hfin
      have X9 := Lib.hid (Vl.set5 hx9D _ _ _ _ _ : (((((wD.setCell ⟨w1.heap.size, 0, none⟩ (.int .u8 (k : Nat))).setCell ⟨w1.heap.size, 1, none⟩ (.string t)).setCell ⟨w1.heap.size, 2, none⟩ (.int .i64 i)).setCell ⟨w1.heap.size, 3, none⟩ (.slice pi7 (Vl.insIs v.names v.items s x).length ci7)).setCell ⟨w1.heap.size, 4, none⟩ (.slice pn7 (Vl.insNs v.names s).length cn7)).heap[w1.heap.size]? = some (.cells #[.int .u8 (k : Nat), .string t, .int .i64 i, .slice pi7 (Vl.insIs v.names v.items s x).length ci7, .slice pn7 (Vl.insNs v.names s).length cn7] 26 (0, 0)))
      have hr9 := (eD.block (w.heap.size + 2) (by omega)).trans HR1.out
      have R9 := Lib.hid ((h9 (w.heap.size + 2) (by have := eD.size; omega) (by omega)).trans hr9)
      have B9 := Lib.hid (below_grownBy (HB1.out.trans (eD.mono (by omega))) hgr (by omega) (by have := eD.size; omega))
      have hl9 : w.heap.size + 3 ≤ w1.heap.size := by omega
      have hsz9 : w.heap.size + 3 ≤ (((((wD.setCell ⟨w1.heap.size, 0, none⟩ (.int .u8 (k : Nat))).setCell ⟨w1.heap.size, 1, none⟩ (.string t)).setCell ⟨w1.heap.size, 2, none⟩ (.int .i64 i)).setCell ⟨w1.heap.size, 3, none⟩ (.slice pi7 (Vl.insIs v.names v.items s x).length ci7)).setCell ⟨w1.heap.size, 4, none⟩ (.slice pn7 (Vl.insNs v.names s).length cn7)).heap.size := by have := eD.size; omega
      clear l1 l2 l3 l4 l5 l6 l7 l8 hfin hk4 h9 hp9 hn9 l9a l9b hr9 hl eD eC eB eA eAB eAC eBC hoC hRA hbC hbB hbA hgr hx9D y0 y1 y2 y3 y4 z0 z1 z2 z3 z4 hx9 hy9
      generalize (((((wD.setCell ⟨w1.heap.size, 0, none⟩ (.int .u8 (k : Nat))).setCell ⟨w1.heap.size, 1, none⟩ (.string t)).setCell ⟨w1.heap.size, 2, none⟩ (.int .i64 i)).setCell ⟨w1.heap.size, 3, none⟩ (.slice pi7 (Vl.insIs v.names v.items s x).length ci7)).setCell ⟨w1.heap.size, 4, none⟩ (.slice pn7 (Vl.insNs v.names s).length cn7)) = W9 at *
      have hck9 := Lib.hid (vlCheck_any (d + 1) xV _ W9 (F9.out W9 (fun _ _ _ _ => rfl)))
      rw [show Vl.chk xV = if Vl.good xV then 0 else 2 from rfl] at hck9
      obtain ⟨m0, m1, m2, m3, m4⟩ := Vl.five_of X9.out
      go_wp2_with fail
      refine hck9.out.mono ?_
      rintro e wE ⟨rfl, hbE⟩
      have hrE := (hbE.block (w.heap.size + 2) (by omega)).trans R9.out
      have hxE := (hbE.block w1.heap.size (Array.getElem?_eq_some_iff.1 X9.out).1).trans X9.out
      have BE := Lib.hid (B9.out.trans (hbE.mono (by omega)))
      have hsE := hbE.size
      have KE := Lib.hid (fun j (h : j < W9.heap.size) => hbE.block j h)
      have RE := Lib.hid hrE
      obtain ⟨r0, r1, r2, r3, r4⟩ := Vl.five_of hrE
      obtain ⟨n0, n1, n2, n3, n4⟩ := Vl.fiveF_of hrE
      clear m0 m1 m2 m3 m4 hbE hrE hck9
      cases hgd : Vl.good xV with
      | false =>
        have hTe : T = (Vl.zero, 11) := by rw [HT.out, hgd]; rfl
        subst hTe
        clear hxE hgd
        go_wp2_with fail
        refine bodyPost_ret (Vl.ret2 rfl _ _ (w.heap.size + 2) 26 _ _ rfl (Vl.set5 RE.out _ _ _ _ _) Tryd.underlying26 rfl (by kernel_rfl)) rfl ?_
        exact ⟨_, rfl, Vl.At.zero d _, below_grownBy BE.out (Vl.set5_grown _ _ _ _ _ _ _) (by omega) (by omega)⟩
      | true =>
        have hTe : T = (xV, 0) := by rw [HT.out, hgd]; rfl
        subst hTe
        obtain ⟨m0, m1, m2, m3, m4⟩ := Vl.five_of hxE
        clear hxE hgd
        go_wp2_with fail
        refine bodyPost_ret (Vl.ret2 rfl _ _ (w.heap.size + 2) 26 _ _ rfl (Vl.set5 RE.out _ _ _ _ _) Tryd.underlying26 rfl (by kernel_rfl)) rfl ?_
        exact ⟨_, rfl, F9.out _ (fun j h1 h2 _ => (Vl.set5_rest _ _ _ _ _ _ _ j (by omega)).trans (KE.out j h2)), below_grownBy BE.out (Vl.set5_grown _ _ _ _ _ _ _) (by omega) (by omega)⟩
  · have hT := Hbad.out hc
    have hne : (c != 0) = true := by rw [bne_iff_ne]; exact hc
    subst hT
    obtain ⟨r0, r1, r2, r3, r4⟩ := Vl.five_of hx2
    obtain ⟨n0, n1, n2, n3, n4⟩ := Vl.fiveF_of hx2
    clear hx0 hx1 hx2 Hok Hgd Hbad HcV HcX hc
    go_wp2_with fail
    refine bodyPost_ret (Vl.ret2 rfl _ _ (w.heap.size + 2) 26 _ _ rfl (Vl.set5 HR1.out _ _ _ _ _) Tryd.underlying26 rfl (by kernel_rfl)) rfl ?_
    exact ⟨_, rfl, Vl.At.zero d _, below_grownBy HB1.out (Vl.set5_grown _ _ _ _ _ _ _) (by omega) (by omega)⟩
end Go.Proofs.YtcpebkhpocdeoaaDoor
