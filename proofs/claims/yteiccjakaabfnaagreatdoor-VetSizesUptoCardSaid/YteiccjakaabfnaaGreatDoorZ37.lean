/-
  The walks of tree's bounded and laid. Conditions: lists are of a size that a machine holds; the two errors lie where they were laid.
  Rows of nodes of the call's own; a node put behind one; a path's names copied. Conditions: lists are of a size that a machine holds.
  The walk of the document's comparison of two lists of nodes (bellmanref11.Same), where they are one. Condition: lists are of a size that a machine holds.
-/
import Derived.Test.YteiccjakaabfnaaGreatDoorZ46
import Derived.Stop.IfaceNil
import Derived.Test.YteiccjakaabfnaaGreatDoorZ26
namespace Go.Proofs.YteiccjakaabfnaaGreatDoor
open Go.RowKit

theorem Nd.stk_skip {st : List Nat} {t : Sc.T} {l : List Sc.T} (h3 : ¬ (t.kind = 3 ∨ t.kind = 5)) (h4 : t.kind ≠ 4) (h6 : t.kind ≠ 6) (h : Nd.stk st (t :: l) = true) : Nd.stk st l = true := by
  rw [Nd.stk_cons, if_neg h3, if_neg h4, if_neg h6] at h
  exact h
theorem Nd.stk_four {st : List Nat} {t : Sc.T} {l : List Sc.T} (h4 : t.kind = 4) (h : Nd.stk st (t :: l) = true) : ∃ s, Nd.stk (4 :: s) l = true ∧ st.length = s.length + 1 := by
  rw [Nd.stk_cons, if_neg (by omega), if_pos h4] at h
  cases st with
  | nil => cases h
  | cons a s =>
    have h : (if a = 3 then Nd.stk (4 :: s) l else false) = true := h
    split at h
    · exact ⟨s, h, rfl⟩
    · cases h
theorem Nd.stk_six {st : List Nat} {t : Sc.T} {l : List Sc.T} (h6 : t.kind = 6) (h : Nd.stk st (t :: l) = true) : ∃ s, Nd.stk s l = true ∧ st.length = s.length + 1 := by
  rw [Nd.stk_cons, if_neg (by omega), if_neg (by omega), if_pos h6] at h
  cases st with
  | nil => cases h
  | cons a s => exact ⟨s, h, rfl⟩
set_option maxRecDepth 100000 in
set_option maxHeartbeats 4000000 in
theorem ndBounded_any (l : List Sc.T) (q : Option Addr) (c : Nat) (w : World) (a b : Addr) (hA : Sc.At w q l) (hl : l.length ≤ 140737488351232) (hE : Nd.Errs w a b) (hst : Nd.stk [] l = true) :
    Calls Tryz.prog 188 #[.slice q l.length c] w fun e w' => e = .returned (Nd.errV b (Nd.bnd 0 0 l)) ∧ Below w.heap.size w w' := by
  have HA := Lib.hid hA
  have HE := Lib.hid hE
  obtain ⟨S, hS⟩ : ∃ S, S = Nd.bnd 0 0 l := ⟨_, rfl⟩
  rw [← hS]
  have HS0 := Lib.hid (show S = Nd.bnd 0 0 (l.drop 0) by rw [List.drop_zero]; exact hS)
  have HK0 := Lib.hid (show ∃ st, st.length = 0 ∧ Nd.stk st (l.drop 0) = true from ⟨[], rfl, by rw [List.drop_zero]; exact hst⟩)
  obtain ⟨n, hn⟩ : ∃ n, n = l.length := ⟨_, rfl⟩
  rw [← hn] at hl ⊢
  have HN := Lib.hid hn
  clear hA hE hS hn hst
  go_enter Tryz.func188, Tryz.ntmps188
  go_wp2_with fail
  go_loopw [3, 4, 6, 9] (fun a3 a4 _ t wr => ∃ (k lv m : Nat), k ≤ n ∧ t = .int .i64 k ∧ a3 = .int .i64 lv ∧ a4 = .int .i64 m ∧ lv ≤ 8 ∧ m ≤ 256 ∧ Hid (∃ st, st.length = lv ∧ Nd.stk st (l.drop k) = true) ∧ Hid (Below w.heap.size w wr) ∧ Hid (S = Nd.bnd lv m (l.drop k))) (fun _ _ _ t _ => n - (intOf t).toNat)
  case atStart => exact ⟨0, 0, 0, Nat.zero_le _, rfl, rfl, rfl, by omega, by omega, HK0, Lib.hid (Below.refl _ _), HS0⟩
  case round =>
    obtain ⟨k, lv, m, hk, rfl, rfl, rfl, hlv, hm, HK, HB, HS⟩ := hrel
    by_cases hlt : k < n
    · have hkl : k < l.length := by rw [← HN.out]; exact hlt
      have hs := HS.out
      obtain ⟨st, hst1, hst2⟩ := HK.out
      rw [Nd.drop_get hkl, Nd.bnd] at hs
      rw [Nd.drop_get hkl] at hst2
      obtain ⟨bb, off, pn, cn, rfl, e0, e1, e2, -⟩ := (HA.out.below HB.out).cells k hkl
      have K4 := Lib.hid (fun (h : l[k].kind = 4) => Nd.stk_four (t := l[k]) h hst2)
      have K6 := Lib.hid (fun (h : l[k].kind = 6) => Nd.stk_six (t := l[k]) h hst2)
      have K0 := Lib.hid (fun (h3 : ¬ (l[k].kind = 3 ∨ l[k].kind = 5)) (h4 : l[k].kind ≠ 4) (h6 : l[k].kind ≠ 6) => Nd.stk_skip (t := l[k]) h3 h4 h6 hst2)
      have K3 := Lib.hid (fun (h : l[k].kind = 3 ∨ l[k].kind = 5) => (by have h2 := hst2; rw [Nd.stk_cons, if_pos h] at h2; exact h2 : Nd.stk (l[k].kind :: st) (l.drop (k + 1)) = true))
      generalize l[k].kind = kd at *
      generalize l[k].text = tx at *
      generalize l[k].path.length = np at *
      have HS2 := Lib.hid hs
      have Hst1 := Lib.hid hst1
      have HV := Lib.hid (Vl.new wr (.cells #[.int .u8 (kd : Nat), .string tx, .slice pn np cn] 110))
      have HBx := Lib.hid (HB.out.alloc HB.out.size (.cells #[.int .u8 (kd : Nat), .string tx, .slice pn np cn] 110))
      have hEx := HE.out.below HBx.out
      have g1 := hEx.2.1
      clear hs hEx HS hst1 hst2 HK
      obtain ⟨k0, k1, k2⟩ := Sc.three_of HV.out
      by_cases h4 : kd = 4
      · have hs := HS2.out
        rw [if_pos h4] at hs
        have HS3 := Lib.hid hs
        have HK2 := Lib.hid (show ∃ st, st.length = lv ∧ Nd.stk st (l.drop (k + 1)) = true by obtain ⟨s, s1, s2⟩ := K4.out h4; exact ⟨4 :: s, by rw [List.length_cons, ← s2]; exact Hst1.out, s1⟩)
        have q4 : ((kd : Int) == 4) = true := by rw [beq_iff_eq]; omega
        clear hs HS2 h4 K4 K6 K0 K3
        go_wp2_with fail
        exact ⟨⟨k + 1, lv, m, by omega, by go_num, by go_num, by go_num, by omega, by omega, HK2, HBx, HS3⟩, by simp [intOf]; omega⟩
      · by_cases h6 : kd = 6
        · have hs := HS2.out
          rw [if_neg h4, if_pos h6] at hs
          have HS3 := Lib.hid hs
          obtain ⟨s, s1, s2⟩ := K6.out h6
          have hl1 : lv = s.length + 1 := Hst1.out.symm.trans s2
          have HK2 := Lib.hid (show ∃ st, st.length = lv - 1 ∧ Nd.stk st (l.drop (k + 1)) = true from ⟨s, by omega, s1⟩)
          have hp1 : (lv : Int) - 1 = ((lv - 1 : Nat) : Int) := by omega
          have q4 : ((kd : Int) == 4) = false := beq_eq_false_iff_ne.2 (by omega)
          have q6 : ((kd : Int) == 6) = true := by rw [beq_iff_eq]; omega
          clear hs HS2 h4 h6 K4 K6 K0 K3 s1 s2
          go_wp2_with fail
          exact ⟨⟨k + 1, lv - 1, m, by omega, by go_num, by go_num, by go_num, by omega, by omega, HK2, HBx, HS3⟩, by simp [intOf]; omega⟩
        · have hs := HS2.out
          rw [if_neg h4, if_neg h6] at hs
          have q4 : ((kd : Int) == 4) = false := beq_eq_false_iff_ne.2 (by omega)
          have q6 : ((kd : Int) == 6) = false := beq_eq_false_iff_ne.2 (by omega)
          by_cases h8 : lv = 8 ∨ 256 < m + 1
          · rw [if_pos h8] at hs
            have HZ := Lib.hid (show Nd.errV b S = .iface 297 (.pointer (some b)) by rw [hs]; rfl)
            clear hs HS2 h4 h6 K4 K6 K0 K3
            by_cases h8' : lv = 8
            · have r1 : ((lv : Int) == 8) = true := by rw [beq_iff_eq]; omega
              clear h8 h8'
              go_wp2_with fail
              go_ret
              exact ⟨(congrArg Ending.returned HZ.out).symm, HBx.out⟩
            · have r1 : ((lv : Int) == 8) = false := beq_eq_false_iff_ne.2 (by omega)
              have r2 : (256 : Int) < (m : Int) + 1 := by omega
              clear h8 h8'
              go_wp2_with fail
              go_ret
              exact ⟨(congrArg Ending.returned HZ.out).symm, HBx.out⟩
          · rw [if_neg h8] at hs
            have r1 : ((lv : Int) == 8) = false := beq_eq_false_iff_ne.2 (by omega)
            have r2 : ¬ (256 : Int) < (m : Int) + 1 := by omega
            by_cases h35 : kd = 3 ∨ kd = 5
            · have ho : Nd.opens kd = true := Nd.opens_iff.2 h35
              rw [ho, if_pos rfl] at hs
              have HS3 := Lib.hid hs
              have HK2 := Lib.hid (show ∃ st, st.length = lv + 1 ∧ Nd.stk st (l.drop (k + 1)) = true from ⟨kd :: st, by rw [List.length_cons]; have := Hst1.out; omega, K3.out h35⟩)
              have hl8 : lv ≤ 7 := by omega
              have hm8 : m + 1 ≤ 256 := by omega
              clear hs HS2 h4 h6 K4 K6 K0 K3 h8 h35
              go_wp2_with fail
              refine (ndOpens_any _ _).mono ?_
              rintro e w5 ⟨rfl, rfl⟩
              rw [ho]
              go_wp2_with fail
              exact ⟨⟨k + 1, lv + 1, m + 1, by omega, by go_num, by go_num, by go_num, by omega, by omega, HK2, HBx, HS3⟩, by simp [intOf]; omega⟩
            · have ho : Nd.opens kd = false := by cases hh : Nd.opens kd with | false => rfl | true => exact absurd (Nd.opens_iff.1 hh) h35
              rw [ho, if_neg (by decide)] at hs
              have HS3 := Lib.hid hs
              have HK2 := Lib.hid (show ∃ st, st.length = lv ∧ Nd.stk st (l.drop (k + 1)) = true from ⟨st, Hst1.out, K0.out h35 h4 h6⟩)
              have hm8 : m + 1 ≤ 256 := by omega
              clear hs HS2 h4 h6 K4 K6 K0 K3 h8 h35
              go_wp2_with fail
              refine (ndOpens_any _ _).mono ?_
              rintro e w5 ⟨rfl, rfl⟩
              rw [ho]
              go_wp2_with fail
              exact ⟨⟨k + 1, lv, m + 1, by omega, by go_num, by go_num, by go_num, by omega, by omega, HK2, HBx, HS3⟩, by simp [intOf]; omega⟩
    · obtain rfl : k = n := by omega
      have hs := HS.out
      rw [HN.out, List.drop_length] at hs
      have HZ := Lib.hid (show Nd.errV b S = .nilIface by rw [hs]; rfl)
      clear hs
      go_wp2_with fail
      go_ret
      exact ⟨(congrArg Ending.returned HZ.out).symm, HB.out⟩
/-- What is told of tokens: nil, or one of the two errors. -/
def Nd.laidV (a b : Addr) (l : List Sc.T) : Value := if Nd.stk [] l then Nd.errV b (Nd.bnd 0 0 l) else .iface 297 (.pointer (some a))
set_option maxRecDepth 100000 in
theorem ndLaid_any (l : List Sc.T) (q : Option Addr) (c : Nat) (w : World) (a b : Addr) (hA : Sc.At w q l) (hl : l.length ≤ 140737488351232) (hE : Nd.Errs w a b) :
    Calls Tryz.prog 118 #[.slice q l.length c] w fun e w' => e = .returned (Nd.laidV a b l) ∧ Below w.heap.size w w' := by
  have C1 := Lib.hid (ndPaired_any l q c w a b hA hl hE)
  have C2 := Lib.hid (fun h W (hb : Below w.heap.size w W) => ndBounded_any l q c W a b (hA.below hb) hl (hE.below hb) h)
  unfold Nd.laidV
  generalize Nd.stk [] l = S at *
  generalize Nd.bnd 0 0 l = D at *
  generalize l.length = n at *
  have hnq : ∀ (v : Value) (W : World), (binOp .neq 93 (.iface 297 v) .nilIface).run Tryz.prog W = .ok (.bool true) W := by
    intro v W
    exact run_neq_iface_nil _ 93 (by kernel_rfl) _ _
  clear hA hE
  cases S with
  | false =>
    go_enter Tryz.func118, Tryz.ntmps118
    go_wp2_with fail
    refine C1.out.mono ?_
    rintro e w1 ⟨rfl, hb⟩
    have HB := Lib.hid hb
    clear hb C1 C2
    unfold Nd.errV
    go_wp2_with fail
    go_ret
    exact ⟨rfl, HB.out⟩
  | true =>
    go_enter Tryz.func118, Tryz.ntmps118
    go_wp2_with fail
    refine C1.out.mono ?_
    rintro e w1 ⟨rfl, hb⟩
    have HB := Lib.hid hb
    have HC := Lib.hid (C2.out trivial w1 hb)
    clear hb C1 C2
    rw [show Nd.errV a true = .nilIface from rfl]
    go_wp2_with fail
    refine HC.out.mono ?_
    rintro e w2 ⟨rfl, hb2⟩
    have HB2 := Lib.hid (HB.out.trans (hb2.mono HB.out.size))
    clear hb2 HC HB
    go_wp2_with fail
    go_ret
    exact ⟨rfl, HB2.out⟩
end Go.Proofs.YteiccjakaabfnaaGreatDoor
namespace Go.Proofs.YteiccjakaabfnaaGreatDoor
open Go.RowKit

/-- What is read off blocks of the call's own alone, but for one. -/
def Nd.Off (B : Nat) (W : World) (blk : Option Nat) (u : Value) (y : Nd.N) : Prop := ∀ W' : World, (∀ j, B ≤ j → j < W.heap.size → some j ≠ blk → W'.heap[j]? = W.heap[j]?) → Nd.At W' u y
theorem Nd.Off.at {B : Nat} {W : World} {blk : Option Nat} {u : Value} {y : Nd.N} (h : Nd.Off B W blk u y) : Nd.At W u y := h W (fun _ _ _ _ => rfl)
/-- A row of nodes of the call's own. -/
def Nd.OwnRow (B : Nat) (W : World) (v : Value) (n : Nat) (l : List Nd.N) : Prop :=
  ∃ cs, W.ownsRow B 37 5 v n cs ∧ l.length = n ∧ ∀ i y, l[i]? = some y → ∃ c0 c1 c2 c3 c4, cs[i * 5]? = some c0 ∧ cs[i * 5 + 1]? = some c1 ∧ cs[i * 5 + 2]? = some c2 ∧ cs[i * 5 + 3]? = some c3 ∧ cs[i * 5 + 4]? = some c4 ∧ Nd.Off B W v.ownBlock (.agg #[c0, c1, c2, c3, c4]) y
theorem Nd.OwnRow.nil (B : Nat) (W : World) : Nd.OwnRow B W (.slice none 0 0) 0 [] := ⟨[], World.ownsRow_nil _ _ _ _, rfl, fun i y h => by simp at h⟩
theorem Nd.infoNode : ∃ i, Tryz.prog.info? 37 = some i ∧ i.zero = some (.agg #[.int .u8 0, .string ⟨#[]⟩, .slice none 0 0, .slice none 0 0, .slice none 0 0]) ∧ i.size = 5 ∧ i.bytes = 96 := info_parts (by kernel_rfl)
theorem Nd.OwnRow.below {B : Nat} {W W' : World} {v : Value} {n : Nat} {l : List Nd.N} (h : Nd.OwnRow B W v n l) (hb : Below W.heap.size W W') : Nd.OwnRow B W' v n l := by
  obtain ⟨cs, h1, h2, h3⟩ := h
  exact ⟨cs, ownsRow_below h1 hb, h2, fun i y hy => by
    obtain ⟨c0, c1, c2, c3, c4, e0, e1, e2, e3, e4, ho⟩ := h3 i y hy
    exact ⟨c0, c1, c2, c3, c4, e0, e1, e2, e3, e4, fun W2 hW => ho W2 (fun j a b c => (hW j a (Nat.lt_of_lt_of_le b hb.size) c).trans (hb.block j b))⟩⟩
theorem Nd.OwnRow.grow {B : Nat} {wr w1 w2 : World} {v v' u : Value} {k : Nat} {l : List Nd.N} {y : Nd.N} {cs : List Value} {c0 c1 c2 c3 c4 : Value} (hs : l.length = k)
    (hO : wr.ownsRow B 37 5 v k cs) (hk : ∀ i y, l[i]? = some y → ∃ c0 c1 c2 c3 c4, cs[i * 5]? = some c0 ∧ cs[i * 5 + 1]? = some c1 ∧ cs[i * 5 + 2]? = some c2 ∧ cs[i * 5 + 3]? = some c3 ∧ cs[i * 5 + 4]? = some c4 ∧ Nd.Off B wr v.ownBlock (.agg #[c0, c1, c2, c3, c4]) y)
    (hB : B ≤ wr.heap.size) (hb : Below wr.heap.size wr w1) (hu : u = .agg #[c0, c1, c2, c3, c4]) (hn : Nd.Off wr.heap.size w1 none u y) (o : Obj)
    (hown : w2.ownsRow B 37 5 v' (k + 1) (cs ++ [c0, c1, c2, c3, c4])) (hgr : (w1.alloc o).grownBy w2 v.ownBlock) (hat : v'.ownBlock = v.ownBlock ∨ v'.ownBlock = some (w1.heap.size + 1)) : Nd.OwnRow B w2 v' (k + 1) (l ++ [y]) := by
  have hlt := hO.lt
  have hs1 := hb.size
  have hs2 : w1.heap.size + 1 ≤ w2.heap.size := by have := hgr.size; rwa [World.size_alloc] at this
  have hclen : cs.length = k * 5 := hO.1
  have hkeep : ∀ j, j < w1.heap.size → some j ≠ v.ownBlock → w2.heap[j]? = w1.heap[j]? := fun j hj hne => (hgr.block j (by rw [World.size_alloc]; omega) hne).trans (Vl.past _ _ _ hj)
  have hne' : ∀ j, j < w1.heap.size → some j ≠ v.ownBlock → some j ≠ v'.ownBlock := fun j hj hne => by
    rcases hat with h | h
    · rw [h]; exact hne
    · rw [h]; intro e; cases e; omega
  refine ⟨_, hown, by rw [List.length_append, hs]; rfl, fun i z hz => ?_⟩
  by_cases hi : i < k
  · rw [List.getElem?_append_left (by omega)] at hz
    obtain ⟨a0, a1, a2, a3, a4, e0, e1, e2, e3, e4, hoff⟩ := hk i z hz
    refine ⟨a0, a1, a2, a3, a4, ?_, ?_, ?_, ?_, ?_, fun W' hW => hoff W' (fun j h1 h2 h3 => ?_)⟩
    · rw [List.getElem?_append_left (by omega)]; exact e0
    · rw [List.getElem?_append_left (by omega)]; exact e1
    · rw [List.getElem?_append_left (by omega)]; exact e2
    · rw [List.getElem?_append_left (by omega)]; exact e3
    · rw [List.getElem?_append_left (by omega)]; exact e4
    · have hj1 : j < w1.heap.size := by omega
      exact (hW j h1 (by omega) (hne' j hj1 h3)).trans ((hkeep j hj1 h3).trans (hb.block j h2))
  · have hik : i = k := by
      obtain ⟨h, _⟩ := List.getElem?_eq_some_iff.1 hz
      rw [List.length_append, hs] at h
      simp at h
      omega
    subst hik
    rw [← hs, List.getElem?_concat_length] at hz
    cases hz
    have key : ∀ j q, (cs ++ [c0, c1, c2, c3, c4])[i * 5 + j]? = q ↔ [c0, c1, c2, c3, c4][j]? = q := fun j q => by
      rw [List.getElem?_append_right (by omega), hclen, Nat.add_sub_cancel_left]
    refine ⟨c0, c1, c2, c3, c4, (key 0 _).2 rfl, (key 1 _).2 rfl, (key 2 _).2 rfl, (key 3 _).2 rfl, (key 4 _).2 rfl, fun W' hW => ?_⟩
    rw [← hu]
    refine hn W' (fun j h1 h2 _ => ?_)
    have h3 : some j ≠ v.ownBlock := fun e => by have := (hlt j e.symm).2; omega
    exact (hW j (by omega) (by omega) (hne' j h2 h3)).trans (hkeep j h2 h3)
/-- What a row of the call's own reads as, wherever its blocks are as they were. -/
theorem Nd.OwnRow.off {B : Nat} {W : World} {v : Value} {n : Nat} {l : List Nd.N} (h : Nd.OwnRow B W v n l) : ∃ p c, v = .slice p n c ∧ n ≤ c ∧ ∀ W' : World, (∀ j, B ≤ j → j < W.heap.size → W'.heap[j]? = W.heap[j]?) → Nd.Row W' p l := by
  obtain ⟨cs, hO, hs, hk⟩ := h
  rcases hO.2 with ⟨hv, h0⟩ | ⟨g, cap, cur, hv, hg, hc, hn, hm, hcs, ht⟩
  · subst h0
    exact ⟨none, 0, hv, Nat.le_refl _, fun W' _ i hi => by omega⟩
  · subst hv
    refine ⟨some ⟨g, 0, none⟩, cap, rfl, hn, fun W' hW i hi => ?_⟩
    have hgl := (Array.getElem?_eq_some_iff.1 hc).1
    obtain ⟨c0, c1, c2, c3, c4, e0, e1, e2, e3, e4, hoff⟩ := hk i l[i] (List.getElem?_eq_getElem hi)
    have key : ∀ j q, cs[j]? = some q → W'.cell? ⟨g, 0 + j, none⟩ = some q := fun j q hq => by
      rw [Nat.zero_add, Lib.cell_of_heap ((hW g hg hgl).trans hc), ← Array.getElem?_toList]
      rw [← ht] at hq
      obtain ⟨hjl, _⟩ := List.getElem?_eq_some_iff.1 hq
      rw [List.length_take] at hjl
      rwa [List.getElem?_take_of_lt (by omega)] at hq
    exact ⟨g, 0, c0, c1, c2, c3, c4, rfl, ⟨key _ _ e0, key _ _ e1, key _ _ e2, key _ _ e3, key _ _ e4⟩, l[i], List.getElem?_eq_getElem hi, hoff W' (fun j h1 h2 _ => hW j h1 h2)⟩
theorem Nd.OwnRow.at {B : Nat} {W : World} {v : Value} {n : Nat} {l : List Nd.N} (h : Nd.OwnRow B W v n l) : ∃ p c, v = .slice p n c ∧ n ≤ c ∧ Nd.Row W p l := by
  obtain ⟨p, c, h1, h2, h3⟩ := h.off
  exact ⟨p, c, h1, h2, h3 W (fun _ _ _ => rfl)⟩
theorem Nd.OwnRow.len {B : Nat} {W : World} {v : Value} {n : Nat} {l : List Nd.N} (h : Nd.OwnRow B W v n l) : l.length = n := by
  obtain ⟨_, _, h, _⟩ := h
  exact h
theorem Nd.OwnRow.base {B B' : Nat} {W : World} {v : Value} {n : Nat} {l : List Nd.N} (h : Nd.OwnRow B W v n l) (hb : B' ≤ B) : Nd.OwnRow B' W v n l := by
  obtain ⟨cs, h1, h2, h3⟩ := h
  exact ⟨cs, ⟨h1.1, h1.2.imp id fun ⟨g, cap, cur, a, b, rest⟩ => ⟨g, cap, cur, a, Nat.le_trans hb b, rest⟩⟩, h2, fun i y hy => by
    obtain ⟨c0, c1, c2, c3, c4, e0, e1, e2, e3, e4, ho⟩ := h3 i y hy
    exact ⟨c0, c1, c2, c3, c4, e0, e1, e2, e3, e4, fun W2 hW => ho W2 (fun j a b c => hW j (Nat.le_trans hb a) b c)⟩⟩
/-- Names of the call's own. -/
theorem Nd.texts_off {B : Nat} {W : World} {v : Value} {n : Nat} {l : List ByteArray} (h : W.ownsRow B 9 1 v n (l.map Wp.mkT)) : ∃ p c, v = .slice p l.length c ∧ l.length ≤ c ∧ ∀ W' : World, (∀ j, B ≤ j → j < W.heap.size → W'.heap[j]? = W.heap[j]?) → Wp.At Wp.mkT W' p l := by
  obtain ⟨p, c, hv, ha⟩ := Vl.texts_off h
  obtain rfl : n = l.length := by have := h.1; rw [List.length_map, Nat.mul_one] at this; exact this.symm
  refine ⟨p, c, hv, ?_, ha⟩
  rcases h.2 with ⟨h1, h2⟩ | ⟨g, cap, cur, h1, _, _, h4, _⟩
  · omega
  · rw [h1] at hv
    cases hv
    exact h4
set_option maxRecDepth 100000 in
set_option maxHeartbeats 1000000 in
theorem ndCopied_any (p : Option Addr) (c : Nat) (l : List ByteArray) (w : World) (hm : l.length ≤ 100000) (hs : ∀ s ∈ l, s.size ≤ 140737488351232) (hA : Wp.At Wp.mkT w p l) :
    Calls Tryz.prog 191 #[.slice p l.length c] w fun e w' => ∃ v, e = .returned v ∧ w'.ownsRow w.heap.size 9 1 v l.length (l.map Wp.mkT) ∧ Below w.heap.size w w' := by
  have HA := Lib.hid hA
  have HS := Lib.hid hs
  obtain ⟨n, hn⟩ : ∃ n, n = l.length := ⟨_, rfl⟩
  have HN := Lib.hid hn
  rw [← hn] at hm ⊢
  clear hA hs hn
  obtain ⟨i0, hi, hz0, hz1, hz2⟩ := Vl.infoText
  go_enter Tryz.func191, Tryz.ntmps191
  go_wp2_with fail
  go_loopw [3, 5, 8] (fun v _ t wr => ∃ k : Nat, k ≤ n ∧ t = .int .i64 k ∧ Hid (wr.ownsRow w.heap.size 9 1 v k ((l.take k).map Wp.mkT)) ∧ Hid (Below w.heap.size w wr)) (fun _ _ t _ => n - (intOf t).toNat)
  case atStart => exact ⟨0, Nat.zero_le _, rfl, Lib.hid (World.ownsRow_nil _ _ _ _), Lib.hid (Below.refl _ _)⟩
  case round =>
    obtain ⟨k, hk, rfl, HO, HB⟩ := hrel
    by_cases hlt : k < n
    · have hkl : k < l.length := by rw [← HN.out]; exact hlt
      have hat := HA.out.below HB.out
      rcases hat with hat | ⟨b, off, rfl, hc⟩
      · rw [hat] at hkl; simp at hkl
      · have e0 := hc k hkl
        have e0 : wr.cell? ⟨b, off + k, none⟩ = some (.string l[k]) := e0
        have hsz := HS.out _ (List.getElem_mem hkl)
        have Htk := Lib.hid (show (l.take (k + 1)).map Wp.mkT = (l.take k).map Wp.mkT ++ [.string l[k]] by rw [List.take_succ_eq_append_getElem hkl, List.map_append]; rfl)
        generalize l[k] = s at *
        have HCl := Lib.hid (vlClone_any s wr (by omega))
        clear hc hsz
        go_wp2_with fail
        refine HCl.out.mono ?_
        rintro e w1 ⟨rfl, hb⟩
        have HO1 := Lib.hid ((ownsRow_below HO.out hb).alloc (.cells #[.string s] 9))
        have HB1 := Lib.hid ((HB.out.trans (hb.mono HB.out.size)).alloc (by have := HB.out.size; have := hb.size; omega) (.cells #[.string s] 9))
        have Hnew := Lib.hid (Vl.one_of (Vl.new w1 (.cells #[.string s] 9)))
        clear hb HCl HO HB e0
        go_wp2_with (at_builtin; refine Vl.listApp _ rfl _ _ 23 rfl w.heap.size 9 i0 _ 1 16 Tryz.underlying23 hi hz0 hz1 hz2 rfl (by decide) _ k _ rfl HO1.out ⟨w1.heap.size, 0, none⟩ 1 1 [.string s] rfl rfl ?c1 ?c2 ?c3 ?c4 ?c5 ?_)
        case c1 =>
          intro j q hq
          match j, hq with
          | 0, hq => cases hq; exact Hnew.out.1
          | j + 1, hq => simp at hq
        case c2 => intro q hq; simp at hq; subst hq; rfl
        case c3 => unfold maxLen; omega
        case c4 => omega
        case c5 => exact HB1.out.size
        intro v' w2 hown hgrow _
        have HB2 := Lib.hid (below_grown5 HB1.out HO1.out (Nat.le_refl _) hgrow)
        have HOw := Lib.hid hown
        clear hown hgrow HO1 HB1 Hnew
        go_wp2_with fail
        refine ⟨⟨k + 1, by omega, by go_num, Lib.hid (by rw [Htk.out, List.map_take]; exact HOw.out), HB2⟩, by simp [intOf]; omega⟩
    · obtain rfl : k = n := by omega
      have HO1 := Lib.hid (show wr.ownsRow w.heap.size 9 1 _ k (l.map Wp.mkT) by have := HO.out; rwa [HN.out, List.take_length, ← HN.out] at this)
      go_wp2_with fail
      go_ret
      exact ⟨_, rfl, HO1.out, HB.out⟩
end Go.Proofs.YteiccjakaabfnaaGreatDoor
namespace Go.Proofs.YteiccjakaabfnaaGreatDoor
open Go.RowKit

theorem Nd.keep1 {w w' : World} {g : Nat} {o : Obj} (h : w.heap[g]? = some o) (hb : Below w.heap.size w w') : w'.heap[g]? = some o := (hb.block g (Array.getElem?_eq_some_iff.1 h).1).trans h
theorem Nd.cnt_mem {x : Nd.N} : ∀ {l : List Nd.N}, x ∈ l → x.cnt ≤ Nd.cntL l
  | [], h => by simp at h
  | y :: l, h => by
    rw [Nd.cntL_cons]
    rcases List.mem_cons.1 h with rfl | h
    · omega
    · have := Nd.cnt_mem h
      omega
end Go.Proofs.YteiccjakaabfnaaGreatDoor
