/-
  The walk of vet's Roots. Conditions: lists are of a size that a machine holds, texts of one that the walks hold.
  The walk of vet's Only, and of slices.ContainsFunc at texts with whatever closure. Conditions: lists are of a size that a machine holds, texts of one that the walks hold.
  What vet's answers have to do with one another: roots as a set, levels one further in, two templates one behind the other. No condition but those that the theorems state.
-/
import Derived.Test.YteajjlilpikdeaaGreatDoorVtGathR
import Derived.Test.YteajjlilpikdeaaGreatDoorShelf
import Derived.Sort.OwnSorted
import Derived.Lib.RowBridge
namespace Go.Proofs.YteajjlilpikdeaaGreatDoor
open Go.RowKit Go.Shelf

/-- The roots of right nodes. -/
def Vt.sortedL (ns : List ByteArray) : List (List UInt8) := (ns.map (·.data.toList)).mergeSort fun x y => decide (x ≤ y)
def Vt.rootsR (l : List Nd.N) : List ByteArray := if Nd.good l then (Lib.compact (Vt.sortedL (Vt.namesP (Vt.visL 1 false l)))).map Wp.B else []
theorem Vt.mkT_enc (ns : List ByteArray) : ns.map Wp.mkT = (ns.map (·.data.toList)).map encStr := by
  rw [List.map_map]
  refine List.map_congr_left fun s _ => ?_
  cases s
  simp [Wp.mkT, encStr]
theorem Vt.sorted_len (ns : List ByteArray) : (Vt.sortedL ns).length = ns.length := by
  unfold Vt.sortedL
  rw [List.length_mergeSort, List.length_map]
def Vt.RootsPost (l : List Nd.N) (w : World) (e : Ending) (w' : World) : Prop :=
  ∃ p c, e = .returned (.tuple #[.slice p (Vt.rootsR l).length c, .int .i64 (Nd.chk l)]) ∧ (Vt.rootsR l).length ≤ c ∧ Wp.At Wp.mkT w' p (Vt.rootsR l) ∧ Below w.heap.size w w'
set_option maxRecDepth 100000 in
set_option maxHeartbeats 1000000 in
theorem vtRoots_any (l : List Nd.N) (q : Option Addr) (c : Nat) (w : World) (hn : l.length ≤ 140737488351232) (hA : Nd.Row w q l) (hts : ∀ t ∈ Nd.toksL l, t.text.size ≤ 4000000000) (hT : Sc.Laid w) (hM : Sc.MaxLen w) :
    Calls Tryz.prog 27 #[.slice q l.length c] w (Vt.RootsPost l w) := by
  have CC := Lib.hid (vtGath_Roots l q c w hn hA hts hT hM)
  have HS : ∀ e w', Vt.GPostR l w e w' → (((Vt.rootsR l = [] ∧ e = .returned (.tuple #[.slice none 0 0, .int .i64 (Nd.chk l)])) ∨ ∃ (ss : List (List UInt8)) (g cap : Nat) (cur : Array Value), Vt.rootsR l = (Lib.compact (ss.mergeSort fun x y => decide (x ≤ y))).map Wp.B ∧ ss.length ≤ 256 ∧ w.heap.size ≤ g ∧ w'.heap[g]? = some (.cells cur 9 (0, 0)) ∧ ss.length ≤ cap ∧ cap ≤ maxLen ∧ cur.size = cap * 1 ∧ cur.toList.take ss.length = ss.map encStr ∧ e = .returned (.tuple #[.slice (some ⟨g, 0, none⟩) ss.length cap, .int .i64 (Nd.chk l)])) ∧ Below w.heap.size w w') := by
    rintro e w' ⟨⟨hg, v, rfl, ho⟩ | ⟨hg, rfl⟩, hb⟩
    · refine ⟨?_, hb⟩
      rw [(Nd.chk_good).1 hg]
      have hlen := Vt.namesP_len (Vt.visL 1 false l)
      rw [Vt.visL_len] at hlen
      have hcnt := (Nd.good_okL hg).2
      have hR : Vt.rootsR l = (Lib.compact (Vt.sortedL (Vt.namesP (Vt.visL 1 false l)))).map Wp.B := by unfold Vt.rootsR; rw [hg]; rfl
      generalize Vt.namesP (Vt.visL 1 false l) = ns at *
      rcases ho.2 with ⟨rfl, h0⟩ | ⟨g, cap, cur, rfl, h1, h2, h3, h4, h5, h6⟩
      · left
        obtain rfl := List.length_eq_zero_iff.1 h0
        exact ⟨by rw [hR, show Vt.sortedL [] = [] from by unfold Vt.sortedL; simp]; rfl, rfl⟩
      · right
        rw [Nat.mul_one, Vt.mkT_enc] at h6
        exact ⟨ns.map (·.data.toList), g, cap, cur, (by rw [hR]; rfl), by rw [List.length_map]; omega, h1, h2, by rw [List.length_map]; exact h3, h4, h5, by rw [List.length_map]; exact h6, by rw [List.length_map]⟩
    · refine ⟨Or.inl ⟨by unfold Vt.rootsR; rw [hg]; rfl, ?_⟩, hb⟩
      rw [(Nd.chk_good).2 hg]
  have HS' := Lib.hid HS
  have HP : ∀ e w', Vt.RootsPost l w e w' ↔ ∃ p c, e = .returned (.tuple #[.slice p (Vt.rootsR l).length c, .int .i64 (Nd.chk l)]) ∧ (Vt.rootsR l).length ≤ c ∧ Wp.At Wp.mkT w' p (Vt.rootsR l) ∧ Below w.heap.size w w' := fun _ _ => Iff.rfl
  have HP' := Lib.hid HP
  clear hA hts hT hM HS HP
  generalize Vt.GPostR l w = Q at *
  generalize Vt.RootsPost l w = Post at *
  generalize Vt.rootsR l = R at *
  generalize Nd.chk l = z at *
  generalize l.length = n at *
  go_enter Tryz.func27, Tryz.ntmps27
  go_wp2_with fail
  refine (CC.out).mono ?_
  rintro e w1 hq
  obtain ⟨h, hb⟩ := HS'.out _ _ hq
  have HB := Lib.hid hb
  clear hb hq CC HS'
  rcases h with ⟨rfl, rfl⟩ | ⟨ss, g, cap, cur, rfl, h1, h2, h3, h4, h5, h6, h7, rfl⟩
  · go_wp2_with fail
    refine (Tryz.slices_Sort_string_none none 0 w1).mono ?_
    rintro e w2 ⟨rfl, rfl⟩
    go_wp2_with fail
    refine (Tryz.slices_Compact_string_empty none 0 w2).mono ?_
    rintro e w3 ⟨rfl, rfl⟩
    go_wp2_with fail
    exact (HP'.out _ _).2 ⟨none, 0, rfl, Nat.le_refl _, Or.inl rfl, HB.out⟩
  · have hs := HB.out.size
    have hgl : g < w1.heap.size := (Array.getElem?_eq_some_iff.1 h3).1
    have HC := Lib.hid (Tryz.slices_Sort_string g 0 cap ss w1 (holds_of_block h3 h7) hgl (by omega))
    obtain ⟨ts, hts⟩ : ∃ ts, ts = ss.mergeSort fun x y => decide (x ≤ y) := ⟨_, rfl⟩
    have htl : ts.length = ss.length := by rw [hts, List.length_mergeSort]
    rw [← hts] at HC HP'
    have HO : ∀ n os, (Go.Sort.grow (Go.Sort.putRow encStr (Go.Sort.ahead w1 n) g 0 ts.toArray) os).heap[g]? = some (.cells (Go.Sort.putCells encStr 0 ts.toArray cur) 9 (0, 0)) := fun n os => heap_sorted _ h3
    have HO' := Lib.hid HO
    have HT := Lib.hid (take_putCells cur ts (by omega))
    have HG : ∀ n os, w1.grownBy (Go.Sort.grow (Go.Sort.putRow encStr (Go.Sort.ahead w1 n) g 0 ts.toArray) os) (some g) := fun n os => grownBy_sorted _
    have HG' := Lib.hid HG
    obtain ⟨ds, hds⟩ : ∃ ds, ds = Lib.compact ts := ⟨_, rfl⟩
    have hdl : ds.length ≤ ts.length := by rw [hds]; exact Lib.compact_length_le ts
    have HCC := fun (w2 : World) (hh : Go.Sort.Holds encStr w2 g 0 ts.toArray) => Tryz.slices_Compact_string g 0 cap ts w2 hh (by omega) (by omega)
    rw [← hds] at HCC HP'
    have HCC' := Lib.hid HCC
    rw [← htl] at HC h4 ⊢
    have HL : ∃ k, k = ts.length := ⟨_, rfl⟩
    obtain ⟨k, hk⟩ := HL
    clear hts hds HCC HG HO h7 h3
    rw [← hk] at HC HCC' HT h4 hdl htl ⊢
    have HL := Lib.hid hk
    have hk2 : k ≤ 256 := by omega
    clear hk htl
    go_wp2_with fail
    refine (HC.out).mono ?_
    rintro e w2 ⟨rfl, n2, os, hw2⟩
    have hg2 := HG'.out n2 os
    have ho2 := HO'.out n2 os
    rw [← hw2] at hg2 ho2
    have hH2 : Go.Sort.Holds encStr w2 g 0 ts.toArray := holds_of_block ho2 (by rw [← HL.out]; exact HT.out)
    have hs2 := hg2.size
    have HB2 := Lib.hid (HB.out.grown hg2 HB.out.size (fun j e => by cases e; exact h2))
    have HC2 := Lib.hid (HCC'.out w2 hH2)
    have HH2 := Lib.hid hH2
    clear hw2 HC HG' HO' hg2 ho2 hH2 HCC'
    generalize hm : ds.length = m at *
    go_wp2_with fail
    refine (HC2.out).mono ?_
    rintro e w3 ⟨rfl, n3, hw3⟩
    have HW3 := Lib.hid hw3
    have HMM := Lib.hid hm
    clear HC2 hw3 hm
    go_wp2_with fail
    refine (HP'.out _ _).2 ⟨some ⟨g, 0, none⟩, cap, by rw [List.length_map, HMM.out]; rfl, by rw [List.length_map, HMM.out]; omega, Or.inr ⟨g, 0, rfl, fun i hi => ?_⟩, ?_⟩
    · rw [List.length_map] at hi
      have e1 : (ds ++ List.replicate (k - m) []).toArray.size = ts.toArray.size := by
        have := HMM.out; have := HL.out
        simp; omega
      have hp := Go.Sort.holds_putRow encStr (Go.Sort.ahead w2 n3) g 0 ts.toArray (ds ++ List.replicate (k - m) []).toArray HH2.out e1
      have hi2 : i < (ds ++ List.replicate (k - m) []).toArray.size := by simp; omega
      have h9 := (hp i hi2).1
      rw [← HW3.out, getElem!_pos _ _ (by exact hi2)] at h9
      rw [h9, List.getElem_map]
      simp [List.getElem_append_left hi, Wp.mkT, Wp.B]
    · rw [HW3.out]
      have hg3 := grownBy_sorted (w := w2) (g := g) (n := n3) (os := #[]) (ds ++ List.replicate (k - m) []).toArray
      rw [Go.Sort.grow_empty] at hg3
      exact HB2.out.grown hg3 HB2.out.size (fun j e => by cases e; exact h2)
end Go.Proofs.YteajjlilpikdeaaGreatDoor
namespace Go.Proofs.YteajjlilpikdeaaGreatDoor
open Go.RowKit Go.Lib Go.Shelf

set_option maxHeartbeats 2000000 in
set_option maxRecDepth 100000 in
theorem st_index (l : List ByteArray) (p : Option Addr) (c : Nat) (g : Nat) (lb : Array Value) (eg : ∀ args w, (callFunc g args).run Tryz.prog w = .ok (.enter g args) w) (w : World) (P : Nat → Bool) (I : Nat → World → Prop) (hn : l.length ≤ 140737488351232)
    (hA : ∀ k W, I k W → Wp.At Wp.mkT W p l)
    (hc : ∀ k (hk : k < l.length), (∀ j, j < k → P j = false) → ∀ W, I k W → Calls Tryz.prog g (#[.string l[k]] ++ lb) W fun e w' => e = .returned (.bool (P k)) ∧ I (k + 1) w')
    (h0 : I 0 w) : Calls Tryz.prog 108 #[.slice p l.length c, .func (.func g) #[] lb] w (Vl.Idx l.length P I) := by
  have HA := Lib.hid hA
  have HC := Lib.hid hc
  have H0 := Lib.hid h0
  clear hA hc h0
  obtain ⟨n, hnl⟩ : ∃ n, n = l.length := ⟨_, rfl⟩
  have Hn := Lib.hid hnl
  rw [← hnl] at hn ⊢
  clear hnl
  go_enter Tryz.func108, Tryz.ntmps108
  go_wp2
  go_loopg [5, 8] n (fun gg _ s8 wr => ∃ kk : Nat, kk ≤ n ∧ n - kk ≤ gg ∧ s8 = .int .i64 kk ∧ Aside (I kk wr) ∧ Aside (∀ j, j < kk → P j = false))
  case atStart => exact ⟨0, Nat.zero_le _, by omega, rfl, H0.out, fun j hj => absurd hj (Nat.not_lt_zero _)⟩
  case round =>
    obtain ⟨kk, hkk, hg, rfl, BI, A⟩ := hrel
    by_cases hlt : kk < n
    · have hltz : (kk : Int) < (n : Int) := by omega
      have hkl : kk < l.length := by rw [← Hn.out]; exact hlt
      obtain ⟨b, off, rfl, e1⟩ := (HA.out kk wr BI.out).get kk hkl
      rw [show Wp.mkT l[kk] = Value.string l[kk] from rfl] at e1
      have hcall := HC.out kk hkl A.out wr BI.out
      generalize l[kk] = y at e1 hcall
      clear hkl
      cases hq : P kk with
      | true =>
        rw [hq] at hcall
        have HK := Lib.hid hcall
        have HQ := Lib.hid hq
        clear hcall hq
        go_wp2_with fail
        refine HK.out.mono ?_
        rintro e w' ⟨rfl, hb'⟩
        clear e1
        go_wp2_with fail
        go_ret
        exact Or.inl ⟨kk, hlt, HQ.out, A.out, rfl, hb'⟩
      | false =>
        rw [hq] at hcall
        have HK := Lib.hid hcall
        have HQ := Lib.hid hq
        clear hcall hq
        go_wp2_with fail
        refine HK.out.mono ?_
        rintro e w' ⟨rfl, hb'⟩
        clear e1
        go_wp2_with fail
        go_roundg (n - (kk + 1))
        case measure => omega
        case rel =>
          refine ⟨kk + 1, by omega, by omega, by go_num, hb', (show Aside _ from fun j hj => ?_)⟩
          by_cases e : j = kk
          · subst e; exact HQ.out
          · exact A.out j (by omega)
    · have hltz : ¬ (kk : Int) < (n : Int) := by omega
      have : kk = n := by omega
      subst this
      go_wp2
      go_ret
      exact Or.inr ⟨A.out, rfl, BI.out⟩
set_option maxRecDepth 100000 in
theorem st_contains (l : List ByteArray) (p : Option Addr) (c : Nat) (g : Nat) (lb : Array Value) (eg : ∀ args w, (callFunc g args).run Tryz.prog w = .ok (.enter g args) w) (w : World) (P : Nat → Bool) (I : Nat → World → Prop) (hn : l.length ≤ 140737488351232)
    (hA : ∀ k W, I k W → Wp.At Wp.mkT W p l)
    (hc : ∀ k (hk : k < l.length), (∀ j, j < k → P j = false) → ∀ W, I k W → Calls Tryz.prog g (#[.string l[k]] ++ lb) W fun e w' => e = .returned (.bool (P k)) ∧ I (k + 1) w')
    (h0 : I 0 w) : Calls Tryz.prog 74 #[.slice p l.length c, .func (.func g) #[] lb] w (Vl.Any l.length P I) := by
  have H1 := Lib.hid (st_index l p c g lb eg w P I hn hA hc h0)
  clear hA hc h0 eg
  generalize l.length = n at *
  go_enter Tryz.func74, Tryz.ntmps74
  go_wp2_with fail
  refine H1.out.mono ?_
  rintro e w' (⟨k, h1, h2, h3, rfl, h4⟩ | ⟨h1, rfl, h2⟩)
  · have hk : (0 : Int) ≤ (k : Int) := by omega
    have H3 := Lib.hid h3
    have h2' := Lib.hid h2
    clear h2 h3
    go_wp2_with fail
    go_ret
    exact Or.inl ⟨k, h1, h2'.out, H3.out, rfl, h4⟩
  · have h1' := Lib.hid h1
    clear h1
    go_wp2_with fail
    go_ret
    exact Or.inr ⟨h1'.out, rfl, h2⟩
theorem st_has (names : List ByteArray) (s : ByteArray) (pn : Option Addr) (cn : Nat) (w : World) (hN : Wp.At Wp.mkT w pn names) (hn : names.length ≤ 140737488351232) :
    Calls Tryz.prog 73 #[.slice pn names.length cn, .string s] w fun e w' => e = .returned (.bool (containsS names s)) ∧ w' = w := by
  cases names with
  | nil => exact Tryz.slices_Contains_string_empty pn cn s w
  | cons a names =>
    rcases hN with h | ⟨b, off, rfl, hc⟩
    · cases h
    · have h := Tryz.slices_Contains_string b off (a :: names).length cn (a :: names) s w (Nat.le_refl _) (by omega) (fun j hj => by rw [hc j hj, List.getD_eq_getElem?_getD, List.getElem?_eq_getElem hj]; rfl)
      rw [List.take_length] at h
      exact h
set_option maxRecDepth 100000 in
theorem vtOnly1 (names : List ByteArray) (s : ByteArray) (pn : Option Addr) (cn bx : Nat) (w : World) (hN : Wp.At Wp.mkT w pn names) (hn : names.length ≤ 140737488351232) (hb : w.cell? ⟨bx, 0, none⟩ = some (.slice pn names.length cn)) :
    Calls Tryz.prog 72 #[.string s, .pointer (some ⟨bx, 0, none⟩)] w fun e w' => e = .returned (.bool (!containsS names s)) ∧ w' = w := by
  have C := Lib.hid (st_has names s pn cn w hN hn)
  clear hN
  generalize containsS names s = z at *
  generalize names.length = n at *
  go_enter Tryz.func72, Tryz.ntmps72
  go_wp2_with fail
  refine C.out.mono ?_
  rintro e w1 ⟨rfl, rfl⟩
  go_wp2_with fail
  go_ret
  exact ⟨rfl, rfl⟩
/-- Whether there are no roots but these. -/
def Vt.onlyR (l : List Nd.N) (names : List ByteArray) : Int := if Nd.good l then (if (Vt.rootsR l).any (fun s => !containsS names s) then 13 else 0) else 2
theorem Vt.any_of {l : List ByteArray} {f : ByteArray → Bool} {P : Nat → Bool} (hP : ∀ k (hk : k < l.length), P k = f l[k]) : ((∃ k, k < l.length ∧ P k = true) → l.any f = true) ∧ ((∀ j, j < l.length → P j = false) → l.any f = false) := by
  constructor
  · rintro ⟨k, hk, h⟩
    rw [List.any_eq_true]
    exact ⟨l[k], List.getElem_mem hk, by rw [← hP k hk]; exact h⟩
  · intro h
    rw [List.any_eq_false]
    intro x hx
    obtain ⟨k, hk, rfl⟩ := List.mem_iff_getElem.1 hx
    rw [← hP k hk, h k hk]
    decide
theorem vtOnly2 (R names : List ByteArray) (p pn : Option Addr) (c cn bx : Nat) (w : World) (hR : R.length ≤ 140737488351232) (hA : Wp.At Wp.mkT w p R) (hN : Wp.At Wp.mkT w pn names) (hn : names.length ≤ 140737488351232) (hb : w.cell? ⟨bx, 0, none⟩ = some (.slice pn names.length cn)) :
    Calls Tryz.prog 74 #[.slice p R.length c, .func (.func 72) #[] #[.pointer (some ⟨bx, 0, none⟩)]] w fun e w' => e = .returned (.bool (R.any (fun s => !containsS names s))) ∧ w' = w := by
  have hP : ∀ k (hk : k < R.length), (fun k => !containsS names (R.getD k ByteArray.empty)) k = (fun s => !containsS names s) R[k] := fun k hk => by
    show (!containsS names (R.getD k ByteArray.empty)) = !containsS names R[k]
    rw [List.getD_eq_getElem?_getD, List.getElem?_eq_getElem hk]; rfl
  refine (st_contains R p c 72 #[.pointer (some ⟨bx, 0, none⟩)] (enters_of Tryz.func72 (by kernel_rfl) rfl) w (fun k => !containsS names (R.getD k ByteArray.empty)) (fun _ W => W = w) hR (fun k W e => by subst e; exact hA) (fun k hk _ W e => by
    subst e
    refine (vtOnly1 names R[k] pn cn bx W hN hn hb).mono fun e w' h => ⟨?_, h.2⟩
    have h9 := hP k hk
    dsimp only at h9
    rw [h9]; exact h.1) rfl).mono ?_
  rintro e w' (⟨k, h1, h2, h3, rfl, h4⟩ | ⟨h1, rfl, h2⟩)
  · exact ⟨by rw [(Vt.any_of hP).1 ⟨k, h1, h2⟩], h4⟩
  · exact ⟨by rw [(Vt.any_of hP).2 h1], h2⟩
theorem Vt.rootsR_len (l : List Nd.N) : (Vt.rootsR l).length ≤ 256 := by
  unfold Vt.rootsR
  split
  · rename_i hg
    rw [List.length_map]
    have h1 := Lib.compact_length_le (Vt.sortedL (Vt.namesP (Vt.visL 1 false l)))
    have h2 := Vt.sorted_len (Vt.namesP (Vt.visL 1 false l))
    have h3 := Vt.namesP_len (Vt.visL 1 false l)
    rw [Vt.visL_len] at h3
    have h4 := (Nd.good_okL hg).2
    omega
  · exact Nat.zero_le _
set_option maxRecDepth 100000 in
set_option maxHeartbeats 1000000 in
theorem vtOnly_any (l : List Nd.N) (q : Option Addr) (c : Nat) (names : List ByteArray) (pn : Option Addr) (cn : Nat) (w : World) (hn : l.length ≤ 140737488351232) (hA : Nd.Row w q l) (hts : ∀ t ∈ Nd.toksL l, t.text.size ≤ 4000000000) (hT : Sc.Laid w) (hM : Sc.MaxLen w) (hN : Wp.At Wp.mkT w pn names) (hnn : names.length ≤ 140737488351232) :
    Calls Tryz.prog 36 #[.slice q l.length c, .slice pn names.length cn] w fun e w' => e = .returned (.int .i64 (Vt.onlyR l names)) ∧ Below w.heap.size w w' := by
  have hb0 := (Below.refl w.heap.size w).alloc (Nat.le_refl _) (.cells #[.slice pn names.length cn] 35)
  have HB0 := Lib.hid hb0
  have CC := Lib.hid (vtRoots_any l q c _ hn (hA.below hb0) hts (hT.below hb0) (hM.below hb0))
  have HS : ∀ e w', Vt.RootsPost l (w.alloc (.cells #[.slice pn names.length cn] 35)) e w' → ((Nd.good l = true ∧ Nd.chk l = 0) ∨ (Nd.good l = false ∧ Nd.chk l = 2)) ∧ ∃ p c, e = .returned (.tuple #[.slice p (Vt.rootsR l).length c, .int .i64 (Nd.chk l)]) ∧ Wp.At Wp.mkT w' p (Vt.rootsR l) ∧ Below (w.alloc (.cells #[.slice pn names.length cn] 35)).heap.size (w.alloc (.cells #[.slice pn names.length cn] 35)) w' := by
    rintro e w' ⟨p, c, h1, _, h2, h3⟩
    refine ⟨?_, p, c, h1, h2, h3⟩
    cases hg : Nd.good l with
    | true => exact Or.inl ⟨rfl, (Nd.chk_good).1 hg⟩
    | false => exact Or.inr ⟨rfl, (Nd.chk_good).2 hg⟩
  have HS' := Lib.hid HS
  have hRl := Vt.rootsR_len l
  have HO1 := Lib.hid (show Nd.good l = true → Vt.onlyR l names = if (Vt.rootsR l).any (fun s => !containsS names s) then 13 else 0 from fun h => by unfold Vt.onlyR; rw [h]; rfl)
  have HO2 := Lib.hid (show Nd.good l = false → Vt.onlyR l names = 2 from fun h => by unfold Vt.onlyR; rw [h]; rfl)
  have HN := Lib.hid hN
  have hnew : (w.alloc (.cells #[.slice pn names.length cn] 35)).cell? ⟨w.heap.size, 0, none⟩ = some (.slice pn names.length cn) := by rw [Lib.cell_of_heap (Vl.new w _)]; rfl
  have HNW := Lib.hid hnew
  have hsz : (w.alloc (.cells #[.slice pn names.length cn] 35)).heap.size = w.heap.size + 1 := World.size_alloc _ _
  have HC2 := Lib.hid (fun (R : List ByteArray) (p : Option Addr) (c : Nat) (W : World) (h1 : R.length ≤ 140737488351232) (h2 : Wp.At Wp.mkT W p R) (h3 : Wp.At Wp.mkT W pn names) (h4 : W.cell? ⟨w.heap.size, 0, none⟩ = some (.slice pn names.length cn)) => vtOnly2 R names p pn c cn w.heap.size W h1 h2 h3 hnn h4)
  clear hA hts hT hM HS hb0 hN hnew
  generalize Vt.RootsPost l (w.alloc (.cells #[.slice pn names.length cn] 35)) = Q at *
  generalize Vt.onlyR l names = out at *
  obtain ⟨k, hk⟩ : ∃ k, k = names.length := ⟨_, rfl⟩
  rw [← hk] at HB0 CC HS' HNW HC2 hsz hnn ⊢
  generalize Vt.rootsR l = R at *
  generalize Nd.chk l = z at *
  generalize Nd.good l = good at *
  generalize l.length = n at *
  obtain ⟨m, hm⟩ : ∃ m, m = R.length := ⟨_, rfl⟩
  have HM := Lib.hid hm
  rw [← hm] at HS' hRl
  clear hk hm
  go_enter Tryz.func36, Tryz.ntmps36
  go_wp2_with fail
  refine (CC.out).mono ?_
  rintro e w1 hq
  obtain ⟨h, p, c1, rfl, ha, hb⟩ := HS'.out _ _ hq
  have HB := Lib.hid (HB0.out.trans (hb.mono HB0.out.size))
  have HA := Lib.hid ha
  have HK := Lib.hid ((hb.cell (show w.heap.size < _ by rw [hsz]; omega)).trans HNW.out)
  clear ha hq CC HS' hb
  rcases h with ⟨hg, rfl⟩ | ⟨hg, rfl⟩
  · have HC := Lib.hid (HC2.out R p c1 w1 (by have := HM.out; omega) HA.out (HN.out.below HB.out) HK.out)
    rw [← HM.out] at HC
    have hO := HO1.out hg
    clear HC2 HO1 HO2
    cases hb : R.any (fun s => !containsS names s) with
    | true =>
      rw [hb] at HC hO
      obtain rfl : out = 13 := hO
      clear hb
      go_wp2_with fail
      refine (HC.out).mono ?_
      rintro e w2 ⟨rfl, rfl⟩
      go_wp2_with fail
      go_ret
      exact ⟨rfl, HB.out⟩
    | false =>
      rw [hb] at HC hO
      obtain rfl : out = 0 := hO
      clear hb
      go_wp2_with fail
      refine (HC.out).mono ?_
      rintro e w2 ⟨rfl, rfl⟩
      go_wp2_with fail
      go_ret
      exact ⟨rfl, HB.out⟩
  · obtain rfl := HO2.out hg
    clear HO1 HO2 HC2
    go_wp2_with fail
    go_ret
    exact ⟨rfl, HB.out⟩
end Go.Proofs.YteajjlilpikdeaaGreatDoor
namespace Go.Proofs.YteajjlilpikdeaaGreatDoor
open Go.Lib

theorem Vt.compact_up {α : Type} [Inhabited α] [DecidableEq α] (d : Array α) : ∀ m j, j < m → d[j]! ∈ compactUpTo d m
  | 0, j, h => absurd h (Nat.not_lt_zero _)
  | m + 1, j, h => by
    rw [compactUpTo_succ, List.mem_append]
    by_cases hj : j < m
    · exact Or.inl (Vt.compact_up d m j hj)
    · obtain rfl : j = m := by omega
      by_cases hk : Lib.keeps d j = true
      · exact Or.inr (by rw [if_pos hk]; exact List.mem_singleton.2 rfl)
      · left
        have h1 : ¬ (j = 0 ∨ d[j]! ≠ d[j - 1]!) := fun e => hk (by unfold Lib.keeps; exact decide_eq_true e)
        have h2 : j ≠ 0 := fun e => h1 (Or.inl e)
        have h3 : d[j]! = d[j - 1]! := Classical.byContradiction fun e => h1 (Or.inr e)
        rw [h3]
        exact Vt.compact_up d j (j - 1) (by omega)
theorem Vt.mem_compact {α : Type} [Inhabited α] [DecidableEq α] (zs : List α) (x : α) : x ∈ compact zs ↔ x ∈ zs := by
  constructor
  · intro h
    unfold compact compactUpTo at h
    obtain ⟨j, hj, rfl⟩ := List.mem_map.1 h
    have hj2 : j < zs.length := List.mem_range.1 (List.mem_filter.1 hj).1
    have : zs.toArray[j]! = zs[j] := by simp [hj2]
    rw [this]
    exact List.getElem_mem hj2
  · intro h
    obtain ⟨j, hj, rfl⟩ := List.mem_iff_getElem.1 h
    have : zs.toArray[j]! = zs[j] := by simp [hj]
    rw [← this]
    exact Vt.compact_up _ _ _ hj
/-- A name that counts. -/
def Vt.isRoot (x : ByteArray) : Bool := !(x.toList == []) && !(x.toList == [116, 104, 105, 115])
theorem Vt.putR_eq (ns p : List ByteArray) : Vt.putR ns p = if Vt.isRoot (Vt.rt p) then ns ++ [Vt.rt p] else ns := by
  unfold Vt.putR Vt.isRoot
  cases (Vt.rt p).toList == [] <;> cases (Vt.rt p).toList == [116, 104, 105, 115] <;> simp
theorem Vt.foldR_mem (x : ByteArray) (ps : List Vt.P) : ∀ ns : List ByteArray, x ∈ ps.foldl (fun ns p => Vt.putR ns p.node.path) ns ↔ x ∈ ns ∨ ∃ p ∈ ps, Vt.rt p.node.path = x ∧ Vt.isRoot x = true := by
  induction ps with
  | nil => intro ns; simp
  | cons p ps ih =>
    intro ns
    rw [List.foldl_cons, ih, Vt.putR_eq]
    constructor
    · rintro (h | ⟨p', h1, h2⟩)
      · by_cases hr : Vt.isRoot (Vt.rt p.node.path) = true
        · rw [if_pos hr, List.mem_append, List.mem_singleton] at h
          rcases h with h | h
          · exact Or.inl h
          · exact Or.inr ⟨p, List.mem_cons_self .., h.symm, by rw [h]; exact hr⟩
        · rw [if_neg hr] at h
          exact Or.inl h
      · exact Or.inr ⟨p', List.mem_cons_of_mem _ h1, h2⟩
    · rintro (h | ⟨p', h1, h2, h3⟩)
      · left
        split
        · exact List.mem_append_left _ h
        · exact h
      · rcases List.mem_cons.1 h1 with rfl | h1
        · left
          rw [h2, if_pos h3]
          exact List.mem_append_right _ (List.mem_singleton.2 rfl)
        · exact Or.inr ⟨p', h1, h2, h3⟩
theorem Vt.mem_names (x : ByteArray) (ps : List Vt.P) : x ∈ Vt.namesP ps ↔ ∃ p ∈ ps, Vt.rt p.node.path = x ∧ Vt.isRoot x = true := by
  unfold Vt.namesP
  rw [Vt.foldR_mem]
  simp
theorem Vt.B_data2 (x : ByteArray) : Wp.B x.data.toList = x := by cases x; simp [Wp.B]
theorem Vt.mem_sorted (x : List UInt8) (ns : List ByteArray) : x ∈ Vt.sortedL ns ↔ Wp.B x ∈ ns := by
  unfold Vt.sortedL
  rw [List.mem_mergeSort, List.mem_map]
  constructor
  · rintro ⟨s, h, rfl⟩
    rw [Vt.B_data2]; exact h
  · intro h
    exact ⟨_, h, by simp [Wp.B]⟩
theorem Vt.mem_roots {l : List Nd.N} (hg : Nd.good l = true) (x : ByteArray) : x ∈ Vt.rootsR l ↔ ∃ p ∈ Vt.visL 1 false l, Vt.rt p.node.path = x ∧ Vt.isRoot x = true := by
  unfold Vt.rootsR
  rw [if_pos hg, List.mem_map, ← Vt.mem_names]
  constructor
  · rintro ⟨s, h, rfl⟩
    exact (Vt.mem_sorted _ _).1 ((Vt.mem_compact _ _).1 h)
  · intro h
    exact ⟨x.data.toList, (Vt.mem_compact _ _).2 ((Vt.mem_sorted _ _).2 (by rw [Vt.B_data2]; exact h)), Vt.B_data2 x⟩
/- The nodes of all places, whatever the level. -/
mutual
theorem Vt.visN_node (a b : Nat) (i j : Bool) : ∀ n : Nd.N, (Vt.visN a i n).map (·.node) = (Vt.visN b j n).map (·.node)
  | .mk k t p kids els => by
    rw [Vt.visN, Vt.visN, List.map_cons, List.map_cons, List.map_append, List.map_append, Vt.visL_node (a + 1) (b + 1) _ (j || k == 5) kids, Vt.visL_node (a + 1) (b + 1) _ j els]
theorem Vt.visL_node (a b : Nat) (i j : Bool) : ∀ l : List Nd.N, (Vt.visL a i l).map (·.node) = (Vt.visL b j l).map (·.node)
  | [] => by rw [Vt.visL, Vt.visL] <;> rfl
  | n :: l => by
    rw [Vt.visL, Vt.visL, List.map_append, List.map_append, Vt.visN_node a b i j n, Vt.visL_node a b i j l]
end
/- One level further in. -/
mutual
theorem Vt.visN_lev (a : Nat) (i j : Bool) : ∀ n : Nd.N, (Vt.visN (a + 1) i n).map (·.lev) = (Vt.visN a j n).map (fun p => p.lev + 1)
  | .mk k t p kids els => by
    rw [Vt.visN, Vt.visN, List.map_cons, List.map_cons, List.map_append, List.map_append, Vt.visL_lev (a + 1) _ (j || k == 5) kids, Vt.visL_lev (a + 1) _ j els]
theorem Vt.visL_lev (a : Nat) (i j : Bool) : ∀ l : List Nd.N, (Vt.visL (a + 1) i l).map (·.lev) = (Vt.visL a j l).map (fun p => p.lev + 1)
  | [] => by rw [Vt.visL, Vt.visL] <;> rfl
  | n :: l => by
    rw [Vt.visL, Vt.visL, List.map_append, List.map_append, Vt.visN_lev a i j n, Vt.visL_lev a i j l]
end
/- Within an each all places are. -/
mutual
theorem Vt.visN_ie (a : Nat) : ∀ n : Nd.N, ∀ p ∈ Vt.visN a true n, p.ie = true
  | .mk k t q kids els => by
    intro p hp
    rw [Vt.visN, List.mem_cons, List.mem_append, Bool.true_or] at hp
    rcases hp with rfl | h | h
    · rfl
    · exact Vt.visL_ie (a + 1) kids p h
    · exact Vt.visL_ie (a + 1) els p h
theorem Vt.visL_ie (a : Nat) : ∀ l : List Nd.N, ∀ p ∈ Vt.visL a true l, p.ie = true
  | [] => by intro p hp; rw [Vt.visL] at hp; cases hp
  | n :: l => by
    intro p hp
    rw [Vt.visL, List.mem_append] at hp
    rcases hp with h | h
    · exact Vt.visN_ie a n p h
    · exact Vt.visL_ie a l p h
end
theorem Vt.fmax (l : List Nat) : ∀ a : Nat, l.foldl max a = max a (l.foldl max 0) := by
  induction l with
  | nil => intro a; simp
  | cons x l ih =>
    intro a
    rw [List.foldl_cons, List.foldl_cons, ih (max a x), ih (max 0 x)]
    omega
theorem Vt.fmax1 (l : List Nat) : max 1 ((l.map (· + 1)).foldl max 0) = l.foldl max 0 + 1 := by
  induction l with
  | nil => rfl
  | cons x l ih =>
    rw [List.map_cons, List.foldl_cons, List.foldl_cons, Vt.fmax _ (max 0 (x + 1)), Vt.fmax _ (max 0 x)]
    omega
theorem Vt.dep_append (a b : List Vt.P) : Vt.dep (a ++ b) = max (Vt.dep a) (Vt.dep b) := by
  unfold Vt.dep
  rw [List.map_append, List.foldl_append, Vt.fmax]
theorem Vt.plen_append (a b : List Vt.P) : Vt.plen (a ++ b) = Vt.plen a + Vt.plen b := by
  unfold Vt.plen
  rw [List.map_append, List.sum_append]
theorem Vt.dep_cons (p : Vt.P) (a : List Vt.P) : Vt.dep (p :: a) = max p.lev (Vt.dep a) := by
  unfold Vt.dep
  rw [List.map_cons, List.foldl_cons, Vt.fmax]
  omega
/-- The template within an each is a level deeper. -/
theorem Vt.dep_within (k : Nat) (t : ByteArray) (p : List ByteArray) (l : List Nd.N) : Vt.dep (Vt.visL 1 false [.mk k t p l []]) = Vt.dep (Vt.visL 1 false l) + 1 := by
  rw [Vt.visL_cons, Vt.visL_nil, List.append_nil, Vt.visN_eq]
  show Vt.dep (_ :: (Vt.visL 2 _ l ++ Vt.visL 2 false [])) = _
  rw [Vt.visL_nil, List.append_nil, Vt.dep_cons]
  unfold Vt.dep
  rw [Vt.visL_lev 1 _ false l]
  have h := Vt.fmax1 ((Vt.visL 1 false l).map (·.lev))
  rw [List.map_map] at h
  exact h
/-- There is no root but these just where each root is one of these. -/
theorem Vt.only_zero {l : List Nd.N} (hg : Nd.good l = true) (names : List ByteArray) : (Vt.onlyR l names = 0 ↔ ∀ x ∈ Vt.rootsR l, x ∈ names) ∧ (Vt.onlyR l names = 0 ∨ Vt.onlyR l names = 13) := by
  unfold Vt.onlyR
  rw [if_pos hg]
  cases h : (Vt.rootsR l).any (fun s => !containsS names s) with
  | true =>
    refine ⟨⟨fun e => by simp at e, fun e => ?_⟩, Or.inr rfl⟩
    obtain ⟨x, hx, hn⟩ := List.any_eq_true.1 h
    rw [(containsS_iff names x).2 (e x hx)] at hn
    cases hn
  | false =>
    refine ⟨⟨fun _ x hx => ?_, fun _ => rfl⟩, Or.inl rfl⟩
    have := List.any_eq_false.1 h x hx
    rw [← containsS_iff]
    simpa using this
theorem Vt.this_within (t : ByteArray) (a : ByteArray) (p : List ByteArray) (l : List Nd.N) (hg : Nd.good [.mk 5 t (a :: p) l []] = true) (ha : (a.toList == [116, 104, 105, 115]) = false) : Vt.thisR [.mk 5 t (a :: p) l []] = 0 := by
  unfold Vt.thisR
  rw [if_pos hg, if_neg]
  rw [Bool.not_eq_true, List.any_eq_false]
  intro x hx
  rw [Vt.visL_cons, Vt.visL_nil, List.append_nil, Vt.visN_eq, List.mem_cons, List.mem_append] at hx
  unfold Vt.astray
  rcases hx with rfl | h | h
  · show ¬ (!false && ((Vt.rt (a :: p)).toList == [116, 104, 105, 115])) = true
    rw [show Vt.rt (a :: p) = a from rfl, ha]
    decide
  · have h := Vt.visL_ie 2 l x h
    rw [h]
    simp
  · change x ∈ Vt.visL 2 false [] at h
    rw [Vt.visL_nil] at h
    cases h
end Go.Proofs.YteajjlilpikdeaaGreatDoor
