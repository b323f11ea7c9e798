/-
  The walk of vet's Roots. Conditions: lists are of a size that a machine holds, texts of one that the walks hold.
  The walk of vet's Only, and of slices.ContainsFunc at texts with whatever closure. Conditions: lists are of a size that a machine holds, texts of one that the walks hold.
-/
import Derived.Test.YteiccjakaabfnaaGreatDoorVtGathR
import Derived.Test.YteiccjakaabfnaaGreatDoorShelf
import Derived.Sort.OwnSorted
import Derived.Lib.RowBridge
namespace Go.Proofs.YteiccjakaabfnaaGreatDoor
open Go.RowKit Go.Shelf

/-- The roots of right nodes. -/
def Vt.sortedL (ns : List ByteArray) : List (List UInt8) := (ns.map (·.data.toList)).mergeSort fun x y => decide (x ≤ y)
def Vt.rootsR (l : List Nd.N) : List ByteArray := if Nd.good l then (Lib.compact (Vt.sortedL (Vt.namesP (Vt.visL 1 false l)))).map Wp.B else []
theorem Vt.mkT_enc (ns : List ByteArray) : ns.map Wp.mkT = (ns.map (·.data.toList)).map encStr := by
  rw [List.map_map]
  refine List.map_congr_left fun s _ => ?_
  cases s
  simp [Wp.mkT, encStr]
theorem Vt.sorted_len (ns : List ByteArray) : (Vt.sortedL ns).length = ns.length := by
  unfold Vt.sortedL
  rw [List.length_mergeSort, List.length_map]
def Vt.RootsPost (l : List Nd.N) (w : World) (e : Ending) (w' : World) : Prop :=
  ∃ p c, e = .returned (.tuple #[.slice p (Vt.rootsR l).length c, .int .i64 (Nd.chk l)]) ∧ (Vt.rootsR l).length ≤ c ∧ Wp.At Wp.mkT w' p (Vt.rootsR l) ∧ Below w.heap.size w w'
set_option maxRecDepth 100000 in
set_option maxHeartbeats 1000000 in
theorem vtRoots_any (l : List Nd.N) (q : Option Addr) (c : Nat) (w : World) (hn : l.length ≤ 140737488351232) (hA : Nd.Row w q l) (hts : ∀ t ∈ Nd.toksL l, t.text.size ≤ 4000000000) (hT : Sc.Laid w) (hM : Sc.MaxLen w) :
    Calls Tryz.prog 14 #[.slice q l.length c] w (Vt.RootsPost l w) := by
  have CC := Lib.hid (vtGath_Roots l q c w hn hA hts hT hM)
  have HS : ∀ e w', Vt.GPostR l w e w' → (((Vt.rootsR l = [] ∧ e = .returned (.tuple #[.slice none 0 0, .int .i64 (Nd.chk l)])) ∨ ∃ (ss : List (List UInt8)) (g cap : Nat) (cur : Array Value), Vt.rootsR l = (Lib.compact (ss.mergeSort fun x y => decide (x ≤ y))).map Wp.B ∧ ss.length ≤ 256 ∧ w.heap.size ≤ g ∧ w'.heap[g]? = some (.cells cur 9 (0, 0)) ∧ ss.length ≤ cap ∧ cap ≤ maxLen ∧ cur.size = cap * 1 ∧ cur.toList.take ss.length = ss.map encStr ∧ e = .returned (.tuple #[.slice (some ⟨g, 0, none⟩) ss.length cap, .int .i64 (Nd.chk l)])) ∧ Below w.heap.size w w') := by
    rintro e w' ⟨⟨hg, v, rfl, ho⟩ | ⟨hg, rfl⟩, hb⟩
    · refine ⟨?_, hb⟩
      rw [(Nd.chk_good).1 hg]
      have hlen := Vt.namesP_len (Vt.visL 1 false l)
      rw [Vt.visL_len] at hlen
      have hcnt := (Nd.good_okL hg).2
      have hR : Vt.rootsR l = (Lib.compact (Vt.sortedL (Vt.namesP (Vt.visL 1 false l)))).map Wp.B := by unfold Vt.rootsR; rw [hg]; rfl
      generalize Vt.namesP (Vt.visL 1 false l) = ns at *
      rcases ho.2 with ⟨rfl, h0⟩ | ⟨g, cap, cur, rfl, h1, h2, h3, h4, h5, h6⟩
      · left
        obtain rfl := List.length_eq_zero_iff.1 h0
        exact ⟨by rw [hR, show Vt.sortedL [] = [] from by unfold Vt.sortedL; simp]; rfl, rfl⟩
      · right
        rw [Nat.mul_one, Vt.mkT_enc] at h6
        exact ⟨ns.map (·.data.toList), g, cap, cur, (by rw [hR]; rfl), by rw [List.length_map]; omega, h1, h2, by rw [List.length_map]; exact h3, h4, h5, by rw [List.length_map]; exact h6, by rw [List.length_map]⟩
    · refine ⟨Or.inl ⟨by unfold Vt.rootsR; rw [hg]; rfl, ?_⟩, hb⟩
      rw [(Nd.chk_good).2 hg]
  have HS' := Lib.hid HS
  have HP : ∀ e w', Vt.RootsPost l w e w' ↔ ∃ p c, e = .returned (.tuple #[.slice p (Vt.rootsR l).length c, .int .i64 (Nd.chk l)]) ∧ (Vt.rootsR l).length ≤ c ∧ Wp.At Wp.mkT w' p (Vt.rootsR l) ∧ Below w.heap.size w w' := fun _ _ => Iff.rfl
  have HP' := Lib.hid HP
  clear hA hts hT hM HS HP
  generalize Vt.GPostR l w = Q at *
  generalize Vt.RootsPost l w = Post at *
  generalize Vt.rootsR l = R at *
  generalize Nd.chk l = z at *
  generalize l.length = n at *
  go_enter Tryz.func14, Tryz.ntmps14
  go_wp2_with fail
  refine (CC.out).mono ?_
  rintro e w1 hq
  obtain ⟨h, hb⟩ := HS'.out _ _ hq
  have HB := Lib.hid hb
  clear hb hq CC HS'
  rcases h with ⟨rfl, rfl⟩ | ⟨ss, g, cap, cur, rfl, h1, h2, h3, h4, h5, h6, h7, rfl⟩
  · go_wp2_with fail
    refine (Tryz.slices_Sort_string_none none 0 w1).mono ?_
    rintro e w2 ⟨rfl, rfl⟩
    go_wp2_with fail
    refine (Tryz.slices_Compact_string_empty none 0 w2).mono ?_
    rintro e w3 ⟨rfl, rfl⟩
    go_wp2_with fail
    exact (HP'.out _ _).2 ⟨none, 0, rfl, Nat.le_refl _, Or.inl rfl, HB.out⟩
  · have hs := HB.out.size
    have hgl : g < w1.heap.size := (Array.getElem?_eq_some_iff.1 h3).1
    have HC := Lib.hid (Tryz.slices_Sort_string g 0 cap ss w1 (holds_of_block h3 h7) hgl (by omega))
    obtain ⟨ts, hts⟩ : ∃ ts, ts = ss.mergeSort fun x y => decide (x ≤ y) := ⟨_, rfl⟩
    have htl : ts.length = ss.length := by rw [hts, List.length_mergeSort]
    rw [← hts] at HC HP'
    have HO : ∀ n os, (Go.Sort.grow (Go.Sort.putRow encStr (Go.Sort.ahead w1 n) g 0 ts.toArray) os).heap[g]? = some (.cells (Go.Sort.putCells encStr 0 ts.toArray cur) 9 (0, 0)) := fun n os => heap_sorted _ h3
    have HO' := Lib.hid HO
    have HT := Lib.hid (take_putCells cur ts (by omega))
    have HG : ∀ n os, w1.grownBy (Go.Sort.grow (Go.Sort.putRow encStr (Go.Sort.ahead w1 n) g 0 ts.toArray) os) (some g) := fun n os => grownBy_sorted _
    have HG' := Lib.hid HG
    obtain ⟨ds, hds⟩ : ∃ ds, ds = Lib.compact ts := ⟨_, rfl⟩
    have hdl : ds.length ≤ ts.length := by rw [hds]; exact Lib.compact_length_le ts
    have HCC := fun (w2 : World) (hh : Go.Sort.Holds encStr w2 g 0 ts.toArray) => Tryz.slices_Compact_string g 0 cap ts w2 hh (by omega) (by omega)
    rw [← hds] at HCC HP'
    have HCC' := Lib.hid HCC
    rw [← htl] at HC h4 ⊢
    have HL : ∃ k, k = ts.length := ⟨_, rfl⟩
    obtain ⟨k, hk⟩ := HL
    clear hts hds HCC HG HO h7 h3
    rw [← hk] at HC HCC' HT h4 hdl htl ⊢
    have HL := Lib.hid hk
    have hk2 : k ≤ 256 := by omega
    clear hk htl
    go_wp2_with fail
    refine (HC.out).mono ?_
    rintro e w2 ⟨rfl, n2, os, hw2⟩
    have hg2 := HG'.out n2 os
    have ho2 := HO'.out n2 os
    rw [← hw2] at hg2 ho2
    have hH2 : Go.Sort.Holds encStr w2 g 0 ts.toArray := holds_of_block ho2 (by rw [← HL.out]; exact HT.out)
    have hs2 := hg2.size
    have HB2 := Lib.hid (HB.out.grown hg2 HB.out.size (fun j e => by cases e; exact h2))
    have HC2 := Lib.hid (HCC'.out w2 hH2)
    have HH2 := Lib.hid hH2
    clear hw2 HC HG' HO' hg2 ho2 hH2 HCC'
    generalize hm : ds.length = m at *
    go_wp2_with fail
    refine (HC2.out).mono ?_
    rintro e w3 ⟨rfl, n3, hw3⟩
    have HW3 := Lib.hid hw3
    have HMM := Lib.hid hm
    clear HC2 hw3 hm
    go_wp2_with fail
    refine (HP'.out _ _).2 ⟨some ⟨g, 0, none⟩, cap, by rw [List.length_map, HMM.out]; rfl, by rw [List.length_map, HMM.out]; omega, Or.inr ⟨g, 0, rfl, fun i hi => ?_⟩, ?_⟩
    · rw [List.length_map] at hi
      have e1 : (ds ++ List.replicate (k - m) []).toArray.size = ts.toArray.size := by
        have := HMM.out; have := HL.out
        simp; omega
      have hp := Go.Sort.holds_putRow encStr (Go.Sort.ahead w2 n3) g 0 ts.toArray (ds ++ List.replicate (k - m) []).toArray HH2.out e1
      have hi2 : i < (ds ++ List.replicate (k - m) []).toArray.size := by simp; omega
      have h9 := (hp i hi2).1
      rw [← HW3.out, getElem!_pos _ _ (by exact hi2)] at h9
      rw [h9, List.getElem_map]
      simp [List.getElem_append_left hi, Wp.mkT, Wp.B]
    · rw [HW3.out]
      have hg3 := grownBy_sorted (w := w2) (g := g) (n := n3) (os := #[]) (ds ++ List.replicate (k - m) []).toArray
      rw [Go.Sort.grow_empty] at hg3
      exact HB2.out.grown hg3 HB2.out.size (fun j e => by cases e; exact h2)
end Go.Proofs.YteiccjakaabfnaaGreatDoor
namespace Go.Proofs.YteiccjakaabfnaaGreatDoor
open Go.RowKit Go.Lib Go.Shelf

set_option maxHeartbeats 2000000 in
set_option maxRecDepth 100000 in
theorem st_index (l : List ByteArray) (p : Option Addr) (c : Nat) (g : Nat) (lb : Array Value) (eg : ∀ args w, (callFunc g args).run Tryz.prog w = .ok (.enter g args) w) (w : World) (P : Nat → Bool) (I : Nat → World → Prop) (hn : l.length ≤ 140737488351232)
    (hA : ∀ k W, I k W → Wp.At Wp.mkT W p l)
    (hc : ∀ k (hk : k < l.length), (∀ j, j < k → P j = false) → ∀ W, I k W → Calls Tryz.prog g (#[.string l[k]] ++ lb) W fun e w' => e = .returned (.bool (P k)) ∧ I (k + 1) w')
    (h0 : I 0 w) : Calls Tryz.prog 100 #[.slice p l.length c, .func (.func g) #[] lb] w (Vl.Idx l.length P I) := by
  have HA := Lib.hid hA
  have HC := Lib.hid hc
  have H0 := Lib.hid h0
  clear hA hc h0
  obtain ⟨n, hnl⟩ : ∃ n, n = l.length := ⟨_, rfl⟩
  have Hn := Lib.hid hnl
  rw [← hnl] at hn ⊢
  clear hnl
  go_enter Tryz.func100, Tryz.ntmps100
  go_wp2
  go_loopg [5, 8] n (fun gg _ s8 wr => ∃ kk : Nat, kk ≤ n ∧ n - kk ≤ gg ∧ s8 = .int .i64 kk ∧ Aside (I kk wr) ∧ Aside (∀ j, j < kk → P j = false))
  case atStart => exact ⟨0, Nat.zero_le _, by omega, rfl, H0.out, fun j hj => absurd hj (Nat.not_lt_zero _)⟩
  case round =>
    obtain ⟨kk, hkk, hg, rfl, BI, A⟩ := hrel
    by_cases hlt : kk < n
    · have hltz : (kk : Int) < (n : Int) := by omega
      have hkl : kk < l.length := by rw [← Hn.out]; exact hlt
      obtain ⟨b, off, rfl, e1⟩ := (HA.out kk wr BI.out).get kk hkl
      rw [show Wp.mkT l[kk] = Value.string l[kk] from rfl] at e1
      have hcall := HC.out kk hkl A.out wr BI.out
      generalize l[kk] = y at e1 hcall
      clear hkl
      cases hq : P kk with
      | true =>
        rw [hq] at hcall
        have HK := Lib.hid hcall
        have HQ := Lib.hid hq
        clear hcall hq
        go_wp2_with fail
        refine HK.out.mono ?_
        rintro e w' ⟨rfl, hb'⟩
        clear e1
        go_wp2_with fail
        go_ret
        exact Or.inl ⟨kk, hlt, HQ.out, A.out, rfl, hb'⟩
      | false =>
        rw [hq] at hcall
        have HK := Lib.hid hcall
        have HQ := Lib.hid hq
        clear hcall hq
        go_wp2_with fail
        refine HK.out.mono ?_
        rintro e w' ⟨rfl, hb'⟩
        clear e1
        go_wp2_with fail
        go_roundg (n - (kk + 1))
        case measure => omega
        case rel =>
          refine ⟨kk + 1, by omega, by omega, by go_num, hb', (show Aside _ from fun j hj => ?_)⟩
          by_cases e : j = kk
          · subst e; exact HQ.out
          · exact A.out j (by omega)
    · have hltz : ¬ (kk : Int) < (n : Int) := by omega
      have : kk = n := by omega
      subst this
      go_wp2
      go_ret
      exact Or.inr ⟨A.out, rfl, BI.out⟩
set_option maxRecDepth 100000 in
theorem st_contains (l : List ByteArray) (p : Option Addr) (c : Nat) (g : Nat) (lb : Array Value) (eg : ∀ args w, (callFunc g args).run Tryz.prog w = .ok (.enter g args) w) (w : World) (P : Nat → Bool) (I : Nat → World → Prop) (hn : l.length ≤ 140737488351232)
    (hA : ∀ k W, I k W → Wp.At Wp.mkT W p l)
    (hc : ∀ k (hk : k < l.length), (∀ j, j < k → P j = false) → ∀ W, I k W → Calls Tryz.prog g (#[.string l[k]] ++ lb) W fun e w' => e = .returned (.bool (P k)) ∧ I (k + 1) w')
    (h0 : I 0 w) : Calls Tryz.prog 62 #[.slice p l.length c, .func (.func g) #[] lb] w (Vl.Any l.length P I) := by
  have H1 := Lib.hid (st_index l p c g lb eg w P I hn hA hc h0)
  clear hA hc h0 eg
  generalize l.length = n at *
  go_enter Tryz.func62, Tryz.ntmps62
  go_wp2_with fail
  refine H1.out.mono ?_
  rintro e w' (⟨k, h1, h2, h3, rfl, h4⟩ | ⟨h1, rfl, h2⟩)
  · have hk : (0 : Int) ≤ (k : Int) := by omega
    have H3 := Lib.hid h3
    have h2' := Lib.hid h2
    clear h2 h3
    go_wp2_with fail
    go_ret
    exact Or.inl ⟨k, h1, h2'.out, H3.out, rfl, h4⟩
  · have h1' := Lib.hid h1
    clear h1
    go_wp2_with fail
    go_ret
    exact Or.inr ⟨h1'.out, rfl, h2⟩
theorem st_has (names : List ByteArray) (s : ByteArray) (pn : Option Addr) (cn : Nat) (w : World) (hN : Wp.At Wp.mkT w pn names) (hn : names.length ≤ 140737488351232) :
    Calls Tryz.prog 61 #[.slice pn names.length cn, .string s] w fun e w' => e = .returned (.bool (containsS names s)) ∧ w' = w := by
  cases names with
  | nil => exact Tryz.slices_Contains_string_empty pn cn s w
  | cons a names =>
    rcases hN with h | ⟨b, off, rfl, hc⟩
    · cases h
    · have h := Tryz.slices_Contains_string b off (a :: names).length cn (a :: names) s w (Nat.le_refl _) (by omega) (fun j hj => by rw [hc j hj, List.getD_eq_getElem?_getD, List.getElem?_eq_getElem hj]; rfl)
      rw [List.take_length] at h
      exact h
set_option maxRecDepth 100000 in
theorem vtOnly1 (names : List ByteArray) (s : ByteArray) (pn : Option Addr) (cn bx : Nat) (w : World) (hN : Wp.At Wp.mkT w pn names) (hn : names.length ≤ 140737488351232) (hb : w.cell? ⟨bx, 0, none⟩ = some (.slice pn names.length cn)) :
    Calls Tryz.prog 60 #[.string s, .pointer (some ⟨bx, 0, none⟩)] w fun e w' => e = .returned (.bool (!containsS names s)) ∧ w' = w := by
  have C := Lib.hid (st_has names s pn cn w hN hn)
  clear hN
  generalize containsS names s = z at *
  generalize names.length = n at *
  go_enter Tryz.func60, Tryz.ntmps60
  go_wp2_with fail
  refine C.out.mono ?_
  rintro e w1 ⟨rfl, rfl⟩
  go_wp2_with fail
  go_ret
  exact ⟨rfl, rfl⟩
/-- Whether there are no roots but these. -/
def Vt.onlyR (l : List Nd.N) (names : List ByteArray) : Int := if Nd.good l then (if (Vt.rootsR l).any (fun s => !containsS names s) then 13 else 0) else 2
theorem Vt.any_of {l : List ByteArray} {f : ByteArray → Bool} {P : Nat → Bool} (hP : ∀ k (hk : k < l.length), P k = f l[k]) : ((∃ k, k < l.length ∧ P k = true) → l.any f = true) ∧ ((∀ j, j < l.length → P j = false) → l.any f = false) := by
  constructor
  · rintro ⟨k, hk, h⟩
    rw [List.any_eq_true]
    exact ⟨l[k], List.getElem_mem hk, by rw [← hP k hk]; exact h⟩
  · intro h
    rw [List.any_eq_false]
    intro x hx
    obtain ⟨k, hk, rfl⟩ := List.mem_iff_getElem.1 hx
    rw [← hP k hk, h k hk]
    decide
theorem vtOnly2 (R names : List ByteArray) (p pn : Option Addr) (c cn bx : Nat) (w : World) (hR : R.length ≤ 140737488351232) (hA : Wp.At Wp.mkT w p R) (hN : Wp.At Wp.mkT w pn names) (hn : names.length ≤ 140737488351232) (hb : w.cell? ⟨bx, 0, none⟩ = some (.slice pn names.length cn)) :
    Calls Tryz.prog 62 #[.slice p R.length c, .func (.func 60) #[] #[.pointer (some ⟨bx, 0, none⟩)]] w fun e w' => e = .returned (.bool (R.any (fun s => !containsS names s))) ∧ w' = w := by
  have hP : ∀ k (hk : k < R.length), (fun k => !containsS names (R.getD k ByteArray.empty)) k = (fun s => !containsS names s) R[k] := fun k hk => by
    show (!containsS names (R.getD k ByteArray.empty)) = !containsS names R[k]
    rw [List.getD_eq_getElem?_getD, List.getElem?_eq_getElem hk]; rfl
  refine (st_contains R p c 60 #[.pointer (some ⟨bx, 0, none⟩)] (enters_of Tryz.func60 (by kernel_rfl) rfl) w (fun k => !containsS names (R.getD k ByteArray.empty)) (fun _ W => W = w) hR (fun k W e => by subst e; exact hA) (fun k hk _ W e => by
    subst e
    refine (vtOnly1 names R[k] pn cn bx W hN hn hb).mono fun e w' h => ⟨?_, h.2⟩
    have h9 := hP k hk
    dsimp only at h9
    rw [h9]; exact h.1) rfl).mono ?_
  rintro e w' (⟨k, h1, h2, h3, rfl, h4⟩ | ⟨h1, rfl, h2⟩)
  · exact ⟨by rw [(Vt.any_of hP).1 ⟨k, h1, h2⟩], h4⟩
  · exact ⟨by rw [(Vt.any_of hP).2 h1], h2⟩
theorem Vt.rootsR_len (l : List Nd.N) : (Vt.rootsR l).length ≤ 256 := by
  unfold Vt.rootsR
  split
  · rename_i hg
    rw [List.length_map]
    have h1 := Lib.compact_length_le (Vt.sortedL (Vt.namesP (Vt.visL 1 false l)))
    have h2 := Vt.sorted_len (Vt.namesP (Vt.visL 1 false l))
    have h3 := Vt.namesP_len (Vt.visL 1 false l)
    rw [Vt.visL_len] at h3
    have h4 := (Nd.good_okL hg).2
    omega
  · exact Nat.zero_le _
set_option maxRecDepth 100000 in
set_option maxHeartbeats 1000000 in
theorem vtOnly_any (l : List Nd.N) (q : Option Addr) (c : Nat) (names : List ByteArray) (pn : Option Addr) (cn : Nat) (w : World) (hn : l.length ≤ 140737488351232) (hA : Nd.Row w q l) (hts : ∀ t ∈ Nd.toksL l, t.text.size ≤ 4000000000) (hT : Sc.Laid w) (hM : Sc.MaxLen w) (hN : Wp.At Wp.mkT w pn names) (hnn : names.length ≤ 140737488351232) :
    Calls Tryz.prog 24 #[.slice q l.length c, .slice pn names.length cn] w fun e w' => e = .returned (.int .i64 (Vt.onlyR l names)) ∧ Below w.heap.size w w' := by
  have hb0 := (Below.refl w.heap.size w).alloc (Nat.le_refl _) (.cells #[.slice pn names.length cn] 23)
  have HB0 := Lib.hid hb0
  have CC := Lib.hid (vtRoots_any l q c _ hn (hA.below hb0) hts (hT.below hb0) (hM.below hb0))
  have HS : ∀ e w', Vt.RootsPost l (w.alloc (.cells #[.slice pn names.length cn] 23)) e w' → ((Nd.good l = true ∧ Nd.chk l = 0) ∨ (Nd.good l = false ∧ Nd.chk l = 2)) ∧ ∃ p c, e = .returned (.tuple #[.slice p (Vt.rootsR l).length c, .int .i64 (Nd.chk l)]) ∧ Wp.At Wp.mkT w' p (Vt.rootsR l) ∧ Below (w.alloc (.cells #[.slice pn names.length cn] 23)).heap.size (w.alloc (.cells #[.slice pn names.length cn] 23)) w' := by
    rintro e w' ⟨p, c, h1, _, h2, h3⟩
    refine ⟨?_, p, c, h1, h2, h3⟩
    cases hg : Nd.good l with
    | true => exact Or.inl ⟨rfl, (Nd.chk_good).1 hg⟩
    | false => exact Or.inr ⟨rfl, (Nd.chk_good).2 hg⟩
  have HS' := Lib.hid HS
  have hRl := Vt.rootsR_len l
  have HO1 := Lib.hid (show Nd.good l = true → Vt.onlyR l names = if (Vt.rootsR l).any (fun s => !containsS names s) then 13 else 0 from fun h => by unfold Vt.onlyR; rw [h]; rfl)
  have HO2 := Lib.hid (show Nd.good l = false → Vt.onlyR l names = 2 from fun h => by unfold Vt.onlyR; rw [h]; rfl)
  have HN := Lib.hid hN
  have hnew : (w.alloc (.cells #[.slice pn names.length cn] 23)).cell? ⟨w.heap.size, 0, none⟩ = some (.slice pn names.length cn) := by rw [Lib.cell_of_heap (Vl.new w _)]; rfl
  have HNW := Lib.hid hnew
  have hsz : (w.alloc (.cells #[.slice pn names.length cn] 23)).heap.size = w.heap.size + 1 := World.size_alloc _ _
  have HC2 := Lib.hid (fun (R : List ByteArray) (p : Option Addr) (c : Nat) (W : World) (h1 : R.length ≤ 140737488351232) (h2 : Wp.At Wp.mkT W p R) (h3 : Wp.At Wp.mkT W pn names) (h4 : W.cell? ⟨w.heap.size, 0, none⟩ = some (.slice pn names.length cn)) => vtOnly2 R names p pn c cn w.heap.size W h1 h2 h3 hnn h4)
  clear hA hts hT hM HS hb0 hN hnew
  generalize Vt.RootsPost l (w.alloc (.cells #[.slice pn names.length cn] 23)) = Q at *
  generalize Vt.onlyR l names = out at *
  obtain ⟨k, hk⟩ : ∃ k, k = names.length := ⟨_, rfl⟩
  rw [← hk] at HB0 CC HS' HNW HC2 hsz hnn ⊢
  generalize Vt.rootsR l = R at *
  generalize Nd.chk l = z at *
  generalize Nd.good l = good at *
  generalize l.length = n at *
  obtain ⟨m, hm⟩ : ∃ m, m = R.length := ⟨_, rfl⟩
  have HM := Lib.hid hm
  rw [← hm] at HS' hRl
  clear hk hm
  go_enter Tryz.func24, Tryz.ntmps24
  go_wp2_with fail
  refine (CC.out).mono ?_
  rintro e w1 hq
  obtain ⟨h, p, c1, rfl, ha, hb⟩ := HS'.out _ _ hq
  have HB := Lib.hid (HB0.out.trans (hb.mono HB0.out.size))
  have HA := Lib.hid ha
  have HK := Lib.hid ((hb.cell (show w.heap.size < _ by rw [hsz]; omega)).trans HNW.out)
  clear ha hq CC HS' hb
  rcases h with ⟨hg, rfl⟩ | ⟨hg, rfl⟩
  · have HC := Lib.hid (HC2.out R p c1 w1 (by have := HM.out; omega) HA.out (HN.out.below HB.out) HK.out)
    rw [← HM.out] at HC
    have hO := HO1.out hg
    clear HC2 HO1 HO2
    cases hb : R.any (fun s => !containsS names s) with
    | true =>
      rw [hb] at HC hO
      obtain rfl : out = 13 := hO
      clear hb
      go_wp2_with fail
      refine (HC.out).mono ?_
      rintro e w2 ⟨rfl, rfl⟩
      go_wp2_with fail
      go_ret
      exact ⟨rfl, HB.out⟩
    | false =>
      rw [hb] at HC hO
      obtain rfl : out = 0 := hO
      clear hb
      go_wp2_with fail
      refine (HC.out).mono ?_
      rintro e w2 ⟨rfl, rfl⟩
      go_wp2_with fail
      go_ret
      exact ⟨rfl, HB.out⟩
  · obtain rfl := HO2.out hg
    clear HO1 HO2 HC2
    go_wp2_with fail
    go_ret
    exact ⟨rfl, HB.out⟩
end Go.Proofs.YteiccjakaabfnaaGreatDoor
