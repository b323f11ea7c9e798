/-
  The walks of the document's answer for vet: Roots, Depth, Count, Plain, This, Only. Conditions: the nodes are of a size that the walks hold.
  The walk of VetTells: whatever the nodes and names, the law answers true. Conditions: the nodes and their texts are of a size that the walks hold; the words' table and the errors lie as they are laid, the search's limit is set.
-/
import Derived.Test.YteiccjakaabfnaaGreatDoorZ54
import Derived.Test.YteiccjakaabfnaaGreatDoorZ57
import Derived.Test.YteiccjakaabfnaaGreatDoorZ49
import Derived.Test.YteiccjakaabfnaaGreatDoorZ29
namespace Go.Proofs.YteiccjakaabfnaaGreatDoor
open Go.RowKit

set_option maxRecDepth 100000 in
set_option maxHeartbeats 1000000 in
theorem refCount12_any (l : List Nd.N) (q : Option Addr) (c : Nat) (w : World) (hn : l.length ≤ 140737488351232) (hA : Nd.Row w q l) (hps : ∀ t ∈ Nd.toksL l, t.path.length ≤ 3000000) (hts : ∀ t ∈ Nd.toksL l, t.text.size ≤ 4000000000) :
    Calls Tryz.prog 19 #[.slice q l.length c] w fun e w' => e = .returned (.tuple #[.int .i64 (Vt.iff (Nd.good l) (Nd.cntL l) : Nat), .int .i64 (Nd.chk l)]) ∧ Below w.heap.size w w' := by
  have CC := Lib.hid (refCheck11_any l q c w hn hA hps)
  have HC := Lib.hid (fun (hg : Nd.good l = true) W (hb : Below w.heap.size w W) => (by
    have h2 := hg
    unfold Nd.good Nd.shapedP at h2
    rw [Bool.and_eq_true, Bool.and_eq_true, decide_eq_true_eq] at h2
    exact refCount_any w l (by omega) q c W hA hb : Calls Tryz.prog 57 #[.slice q l.length c] W fun e w' => e = .returned (.int .i64 (Nd.cntL l : Nat)) ∧ Below W.heap.size W w'))
  have HV := Lib.hid (show Nd.cntL l = (Nd.cntL l) from rfl)
  have hz : (Nd.good l = true ∧ Nd.chk l = 0) ∨ (Nd.good l = false ∧ Nd.chk l = 2) := by
    cases hg : Nd.good l with
    | true => exact Or.inl ⟨rfl, (Nd.chk_good).1 hg⟩
    | false => exact Or.inr ⟨rfl, (Nd.chk_good).2 hg⟩
  clear hA hps hts
  clear HV
  generalize (Nd.cntL l) = N2 at *
  skip
  generalize Nd.good l = g at *
  generalize Nd.chk l = z at *
  generalize l.length = n at *
  go_enter Tryz.func19, Tryz.ntmps19
  go_wp2_with fail
  refine CC.out.mono ?_
  rintro e w1 ⟨rfl, hb⟩
  have HB := Lib.hid hb
  rcases hz with ⟨hg, hc⟩ | ⟨hg, hc⟩
  · have H2 := Lib.hid (HC.out hg w1 hb)
    subst hg
    subst hc
    clear CC HC hb
    go_wp2_with fail
    refine H2.out.mono ?_
    rintro e w2 ⟨rfl, hb⟩
    have HB2 := Lib.hid (HB.out.trans (hb.mono HB.out.size))
    clear hb H2
    go_wp2_with fail
    go_ret2
    exact ⟨rfl, HB2.out⟩
  · subst hg
    subst hc
    clear CC HC hb
    go_wp2_with fail
    go_ret2
    exact ⟨rfl, HB.out⟩
set_option maxRecDepth 100000 in
set_option maxHeartbeats 1000000 in
theorem refDepth12_any (l : List Nd.N) (q : Option Addr) (c : Nat) (w : World) (hn : l.length ≤ 140737488351232) (hA : Nd.Row w q l) (hps : ∀ t ∈ Nd.toksL l, t.path.length ≤ 3000000) (hts : ∀ t ∈ Nd.toksL l, t.text.size ≤ 4000000000) :
    Calls Tryz.prog 17 #[.slice q l.length c] w fun e w' => e = .returned (.tuple #[.int .i64 (Vt.iff (Nd.good l) (Vt.dep (Vt.visL 1 false l)) : Nat), .int .i64 (Nd.chk l)]) ∧ Below w.heap.size w w' := by
  have CC := Lib.hid (refCheck11_any l q c w hn hA hps)
  have HC := Lib.hid (fun (hg : Nd.good l = true) W (hb : Below w.heap.size w W) => (by
    have h2 := hg
    unfold Nd.good Nd.shapedP at h2
    rw [Bool.and_eq_true, Bool.and_eq_true, decide_eq_true_eq] at h2
    exact refDepth_any w l (by have := Rv.dp_le 8 l h2.1.1; omega) hn q c W hA hb : Calls Tryz.prog 55 #[.slice q l.length c] W fun e w' => e = .returned (.int .i64 (Rv.dpL l : Nat)) ∧ Below W.heap.size W w'))
  have HV := Lib.hid (show Rv.dpL l = (Vt.dep (Vt.visL 1 false l)) from (Rv.dep l).symm)
  have hz : (Nd.good l = true ∧ Nd.chk l = 0) ∨ (Nd.good l = false ∧ Nd.chk l = 2) := by
    cases hg : Nd.good l with
    | true => exact Or.inl ⟨rfl, (Nd.chk_good).1 hg⟩
    | false => exact Or.inr ⟨rfl, (Nd.chk_good).2 hg⟩
  clear hA hps hts
  generalize Rv.dpL l = N1 at *
  generalize (Vt.dep (Vt.visL 1 false l)) = N2 at *
  obtain rfl := HV.out
  generalize Nd.good l = g at *
  generalize Nd.chk l = z at *
  generalize l.length = n at *
  go_enter Tryz.func17, Tryz.ntmps17
  go_wp2_with fail
  refine CC.out.mono ?_
  rintro e w1 ⟨rfl, hb⟩
  have HB := Lib.hid hb
  rcases hz with ⟨hg, hc⟩ | ⟨hg, hc⟩
  · have H2 := Lib.hid (HC.out hg w1 hb)
    subst hg
    subst hc
    clear CC HC hb
    go_wp2_with fail
    refine H2.out.mono ?_
    rintro e w2 ⟨rfl, hb⟩
    have HB2 := Lib.hid (HB.out.trans (hb.mono HB.out.size))
    clear hb H2
    go_wp2_with fail
    go_ret2
    exact ⟨rfl, HB2.out⟩
  · subst hg
    subst hc
    clear CC HC hb
    go_wp2_with fail
    go_ret2
    exact ⟨rfl, HB.out⟩
set_option maxRecDepth 100000 in
set_option maxHeartbeats 1000000 in
theorem refPlain12_any (l : List Nd.N) (q : Option Addr) (c : Nat) (w : World) (hn : l.length ≤ 140737488351232) (hA : Nd.Row w q l) (hps : ∀ t ∈ Nd.toksL l, t.path.length ≤ 3000000) (hts : ∀ t ∈ Nd.toksL l, t.text.size ≤ 4000000000) :
    Calls Tryz.prog 21 #[.slice q l.length c] w fun e w' => e = .returned (.tuple #[.int .i64 (Vt.iff (Nd.good l) (Vt.plen (Vt.visL 1 false l)) : Nat), .int .i64 (Nd.chk l)]) ∧ Below w.heap.size w w' := by
  have CC := Lib.hid (refCheck11_any l q c w hn hA hps)
  have HC := Lib.hid (fun (hg : Nd.good l = true) W (hb : Below w.heap.size w W) => (by
    have h2 := hg
    unfold Nd.good Nd.shapedP at h2
    rw [Bool.and_eq_true, Bool.and_eq_true, decide_eq_true_eq] at h2
    exact refPlain_any w l (by have := Rv.pl_le 4000000000 8 l h2.1.1 hts; omega) hn q c W hA hb : Calls Tryz.prog 59 #[.slice q l.length c] W fun e w' => e = .returned (.int .i64 (Rv.plL l : Nat)) ∧ Below W.heap.size W w'))
  have HV := Lib.hid (show Rv.plL l = (Vt.plen (Vt.visL 1 false l)) from (Rv.plen_L 1 false l).symm)
  have hz : (Nd.good l = true ∧ Nd.chk l = 0) ∨ (Nd.good l = false ∧ Nd.chk l = 2) := by
    cases hg : Nd.good l with
    | true => exact Or.inl ⟨rfl, (Nd.chk_good).1 hg⟩
    | false => exact Or.inr ⟨rfl, (Nd.chk_good).2 hg⟩
  clear hA hps hts
  generalize Rv.plL l = N1 at *
  generalize (Vt.plen (Vt.visL 1 false l)) = N2 at *
  obtain rfl := HV.out
  generalize Nd.good l = g at *
  generalize Nd.chk l = z at *
  generalize l.length = n at *
  go_enter Tryz.func21, Tryz.ntmps21
  go_wp2_with fail
  refine CC.out.mono ?_
  rintro e w1 ⟨rfl, hb⟩
  have HB := Lib.hid hb
  rcases hz with ⟨hg, hc⟩ | ⟨hg, hc⟩
  · have H2 := Lib.hid (HC.out hg w1 hb)
    subst hg
    subst hc
    clear CC HC hb
    go_wp2_with fail
    refine H2.out.mono ?_
    rintro e w2 ⟨rfl, hb⟩
    have HB2 := Lib.hid (HB.out.trans (hb.mono HB.out.size))
    clear hb H2
    go_wp2_with fail
    go_ret2
    exact ⟨rfl, HB2.out⟩
  · subst hg
    subst hc
    clear CC HC hb
    go_wp2_with fail
    go_ret2
    exact ⟨rfl, HB.out⟩
set_option maxRecDepth 100000 in
set_option maxHeartbeats 1000000 in
theorem refThis12_any (l : List Nd.N) (q : Option Addr) (c : Nat) (w : World) (hn : l.length ≤ 140737488351232) (hA : Nd.Row w q l) (hps : ∀ t ∈ Nd.toksL l, t.path.length ≤ 3000000) :
    Calls Tryz.prog 27 #[.slice q l.length c] w fun e w' => e = .returned (.int .i64 (Vt.thisR l)) ∧ Below w.heap.size w w' := by
  have CC := Lib.hid (refCheck11_any l q c w hn hA hps)
  have HC := Lib.hid (fun W (hb : Below w.heap.size w W) => refLost_any w l hn q c W hA hb)
  have hz : (Nd.chk l = 0 ∧ Vt.thisR l = if Rv.loL l then 13 else 0) ∨ (Nd.chk l = 2 ∧ Vt.thisR l = 2) := by
    unfold Vt.thisR
    cases hg : Nd.good l with
    | true =>
      have h2 := hg
      unfold Nd.good Nd.shapedP at h2
      rw [Bool.and_eq_true, Bool.and_eq_true, decide_eq_true_eq] at h2
      exact Or.inl ⟨(Nd.chk_good).1 hg, by rw [if_pos rfl, Rv.lost 8 l 1 h2.1.1]⟩
    | false => exact Or.inr ⟨(Nd.chk_good).2 hg, rfl⟩
  clear hA hps
  generalize Vt.thisR l = R at *
  generalize Rv.loL l = lo at *
  generalize l.length = n at *
  go_enter Tryz.func27, Tryz.ntmps27
  go_wp2_with fail
  refine CC.out.mono ?_
  rintro e w1 ⟨rfl, hb⟩
  have HB := Lib.hid hb
  rcases hz with ⟨hc, hr⟩ | ⟨hc, hr⟩
  · have H2 := Lib.hid (HC.out w1 hb)
    subst hr
    rw [hc]
    clear CC HC hb hc
    go_wp2_with fail
    refine H2.out.mono ?_
    rintro e w2 ⟨rfl, hb⟩
    have HB2 := Lib.hid (HB.out.trans (hb.mono HB.out.size))
    clear hb H2
    cases lo with
    | true =>
      go_wp2_with fail
      go_ret
      exact ⟨rfl, HB2.out⟩
    | false =>
      go_wp2_with fail
      go_ret
      exact ⟨rfl, HB2.out⟩
  · subst hr
    rw [hc]
    clear CC HC hb hc
    go_wp2_with fail
    go_ret
    exact ⟨rfl, HB.out⟩
set_option maxRecDepth 100000 in
set_option maxHeartbeats 1000000 in
theorem refRoots12_any (l : List Nd.N) (q : Option Addr) (c : Nat) (w : World) (hn : l.length ≤ 140737488351232) (hA : Nd.Row w q l) (hps : ∀ t ∈ Nd.toksL l, t.path.length ≤ 3000000) :
    Calls Tryz.prog 15 #[.slice q l.length c] w fun e w' => ∃ p c, e = .returned (.tuple #[.slice p (Vt.rootsR l).length c, .int .i64 (Nd.chk l)]) ∧ Wp.At Wp.mkT w' p (Vt.rootsR l) ∧ Below w.heap.size w w' := by
  have CC := Lib.hid (refCheck11_any l q c w hn hA hps)
  have HC := Lib.hid (fun (hg : Nd.good l = true) W (hb : Below w.heap.size w W) => (by
    have h2 := hg
    unfold Nd.good Nd.shapedP at h2
    rw [Bool.and_eq_true, Bool.and_eq_true, decide_eq_true_eq] at h2
    have h := refRoots_any w l [] none 0 (by simp; omega) q c W (Or.inl ⟨rfl, rfl, rfl⟩) hA hb
    rw [← Rv.roots hg] at h
    exact h : Calls Tryz.prog 52 #[.slice none 0 0, .slice q l.length c] W (Rv.PutPost (Vt.rootsR l) W)))
  have hz : (Nd.good l = true ∧ Nd.chk l = 0) ∨ (Nd.chk l = 2 ∧ Vt.rootsR l = []) := by
    cases hg : Nd.good l with
    | true => exact Or.inl ⟨rfl, (Nd.chk_good).1 hg⟩
    | false => exact Or.inr ⟨(Nd.chk_good).2 hg, by unfold Vt.rootsR; rw [hg]; rfl⟩
  clear hA hps
  generalize Vt.rootsR l = R at *
  generalize Nd.chk l = z at *
  generalize l.length = n at *
  go_enter Tryz.func15, Tryz.ntmps15
  go_wp2_with fail
  refine CC.out.mono ?_
  rintro e w1 ⟨rfl, hb⟩
  have HB := Lib.hid hb
  rcases hz with ⟨hg, hc⟩ | ⟨hc, hr⟩
  · have H2 := Lib.hid (HC.out hg w1 hb)
    subst hc
    clear CC HC hb hg
    go_wp2_with fail
    refine H2.out.mono ?_
    rintro e w2 ⟨p2, c2, rfl, hs, hb⟩
    have HB2 := Lib.hid (HB.out.trans (hb.mono HB.out.size))
    have HS := Lib.hid hs.at
    clear hb H2 hs
    go_wp2_with fail
    go_ret2
    exact ⟨p2, c2, rfl, HS.out, HB2.out⟩
  · subst hr
    subst hc
    clear CC HC hb
    go_wp2_with fail
    go_ret2
    exact ⟨none, 0, rfl, Or.inl rfl, HB.out⟩
set_option maxRecDepth 100000 in
set_option maxHeartbeats 2000000 in
theorem refOnly12_any (l : List Nd.N) (q : Option Addr) (c : Nat) (names : List ByteArray) (pn : Option Addr) (cn : Nat) (w : World) (hn : l.length ≤ 140737488351232) (hA : Nd.Row w q l) (hps : ∀ t ∈ Nd.toksL l, t.path.length ≤ 3000000) (hN : Wp.At Wp.mkT w pn names) (hnn : names.length ≤ 140737488351232) :
    Calls Tryz.prog 25 #[.slice q l.length c, .slice pn names.length cn] w fun e w' => e = .returned (.int .i64 (Vt.onlyR l names)) ∧ Below w.heap.size w w' := by
  have CC := Lib.hid (refRoots12_any l q c w hn hA hps)
  have hrl := Vt.rootsR_len l
  have hz : (Nd.chk l = 0 ∧ (Vt.onlyR l names = 0 ↔ ∀ x ∈ Vt.rootsR l, x ∈ names) ∧ (Vt.onlyR l names = 0 ∨ Vt.onlyR l names = 13)) ∨ (Nd.chk l = 2 ∧ Vt.onlyR l names = 2) := by
    cases hg : Nd.good l with
    | true => exact Or.inl ⟨(Nd.chk_good).1 hg, (Vt.only_zero hg names).1, (Vt.only_zero hg names).2⟩
    | false => exact Or.inr ⟨(Nd.chk_good).2 hg, by unfold Vt.onlyR; rw [hg]; rfl⟩
  have HNm := Lib.hid hN
  clear hA hps hN
  generalize Vt.rootsR l = R at *
  generalize Vt.onlyR l names = out at *
  generalize l.length = n at *
  obtain ⟨nr, hnr⟩ : ∃ k, k = R.length := ⟨_, rfl⟩
  have HNr := Lib.hid hnr
  obtain ⟨nf, hnf⟩ : ∃ k, k = names.length := ⟨_, rfl⟩
  have HNf := Lib.hid hnf
  rw [← hnr] at hrl CC
  rw [← hnf] at hnn ⊢
  clear hnr hnf
  go_enter Tryz.func25, Tryz.ntmps25
  go_wp2_with fail
  refine CC.out.mono ?_
  rintro e w1 ⟨p1, c1, rfl, hR, hb⟩
  have HB := Lib.hid hb
  have HR := Lib.hid hR
  have HF := Lib.hid (HNm.out.below hb)
  clear hb hR CC HNm
  rcases hz with ⟨hc, hr⟩ | ⟨hc, hr⟩
  · have HO := Lib.hid hr
    rw [hc]
    clear hc hr
    go_wp2_with fail
    go_loopw [8, 9, 11, 22] (fun _ _ _ t wq => ∃ k : Nat, k ≤ nr ∧ t = .int .i64 k ∧ Hid (∀ j (h : j < R.length), j < k → R[j] ∈ names) ∧ wq = w1) (fun _ _ _ t _ => nr - (intOf t).toNat)
    case atStart => exact ⟨0, Nat.zero_le _, rfl, Lib.hid (fun j _ h => absurd h (Nat.not_lt_zero _)), rfl⟩
    case round =>
      obtain ⟨k2, hk2, rfl, HK, rfl⟩ := hrel
      by_cases hlt2 : k2 < nr
      · have hkl : k2 < R.length := by rw [← HNr.out]; exact hlt2
        obtain ⟨pb, off, rfl, hcell⟩ := HR.out.get k2 hkl
        rw [show Wp.mkT R[k2] = .string R[k2] from rfl] at hcell
        have HK2 : Hid (R[k2] ∈ names → ∀ j (h : j < R.length), j < k2 + 1 → R[j] ∈ names) := Lib.hid (fun hm j h hj => by
          by_cases e : j < k2
          · exact HK.out j h e
          · obtain rfl : j = k2 := by omega
            exact hm)
        have HKn : Hid (R[k2] ∉ names → out = 13) := Lib.hid (fun hm => (HO.out.2.resolve_left fun h0 => hm ((HO.out.1.1 h0) _ (List.getElem_mem hkl))))
        generalize R[k2] = x at *
        clear HK hkl
        go_wp2_with fail
        go_loopw [9, 11, 28] (fun v9 _ t wq => ∃ (j : Nat) (is : Bool), j ≤ nf ∧ t = .int .i64 j ∧ v9 = .bool is ∧ Hid (is = true ↔ x ∈ names.take j) ∧ wq = wr) (fun _ _ t _ => nf - (intOf t).toNat)
        case atStart => exact ⟨0, false, Nat.zero_le _, rfl, rfl, Lib.hid (by simp), rfl⟩
        case round =>
          obtain ⟨j, is, hj, rfl, rfl, HI, rfl⟩ := hrel
          by_cases hjl : j < nf
          · have hjf : j < names.length := by rw [← HNf.out]; exact hjl
            obtain ⟨fb, fo, rfl, hfc⟩ := HF.out.get j hjf
            rw [show Wp.mkT names[j] = .string names[j] from rfl] at hfc
            have hst : x ∈ names.take (j + 1) ↔ x ∈ names.take j ∨ names[j] = x := by rw [List.take_succ_eq_append_getElem hjf, List.mem_append, List.mem_singleton, eq_comm]
            generalize names[j] = y at *
            have HS := Lib.hid hst
            clear hst
            cases is with
            | true =>
              have HJ : Hid (true = true ↔ x ∈ names.take (j + 1)) := Lib.hid ⟨fun _ => HS.out.2 (Or.inl (HI.out.1 rfl)), fun _ => rfl⟩
              clear HI HS
              go_wp2_with fail
              exact ⟨⟨j + 1, true, by omega, by go_num, rfl, HJ, trivial⟩, by simp [intOf]; omega⟩
            | false =>
              by_cases hyx : y = x
              · have HJ : Hid (true = true ↔ x ∈ names.take (j + 1)) := Lib.hid ⟨fun _ => HS.out.2 (Or.inr hyx), fun _ => rfl⟩
                subst hyx
                clear HI HS
                go_wp2_with fail
                exact ⟨⟨j + 1, true, by omega, by go_num, rfl, HJ, trivial⟩, by simp [intOf]; omega⟩
              · have HJ : Hid (false = true ↔ x ∈ names.take (j + 1)) := Lib.hid ⟨fun h => Bool.noConfusion h, fun h => (HS.out.1 h).elim (fun h => (HI.out.2 h)) (fun h => absurd h hyx)⟩
                have hq1 : (y == x) = false := Tg.ba_ne hyx
                have hq2 : (y.toList == x.toList) = false := Tg.ba_nel hyx
                clear HI HS hyx
                go_wp2_with fail
                exact ⟨⟨j + 1, false, by omega, by go_num, rfl, HJ, trivial⟩, by simp [intOf]; omega⟩
          · obtain rfl : j = nf := by omega
            have hi := HI.out
            rw [HNf.out, List.take_length] at hi
            cases is with
            | true =>
              have HK3 := Lib.hid (HK2.out (hi.1 rfl))
              clear hi HI HK2 HKn
              go_wp2_with fail
              exact ⟨⟨k2 + 1, by omega, by go_num, HK3, trivial⟩, by simp [intOf]; omega⟩
            | false =>
              have h13 := HKn.out (fun hm => Bool.noConfusion (hi.2 hm))
              subst h13
              clear hi HI HK2 HKn
              go_wp2_with fail
              go_ret
              exact ⟨rfl, HB.out⟩
      · obtain rfl : k2 = nr := by omega
        have h0 : out = 0 := HO.out.1.2 fun x hx => by
          obtain ⟨j, hj, rfl⟩ := List.mem_iff_getElem.1 hx
          exact HK.out j hj (by have := HNr.out; omega)
        subst h0
        go_wp2_with fail
        go_ret
        exact ⟨rfl, HB.out⟩
  · subst hr
    rw [hc]
    clear hc
    go_wp2_with fail
    go_ret
    exact ⟨rfl, HB.out⟩
end Go.Proofs.YteiccjakaabfnaaGreatDoor
namespace Go.Proofs.YteiccjakaabfnaaGreatDoor
open Go.RowKit Go.Shelf

set_option maxRecDepth 100000 in
set_option maxHeartbeats 4000000 in
theorem vetTells_law (p : Option Addr) (c : Nat) (l : List Nd.N) (pa : Option Addr) (ca : Nat) (A : List ByteArray) (w : World) (a b : Addr) (hA : Nd.Row w p l) (hl : l.length ≤ 1048576) (hts : ∀ t ∈ Nd.toksL l, t.text.size ≤ 4000000000) (hps : ∀ t ∈ Nd.toksL l, t.path.length ≤ 3000000)
    (hNa : Wp.At Wp.mkT w pa A) (hla : A.length ≤ 1048576) (hT : Sc.Laid w) (hM : Sc.MaxLen w) (hE : Nd.Errs w a b) :
    Calls Tryz.prog 3 #[.slice p l.length c, .slice pa A.length ca] w fun e w' => e = .returned (.bool true) ∧ Below w.heap.size w w' := by
  have CL := Lib.hid (fun W (h : Below w.heap.size w W) => lives12_any W a b (hT.below h) (hM.below h) (hE.below h))
  have C1 := Lib.hid (fun W (h : Below w.heap.size w W) => vtRoots_any l p c W (by omega) (hA.below h) hts (hT.below h) (hM.below h))
  have C2 := Lib.hid (fun W (h : Below w.heap.size w W) => refRoots12_any l p c W (by omega) (hA.below h) hps)
  have C3 := Lib.hid (fun W (h : Below w.heap.size w W) => vtDepth_any l p c W (by omega) (hA.below h) hts (hT.below h) (hM.below h))
  have C4 := Lib.hid (fun W (h : Below w.heap.size w W) => refDepth12_any l p c W (by omega) (hA.below h) hps hts)
  have C5 := Lib.hid (fun W (h : Below w.heap.size w W) => vtCount_any l p c W (by omega) (hA.below h) hts (hT.below h) (hM.below h))
  have C6 := Lib.hid (fun W (h : Below w.heap.size w W) => refCount12_any l p c W (by omega) (hA.below h) hps hts)
  have C7 := Lib.hid (fun W (h : Below w.heap.size w W) => vtPlain_any l p c W (by omega) (hA.below h) hts (hT.below h) (hM.below h))
  have C8 := Lib.hid (fun W (h : Below w.heap.size w W) => refPlain12_any l p c W (by omega) (hA.below h) hps hts)
  have C9 := Lib.hid (fun W (h : Below w.heap.size w W) => vtOnly_any l p c A pa ca W (by omega) (hA.below h) hts (hT.below h) (hM.below h) (hNa.below h) (by omega))
  have C10 := Lib.hid (fun W (h : Below w.heap.size w W) => refOnly12_any l p c A pa ca W (by omega) (hA.below h) hps (hNa.below h) (by omega))
  have C11 := Lib.hid (fun W (h : Below w.heap.size w W) => vtThis_any l p c W (by omega) (hA.below h) hts (hT.below h) (hM.below h))
  have C12 := Lib.hid (fun W (h : Below w.heap.size w W) => refThis12_any l p c W (by omega) (hA.below h) hps)
  have hR := Vt.rootsR_len l
  have HC1 : Hid (∀ e W w', Vt.RootsPost l W e w' → ∃ p c, e = .returned (.tuple #[.slice p (Vt.rootsR l).length c, .int .i64 (Nd.chk l)]) ∧ Wp.At Wp.mkT w' p (Vt.rootsR l) ∧ Below W.heap.size W w') := Lib.hid (fun e W w' h => by obtain ⟨p, c, h1, _, h2, h3⟩ := h; exact ⟨p, c, h1, h2, h3⟩)
  clear hts hps hT hM hE hA hNa
  have C1 := Lib.hid (fun W h => (C1.out W h).mono fun e w' he => HC1.out e W w' he)
  clear HC1
  generalize Vt.iff (Nd.good l) (Vt.dep (Vt.visL 1 false l)) = x1 at *
  generalize Vt.iff (Nd.good l) (Nd.cntL l) = x2 at *
  generalize Vt.iff (Nd.good l) (Vt.plen (Vt.visL 1 false l)) = x3 at *
  generalize Vt.onlyR l A = x4 at *
  generalize Vt.thisR l = x5 at *
  generalize Nd.chk l = z at *
  generalize Vt.rootsR l = R at *
  have HR := Lib.hid (fun p1 p2 c1 c2 W h1 h2 => same_texts p1 p2 c1 c2 R W (by omega) h1 h2)
  generalize R.length = m at *
  generalize l.length = n at *
  generalize A.length = na at *
  go_enter Tryz.func3, Tryz.ntmps3
  go_wp2_with fail
  refine (C1.out w (Below.refl _ _)).mono ?_
  rintro e w1 ⟨q1, d1, rfl, ha1, b1⟩
  have HA1 := Lib.hid ha1
  have B := Lib.hid b1
  clear ha1 b1 C1
  go_wp2_with fail
  refine (C2.out w1 B.out).mono ?_
  rintro e w2 ⟨q2, d2, rfl, ha2, b2⟩
  have HA1 := Lib.hid (HA1.out.below b2)
  have HA2 := Lib.hid ha2
  have B := Lib.hid (B.out.trans (b2.mono B.out.size))
  clear ha2 b2 C2
  go_wp2_with fail
  refine (C3.out _ B.out).mono ?_
  rintro e w3 ⟨rfl, b3⟩
  have HA1 := Lib.hid (HA1.out.below b3)
  have HA2 := Lib.hid (HA2.out.below b3)
  have B := Lib.hid (B.out.trans (b3.mono B.out.size))
  clear b3 C3
  go_wp2_with fail
  refine (C4.out _ B.out).mono ?_
  rintro e w4 ⟨rfl, b3⟩
  have HA1 := Lib.hid (HA1.out.below b3)
  have HA2 := Lib.hid (HA2.out.below b3)
  have B := Lib.hid (B.out.trans (b3.mono B.out.size))
  clear b3 C4
  go_wp2_with fail
  refine (C5.out _ B.out).mono ?_
  rintro e w5 ⟨rfl, b3⟩
  have HA1 := Lib.hid (HA1.out.below b3)
  have HA2 := Lib.hid (HA2.out.below b3)
  have B := Lib.hid (B.out.trans (b3.mono B.out.size))
  clear b3 C5
  go_wp2_with fail
  refine (C6.out _ B.out).mono ?_
  rintro e w6 ⟨rfl, b3⟩
  have HA1 := Lib.hid (HA1.out.below b3)
  have HA2 := Lib.hid (HA2.out.below b3)
  have B := Lib.hid (B.out.trans (b3.mono B.out.size))
  clear b3 C6
  go_wp2_with fail
  refine (C7.out _ B.out).mono ?_
  rintro e w7 ⟨rfl, b3⟩
  have HA1 := Lib.hid (HA1.out.below b3)
  have HA2 := Lib.hid (HA2.out.below b3)
  have B := Lib.hid (B.out.trans (b3.mono B.out.size))
  clear b3 C7
  go_wp2_with fail
  refine (C8.out _ B.out).mono ?_
  rintro e w8 ⟨rfl, b3⟩
  have HA1 := Lib.hid (HA1.out.below b3)
  have HA2 := Lib.hid (HA2.out.below b3)
  have B := Lib.hid (B.out.trans (b3.mono B.out.size))
  clear b3 C8
  go_wp2_with fail
  refine (CL.out _ B.out).mono ?_
  rintro e w9 ⟨rfl, b3⟩
  have HA1 := Lib.hid (HA1.out.below b3)
  have HA2 := Lib.hid (HA2.out.below b3)
  have B := Lib.hid (B.out.trans (b3.mono B.out.size))
  clear b3 CL
  go_wp2_with fail
  refine (HR.out _ _ _ _ _ HA1.out HA2.out).mono ?_
  rintro e w10 ⟨rfl, b3⟩
  have B := Lib.hid (B.out.trans (b3.mono B.out.size))
  clear b3 HR HA1 HA2
  go_wp2_with fail
  refine (C9.out _ B.out).mono ?_
  rintro e w11 ⟨rfl, b3⟩
  have B := Lib.hid (B.out.trans (b3.mono B.out.size))
  clear b3 C9
  go_wp2_with fail
  refine (C10.out _ B.out).mono ?_
  rintro e w12 ⟨rfl, b3⟩
  have B := Lib.hid (B.out.trans (b3.mono B.out.size))
  clear b3 C10
  go_wp2_with fail
  refine (C11.out _ B.out).mono ?_
  rintro e w13 ⟨rfl, b3⟩
  have B := Lib.hid (B.out.trans (b3.mono B.out.size))
  clear b3 C11
  go_wp2_with fail
  refine (C12.out _ B.out).mono ?_
  rintro e w14 ⟨rfl, b3⟩
  have B := Lib.hid (B.out.trans (b3.mono B.out.size))
  clear b3 C12
  go_wp2_with fail
  go_ret
  exact ⟨rfl, B.out⟩
end Go.Proofs.YteiccjakaabfnaaGreatDoor
