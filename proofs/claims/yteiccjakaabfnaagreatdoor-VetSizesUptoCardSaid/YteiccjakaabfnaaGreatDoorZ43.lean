/-
  The walk of the document's answer for vet: lost. Condition: the nodes are of a size that a machine holds.
  The walk of the document's answer for vet: roots. Condition: the nodes are of a size that the walk holds.
-/
import Derived.Test.YteiccjakaabfnaaGreatDoorZ38
import Derived.Test.YteiccjakaabfnaaGreatDoorZ32
import Derived.Test.YteiccjakaabfnaaGreatDoorRVtPut
namespace Go.Proofs.YteiccjakaabfnaaGreatDoor
open Go.RowKit

mutual
/-- Whether this stands where it is nothing. -/
def Rv.loN : Nd.N → Bool
  | .mk k _ p kids els => ((Vt.rt p).toList == [116, 104, 105, 115]) || (k != 5 && (Rv.loL kids || Rv.loL els))
def Rv.loL : List Nd.N → Bool
  | [] => false
  | n :: l => Rv.loN n || Rv.loL l
end
theorem Rv.loN_eq : ∀ n : Nd.N, Rv.loN n = (((Vt.rt n.path).toList == [116, 104, 105, 115]) || (n.kind != 5 && (Rv.loL n.kids || Rv.loL n.els))) | .mk _ _ _ _ _ => by rw [Rv.loN]; rfl
theorem Rv.lo_any (l : List Nd.N) : Rv.loL l = l.any Rv.loN := by
  induction l with
  | nil => rw [Rv.loL]; rfl
  | cons x l ih => rw [Rv.loL, ih, List.any_cons]
def Rv.LostC (w0 : World) (l : List Nd.N) : Prop := l.length ≤ 140737488351232 → ∀ (q : Option Addr) (c : Nat) (w : World), Nd.Row w0 q l → Below w0.heap.size w0 w →
    Calls Tryz.prog 65 #[.slice q l.length c] w fun e w' => e = .returned (.bool (Rv.loL l)) ∧ Below w.heap.size w w'
set_option maxRecDepth 100000 in
set_option maxHeartbeats 2000000 in
theorem refLost_step (w0 : World) (l : List Nd.N) (ih : ∀ x ∈ l, Rv.LostC w0 x.kids ∧ Rv.LostC w0 x.els) : Rv.LostC w0 l := by
  intro hnn q c w hA hB
  have HA := Lib.hid hA
  have HB := Lib.hid hB
  have Hih := Lib.hid ih
  have Hbad := Lib.hid (fun k (h : k < l.length) (hx : Rv.loN l[k] = true) => (show Rv.loL l = true by rw [Rv.lo_any, List.any_eq_true]; exact ⟨_, List.getElem_mem h, hx⟩))
  have Hend := Lib.hid (fun (h : ∀ j (hj : j < l.length), Rv.loN l[j] = false) => (show Rv.loL l = false by
    rw [Rv.lo_any, List.any_eq_false]
    intro x hx
    obtain ⟨j, hj, rfl⟩ := List.mem_iff_getElem.1 hx
    rw [h j hj]
    decide))
  generalize Rv.loL l = R at *
  obtain ⟨n, hn⟩ : ∃ n, n = l.length := ⟨_, rfl⟩
  have HN := Lib.hid hn
  rw [← hn] at hnn ⊢
  clear hA hB ih hn
  go_enter Tryz.func65, Tryz.ntmps65
  go_wp2_with fail
  go_loopw [4, 7] (fun _ t wr => ∃ k : Nat, k ≤ n ∧ t = .int .i64 k ∧ Hid (∀ j (hj : j < l.length), j < k → Rv.loN l[j] = false) ∧ Hid (Below w.heap.size w wr)) (fun _ t _ => n - (intOf t).toNat)
  case atStart => exact ⟨0, Nat.zero_le _, rfl, Lib.hid (fun j _ h => absurd h (Nat.not_lt_zero _)), Lib.hid (Below.refl _ _)⟩
  case round =>
    obtain ⟨k, hk, rfl, HM, HBw⟩ := hrel
    by_cases hlt : k < n
    · have hkl : k < l.length := by rw [← HN.out]; exact hlt
      have hBr := HB.out.trans (HBw.out.mono HB.out.size)
      have HBr := Lib.hid hBr
      have hbad := Hbad.out k hkl
      have hgo : Hid (Rv.loN l[k] = false → ∀ j (hj : j < l.length), j < k + 1 → Rv.loN l[j] = false) := Lib.hid (fun h j hj hjk => by
        by_cases e : j < k
        · exact HM.out j hj e
        · obtain rfl : j = k := by omega
          exact h)
      obtain ⟨b, off, pp, cp, pk, ck, pe, ce, rfl, h5, hf, hp, hrk, hre⟩ := HA.out.get k hkl
      obtain ⟨e0, e1, e2, e3, e4⟩ := h5.below hBr
      have hih := Hih.out l[k] (List.getElem_mem hkl)
      rw [Rv.loN_eq] at hbad hgo
      generalize l[k] = x at *
      obtain ⟨-, -, f3, f4, f5, -, -, -, -⟩ := hf
      have C1 := Lib.hid (fun W h => hih.1 f4 pk ck W hrk h)
      have C2 := Lib.hid (fun W h => hih.2 f5 pe ce W hre h)
      have HP := Lib.hid (hp.below hBr)
      generalize Rv.loL x.kids = r1 at *
      generalize Rv.loL x.els = r2 at *
      clear hih hp hrk hre f4 f5 HM
      generalize x.kids.length = nk at *
      generalize x.els.length = ne at *
      generalize x.path = ph at *
      generalize x.kind = kd at *
      generalize x.text = tx at *
      have Hbad2 := Lib.hid hbad
      clear hbad
      have HX1 := Lib.hid (HBw.out.alloc HBw.out.size (.cells #[.int .u8 (kd : Nat), .string tx, .slice pp ph.length cp, .slice pk nk ck, .slice pe ne ce] 37))
      have HX0 := Lib.hid (hBr.alloc hBr.size (.cells #[.int .u8 (kd : Nat), .string tx, .slice pp ph.length cp, .slice pk nk ck, .slice pe ne ce] 37))
      have HK := Lib.hid (Rv.bx wr kd tx pp ph.length cp pk nk ck pe ne ce)
      have HPx := Lib.hid (HP.out.below ((Below.refl wr.heap.size wr).alloc (Nat.le_refl _) (.cells #[.int .u8 (kd : Nat), .string tx, .slice pp ph.length cp, .slice pk nk ck, .slice pe ne ce] 37)))
      clear h5 hkl hBr HP
      obtain ⟨v0, v1, v2, v3, v4⟩ := HK.out _ (Below.refl _ _)
      have key : ∀ th : Bool, ((Vt.rt ph).toList == [116, 104, 105, 115]) = th → (th = true ∧ ∃ a r pb po, ph = a :: r ∧ pp = some ⟨pb, po, none⟩ ∧ (a.toList == [116, 104, 105, 115]) = true ∧ (wr.alloc (.cells #[.int .u8 (kd : Nat), .string tx, .slice pp ph.length cp, .slice pk nk ck, .slice pe ne ce] 37)).cell? ⟨pb, po, none⟩ = some (.string a)) ∨ (th = false ∧ (ph = [] ∨ ∃ a r pb po, ph = a :: r ∧ pp = some ⟨pb, po, none⟩ ∧ (a.toList == [116, 104, 105, 115]) = false ∧ (wr.alloc (.cells #[.int .u8 (kd : Nat), .string tx, .slice pp ph.length cp, .slice pk nk ck, .slice pe ne ce] 37)).cell? ⟨pb, po, none⟩ = some (.string a))) := by
        intro th hth
        cases hph : ph with
        | nil =>
          right
          rw [hph] at hth
          refine ⟨hth.symm.trans ?_, Or.inl rfl⟩
          rw [show Vt.rt [] = ByteArray.empty from rfl, Lib.toList_data]
          rfl
        | cons a r =>
          have h1 := HPx.out
          rw [hph] at h1 hth
          obtain ⟨pb, po, hpp, hc⟩ := h1.get 0 (by simp)
          rw [Nat.add_zero] at hc
          have hth : (a.toList == [116, 104, 105, 115]) = th := hth
          cases th with
          | true => exact Or.inl ⟨rfl, a, r, pb, po, rfl, hpp, hth, hc⟩
          | false => exact Or.inr ⟨rfl, Or.inr ⟨a, r, pb, po, rfl, hpp, hth, hc⟩⟩
      generalize hthq : ((Vt.rt ph).toList == [116, 104, 105, 115]) = th at *
      rcases key th rfl with ⟨rfl, a, r, pb, po, rfl, rfl, hq, hc⟩ | ⟨rfl, hph⟩
      · obtain rfl := Hbad2.out rfl
        have hpos : (0 : Int) < ((a :: r).length : Int) := by rw [List.length_cons]; omega
        generalize (a :: r).length = np at *
        clear key HPx
        go_wp2_with fail
        go_ret
        exact ⟨rfl, HX1.out⟩
      · have hB1 := Lib.hid (fun (h : kd ≠ 5) (h1 : r1 = true) => Hbad2.out (by rw [h1, Bool.false_or, Bool.true_or, Bool.and_true, bne_iff_ne]; exact h))
        have hB2 := Lib.hid (fun (h : kd ≠ 5) (h1 : r2 = true) => Hbad2.out (by rw [h1, Bool.false_or, Bool.or_true, Bool.and_true, bne_iff_ne]; exact h))
        have hG5 := Lib.hid (fun (h : kd = 5) => hgo.out (by rw [h]; rfl))
        have hG := Lib.hid (fun (h1 : r1 = false) (h2 : r2 = false) => hgo.out (by rw [h1, h2, Bool.false_or, Bool.or_false, Bool.and_false]))
        clear Hbad2 hgo key HPx hthq
        have hnp : (ph = [] ∧ ¬ (0 : Int) < (ph.length : Int)) ∨ ∃ a r pb po, (0 : Int) < (ph.length : Int) ∧ ph = a :: r ∧ pp = some ⟨pb, po, none⟩ ∧ (a.toList == [116, 104, 105, 115]) = false ∧ (wr.alloc (.cells #[.int .u8 (kd : Nat), .string tx, .slice pp ph.length cp, .slice pk nk ck, .slice pe ne ce] 37)).cell? ⟨pb, po, none⟩ = some (.string a) := by
          rcases hph with h | ⟨a, r, pb, po, h1, h2, h3, h4⟩
          · left; rw [h]; exact ⟨rfl, by simp⟩
          · right; exact ⟨a, r, pb, po, by rw [h1, List.length_cons]; omega, h1, h2, h3, h4⟩
        clear hph
        generalize ph.length = np at *
        by_cases h5 : kd = 5
        · have HG := Lib.hid (hG5.out h5)
          have q5 : ((kd : Int) != 5) = false := by rw [h5]; rfl
          have q6 : ((kd : Int) == 5) = true := by rw [h5]; rfl
          clear h5 hG hG5 hB1 hB2 C1 C2
          rcases hnp with ⟨-, hnp⟩ | ⟨a, r, pb, po, hnp, -, rfl, hq, hc⟩
          · go_wp2_with fail
            exact ⟨⟨k + 1, by omega, by go_num, HG, HX1⟩, by simp [intOf]; omega⟩
          · go_wp2_with fail
            exact ⟨⟨k + 1, by omega, by go_num, HG, HX1⟩, by simp [intOf]; omega⟩
        · have q5 : ((kd : Int) != 5) = true := by rw [bne_iff_ne]; omega
          have q6 : ((kd : Int) == 5) = false := beq_eq_false_iff_ne.2 (by omega)
          have HR1 := Lib.hid (hB1.out h5)
          have HR2 := Lib.hid (hB2.out h5)
          clear h5 hG5 hB1 hB2
          rcases hnp with ⟨-, hnp⟩ | ⟨a, r, pb, po, hnp, -, rfl, hq, hc⟩
          all_goals
            go_wp2_with fail
            refine (C1.out _ HX0.out).mono ?_
            rintro e w5 ⟨rfl, hb5⟩
            have HX2 := Lib.hid (HX1.out.trans (hb5.mono HX1.out.size))
            have HX3 := Lib.hid (HX0.out.trans (hb5.mono HX0.out.size))
            obtain ⟨u0, u1, u2, u3, u4⟩ := HK.out _ hb5
            clear hb5 C1
            cases r1 with
            | true =>
              obtain rfl := HR1.out rfl
              go_wp2_with fail
              go_ret
              exact ⟨rfl, HX2.out⟩
            | false =>
              go_wp2_with fail
              refine (C2.out _ HX3.out).mono ?_
              rintro e w6 ⟨rfl, hb6⟩
              have HX4 := Lib.hid (HX2.out.trans (hb6.mono HX2.out.size))
              clear hb6 C2
              cases r2 with
              | true =>
                obtain rfl := HR2.out rfl
                go_wp2_with fail
                go_ret
                exact ⟨rfl, HX4.out⟩
              | false =>
                have HG2 := Lib.hid (hG.out trivial rfl)
                go_wp2_with fail
                exact ⟨⟨k + 1, by omega, by go_num, HG2, HX4⟩, by simp [intOf]; omega⟩
    · obtain rfl : k = n := by omega
      obtain rfl := Hend.out (fun j hj => HM.out j hj (by have := HN.out; omega))
      go_wp2_with fail
      go_ret
      exact ⟨rfl, HBw.out⟩
theorem refLost_any (w0 : World) (l : List Nd.N) : Rv.LostC w0 l := Rv.ind (fun l ih => refLost_step w0 l ih) l
end Go.Proofs.YteiccjakaabfnaaGreatDoor
namespace Go.Proofs.YteiccjakaabfnaaGreatDoor
open Go.RowKit

/-- A path's first name among texts that rise, if it counts. -/
def Rv.stp (R : List ByteArray) : List ByteArray → List ByteArray
  | [] => R
  | a :: _ => if (a.toList == [116, 104, 105, 115]) = true then R else Rv.ins R a
mutual
def Rv.rtN (R : List ByteArray) : Nd.N → List ByteArray
  | .mk _ _ p kids els => Rv.rtL (Rv.rtL (Rv.stp R p) kids) els
def Rv.rtL (R : List ByteArray) : List Nd.N → List ByteArray
  | [] => R
  | n :: l => Rv.rtL (Rv.rtN R n) l
end
theorem Rv.rtN_eq (R : List ByteArray) : ∀ n : Nd.N, Rv.rtN R n = Rv.rtL (Rv.rtL (Rv.stp R n.path) n.kids) n.els | .mk _ _ _ _ _ => by rw [Rv.rtN]; rfl
theorem Rv.ins_len (l : List ByteArray) (s : ByteArray) : (Rv.ins l s).length ≤ l.length + 1 := by
  induction l with
  | nil => simp [Rv.ins]
  | cons a l ih =>
    rw [Rv.ins]
    split
    · simp only [List.length_cons]; omega
    · split <;> simp
theorem Rv.stp_len (R p : List ByteArray) : (Rv.stp R p).length ≤ R.length + 1 := by
  cases p with
  | nil => exact Nat.le_succ _
  | cons a r =>
    rw [Rv.stp]
    split
    · exact Nat.le_succ _
    · exact Rv.ins_len R a
mutual
theorem Rv.rtN_len (R : List ByteArray) : ∀ n : Nd.N, (Rv.rtN R n).length ≤ R.length + n.cnt
  | .mk _ _ p kids els => by
    rw [Rv.rtN, Nd.N.cnt]
    have h1 := Rv.rtL_len (Rv.rtL (Rv.stp R p) kids) els
    have h2 := Rv.rtL_len (Rv.stp R p) kids
    have h3 := Rv.stp_len R p
    omega
theorem Rv.rtL_len (R : List ByteArray) : ∀ l : List Nd.N, (Rv.rtL R l).length ≤ R.length + Nd.cntL l
  | [] => by rw [Rv.rtL]; omega
  | n :: l => by
    rw [Rv.rtL, Nd.cntL_cons]
    have h1 := Rv.rtL_len (Rv.rtN R n) l
    have h2 := Rv.rtN_len R n
    omega
end
theorem Rv.rt_snoc (l : List Nd.N) (k : Nat) (h : k < l.length) : ∀ R, Rv.rtL R (l.take (k + 1)) = Rv.rtL (Rv.rtL (Rv.stp (Rv.rtL R (l.take k)) l[k].path) l[k].kids) l[k].els := by
  have hap : ∀ (a b : List Nd.N) R, Rv.rtL R (a ++ b) = Rv.rtL (Rv.rtL R a) b := by
    intro a b
    induction a with
    | nil => intro R; rw [List.nil_append, Rv.rtL]
    | cons x a ih => intro R; rw [List.cons_append, Rv.rtL, Rv.rtL, ih]
  intro R
  rw [List.take_succ_eq_append_getElem h, hap, Rv.rtL, Rv.rtL, Rv.rtN_eq]
def Rv.RootsC (w0 : World) (l : List Nd.N) : Prop := ∀ (R : List ByteArray) (p : Option Addr) (c : Nat), R.length + Nd.cntL l ≤ 100000 → ∀ (q : Option Addr) (cq : Nat) (w : World), Rv.Sl w p c R → Nd.Row w0 q l → Below w0.heap.size w0 w →
    Calls Tryz.prog 52 #[.slice p R.length c, .slice q l.length cq] w (Rv.PutPost (Rv.rtL R l) w)
set_option maxRecDepth 100000 in
set_option maxHeartbeats 4000000 in
theorem refRoots_step (w0 : World) (l : List Nd.N) (ih : ∀ x ∈ l, Rv.RootsC w0 x.kids ∧ Rv.RootsC w0 x.els) : Rv.RootsC w0 l := by
  intro R p c hcnt q cq w hS hA hB
  have HA := Lib.hid hA
  have HB := Lib.hid hB
  have Hih := Lib.hid ih
  have Hct := Lib.hid hcnt
  have hln := Nd.cntL_len l
  have Hsn := Lib.hid (fun k h => Rv.rt_snoc l k h R)
  have Hmem := Lib.hid (fun k (h : k < l.length) => Rv.cnt_snoc l k h)
  have Htk := Lib.hid (fun k => Rv.cnt_take l k)
  have Hrl := Lib.hid (fun k => Rv.rtL_len R (l.take k))
  have HS := Lib.hid (show Rv.Sl w p c (Rv.rtL R (l.take 0)) by rw [List.take_zero, Rv.rtL]; exact hS)
  have HE := Lib.hid (show Rv.rtL R (l.take l.length) = Rv.rtL R l by rw [List.take_length])
  have hR0 : R.length = (Rv.rtL R (l.take 0)).length := by rw [List.take_zero, Rv.rtL]
  have HR0 := Lib.hid hR0
  rw [hR0]
  generalize Rv.rtL R l = RR at *
  obtain ⟨n, hn⟩ : ∃ n, n = l.length := ⟨_, rfl⟩
  have HN := Lib.hid hn
  have hnn : n ≤ 100000 := by omega
  rw [← hn]
  clear hA hB ih hn hS hcnt hln hR0
  go_enter Tryz.func52, Tryz.ntmps52
  go_wp2_with fail
  go_loopw [0, 6, 9] (fun v _ t wr => ∃ (k : Nat) (p' : Option Addr) (c' : Nat) (R' : List ByteArray), k ≤ n ∧ t = .int .i64 k ∧ v = .slice p' R'.length c' ∧ Hid (R' = Rv.rtL R (l.take k)) ∧ Hid (Rv.Sl wr p' c' R') ∧ Hid (Below w.heap.size w wr)) (fun _ _ t _ => n - (intOf t).toNat)
  case atStart => exact ⟨0, p, c, _, Nat.zero_le _, rfl, rfl, Lib.hid rfl, HS, Lib.hid (Below.refl _ _)⟩
  case round =>
    obtain ⟨k, p', c', R', hk, rfl, rfl, HR', HSl, HBw⟩ := hrel
    by_cases hlt : k < n
    · have hkl : k < l.length := by rw [← HN.out]; exact hlt
      have hBr := HB.out.trans (HBw.out.mono HB.out.size)
      have HBr := Lib.hid hBr
      have hsn := Hsn.out k hkl
      have hmm := Hmem.out k hkl
      have htk := Htk.out (k + 1)
      have hrl := Hrl.out k
      have hct := Hct.out
      rw [← HR'.out] at hsn hrl
      obtain ⟨b, off, pp, cp, pk, ck, pe, ce, rfl, h5, hf, hp, hrk, hre⟩ := HA.out.get k hkl
      obtain ⟨e0, e1, e2, e3, e4⟩ := h5.below hBr
      have hih := Hih.out l[k] (List.getElem_mem hkl)
      generalize l[k] = x at *
      have hl1 := Rv.stp_len R' x.path
      have hl2 := Rv.rtL_len (Rv.stp R' x.path) x.kids
      have C1 := Lib.hid (fun W p2 c2 (hs : Rv.Sl W p2 c2 (Rv.stp R' x.path)) h => hih.1 (Rv.stp R' x.path) p2 c2 (by omega) pk ck W hs hrk h)
      have C2 := Lib.hid (fun W p2 c2 (hs : Rv.Sl W p2 c2 (Rv.rtL (Rv.stp R' x.path) x.kids)) h => hih.2 (Rv.rtL (Rv.stp R' x.path) x.kids) p2 c2 (by omega) pe ce W hs hre h)
      have hRl : R'.length ≤ 1000000 := by omega
      have CP := Lib.hid (fun W a (hs : Rv.Sl W p' c' R') => refPut_any R' a p' c' W hRl hs)
      have HP := Lib.hid (hp.below hBr)
      have Hst := Lib.hid (fun a r (h : x.path = a :: r) => (show Rv.stp R' x.path = if (a.toList == [116, 104, 105, 115]) = true then R' else Rv.ins R' a by rw [h]; rfl))
      have Hst0 := Lib.hid (fun (h : x.path = []) => (show Rv.stp R' x.path = R' by rw [h]; rfl))
      have Hsn3 := Lib.hid hsn.symm
      generalize Rv.rtL (Rv.rtL (Rv.stp R' x.path) x.kids) x.els = R3 at *
      generalize Rv.rtL (Rv.stp R' x.path) x.kids = R2 at *
      generalize Rv.stp R' x.path = R1 at *
      clear hih hp hrk hre hl1 hl2 hsn hmm htk hrl hct
      generalize x.kids.length = nk at *
      generalize x.els.length = ne at *
      generalize x.path = ph at *
      generalize x.kind = kd at *
      generalize x.text = tx at *
      have HX1 := Lib.hid (HBw.out.alloc HBw.out.size (.cells #[.int .u8 (kd : Nat), .string tx, .slice pp ph.length cp, .slice pk nk ck, .slice pe ne ce] 37))
      have HX0 := Lib.hid (hBr.alloc hBr.size (.cells #[.int .u8 (kd : Nat), .string tx, .slice pp ph.length cp, .slice pk nk ck, .slice pe ne ce] 37))
      have HK := Lib.hid (Rv.bx wr kd tx pp ph.length cp pk nk ck pe ne ce)
      have hal := (Below.refl wr.heap.size wr).alloc (Nat.le_refl _) (.cells #[.int .u8 (kd : Nat), .string tx, .slice pp ph.length cp, .slice pk nk ck, .slice pe ne ce] 37)
      have HPx := Lib.hid (HP.out.below hal)
      have HSx := Lib.hid (HSl.out.below hal)
      have HV := Lib.hid (Vl.new wr (.cells #[.int .u8 (kd : Nat), .string tx, .slice pp ph.length cp, .slice pk nk ck, .slice pe ne ce] 37))
      clear h5 hkl hBr HP hal HSl
      obtain ⟨v0, v1, v2, v3, v4⟩ := HK.out _ (Below.refl _ _)
      have hph : (¬ (0 : Int) < (ph.length : Int) ∧ R1 = R') ∨ ∃ a r pb po, (0 : Int) < (ph.length : Int) ∧ pp = some ⟨pb, po, none⟩ ∧ ph = a :: r ∧ (wr.alloc (.cells #[.int .u8 (kd : Nat), .string tx, .slice pp ph.length cp, .slice pk nk ck, .slice pe ne ce] 37)).cell? ⟨pb, po, none⟩ = some (.string a) := by
        cases hq : ph with
        | nil => exact Or.inl ⟨by simp, Hst0.out hq⟩
        | cons a r =>
          have h1 := HPx.out
          rw [hq] at h1
          obtain ⟨pb, po, hpp, hc⟩ := h1.get 0 (by simp)
          rw [Nat.add_zero] at hc
          exact Or.inr ⟨a, r, pb, po, by rw [List.length_cons]; omega, hpp, rfl, hc⟩
      have HK : Hid (∀ W, Below (wr.alloc (.cells #[.int .u8 (kd : Nat), .string tx, .slice pp ph.length cp, .slice pk nk ck, .slice pe ne ce] 37)).heap.size (wr.alloc (.cells #[.int .u8 (kd : Nat), .string tx, .slice pp ph.length cp, .slice pk nk ck, .slice pe ne ce] 37)) W → W.cell? ⟨wr.heap.size, 0, none⟩ = some (.int .u8 (kd : Nat)) ∧ W.cell? ⟨wr.heap.size, 1, none⟩ = some (.string tx) ∧ W.cell? ⟨wr.heap.size, 2, none⟩ = some (.slice pp ph.length cp) ∧ W.cell? ⟨wr.heap.size, 3, none⟩ = some (.slice pk nk ck) ∧ W.cell? ⟨wr.heap.size, 4, none⟩ = some (.slice pe ne ce)) := Lib.hid HK.out
      have hcase : (¬ (0 : Int) < (ph.length : Int) ∧ R1 = R') ∨ (∃ a pb po, (0 : Int) < (ph.length : Int) ∧ pp = some ⟨pb, po, none⟩ ∧ (a.toList == [116, 104, 105, 115]) = true ∧ (wr.alloc (.cells #[.int .u8 (kd : Nat), .string tx, .slice pp ph.length cp, .slice pk nk ck, .slice pe ne ce] 37)).cell? ⟨pb, po, none⟩ = some (.string a) ∧ R1 = R') ∨ (∃ a pb po, (0 : Int) < (ph.length : Int) ∧ pp = some ⟨pb, po, none⟩ ∧ (a.toList == [116, 104, 105, 115]) = false ∧ (wr.alloc (.cells #[.int .u8 (kd : Nat), .string tx, .slice pp ph.length cp, .slice pk nk ck, .slice pe ne ce] 37)).cell? ⟨pb, po, none⟩ = some (.string a) ∧ R1 = Rv.ins R' a) := by
        rcases hph with h | ⟨a, r, pb, po, h1, h2, h3, h4⟩
        · exact Or.inl h
        · right
          have h5 := Hst.out a r h3
          cases hb : (a.toList == [116, 104, 105, 115]) with
          | true => rw [if_pos hb] at h5; exact Or.inl ⟨a, pb, po, h1, h2, hb, h4, h5⟩
          | false => rw [if_neg (by rw [hb]; decide)] at h5; exact Or.inr ⟨a, pb, po, h1, h2, hb, h4, h5⟩
      clear hph Hst Hst0 HPx HV
      generalize ph.length = np at *
      rcases hcase with ⟨hnp, he⟩ | ⟨a, pb, po, hnp, rfl, hq, hcx, he⟩ | ⟨a, pb, po, hnp, rfl, hq, hcx, he⟩
      · subst he
        go_wp2_with fail
        obtain ⟨wx, hwx⟩ : ∃ wx, wx = wr.alloc (.cells #[.int .u8 (kd : Nat), .string tx, .slice pp np cp, .slice pk nk ck, .slice pe ne ce] 37) := ⟨_, rfl⟩
        rw [← hwx] at HX1 HX0 HK HSx ⊢
        clear hwx
        generalize wr.heap.size = xb at *
        have HKx : Hid (∀ W, Below wx.heap.size wx W → W.cell? ⟨xb, 0, none⟩ = some (.int .u8 (kd : Nat)) ∧ W.cell? ⟨xb, 1, none⟩ = some (.string tx) ∧ W.cell? ⟨xb, 2, none⟩ = some (.slice pp np cp) ∧ W.cell? ⟨xb, 3, none⟩ = some (.slice pk nk ck) ∧ W.cell? ⟨xb, 4, none⟩ = some (.slice pe ne ce)) := Lib.hid HK.out
        obtain ⟨v0, v1, v2, v3, v4⟩ := HKx.out wx (Below.refl _ _)
        go_region_held3 (fun w' => w'.cell? ⟨xb, 0, none⟩ = some (.int .u8 (kd : Nat)) ∧ w'.cell? ⟨xb, 1, none⟩ = some (.string tx) ∧ w'.cell? ⟨xb, 2, none⟩ = some (.slice pp np cp) ∧ w'.cell? ⟨xb, 3, none⟩ = some (.slice pk nk ck) ∧ w'.cell? ⟨xb, 4, none⟩ = some (.slice pe ne ce))
          (first | (go_keep; done) | (with_reducible exact HKx.out _ e8) | (with_reducible exact HKx.out _ e7))
          (first
            | (go_at_call 52; (with_reducible refine (C1.out _ _ _ (HSx.out.below (Below.refl _ wx).drew) HX0.out.drew).mono ?_); rintro e w5 ⟨p5, c5, rfl, hs5, hb5⟩; have e7 : Below wx.heap.size wx w5 := (Below.refl _ wx).drew.trans hb5)
            | (go_at_call 52; (with_reducible refine (C2.out _ _ _ hs5 (HX0.out.trans (e7.mono HX0.out.size))).mono ?_); rintro e w6 ⟨p6, c6, rfl, hs6, hb6⟩; have e8 : Below wx.heap.size wx w6 := e7.trans (hb6.mono e7.size)))
        have HB9 := Lib.hid (HX1.out.trans (e8.mono HX1.out.size))
        have HS9 := Lib.hid hs6
        go_wp2_with fail
        exact ⟨⟨k + 1, p6, c6, R3, by omega, by go_num, rfl, Hsn3, HS9, HB9⟩, by simp [intOf]; omega⟩
      · subst he
        have hq2 : (a.toList != [116, 104, 105, 115]) = false := by unfold bne; rw [hq]; rfl
        go_wp2_with fail
        obtain ⟨wx, hwx⟩ : ∃ wx, wx = wr.alloc (.cells #[.int .u8 (kd : Nat), .string tx, (.slice (some ⟨pb, po, none⟩) np cp), .slice pk nk ck, .slice pe ne ce] 37) := ⟨_, rfl⟩
        rw [← hwx] at HX1 HX0 HK HSx ⊢
        clear hwx
        generalize wr.heap.size = xb at *
        have HKx : Hid (∀ W, Below wx.heap.size wx W → W.cell? ⟨xb, 0, none⟩ = some (.int .u8 (kd : Nat)) ∧ W.cell? ⟨xb, 1, none⟩ = some (.string tx) ∧ W.cell? ⟨xb, 2, none⟩ = some ((.slice (some ⟨pb, po, none⟩) np cp)) ∧ W.cell? ⟨xb, 3, none⟩ = some (.slice pk nk ck) ∧ W.cell? ⟨xb, 4, none⟩ = some (.slice pe ne ce)) := Lib.hid HK.out
        obtain ⟨v0, v1, v2, v3, v4⟩ := HKx.out wx (Below.refl _ _)
        go_region_held3 (fun w' => w'.cell? ⟨xb, 0, none⟩ = some (.int .u8 (kd : Nat)) ∧ w'.cell? ⟨xb, 1, none⟩ = some (.string tx) ∧ w'.cell? ⟨xb, 2, none⟩ = some ((.slice (some ⟨pb, po, none⟩) np cp)) ∧ w'.cell? ⟨xb, 3, none⟩ = some (.slice pk nk ck) ∧ w'.cell? ⟨xb, 4, none⟩ = some (.slice pe ne ce))
          (first | (go_keep; done) | (with_reducible exact HKx.out _ e8) | (with_reducible exact HKx.out _ e7))
          (first
            | (go_at_call 52; (with_reducible refine (C1.out _ _ _ (HSx.out.below (Below.refl _ wx).drew) HX0.out.drew).mono ?_); rintro e w5 ⟨p5, c5, rfl, hs5, hb5⟩; have e7 : Below wx.heap.size wx w5 := (Below.refl _ wx).drew.trans hb5)
            | (go_at_call 52; (with_reducible refine (C2.out _ _ _ hs5 (HX0.out.trans (e7.mono HX0.out.size))).mono ?_); rintro e w6 ⟨p6, c6, rfl, hs6, hb6⟩; have e8 : Below wx.heap.size wx w6 := e7.trans (hb6.mono e7.size)))
        have HB9 := Lib.hid (HX1.out.trans (e8.mono HX1.out.size))
        have HS9 := Lib.hid hs6
        go_wp2_with fail
        exact ⟨⟨k + 1, p6, c6, R3, by omega, by go_num, rfl, Hsn3, HS9, HB9⟩, by simp [intOf]; omega⟩
      · subst he
        have hq2 : (a.toList != [116, 104, 105, 115]) = true := by unfold bne; rw [hq]; rfl
        go_wp2_with fail
        refine (CP.out _ a HSx.out).mono ?_
        rintro e wx ⟨p1, c1, rfl, hs1, hb1⟩
        have HSx := Lib.hid hs1
        have HX1 := Lib.hid (HX1.out.trans (hb1.mono HX1.out.size))
        have HX0 := Lib.hid (HX0.out.trans (hb1.mono HX0.out.size))
        have HK := Lib.hid (fun W (h : Below wx.heap.size wx W) => HK.out W (hb1.trans (h.mono hb1.size)))
        clear hb1 hs1 v0 v1 v2 v3 v4 e0 e1 e2 e3 e4 hcx
        generalize wr.heap.size = xb at *
        clear CP
        obtain ⟨v0, v1, v2, v3, v4⟩ := HK.out wx (Below.refl _ _)
        go_wp2_with fail
        have HKx : Hid (∀ W, Below wx.heap.size wx W → W.cell? ⟨xb, 0, none⟩ = some (.int .u8 (kd : Nat)) ∧ W.cell? ⟨xb, 1, none⟩ = some (.string tx) ∧ W.cell? ⟨xb, 2, none⟩ = some ((.slice (some ⟨pb, po, none⟩) np cp)) ∧ W.cell? ⟨xb, 3, none⟩ = some (.slice pk nk ck) ∧ W.cell? ⟨xb, 4, none⟩ = some (.slice pe ne ce)) := Lib.hid HK.out
        obtain ⟨v0, v1, v2, v3, v4⟩ := HKx.out wx (Below.refl _ _)
        go_region_held3 (fun w' => w'.cell? ⟨xb, 0, none⟩ = some (.int .u8 (kd : Nat)) ∧ w'.cell? ⟨xb, 1, none⟩ = some (.string tx) ∧ w'.cell? ⟨xb, 2, none⟩ = some ((.slice (some ⟨pb, po, none⟩) np cp)) ∧ w'.cell? ⟨xb, 3, none⟩ = some (.slice pk nk ck) ∧ w'.cell? ⟨xb, 4, none⟩ = some (.slice pe ne ce))
          (first | (go_keep; done) | (with_reducible exact HKx.out _ e8) | (with_reducible exact HKx.out _ e7))
          (first
            | (go_at_call 52; (with_reducible refine (C1.out _ _ _ (HSx.out.below (Below.refl _ wx).drew) HX0.out.drew).mono ?_); rintro e w5 ⟨p5, c5, rfl, hs5, hb5⟩; have e7 : Below wx.heap.size wx w5 := (Below.refl _ wx).drew.trans hb5)
            | (go_at_call 52; (with_reducible refine (C2.out _ _ _ hs5 (HX0.out.trans (e7.mono HX0.out.size))).mono ?_); rintro e w6 ⟨p6, c6, rfl, hs6, hb6⟩; have e8 : Below wx.heap.size wx w6 := e7.trans (hb6.mono e7.size)))
        have HB9 := Lib.hid (HX1.out.trans (e8.mono HX1.out.size))
        have HS9 := Lib.hid hs6
        go_wp2_with fail
        exact ⟨⟨k + 1, p6, c6, R3, by omega, by go_num, rfl, Hsn3, HS9, HB9⟩, by simp [intOf]; omega⟩
    · obtain rfl : k = n := by omega
      have h := HR'.out
      rw [HN.out, HE.out] at h
      subst h
      go_wp2_with fail
      go_ret
      exact ⟨_, _, rfl, HSl.out, HBw.out⟩
theorem refRoots_any (w0 : World) (l : List Nd.N) : Rv.RootsC w0 l := Rv.ind (fun l ih => refRoots_step w0 l ih) l
end Go.Proofs.YteiccjakaabfnaaGreatDoor
