/-
  The walks of the document's answer for vet: count, plain. Conditions: the nodes are of a size that a machine holds.
  The walk of the document's answer for vet: depth. Conditions: the nodes are of a size that a machine holds.
  The walk of the document's answer for vet: plain. Conditions: the nodes are of a size that a machine holds.
-/
import Derived.Test.YteiccjakaabfnaaGreatDoorRNdRight
namespace Go.Proofs.YteiccjakaabfnaaGreatDoor
open Go.RowKit

theorem Rv.ind {P : List Nd.N → Prop} (step : ∀ l, (∀ x ∈ l, P x.kids ∧ P x.els) → P l) (l : List Nd.N) : P l := by
  have key : ∀ n (l : List Nd.N), Nd.cntL l ≤ n → P l := by
    intro n
    induction n with
    | zero =>
      intro l h
      refine step l fun x hx => ?_
      have := Nd.cntL_len l
      have : l = [] := List.length_eq_zero_iff.1 (by omega)
      subst this
      cases hx
    | succ n ih =>
      intro l h
      refine step l fun x hx => ?_
      have hc : x.cnt ≤ Nd.cntL l := by
        clear ih h
        induction l with
        | nil => cases hx
        | cons y l ihl =>
          rw [Nd.cntL_cons]
          rcases List.mem_cons.1 hx with rfl | hx
          · omega
          · have := ihl hx; omega
      rw [Nd.N.cnt_eq] at hc
      exact ⟨ih _ (by omega), ih _ (by omega)⟩
  exact key _ l (Nat.le_refl _)
theorem Rv.cnt_mem {l : List Nd.N} {x : Nd.N} (hx : x ∈ l) : Nd.cntL x.kids + Nd.cntL x.els + 1 ≤ Nd.cntL l := by
  rw [← Nd.N.cnt_eq]
  induction l with
  | nil => cases hx
  | cons y l ihl =>
    rw [Nd.cntL_cons]
    rcases List.mem_cons.1 hx with rfl | hx
    · omega
    · have := ihl hx; omega
theorem Rv.cnt_snoc (l : List Nd.N) (k : Nat) (h : k < l.length) : Nd.cntL (l.take (k + 1)) = Nd.cntL (l.take k) + (Nd.cntL l[k].kids + Nd.cntL l[k].els + 1) := by
  rw [List.take_succ_eq_append_getElem h, Nd.cntL_append, Nd.cntL_cons, Nd.cntL_nil, ← Nd.N.cnt_eq, Nat.add_zero]
theorem Rv.cnt_take (l : List Nd.N) (k : Nat) : Nd.cntL (l.take k) ≤ Nd.cntL l := by
  have h := Nd.cntL_append (l.take k) (l.drop k)
  rw [List.take_append_drop] at h
  omega
/-- A node's five cells in a box. -/
def Rv.Bx (W : World) (x : Nat) (kd : Nat) (tx : ByteArray) (pp : Option Addr) (np cp : Nat) (pk : Option Addr) (nk ck : Nat) (pe : Option Addr) (ne ce : Nat) : Prop :=
  W.cell? ⟨x, 0, none⟩ = some (.int .u8 kd) ∧ W.cell? ⟨x, 1, none⟩ = some (.string tx) ∧ W.cell? ⟨x, 2, none⟩ = some (.slice pp np cp) ∧ W.cell? ⟨x, 3, none⟩ = some (.slice pk nk ck) ∧ W.cell? ⟨x, 4, none⟩ = some (.slice pe ne ce)
theorem Rv.bx (wr : World) (kd : Nat) (tx : ByteArray) (pp : Option Addr) (np cp : Nat) (pk : Option Addr) (nk ck : Nat) (pe : Option Addr) (ne ce : Nat) :
    ∀ W, Below (wr.alloc (.cells #[.int .u8 kd, .string tx, .slice pp np cp, .slice pk nk ck, .slice pe ne ce] 37)).heap.size (wr.alloc (.cells #[.int .u8 kd, .string tx, .slice pp np cp, .slice pk nk ck, .slice pe ne ce] 37)) W →
      Rv.Bx W wr.heap.size kd tx pp np cp pk nk ck pe ne ce := fun W hW => by
  have hN := Vl.new wr (.cells #[.int .u8 kd, .string tx, .slice pp np cp, .slice pk nk ck, .slice pe ne ce] 37)
  exact Vl.five_of ((hW.block _ (Array.getElem?_eq_some_iff.1 hN).1).trans hN)
def Rv.CountC (w0 : World) (l : List Nd.N) : Prop := Nd.cntL l ≤ 1000000 → ∀ (q : Option Addr) (c : Nat) (w : World), Nd.Row w0 q l → Below w0.heap.size w0 w →
    Calls Tryz.prog 57 #[.slice q l.length c] w fun e w' => e = .returned (.int .i64 (Nd.cntL l : Nat)) ∧ Below w.heap.size w w'
set_option maxRecDepth 100000 in
set_option maxHeartbeats 2000000 in
theorem refCount_step (w0 : World) (l : List Nd.N) (ih : ∀ x ∈ l, Rv.CountC w0 x.kids ∧ Rv.CountC w0 x.els) : Rv.CountC w0 l := by
  intro hc q c w hA hB
  have HA := Lib.hid hA
  have HB := Lib.hid hB
  have Hih := Lib.hid ih
  have Hct := Lib.hid hc
  have hln := Nd.cntL_len l
  have Hsn := Lib.hid (fun k h => Rv.cnt_snoc l k h)
  have Hmem := Lib.hid (fun k (h : k < l.length) => Rv.cnt_mem (List.getElem_mem h))
  have Htk := Lib.hid (Rv.cnt_take l)
  obtain ⟨N, hN⟩ : ∃ N, N = Nd.cntL l := ⟨_, rfl⟩
  have HNc := Lib.hid hN
  obtain ⟨n, hn⟩ : ∃ n, n = l.length := ⟨_, rfl⟩
  have HN := Lib.hid hn
  rw [← hN] at hc hln ⊢
  rw [← hn] at hln ⊢
  clear hA hB ih hN hn
  go_enter Tryz.func57, Tryz.ntmps57
  go_wp2_with fail
  go_loopw [3, 5, 10] (fun v _ t wr => ∃ k m : Nat, k ≤ n ∧ t = .int .i64 k ∧ v = .int .i64 m ∧ Hid (m + k = n + Nd.cntL (l.take k)) ∧ Hid (Below w.heap.size w wr)) (fun _ _ t _ => n - (intOf t).toNat)
  case atStart => exact ⟨0, n, Nat.zero_le _, rfl, rfl, Lib.hid (by rw [List.take_zero, Nd.cntL_nil]), Lib.hid (Below.refl _ _)⟩
  case round =>
    obtain ⟨k, m, hk, rfl, rfl, HM, HBw⟩ := hrel
    have hm := HM.out
    have htk := Htk.out k
    have hct := Hct.out
    have hnc := HNc.out
    by_cases hlt : k < n
    · have hkl : k < l.length := by rw [← HN.out]; exact hlt
      have hBr := HB.out.trans (HBw.out.mono HB.out.size)
      have HBr := Lib.hid hBr
      have hsn := Hsn.out k hkl
      have hmm := Hmem.out k hkl
      obtain ⟨b, off, pp, cp, pk, ck, pe, ce, rfl, h5, hf, hp, hrk, hre⟩ := HA.out.get k hkl
      obtain ⟨e0, e1, e2, e3, e4⟩ := h5.below hBr
      have hih := Hih.out l[k] (List.getElem_mem hkl)
      generalize l[k] = x at *
      have C1 := Lib.hid (fun W h => hih.1 (by omega) pk ck W hrk h)
      have C2 := Lib.hid (fun W h => hih.2 (by omega) pe ce W hre h)
      have hb1 : Nd.cntL x.kids + Nd.cntL x.els + 1 ≤ 1000000 := by omega
      have hb2 : m ≤ 2000000 := by omega
      have HS := Lib.hid (show m + (Nd.cntL x.kids + Nd.cntL x.els) + (k + 1) = n + Nd.cntL (l.take (k + 1)) by omega)
      generalize Nd.cntL x.kids = c1 at *
      generalize Nd.cntL x.els = c2 at *
      clear hsn hmm hih hf hp hrk hre hm htk hct hnc
      generalize x.kids.length = nk at *
      generalize x.els.length = ne at *
      generalize x.path.length = np at *
      generalize x.kind = kd at *
      generalize x.text = tx at *
      have hw1 : IntKind.i64.wrap ((c1 : Int) + (c2 : Int)) = ((c1 + c2 : Nat) : Int) := by rw [IntWalk.i64_in _ (by omega)]; omega
      have hw2 : IntKind.i64.wrap ((m : Int) + ((c1 + c2 : Nat) : Int)) = ((m + (c1 + c2) : Nat) : Int) := by rw [IntWalk.i64_in _ (by omega)]; omega
      have HX1 := Lib.hid (HBw.out.alloc HBw.out.size (.cells #[.int .u8 (kd : Nat), .string tx, .slice pp np cp, .slice pk nk ck, .slice pe ne ce] 37))
      have HX0 := Lib.hid (hBr.alloc hBr.size (.cells #[.int .u8 (kd : Nat), .string tx, .slice pp np cp, .slice pk nk ck, .slice pe ne ce] 37))
      have HK := Lib.hid (Rv.bx wr kd tx pp np cp pk nk ck pe ne ce)
      clear h5 hkl hBr
      go_wp2_with fail
      obtain ⟨wx, hwx⟩ : ∃ wx, wx = wr.alloc (.cells #[.int .u8 (kd : Nat), .string tx, .slice pp np cp, .slice pk nk ck, .slice pe ne ce] 37) := ⟨_, rfl⟩
      rw [← hwx] at HX1 HX0 HK ⊢
      clear hwx
      generalize wr.heap.size = xb at *
      have HK : Hid (∀ W, Below wx.heap.size wx W → W.cell? ⟨xb, 0, none⟩ = some (.int .u8 (kd : Nat)) ∧ W.cell? ⟨xb, 1, none⟩ = some (.string tx) ∧ W.cell? ⟨xb, 2, none⟩ = some (.slice pp np cp) ∧ W.cell? ⟨xb, 3, none⟩ = some (.slice pk nk ck) ∧ W.cell? ⟨xb, 4, none⟩ = some (.slice pe ne ce)) := Lib.hid HK.out
      obtain ⟨v0, v1, v2, v3, v4⟩ := HK.out wx (Below.refl _ _)
      go_region_held3 (fun w' => w'.cell? ⟨xb, 0, none⟩ = some (.int .u8 (kd : Nat)) ∧ w'.cell? ⟨xb, 1, none⟩ = some (.string tx) ∧ w'.cell? ⟨xb, 2, none⟩ = some (.slice pp np cp) ∧ w'.cell? ⟨xb, 3, none⟩ = some (.slice pk nk ck) ∧ w'.cell? ⟨xb, 4, none⟩ = some (.slice pe ne ce))
        (first | (go_keep; done) | (with_reducible exact HK.out _ e8) | (with_reducible exact HK.out _ e7))
        (first
          | (go_at_call 57; (with_reducible refine (C1.out _ HX0.out.drew).mono ?_); rintro e w5 ⟨rfl, hb5⟩; have e7 : Below wx.heap.size wx w5 := (Below.refl _ wx).drew.trans hb5)
          | (go_at_call 57; (with_reducible refine (C2.out _ (HX0.out.trans (e7.mono HX0.out.size))).mono ?_); rintro e w6 ⟨rfl, hb6⟩; have e8 : Below wx.heap.size wx w6 := e7.trans (hb6.mono e7.size)))
      have HB9 := Lib.hid (HX1.out.trans (e8.mono HX1.out.size))
      go_wp2_with fail
      exact ⟨⟨k + 1, m + (c1 + c2), by omega, by go_num, (by rw [IntWalk.i64_in _ (by omega)]; go_num), HS, HB9⟩, by simp [intOf]; omega⟩
    · obtain rfl : k = n := by omega
      have hm2 : m = N := by
        rw [HN.out, List.take_length, ← hnc] at hm
        omega
      subst hm2
      go_wp2_with fail
      go_ret
      exact ⟨rfl, HBw.out⟩
theorem refCount_any (w0 : World) (l : List Nd.N) : Rv.CountC w0 l := Rv.ind (fun l ih => refCount_step w0 l ih) l
end Go.Proofs.YteiccjakaabfnaaGreatDoor
namespace Go.Proofs.YteiccjakaabfnaaGreatDoor
open Go.RowKit

mutual
/-- How many levels. -/
def Rv.dpN : Nd.N → Nat
  | .mk _ _ _ kids els => max (1 + Rv.dpL kids) (1 + Rv.dpL els)
def Rv.dpL : List Nd.N → Nat
  | [] => 0
  | n :: l => max (Rv.dpN n) (Rv.dpL l)
end
theorem Rv.dpN_eq : ∀ n : Nd.N, Rv.dpN n = max (1 + Rv.dpL n.kids) (1 + Rv.dpL n.els) | .mk _ _ _ _ _ => by rw [Rv.dpN]; rfl
theorem Rv.dp_append (a b : List Nd.N) : Rv.dpL (a ++ b) = max (Rv.dpL a) (Rv.dpL b) := by
  induction a with
  | nil => rw [List.nil_append, Rv.dpL]; omega
  | cons x a ih => rw [List.cons_append, Rv.dpL, Rv.dpL, ih]; omega
theorem Rv.dp_snoc (l : List Nd.N) (k : Nat) (h : k < l.length) : Rv.dpL (l.take (k + 1)) = max (Rv.dpL (l.take k)) (max (1 + Rv.dpL l[k].kids) (1 + Rv.dpL l[k].els)) := by
  rw [List.take_succ_eq_append_getElem h, Rv.dp_append, Rv.dpL, Rv.dpL, Rv.dpN_eq, Nat.max_zero]
theorem Rv.dp_take (l : List Nd.N) (k : Nat) : Rv.dpL (l.take k) ≤ Rv.dpL l := by
  have h := Rv.dp_append (l.take k) (l.drop k)
  rw [List.take_append_drop] at h
  omega
theorem Rv.dp_mem {l : List Nd.N} {x : Nd.N} (hx : x ∈ l) : max (1 + Rv.dpL x.kids) (1 + Rv.dpL x.els) ≤ Rv.dpL l := by
  rw [← Rv.dpN_eq]
  induction l with
  | nil => cases hx
  | cons y l ihl =>
    rw [Rv.dpL]
    rcases List.mem_cons.1 hx with rfl | hx
    · omega
    · have := ihl hx; omega
def Rv.DepthC (w0 : World) (l : List Nd.N) : Prop := Rv.dpL l ≤ 1000000 → l.length ≤ 140737488351232 → ∀ (q : Option Addr) (c : Nat) (w : World), Nd.Row w0 q l → Below w0.heap.size w0 w →
    Calls Tryz.prog 55 #[.slice q l.length c] w fun e w' => e = .returned (.int .i64 (Rv.dpL l : Nat)) ∧ Below w.heap.size w w'
set_option maxRecDepth 100000 in
set_option maxHeartbeats 2000000 in
theorem refDepth_step (w0 : World) (l : List Nd.N) (ih : ∀ x ∈ l, Rv.DepthC w0 x.kids ∧ Rv.DepthC w0 x.els) : Rv.DepthC w0 l := by
  intro hc hnn q c w hA hB
  have HA := Lib.hid hA
  have HB := Lib.hid hB
  have Hih := Lib.hid ih
  have Hct := Lib.hid hc
  have Hsn := Lib.hid (fun k h => Rv.dp_snoc l k h)
  have Hmem := Lib.hid (fun k (h : k < l.length) => Rv.dp_mem (List.getElem_mem h))
  have Htk := Lib.hid (Rv.dp_take l)
  obtain ⟨N, hN⟩ : ∃ N, N = Rv.dpL l := ⟨_, rfl⟩
  have HNc := Lib.hid hN
  obtain ⟨n, hn⟩ : ∃ n, n = l.length := ⟨_, rfl⟩
  have HN := Lib.hid hn
  rw [← hN] at hc ⊢
  rw [← hn] at hnn ⊢
  clear hA hB ih hN hn
  go_enter Tryz.func55, Tryz.ntmps55
  go_wp2_with fail
  go_loopw [3, 5, 8] (fun v _ t wr => ∃ k m : Nat, k ≤ n ∧ t = .int .i64 k ∧ v = .int .i64 m ∧ Hid (m = Rv.dpL (l.take k)) ∧ Hid (Below w.heap.size w wr)) (fun _ _ t _ => n - (intOf t).toNat)
  case atStart => exact ⟨0, 0, Nat.zero_le _, rfl, rfl, Lib.hid (by rw [List.take_zero, Rv.dpL]), Lib.hid (Below.refl _ _)⟩
  case round =>
    obtain ⟨k, m, hk, rfl, rfl, HM, HBw⟩ := hrel
    have hm := HM.out
    have htk := Htk.out k
    have hct := Hct.out
    have hnc := HNc.out
    by_cases hlt : k < n
    · have hkl : k < l.length := by rw [← HN.out]; exact hlt
      have hBr := HB.out.trans (HBw.out.mono HB.out.size)
      have HBr := Lib.hid hBr
      have hsn := Hsn.out k hkl
      have hmm := Hmem.out k hkl
      obtain ⟨b, off, pp, cp, pk, ck, pe, ce, rfl, h5, hf, hp, hrk, hre⟩ := HA.out.get k hkl
      obtain ⟨e0, e1, e2, e3, e4⟩ := h5.below hBr
      have hih := Hih.out l[k] (List.getElem_mem hkl)
      generalize l[k] = x at *
      obtain ⟨-, -, f3, f4, f5, -, -, -, -⟩ := hf
      have C1 := Lib.hid (fun W h => hih.1 (by omega) f4 pk ck W hrk h)
      have C2 := Lib.hid (fun W h => hih.2 (by omega) f5 pe ce W hre h)
      have hb1 : max (1 + Rv.dpL x.kids) (1 + Rv.dpL x.els) ≤ 1000000 := by omega
      have hb2 : m ≤ 1000000 := by omega
      have HS := Lib.hid (show max m (max (1 + Rv.dpL x.kids) (1 + Rv.dpL x.els)) = Rv.dpL (l.take (k + 1)) by omega)
      generalize Rv.dpL x.kids = c1 at *
      generalize Rv.dpL x.els = c2 at *
      clear hsn hmm hih hp hrk hre hm htk hct hnc f3 f4 f5
      generalize x.kids.length = nk at *
      generalize x.els.length = ne at *
      generalize x.path.length = np at *
      generalize x.kind = kd at *
      generalize x.text = tx at *
      have HX1 := Lib.hid (HBw.out.alloc HBw.out.size (.cells #[.int .u8 (kd : Nat), .string tx, .slice pp np cp, .slice pk nk ck, .slice pe ne ce] 37))
      have HX0 := Lib.hid (hBr.alloc hBr.size (.cells #[.int .u8 (kd : Nat), .string tx, .slice pp np cp, .slice pk nk ck, .slice pe ne ce] 37))
      have HK := Lib.hid (Rv.bx wr kd tx pp np cp pk nk ck pe ne ce)
      clear h5 hkl hBr
      go_wp2_with fail
      obtain ⟨wx, hwx⟩ : ∃ wx, wx = wr.alloc (.cells #[.int .u8 (kd : Nat), .string tx, .slice pp np cp, .slice pk nk ck, .slice pe ne ce] 37) := ⟨_, rfl⟩
      rw [← hwx] at HX1 HX0 HK ⊢
      clear hwx
      generalize wr.heap.size = xb at *
      have HK : Hid (∀ W, Below wx.heap.size wx W → W.cell? ⟨xb, 0, none⟩ = some (.int .u8 (kd : Nat)) ∧ W.cell? ⟨xb, 1, none⟩ = some (.string tx) ∧ W.cell? ⟨xb, 2, none⟩ = some (.slice pp np cp) ∧ W.cell? ⟨xb, 3, none⟩ = some (.slice pk nk ck) ∧ W.cell? ⟨xb, 4, none⟩ = some (.slice pe ne ce)) := Lib.hid HK.out
      obtain ⟨v0, v1, v2, v3, v4⟩ := HK.out wx (Below.refl _ _)
      go_region_held3 (fun w' => w'.cell? ⟨xb, 0, none⟩ = some (.int .u8 (kd : Nat)) ∧ w'.cell? ⟨xb, 1, none⟩ = some (.string tx) ∧ w'.cell? ⟨xb, 2, none⟩ = some (.slice pp np cp) ∧ w'.cell? ⟨xb, 3, none⟩ = some (.slice pk nk ck) ∧ w'.cell? ⟨xb, 4, none⟩ = some (.slice pe ne ce))
        (first | (go_keep; done) | (with_reducible exact HK.out _ e8) | (with_reducible exact HK.out _ e7))
        (first
          | (go_at_call 55; (with_reducible refine (C1.out _ HX0.out.drew).mono ?_); rintro e w5 ⟨rfl, hb5⟩; have e7 : Below wx.heap.size wx w5 := (Below.refl _ wx).drew.trans hb5)
          | (go_at_call 55; (with_reducible refine (C2.out _ (HX0.out.trans (e7.mono HX0.out.size))).mono ?_); rintro e w6 ⟨rfl, hb6⟩; have e8 : Below wx.heap.size wx w6 := e7.trans (hb6.mono e7.size)))
      have HB9 := Lib.hid (HX1.out.trans (e8.mono HX1.out.size))
      go_wp2_with fail
      exact ⟨⟨k + 1, max m (max (1 + c1) (1 + c2)), by omega, by go_num, (by rw [IntWalk.i64_in (1 + (c1 : Int)) (by omega), IntWalk.i64_in (1 + (c2 : Int)) (by omega)]; congr 1; (first | omega | (split <;> split <;> omega) | (repeat' split) <;> omega)), HS, HB9⟩, by simp [intOf]; omega⟩
    · obtain rfl : k = n := by omega
      have hm2 : m = N := by
        rw [HN.out, List.take_length, ← hnc] at hm
        omega
      subst hm2
      go_wp2_with fail
      go_ret
      exact ⟨rfl, HBw.out⟩
theorem refDepth_any (w0 : World) (l : List Nd.N) : Rv.DepthC w0 l := Rv.ind (fun l ih => refDepth_step w0 l ih) l
end Go.Proofs.YteiccjakaabfnaaGreatDoor
namespace Go.Proofs.YteiccjakaabfnaaGreatDoor
open Go.RowKit

mutual
/-- How many bytes the texts have. -/
def Rv.plN : Nd.N → Nat
  | .mk _ t _ kids els => t.size + Rv.plL kids + Rv.plL els
def Rv.plL : List Nd.N → Nat
  | [] => 0
  | n :: l => Rv.plN n + Rv.plL l
end
theorem Rv.plN_eq : ∀ n : Nd.N, Rv.plN n = n.text.size + Rv.plL n.kids + Rv.plL n.els | .mk _ _ _ _ _ => by rw [Rv.plN]; rfl
theorem Rv.pl_append (a b : List Nd.N) : Rv.plL (a ++ b) = Rv.plL a + Rv.plL b := by
  induction a with
  | nil => rw [List.nil_append, Rv.plL]; omega
  | cons x a ih => rw [List.cons_append, Rv.plL, Rv.plL, ih]; omega
theorem Rv.pl_snoc (l : List Nd.N) (k : Nat) (h : k < l.length) : Rv.plL (l.take (k + 1)) = Rv.plL (l.take k) + (l[k].text.size + Rv.plL l[k].kids + Rv.plL l[k].els) := by
  rw [List.take_succ_eq_append_getElem h, Rv.pl_append, Rv.plL, Rv.plL, Rv.plN_eq, Nat.add_zero]
theorem Rv.pl_take (l : List Nd.N) (k : Nat) : Rv.plL (l.take k) ≤ Rv.plL l := by
  have h := Rv.pl_append (l.take k) (l.drop k)
  rw [List.take_append_drop] at h
  omega
theorem Rv.pl_mem {l : List Nd.N} {x : Nd.N} (hx : x ∈ l) : x.text.size + Rv.plL x.kids + Rv.plL x.els ≤ Rv.plL l := by
  rw [← Rv.plN_eq]
  induction l with
  | nil => cases hx
  | cons y l ihl =>
    rw [Rv.plL]
    rcases List.mem_cons.1 hx with rfl | hx
    · omega
    · have := ihl hx; omega
def Rv.PlainC (w0 : World) (l : List Nd.N) : Prop := Rv.plL l ≤ 1000000000000000000 → l.length ≤ 140737488351232 → ∀ (q : Option Addr) (c : Nat) (w : World), Nd.Row w0 q l → Below w0.heap.size w0 w →
    Calls Tryz.prog 59 #[.slice q l.length c] w fun e w' => e = .returned (.int .i64 (Rv.plL l : Nat)) ∧ Below w.heap.size w w'
set_option maxRecDepth 100000 in
set_option maxHeartbeats 2000000 in
theorem refPlain_step (w0 : World) (l : List Nd.N) (ih : ∀ x ∈ l, Rv.PlainC w0 x.kids ∧ Rv.PlainC w0 x.els) : Rv.PlainC w0 l := by
  intro hc hnn q c w hA hB
  have HA := Lib.hid hA
  have HB := Lib.hid hB
  have Hih := Lib.hid ih
  have Hct := Lib.hid hc
  have Hsn := Lib.hid (fun k h => Rv.pl_snoc l k h)
  have Hmem := Lib.hid (fun k (h : k < l.length) => Rv.pl_mem (List.getElem_mem h))
  have Htk := Lib.hid (Rv.pl_take l)
  obtain ⟨N, hN⟩ : ∃ N, N = Rv.plL l := ⟨_, rfl⟩
  have HNc := Lib.hid hN
  obtain ⟨n, hn⟩ : ∃ n, n = l.length := ⟨_, rfl⟩
  have HN := Lib.hid hn
  rw [← hN] at hc ⊢
  rw [← hn] at hnn ⊢
  clear hA hB ih hN hn
  go_enter Tryz.func59, Tryz.ntmps59
  go_wp2_with fail
  go_loopw [3, 5, 8] (fun v _ t wr => ∃ k m : Nat, k ≤ n ∧ t = .int .i64 k ∧ v = .int .i64 m ∧ Hid (m = Rv.plL (l.take k)) ∧ Hid (Below w.heap.size w wr)) (fun _ _ t _ => n - (intOf t).toNat)
  case atStart => exact ⟨0, 0, Nat.zero_le _, rfl, rfl, Lib.hid (by rw [List.take_zero, Rv.plL]), Lib.hid (Below.refl _ _)⟩
  case round =>
    obtain ⟨k, m, hk, rfl, rfl, HM, HBw⟩ := hrel
    have hm := HM.out
    have htk := Htk.out k
    have hct := Hct.out
    have hnc := HNc.out
    by_cases hlt : k < n
    · have hkl : k < l.length := by rw [← HN.out]; exact hlt
      have hBr := HB.out.trans (HBw.out.mono HB.out.size)
      have HBr := Lib.hid hBr
      have hsn := Hsn.out k hkl
      have hmm := Hmem.out k hkl
      obtain ⟨b, off, pp, cp, pk, ck, pe, ce, rfl, h5, hf, hp, hrk, hre⟩ := HA.out.get k hkl
      obtain ⟨e0, e1, e2, e3, e4⟩ := h5.below hBr
      have hih := Hih.out l[k] (List.getElem_mem hkl)
      generalize l[k] = x at *
      obtain ⟨-, -, f3, f4, f5, -, -, -, -⟩ := hf
      have C1 := Lib.hid (fun W h => hih.1 (by omega) f4 pk ck W hrk h)
      have C2 := Lib.hid (fun W h => hih.2 (by omega) f5 pe ce W hre h)
      have hb1 : x.text.size + Rv.plL x.kids + Rv.plL x.els ≤ 1000000000000000000 := by omega
      have hb2 : m ≤ 1000000000000000000 := by omega
      have HS := Lib.hid (show m + (x.text.size + Rv.plL x.kids + Rv.plL x.els) = Rv.plL (l.take (k + 1)) by omega)
      generalize Rv.plL x.kids = c1 at *
      generalize Rv.plL x.els = c2 at *
      clear hsn hmm hih hp hrk hre hm htk hct hnc f3 f4 f5
      generalize x.kids.length = nk at *
      generalize x.els.length = ne at *
      generalize x.path.length = np at *
      generalize x.kind = kd at *
      generalize x.text = tx at *
      have HX1 := Lib.hid (HBw.out.alloc HBw.out.size (.cells #[.int .u8 (kd : Nat), .string tx, .slice pp np cp, .slice pk nk ck, .slice pe ne ce] 37))
      have HX0 := Lib.hid (hBr.alloc hBr.size (.cells #[.int .u8 (kd : Nat), .string tx, .slice pp np cp, .slice pk nk ck, .slice pe ne ce] 37))
      have HK := Lib.hid (Rv.bx wr kd tx pp np cp pk nk ck pe ne ce)
      clear h5 hkl hBr
      go_wp2_with fail
      obtain ⟨wx, hwx⟩ : ∃ wx, wx = wr.alloc (.cells #[.int .u8 (kd : Nat), .string tx, .slice pp np cp, .slice pk nk ck, .slice pe ne ce] 37) := ⟨_, rfl⟩
      rw [← hwx] at HX1 HX0 HK ⊢
      clear hwx
      generalize wr.heap.size = xb at *
      have HK : Hid (∀ W, Below wx.heap.size wx W → W.cell? ⟨xb, 0, none⟩ = some (.int .u8 (kd : Nat)) ∧ W.cell? ⟨xb, 1, none⟩ = some (.string tx) ∧ W.cell? ⟨xb, 2, none⟩ = some (.slice pp np cp) ∧ W.cell? ⟨xb, 3, none⟩ = some (.slice pk nk ck) ∧ W.cell? ⟨xb, 4, none⟩ = some (.slice pe ne ce)) := Lib.hid HK.out
      obtain ⟨v0, v1, v2, v3, v4⟩ := HK.out wx (Below.refl _ _)
      go_region_held3 (fun w' => w'.cell? ⟨xb, 0, none⟩ = some (.int .u8 (kd : Nat)) ∧ w'.cell? ⟨xb, 1, none⟩ = some (.string tx) ∧ w'.cell? ⟨xb, 2, none⟩ = some (.slice pp np cp) ∧ w'.cell? ⟨xb, 3, none⟩ = some (.slice pk nk ck) ∧ w'.cell? ⟨xb, 4, none⟩ = some (.slice pe ne ce))
        (first | (go_keep; done) | (with_reducible exact HK.out _ e8) | (with_reducible exact HK.out _ e7))
        (first
          | (go_at_call 59; (with_reducible refine (C1.out _ HX0.out.drew).mono ?_); rintro e w5 ⟨rfl, hb5⟩; have e7 : Below wx.heap.size wx w5 := (Below.refl _ wx).drew.trans hb5)
          | (go_at_call 59; (with_reducible refine (C2.out _ (HX0.out.trans (e7.mono HX0.out.size))).mono ?_); rintro e w6 ⟨rfl, hb6⟩; have e8 : Below wx.heap.size wx w6 := e7.trans (hb6.mono e7.size)))
      have HB9 := Lib.hid (HX1.out.trans (e8.mono HX1.out.size))
      go_wp2_with fail
      exact ⟨⟨k + 1, m + (tx.size + c1 + c2), by omega, by go_num, (by rw [IntWalk.i64_in ((tx.size : Int) + (c1 : Int)) (by omega), IntWalk.i64_in ((tx.size : Int) + (c1 : Int) + (c2 : Int)) (by omega), IntWalk.i64_in _ (by omega)]; go_num), HS, HB9⟩, by simp [intOf]; omega⟩
    · obtain rfl : k = n := by omega
      have hm2 : m = N := by
        rw [HN.out, List.take_length, ← hnc] at hm
        omega
      subst hm2
      go_wp2_with fail
      go_ret
      exact ⟨rfl, HBw.out⟩
theorem refPlain_any (w0 : World) (l : List Nd.N) : Rv.PlainC w0 l := Rv.ind (fun l ih => refPlain_step w0 l ih) l
end Go.Proofs.YteiccjakaabfnaaGreatDoor
