/-
  The walk of slices.DeleteFunc at timers in a row of the call's own, with whatever closure. Condition: at most 1000000 timers.
-/
import Derived.Test.YtaaodbljdpchhaaDuDrain
namespace Go.Proofs.Ytaaodbljdpchhaa
open Go.RowKit Go.Lib Go.Sort Go.Shelf

theorem Du.grown_cells (g : Nat) : ∀ (vs : List Value) (o : Nat) (w : World), w.grownBy (w.setCells g o vs) (some g)
  | [], _, w => hp_grown_refl w _
  | v :: r, o, w => hp_grown_trans (hp_grown_set w g o v) (Du.grown_cells g r (o + 1) _)
/-- clear at timers of a block of the call's own: what lies ahead stays. -/
theorem Du.clear (w : World) (g i n c : Nat) (hn : 0 < n) (hc : ∀ j, j < n * 4 → (w.cell? ⟨g, i * 4 + j, none⟩).isSome = true) (hf : ∀ j, w.frozen? ⟨g, j, none⟩ = false) :
    ∃ w', (∀ ty, (Builtin.clear_ #[22] ty #[.slice (some ⟨g, i * 4, none⟩) n c]).run Try.prog w = .ok (.tuple #[]) w') ∧ w.grownBy w' (some g) ∧ ∀ j, j < i * 4 → w'.cell? ⟨g, j, none⟩ = w.cell? ⟨g, j, none⟩ := by
  obtain ⟨vs, hvs⟩ : ∃ vs, vs = (Builtin.zeroCells #[Value.int .i64 0, Value.int .i64 0, Value.int .u8 0, Value.int .i64 0] n).toList := ⟨_, rfl⟩
  have hl : vs.length = n * 4 := by rw [hvs]; simp [Builtin.zeroCells]
  have h1 : ∀ v ∈ vs, v.oneCell' = true := by
    intro v hv
    rw [hvs] at hv
    simp only [Builtin.zeroCells, Array.toList_map, List.mem_map] at hv
    obtain ⟨k, _, rfl⟩ := hv
    have h4 : k % 4 = 0 ∨ k % 4 = 1 ∨ k % 4 = 2 ∨ k % 4 = 3 := by omega
    rcases h4 with h | h | h | h <;> simp [h] <;> rfl
  have hst := run_storeCells_cells (P := Try.prog) g (i * 4) vs 0 w (by rw [hl]; simpa using hc) (by intro j _; exact hf _) h1
  simp only [Nat.add_zero] at hst
  refine ⟨w.setCells g (i * 4) vs, ?_, ?_, fun j hj => World.cell?_setCells_out g vs (i * 4) w ⟨g, j, none⟩ (fun _ _ => Or.inl hj)⟩
  · intro ty
    obtain ⟨m, rfl⟩ : ∃ m, n = m + 1 := ⟨n - 1, by omega⟩
    have hz : ∀ w, (zeroValue 31).run Try.prog w = .ok (.agg #[.int .i64 0, .int .i64 0, .int .u8 0, .int .i64 0]) w := fun w => by
      obtain ⟨i0, hi, hz0, hz1, hz2⟩ := infoTimer
      simp [zeroValue, typeInfo, hi, hz0]
    simp [Builtin.clear_, run_underlying Try.underlying22, hz, Value.cells, ← hvs, hst]
  · exact Du.grown_cells g vs (i * 4) w
theorem Du.filter_next {l : List (Int × Int × Int × Int)} {P : (Int × Int × Int × Int) → Bool} {j : Nat} (hj : j < l.length) : (l.take (j + 1)).filter (fun x => !P x) = (l.take j).filter (fun x => !P x) ++ (if P l[j] = true then [] else [l[j]]) := by
  rw [List.take_succ_eq_append_getElem hj, List.filter_append]
  cases h : P l[j] <;> simp [h]
set_option maxHeartbeats 4000000 in
set_option maxRecDepth 100000 in
theorem hp_Delete (l : List (Int × Int × Int × Int)) (g c : Nat) (rest : List Value) (cf : Nat) (lb : Array Value) (eg : ∀ args w, (callFunc cf args).run Try.prog w = .ok (.enter cf args) w) (w : World) (P : (Int × Int × Int × Int) → Bool) (hB : Hp.Blk w g l rest) (hc : l.length ≤ c) (hn : l.length ≤ 1000000)
    (hcl : ∀ x W, w.grownBy W (some g) → Calls Try.prog cf (#[.agg #[.int .i64 x.1, .int .i64 x.2.1, .int .u8 x.2.2.1, .int .i64 x.2.2.2]] ++ lb) W fun e w' => e = .returned (.bool (P x)) ∧ Below W.heap.size W w') :
    Calls Try.prog 58 #[.slice (some ⟨g, 0, none⟩) l.length c, .func (.func cf) #[] lb] w fun e w' => e = .returned (.slice (some ⟨g, 0, none⟩) (l.filter (fun x => !P x)).length c) ∧ Hp.At w' (some ⟨g, 0, none⟩) (l.filter (fun x => !P x)) ∧ w.grownBy w' (some g) := by
  have CI := Lib.hid (hp_index l (some ⟨g, 0, none⟩) c cf lb eg w (fun k => P (Hp.g l k)) (fun _ W => Below w.heap.size w W) (by omega) (fun k W h => hB.at.below h)
    (fun k hk W h => (by rw [Hp.g_eq _ _ hk]; exact (hcl l[k] W (hp_grown_of_below h _)).mono fun e w' h2 => ⟨h2.1, h.trans (h2.2.mono h.size)⟩)) (Below.refl _ _))
  have CL := Lib.hid hcl
  have BL := Lib.hid hB
  have hg := hB.lt
  clear hcl hB
  obtain ⟨n, hnl⟩ : ∃ n, n = l.length := ⟨_, rfl⟩
  have Hn := Lib.hid hnl
  rw [← hnl] at CI hn hc
  rw [← hnl]
  clear hnl
  go_enter Try.func58, Try.ntmps58
  go_wp2_with fail
  refine CI.out.mono ?_
  rintro e w1 (⟨k, hk, hP, hP0, rfl, hb⟩ | ⟨hP0, rfl, hb⟩)
  · simp only [] at hP hP0
    have hkl : k < l.length := by rw [← Hn.out]; exact hk
    have hk1 : (k : Int) < (n : Int) := by omega
    have hk0 : ((k : Int) == -1) = false := by simp
    have B1 := Lib.hid (BL.out.below hb hg)
    have G1 := Lib.hid (hp_grown_of_below hb (some g))
    have hgl := B1.out.lt
    have F1 : Hid ((l.take (k + 1)).filter (fun x => !P x) = l.take k) := by
      rw [Hp.g_eq _ _ hkl] at hP
      rw [Du.filter_next hkl, if_pos hP, List.append_nil]
      refine Lib.hid (List.filter_eq_self.2 fun x hx => ?_)
      obtain ⟨j, hj, rfl⟩ := List.mem_iff_getElem.1 hx
      rw [List.length_take] at hj
      rw [List.getElem_take]
      have := hP0 j (by omega)
      rw [Hp.g_eq _ _ (by omega)] at this
      simp [this]
    clear hP hP0 hb hkl
    go_wp2_with fail
    go_loopw [5, 6] (fun si sj wr => ∃ (i j : Nat) (M : List (Int × Int × Int × Int)), i < j ∧ j ≤ n ∧ si = .int .i64 i ∧ sj = .int .i64 j ∧ Hid (Hp.Blk wr g M rest ∧ M.length = n ∧ M.take i = (l.take j).filter (fun x => !P x) ∧ M.drop j = l.drop j ∧ i ≤ n ∧ w.grownBy wr (some g))) (fun _ j _ => n - (RowKit.intOf j).toNat)
    case atStart => exact ⟨k, k + 1, l, by omega, by omega, rfl, by go_num, Lib.hid ⟨B1.out, Hn.out.symm, F1.out.symm, rfl, by omega, G1.out⟩⟩
    case round =>
      obtain ⟨i, j, M, hij, hj, rfl, rfl, HM⟩ := hrel
      by_cases hlt : j < n
      · have hjl : j < l.length := by rw [← Hn.out]; exact hlt
        have hjM : j < M.length := by rw [HM.out.2.1]; exact hlt
        have hMj : M[j] = l[j] := by
          have h1 : (M.drop j)[0]? = (l.drop j)[0]? := by rw [HM.out.2.2.2.1]
          simpa [hjM, hjl] using h1
        obtain ⟨e1, e2, e3, e4⟩ := HM.out.1.cell j hjM
        rw [hMj] at e1 e2 e3 e4
        have hFN := Du.filter_next (P := P) hjl
        have hcall := fun W h => CL.out l[j] W h
        generalize l[j] = x at *
        obtain ⟨x1, x2, x3, x4⟩ := x
        simp only [] at e1 e2 e3 e4 hcall
        have hbx := hp_box wr (.cells #[.int .i64 x1, .int .i64 x2, .int .u8 x3, .int .i64 x4] 31)
        have G2 := Lib.hid (hp_grown_trans HM.out.2.2.2.2.2 (hp_grown_of_below hbx (some g)))
        have hX2 : Hp.Box (wr.alloc (.cells #[.int .i64 x1, .int .i64 x2, .int .u8 x3, .int .i64 x4] 31)) wr.heap.size (x1, x2, x3, x4) := hp_new wr _
        have M2 := Lib.hid (HM.out.1.below hbx HM.out.1.lt)
        have X2 := Lib.hid hX2
        have hneq := HM.out.1.lt
        have CX := Lib.hid (hcall _ G2.out)
        have HFN := Lib.hid hFN
        have hj1 : (j : Int) < (n : Int) := by omega
        have hj0 : (0 : Int) ≤ (j : Int) := by omega
        have hi1 : (i : Int) < (n : Int) := by omega
        have hi0 : (0 : Int) ≤ (i : Int) := by omega
        clear hX2 hbx hcall hFN hMj
        go_wp2_with fail
        refine CX.out.mono ?_
        rintro e w2 ⟨rfl, hb⟩
        have hM2 := M2.out.below hb M2.out.lt
        have hG3 := hp_grown_trans G2.out (hp_grown_of_below hb (some g))
        obtain ⟨y1, y2, y3, y4⟩ := (X2.out.below hb).cells
        cases hq : P (x1, x2, x3, x4) with
        | true =>
          have M3 := Lib.hid hM2
          have G3 := Lib.hid hG3
          have HF2 := Lib.hid (HFN.out.trans (by rw [if_pos hq, List.append_nil]))
          clear hM2 hG3 hb hq e1 e2 e3 e4
          go_wp2_with fail
          refine ⟨⟨i, j + 1, M, by omega, by omega, rfl, by go_num, Lib.hid ⟨M3.out, HM.out.2.1, HM.out.2.2.1.trans HF2.out.symm, ?_, by omega, G3.out⟩⟩, by simp [RowKit.intOf]; omega⟩
          have h1 := congrArg (List.drop 1) HM.out.2.2.2.1
          simpa [List.drop_drop] using h1
        | false =>
          have hiM : i < M.length := by rw [HM.out.2.1]; omega
          have M3 := Lib.hid (hM2.put i hiM (x1, x2, x3, x4))
          have G3 := Lib.hid (hp_grown_trans hG3 (hp_grown_put w2 g i (x1, x2, x3, x4)))
          obtain ⟨d1, d2, d3, d4⟩ := hM2.cell i hiM
          have fz := hM2.frozen
          have HF2 := Lib.hid (HFN.out.trans (by rw [if_neg (by simp [hq])]))
          unfold Hp.put at M3 G3
          simp only [] at M3 G3
          have hgw2 := hM2.lt
          have hne : wr.heap.size ≠ g := by omega
          clear hM2 hG3 hb hq e1 e2 e3 e4
          go_wp2_with fail
          refine ⟨⟨i + 1, j + 1, M.set i (x1, x2, x3, x4), by omega, by omega, by go_num, by go_num, Lib.hid ⟨M3.out, by rw [List.length_set]; exact HM.out.2.1, ?_, ?_, by omega, G3.out⟩⟩, by simp [RowKit.intOf]; omega⟩
          · rw [HF2.out, ← HM.out.2.2.1, List.take_succ_eq_append_getElem (by rw [List.length_set]; exact hiM), List.take_set_of_le (Nat.le_refl _), List.getElem_set_self]
          · have h1 := congrArg (List.drop 1) HM.out.2.2.2.1
            rw [List.drop_set_of_lt (by omega)]
            simpa [List.drop_drop] using h1
      · obtain rfl : j = n := by omega
        have hMl := HM.out.2.1
        have hT : M.take i = l.filter (fun x => !P x) := by
          have := HM.out.2.2.1
          rwa [Hn.out, List.take_length] at this
        have hlen : (l.filter (fun x => !P x)).length = i := by rw [← hT, List.length_take]; omega
        obtain ⟨w2, hcl, hg2, hk2⟩ := Du.clear wr g i (j - i) (c - i) (by omega) (fun t ht => by
          rw [Lib.cell_of_heap HM.out.1, List.getElem?_toArray, List.getElem?_append_left (by rw [Hp.rcs_len]; omega)]
          rw [List.getElem?_eq_getElem (by rw [Hp.rcs_len]; omega)]
          rfl) HM.out.1.frozen
        have HA2 : Hid (Hp.At w2 (some ⟨g, 0, none⟩) (l.filter (fun x => !P x))) := by
          rw [← hT]
          refine Lib.hid (Or.inr ⟨g, 0, rfl, fun a ha => ?_⟩)
          rw [List.length_take] at ha
          have hc1 := HM.out.1.cell a (by omega)
          rw [List.getElem_take, Nat.zero_add]
          exact ⟨(hk2 _ (by omega)).trans hc1.1, (hk2 _ (by omega)).trans hc1.2.1, (hk2 _ (by omega)).trans hc1.2.2.1, (hk2 _ (by omega)).trans hc1.2.2.2⟩
        have HG2 := Lib.hid (hp_grown_trans HM.out.2.2.2.2.2 hg2)
        have Hlen := Lib.hid hlen
        have hnci : ¬ c = i := by omega
        have hij2 : i ≤ j := by omega
        have t1 : (i : Int) ≤ (j : Int) := by omega
        have t2 : (i : Int) ≤ (c : Int) := by omega
        have t3 : (j : Int) ≤ (c : Int) := by omega
        have t4 : (0 : Int) ≤ (i : Int) := by omega
        clear hlen hT hk2 hg2 hMl
        go_wp2_with fail
        go_ret
        rw [Hlen.out]
        exact ⟨rfl, HA2.out, HG2.out⟩
  · simp only [] at hP0
    have hk0 : ((-1 : Int) == -1) = true := rfl
    have hfl : l.filter (fun x => !P x) = l := List.filter_eq_self.2 fun x hx => by
      obtain ⟨j, hj, rfl⟩ := List.mem_iff_getElem.1 hx
      have := hP0 j (by rw [Hn.out]; exact hj)
      rw [Hp.g_eq _ _ hj] at this
      simp [this]
    have HF := Lib.hid hfl
    have HAt := Lib.hid (BL.out.at.below hb)
    have HG := Lib.hid (hp_grown_of_below hb (some g))
    clear hP0 hb hfl
    go_wp2_with fail
    go_ret
    rw [HF.out, ← Hn.out]
    exact ⟨rfl, HAt.out, HG.out⟩
end Go.Proofs.Ytaaodbljdpchhaa
