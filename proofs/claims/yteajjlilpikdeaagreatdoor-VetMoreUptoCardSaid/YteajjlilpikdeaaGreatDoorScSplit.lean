
/-
  The walk of the document's own split and Path (bellmanref10.split, Path). Condition: a text takes at most 3000000 bytes.
-/
import Derived.Test.YteajjlilpikdeaaGreatDoorScRef
import Derived.Test.YteajjlilpikdeaaGreatDoorOwnOne
import Derived.Test.YteajjlilpikdeaaGreatDoorVlC
import Derived.StillTailTactics
namespace Go.Proofs.YteajjlilpikdeaaGreatDoor
open Go.RowKit

theorem Sc.split_len (c : UInt8) : ∀ (l : List UInt8), ∀ x ∈ Sc.splitP c l, x.length ≤ l.length
  | [], x, hx => by simp [Sc.splitP] at hx; simp [hx]
  | a :: t, x, hx => by
    have ih := Sc.split_len c t
    rw [Sc.splitP] at hx
    split at hx
    · rcases List.mem_cons.1 hx with rfl | hx
      · simp
      · have := ih x hx; simp; omega
    · split at hx
      · simp at hx; simp [hx]
      · rename_i h r he
        rw [he] at ih
        rcases List.mem_cons.1 hx with rfl | hx
        · have := ih h (by simp); simp; omega
        · have := ih x (by simp [hx]); simp; omega
/-- A part of a row of one's own is stored. -/
theorem Sc.own_set {w : World} {base : Nat} {e : TypeId} {v : Value} {n : Nat} {l : List ByteArray} (h : w.ownsRow base e 1 v n (l.map Wp.mkT)) (a : Nat) (ha : a < l.length) (x : ByteArray) :
    ∃ g c, v = .slice (some ⟨g, 0, none⟩) n c ∧ base ≤ g ∧ g < w.heap.size ∧ w.cell? ⟨g, a, none⟩ = some (.string l[a]) ∧ w.frozen? ⟨g, a, none⟩ = false ∧ (w.setCell ⟨g, a, none⟩ (.string x)).ownsRow base e 1 v n ((l.set a x).map Wp.mkT) := by
  have hl : l.length = n := by have := h.1; simpa using this
  rcases h.2 with ⟨hv, h0⟩ | ⟨g, cap, cur, hv, hg, hc, hn, hm, hs, ht⟩
  · omega
  · have hcs : a < cur.size := by omega
    refine ⟨g, cap, hv, hg, (Array.getElem?_eq_some_iff.1 hc).1, ?_, by simp [World.frozen?, hc], by simp [hl], Or.inr ⟨g, cap, cur.setIfInBounds a (.string x), hv, hg, Lib.heap_setCell_same hc _, hn, hm, by rw [Array.size_setIfInBounds]; exact hs, ?_⟩⟩
    · rw [Lib.cell_of_heap hc]
      have h2 : (cur.toList.take (n * 1))[a]? = (l.map Wp.mkT)[a]? := by rw [ht]
      rw [List.getElem?_take_of_lt (by omega), List.getElem?_map, List.getElem?_eq_getElem ha, Array.getElem?_toList] at h2
      exact h2
    · rw [Array.toList_setIfInBounds, List.take_set, ht, List.map_set]
      rfl
theorem Sc.addP_ne {c a : UInt8} {out : List (List UInt8)} (h : a ≠ c) (hne : out ≠ []) : Sc.addP c out a = out.set (out.length - 1) (out.getLastD [] ++ [a]) := by
  unfold Sc.addP
  rw [if_neg h]
  obtain ⟨q, x, rfl⟩ := List.eq_nil_or_concat out |>.resolve_left hne
  simp [List.getLastD]
/-- What split hands back. -/
def Sc.SplPost (L : List (List UInt8)) (w : World) (e : Ending) (w' : World) : Prop := ∃ v, e = .returned v ∧ w'.ownsRow w.heap.size 9 1 v L.length ((L.map Wp.B).map Wp.mkT) ∧ Below w.heap.size w w'
set_option maxRecDepth 100000 in
set_option maxHeartbeats 2000000 in
theorem refSplit_any (s : ByteArray) (c : UInt8) (w : World) (hs : s.size ≤ 3000000) :
    Calls Tryz.prog 118 #[.string s, .int .u8 c.toNat] w (Sc.SplPost (Sc.splitP c s.data.toList) w) := by
  obtain ⟨i0, hi, hz0, hz1, hz2⟩ := Vl.infoText
  have HF : Hid (∀ k, k ≤ s.size → s.data.toList.take k = s.data.toList.take k) := Lib.hid (fun _ _ => rfl)
  have hlen := Lib.hid (Wp.size_len s)
  have H0 : Hid ((w.alloc (.cells #[.string ⟨#[]⟩] 9)).ownsRow w.heap.size 9 1 (.slice (some ⟨w.heap.size, 0, none⟩) 1 1) 1 ([Wp.B []].map Wp.mkT)) :=
    Lib.hid ⟨rfl, Or.inr ⟨w.heap.size, 1, #[.string ⟨#[]⟩], rfl, Nat.le_refl _, Vl.new _ _, Nat.le_refl _, by unfold maxLen; omega, rfl, rfl⟩⟩
  have HB0 := Lib.hid ((Below.refl w.heap.size w).alloc (Nat.le_refl _) (.cells #[.string ⟨#[]⟩] 9))
  clear HF
  go_enter Tryz.func118, Tryz.ntmps118
  go_wp2_with fail
  go_loopw [5, 6] (fun v i wr => ∃ (k : Nat) (n : Nat), k ≤ s.size ∧ i = .int .i64 k ∧ 1 ≤ n ∧ n ≤ k + 1 ∧ Hid (n = (Sc.splitP c (s.data.toList.take k)).length) ∧ Hid (wr.ownsRow w.heap.size 9 1 v n (((Sc.splitP c (s.data.toList.take k)).map Wp.B).map Wp.mkT)) ∧ Hid (Below w.heap.size w wr)) (fun _ i _ => s.size - (intOf i).toNat)
  case atStart => exact ⟨0, 1, Nat.zero_le _, rfl, by omega, by omega, Lib.hid rfl, H0, HB0⟩
  case round =>
    obtain ⟨k, n, hk, rfl, hn1, hnk, HN, HO, HB⟩ := hrel
    by_cases hlt : k < s.size
    · have hst := Sc.splitP_snoc c s[k] (s.data.toList.take k)
      rw [← Wp.take_snoc s k hlt] at hst
      have hne := Sc.splitP_ne c (s.data.toList.take k)
      have hk0 : (0 : Int) ≤ (k : Int) := by omega
      have hk1 : (k : Int) < (s.size : Int) := by omega
      by_cases hc : s[k] = c
      · have q : ((s[k].toNat : Int) == (c.toNat : Int)) = true := by rw [hc]; simp
        have HS := Lib.hid (show Sc.splitP c (s.data.toList.take (k + 1)) = Sc.splitP c (s.data.toList.take k) ++ [[]] by rw [hst]; unfold Sc.addP; rw [if_pos hc])
        have HO1 := Lib.hid (HO.out.alloc (.cells #[.string ⟨#[]⟩] 9))
        have HB1 := Lib.hid (HB.out.alloc HB.out.size (.cells #[.string ⟨#[]⟩] 9))
        have HC1 := Lib.hid (cell_one_new wr (.string ⟨#[]⟩) 9)
        clear hst hne hc
        go_wp2_with (at_builtin; refine Vl.listApp _ rfl _ _ 35 rfl w.heap.size 9 i0 _ 1 16 Tryz.underlying35 hi hz0 hz1 hz2 rfl (by decide) _ n _ rfl HO1.out ⟨wr.heap.size, 0, none⟩ 1 1 [.string ⟨#[]⟩] rfl rfl ?c1 ?c2 ?c3 ?c4 ?c5 ?_)
        case c1 => exact HC1.out
        case c2 => simp [Value.oneCell']
        case c3 => unfold maxLen; omega
        case c4 => omega
        case c5 => exact HB1.out.size
        intro v' w2 hown hgrow _
        have HB2 := Lib.hid (below_grown HB1.out HO1.out (Nat.le_refl _) hgrow)
        have HO2 := Lib.hid (show w2.ownsRow w.heap.size 9 1 v' (n + 1) (((Sc.splitP c (s.data.toList.take (k + 1))).map Wp.B).map Wp.mkT) by
          rw [HS.out, List.map_append, List.map_append, List.map_map]; exact hown)
        have HN2 := Lib.hid (show n + 1 = (Sc.splitP c (s.data.toList.take (k + 1))).length by rw [HS.out, List.length_append, ← HN.out]; rfl)
        clear hown hgrow HO1 HB1
        go_wp2_with fail
        refine ⟨⟨k + 1, n + 1, by omega, by go_num, by omega, by omega, HN2, HO2, HB2⟩, by simp [intOf]; omega⟩
      · have q : ((s[k].toNat : Int) == (c.toNat : Int)) = false := by rw [beq_eq_false_iff_ne]; intro e; exact hc (UInt8.toNat_inj.1 (by omega))
        have hset := Sc.addP_ne hc hne
        rw [← hst, ← HN.out] at hset
        have hOD := ownsRow_below HO.out ((Below.refl wr.heap.size wr).drew)
        have hll : n - 1 < ((Sc.splitP c (s.data.toList.take k)).map Wp.B).length := by rw [List.length_map, ← HN.out]; omega
        have hel : ((Sc.splitP c (s.data.toList.take k)).map Wp.B)[n - 1] = Wp.B ((Sc.splitP c (s.data.toList.take k)).getLastD []) := by
          rw [List.getElem_map]
          congr 1
          have hx : n - 1 = (Sc.splitP c (s.data.toList.take k)).length - 1 := by rw [← HN.out]
          simp only [hx]
          rw [← List.getLast_eq_getElem hne, List.getLastD_eq_getLast?, List.getLast?_eq_some_getLast hne]
          rfl
        obtain ⟨g, cp, hv, hg0, hg1, hcell, hfz, hown⟩ := Sc.own_set hOD (n - 1) hll (Wp.B ((Sc.splitP c (s.data.toList.take k)).getLastD [] ++ [s[k]]))
        subst hv
        rw [hel] at hcell
        have hsz : ((Sc.splitP c (s.data.toList.take k)).getLastD []).length ≤ 3000000 := by
          have hm : (Sc.splitP c (s.data.toList.take k)).getLastD [] ∈ Sc.splitP c (s.data.toList.take k) := by
            rw [List.getLastD_eq_getLast?, List.getLast?_eq_some_getLast hne]
            exact List.getLast_mem hne
          have := Sc.split_len c _ _ hm
          rw [List.length_take] at this
          omega
        have hadd := Lib.hid (show Wp.B ((Sc.splitP c (s.data.toList.take k)).getLastD []) ++ s.extract k (k + 1) = Wp.B ((Sc.splitP c (s.data.toList.take k)).getLastD [] ++ [s[k]]) by
          rw [Wp.B_append, Wp.data_extract, Nat.add_sub_cancel_left, List.drop_eq_getElem_cons (by rw [← Wp.size_len]; exact hlt), Wp.getElem_data s k hlt]
          rfl)
        have HO2 := Lib.hid (show (wr.drew.setCell ⟨g, n - 1, none⟩ (.string (Wp.B ((Sc.splitP c (s.data.toList.take k)).getLastD [] ++ [s[k]])))).ownsRow w.heap.size 9 1 (.slice (some ⟨g, 0, none⟩) n cp) n (((Sc.splitP c (s.data.toList.take (k + 1))).map Wp.B).map Wp.mkT) by
          rw [hset, List.map_set]; exact hown)
        have HN2 := Lib.hid (show n = (Sc.splitP c (s.data.toList.take (k + 1))).length by rw [hset, List.length_set, ← HN.out])
        have HB2 := Lib.hid ((HB.out.drew).setCell (p := ⟨g, n - 1, none⟩) hg0 (.string (Wp.B ((Sc.splitP c (s.data.toList.take k)).getLastD [] ++ [s[k]]))))
        have hszB : (Wp.B ((Sc.splitP c (s.data.toList.take k)).getLastD [])).size ≤ 3000000 := by rw [Wp.B_size]; exact hsz
        clear hset hown hel hll hsz hst hne hc hOD HO HB HN
        generalize Wp.B ((Sc.splitP c (s.data.toList.take k)).getLastD [] ++ [s[k]]) = nx at *
        generalize Wp.B ((Sc.splitP c (s.data.toList.take k)).getLastD []) = lx at *
        have hn0 : (0 : Int) ≤ ((n - 1 : Nat) : Int) := by omega
        have hnn : (n : Int) - 1 = ((n - 1 : Nat) : Int) := by omega
        have hnl : ((n - 1 : Nat) : Int) < (n : Int) := by omega
        obtain ⟨m, hm⟩ : ∃ m, m = n - 1 := ⟨_, rfl⟩
        rw [← hm] at hcell hfz hn0 hnn hnl HO2 HB2
        have hkk : (k : Int) + 1 ≤ (s.size : Int) := by omega
        have hkl : (k : Int) ≤ (k : Int) + 1 := by omega
        have hsl : ∀ W, (Instr.sliceAt 9 (.string s) (some (.int .i64 (k : Int))) (some (.int .i64 ((k : Int) + 1))) none).run Tryz.prog W = .ok (.string (s.extract k (k + 1))) W := by
          intro W
          rw [run_sliceAt_string (h := Tryz.underlying9), run_slice_string (h := Tryz.underlying9) (h0 := by omega) (h1 := by omega) (h2 := by omega)]
          rfl
        have hcw : wr.cell? ⟨g, m, none⟩ = some (.string lx) := hcell
        have hex : (s.extract k (k + 1)).size ≤ 1 := by rw [ByteArray.size_extract]; omega
        generalize s.extract k (k + 1) = ex at *
        have hwm : IntKind.i64.wrap ((m : Nat) : Int) = ((m : Nat) : Int) := IntWalk.i64_in _ (by omega)
        have hab : ∀ W, (Op.stringOp .add lx ex).run Tryz.prog W = .ok (.string (lx ++ ex)) W := fun W => run_string_add_sum W _ _ (by omega)
        have hwk : IntKind.i64.wrap ((k : Int) + 1) = (k : Int) + 1 := IntWalk.i64_in _ (by omega)
        clear hm hcell
        go_wp2_with fail
        go_still_tail 13, (by kernel_rfl)
        change wpList _ _ _ _ _ wr.drew
        go_wp2_with fail
        exact ⟨⟨k + 1, n, by omega, by go_num, by omega, by omega, HN2, by rw [hadd.out]; exact HO2.out, by rw [hadd.out]; exact HB2.out⟩, by simp [intOf]; omega⟩
    · obtain rfl : k = s.size := by omega
      have e : s.data.toList.take s.size = s.data.toList := List.take_of_length_le (by rw [← hlen.out]; exact Nat.le_refl _)
      rw [e] at HN HO
      have hn := HN.out
      subst hn
      go_wp2_with fail
      go_ret
      exact ⟨_, rfl, HO.out, HB.out⟩
end Go.Proofs.YteajjlilpikdeaaGreatDoor
