/-
  append onto a row of the call's own whose elements are one cell each, of a slice that lies anywhere; as a step of a region that draws its order, too. No condition but those that the theorems state.
  The walk of the document's own split and Path (bellmanref10.split, Path). Condition: a text takes at most 3000000 bytes.
  The walk of scan's Path, and of the document's own: a word's names. Conditions: the table of keywords reads as it is laid; a word takes at most 3000000 bytes.
-/
import Derived.Test.YteiccjakaabfnaaGreatDoorZ52
import Derived.Deep.AppendSrc
import Derived.Deep.RegionLaw
import Derived.Maps.AppendAt
import Derived.Test.YteiccjakaabfnaaGreatDoorZ34
import Derived.Test.YteiccjakaabfnaaGreatDoorZ51
import Derived.StillTailTactics
import Derived.Test.YteiccjakaabfnaaGreatDoorVlCopyV
import Derived.Test.YteiccjakaabfnaaGreatDoorShelf
import Derived.Lib.SplitLaws
namespace Go.Proofs.YteiccjakaabfnaaGreatDoor
open Go.RowKit

def Wp.mkB (x : Bool) : Value := .bool x
structure Ow.Ty (t e : TypeId) (z : Value) : Prop where
  und : Tryz.prog.underlying t = some (.slice e)
  inf : ∃ i, Tryz.prog.info? e = some i ∧ i.zero = some z ∧ i.size = 1 ∧ i.bytes ≤ 16
  one : z.cells.size = 1
theorem Ow.append {α : Type} {mk : α → Value} (h1 : ∀ x, (mk x).oneCell' = true) {t e : TypeId} {z : Value} (hT : Ow.Ty t e z) (l m : List α) (v : Value) (q : Option Addr) (n c : Nat) (base : Nat) (ty : TypeId) (w : World) (hO : w.ownsRow base e 1 v l.length (l.map mk)) (hA : Wp.At mk w q m) (hn : n = m.length) (hl : l.length ≤ 3000000) (hm : m.length ≤ 3000000) (hb : base ≤ w.heap.size) :
    ∃ v' w', (Builtin.append_ #[t, t] ty #[v, .slice q n c]).run Tryz.prog w = .ok v' w' ∧ w'.ownsRow base e 1 v' (l ++ m).length ((l ++ m).map mk) ∧ w.grownBy w' v.ownBlock := by
  obtain ⟨i0, hi, hz0, hz1, hz2⟩ := hT.inf
  subst hn
  have hone : ∀ u ∈ m.map mk, u.oneCell' = true := by
    intro u hu
    obtain ⟨x, _, rfl⟩ := List.mem_map.1 hu
    exact h1 x
  cases q with
  | some ad =>
    have hnews : ∀ j u, (m.map mk)[j]? = some u → w.cell? (ad.add j) = some u := by
      intro j u hj
      rcases hA with rfl | ⟨b, off, hp, hc⟩
      · simp at hj
      · cases hp
        obtain ⟨hjl, hje⟩ := List.getElem?_eq_some_iff.1 hj
        rw [List.length_map] at hjl
        rw [List.getElem_map] at hje
        rw [show (⟨b, off, none⟩ : Addr).add j = ⟨b, off + j, none⟩ by simp [Addr.add], hc j hjl, hje]
    have hbb : (l.length + m.length) * i0.bytes ≤ 140737488355328 := by
      have := Nat.mul_le_mul (show l.length + m.length ≤ 6000000 by omega) hz2
      omega
    obtain ⟨v', w', hr, h2, h3, _, _⟩ := run_append_own_at (P := Tryz.prog) w base t ty e i0 z 1 i0.bytes hT.und hi hz0 hz1 rfl hT.one (by decide) v l.length (l.map mk) hO ad m.length c (m.map mk) (by rw [List.length_map, Nat.mul_one]) hnews hone (by unfold maxLen; omega) hbb hb
    refine ⟨v', w', hr, ?_, h3⟩
    rw [List.map_append, List.length_append]
    exact h2
  | none =>
    have hm0 : m = [] := by
      rcases hA with h | ⟨b, off, hp, _⟩
      · exact h
      · cases hp
    subst hm0
    rw [List.append_nil]
    rcases hO.2 with ⟨rfl, h0⟩ | ⟨g, cap, cur, rfl, hg, hc, hn, hm2, hs, ht⟩
    · refine ⟨.slice none 0 0, w, ?_, hO, ⟨rfl, rfl, rfl, Nat.le_refl _, fun _ _ _ => rfl⟩⟩
      have hf := run_firstCells_none (P := Tryz.prog) w i0.size 0 0 c
      simp [Builtin.append_, run_underlying hT.und, sizeOf, typeInfo, hi, Builtin.lenOf, hf]
    · refine ⟨.slice (some ⟨g, 0, none⟩) l.length cap, w, ?_, hO, ⟨rfl, rfl, rfl, Nat.le_refl _, fun _ _ _ => rfl⟩⟩
      exact run_append_room_src (P := Tryz.prog) w t t ty e i0 hT.und hi g 0 l.length cap (.slice none 0 c) 0 [] (Src.ofNil w hT.und c) (by omega) (by simp) (by simp)
theorem Ow.step {ops : Array Oper} {o : Oper} {a : Act} {w : World} {K : Act → World → Prop} {Q : Exit → Act → World → Prop} {E : Prop} {α : Type} {mk : α → Value}
    (hg : o.guard = none) (s x : Operand) (t : TypeId) (hop : o.op = Op.call { callee := Callee.builtin Builtin.append, args := #[s, x], argTypes := #[t, t] })
    (h1 : ∀ x, (mk x).oneCell' = true) {e : TypeId} {z : Value} (hT : Ow.Ty t e z) (l m : List α) (v : Value) (q : Option Addr) (n c : Nat) (base : Nat) (hs : a.eval s = v) (hx : a.eval x = .slice q n c)
    (hO : w.ownsRow base e 1 v l.length (l.map mk)) (hA : Wp.At mk w q m) (hn : n = m.length) (hl : l.length ≤ 3000000) (hm : m.length ≤ 3000000) (hb : base ≤ w.heap.size)
    (hK : ∀ v' w', w'.ownsRow base e 1 v' (l ++ m).length ((l ++ m).map mk) → w.grownBy w' v.ownBlock → K (a.put o.dst v') w') :
    if Region.wanted o (yielded ops a.tmps) = true then Oper.wp Tryz.prog o a w K Q else E := by
  have hw : Region.wanted o (yielded ops a.tmps) = true := by simp [Region.wanted, hg]
  rw [if_pos hw]
  obtain ⟨v', w', hr, h2, h3⟩ := Ow.append h1 hT l m v q n c base o.type w hO hA hn hl hm hb
  unfold Oper.wp
  simp [execOp, hop, resolve, invoke, builtin, hs, hx, hr, Result.andThen]
  exact hK v' w' h2 h3
section
variable (W : World) (t : TypeId) (o : Obj) (x : Value)
/-- An empty literal; with a new cell behind it; with one ahead of it. -/
theorem Ow.a1 : ((W.alloc (.cells #[] t)).drew).ownsRow W.heap.size t 1 (.slice (some ⟨W.heap.size, 0, none⟩) 0 0) 0 [] := World.ownsRow_made W #[] 0 (Nat.le_refl _) (Nat.zero_le _) rfl
theorem Ow.b1 : (((W.alloc (.cells #[] t)).alloc o).drew).ownsRow W.heap.size t 1 (.slice (some ⟨W.heap.size, 0, none⟩) 0 0) 0 [] := (World.ownsRow_made W #[] 0 (Nat.le_refl _) (Nat.zero_le _) rfl).alloc o
theorem Ow.c1 : (((W.alloc o).alloc (.cells #[] t)).drew).ownsRow W.heap.size t 1 (.slice (some ⟨W.heap.size + 1, 0, none⟩) 0 0) 0 [] := by
  have h := World.ownsRow_made (base := W.heap.size) (e := t) (size := 1) (W.alloc o) #[] 0 (by rw [World.size_alloc]; omega) (Nat.zero_le _) rfl
  rw [World.size_alloc] at h
  exact h
theorem Ow.a2 : Below W.heap.size W (W.alloc o).drew := ((Below.refl _ _).alloc (Nat.le_refl _) o).drew
theorem Ow.b2 (o' : Obj) : Below W.heap.size W ((W.alloc o).alloc o').drew := (((Below.refl _ _).alloc (Nat.le_refl _) o).alloc (by rw [World.size_alloc]; omega) o').drew
theorem Ow.b3 : (((W.alloc o).alloc (.cells #[x] t)).drew).cell? ⟨W.heap.size + 1, 0, none⟩ = some x := by
  have h : (((W.alloc o).alloc (.cells #[x] t)).drew).heap[(W.alloc o).heap.size]? = some (.cells #[x] t (0, 0)) := heap_alloc_new (W.alloc o) _
  rw [World.size_alloc] at h
  rw [Lib.cell_of_heap h]; rfl
theorem Ow.c3 : (((W.alloc (.cells #[x] t)).alloc o).drew).cell? ⟨W.heap.size, 0, none⟩ = some x := by
  have h : (((W.alloc (.cells #[x] t)).alloc o).drew).heap[W.heap.size]? = some (.cells #[x] t (0, 0)) := (show ((W.alloc (.cells #[x] t)).heap.push o)[W.heap.size]? = _ by rw [Array.getElem?_push, if_neg (by rw [World.size_alloc]; omega)]).trans (heap_alloc_new W _)
  rw [Lib.cell_of_heap h]; rfl
theorem Ow.n3 : (W.alloc (.cells #[x] t)).cell? ⟨W.heap.size, 0, none⟩ = some x := by
  rw [Lib.cell_of_heap (heap_alloc_new W _)]; rfl
end
theorem Ow.one {α : Type} {mk : α → Value} {w : World} {g : Nat} {x : α} (h : w.cell? ⟨g, 0, none⟩ = some (mk x)) : Wp.At mk w (some ⟨g, 0, none⟩) [x] := by
  refine Or.inr ⟨g, 0, rfl, fun i hi => ?_⟩
  obtain rfl : i = 0 := by simp at hi; omega
  exact h
theorem Ow.grown {w0 w w' : World} {base : Nat} {e : TypeId} {v : Value} {n : Nat} {xs : List Value} (h : Below base w0 w) (hO : w.ownsRow base e 1 v n xs) (hg : w.grownBy w' v.ownBlock) (hb : base ≤ w.heap.size) : Below base w0 w' := h.grown hg hb (fun k hk => (hO.lt k hk).1)
end Go.Proofs.YteiccjakaabfnaaGreatDoor
namespace Go.Proofs.YteiccjakaabfnaaGreatDoor
open Go.RowKit

theorem Sc.split_len (c : UInt8) : ∀ (l : List UInt8), ∀ x ∈ Sc.splitP c l, x.length ≤ l.length
  | [], x, hx => by simp [Sc.splitP] at hx; simp [hx]
  | a :: t, x, hx => by
    have ih := Sc.split_len c t
    rw [Sc.splitP] at hx
    split at hx
    · rcases List.mem_cons.1 hx with rfl | hx
      · simp
      · have := ih x hx; simp; omega
    · split at hx
      · simp at hx; simp [hx]
      · rename_i h r he
        rw [he] at ih
        rcases List.mem_cons.1 hx with rfl | hx
        · have := ih h (by simp); simp; omega
        · have := ih x (by simp [hx]); simp; omega
/-- A part of a row of one's own is stored. -/
theorem Sc.own_set {w : World} {base : Nat} {e : TypeId} {v : Value} {n : Nat} {l : List ByteArray} (h : w.ownsRow base e 1 v n (l.map Wp.mkT)) (a : Nat) (ha : a < l.length) (x : ByteArray) :
    ∃ g c, v = .slice (some ⟨g, 0, none⟩) n c ∧ base ≤ g ∧ g < w.heap.size ∧ w.cell? ⟨g, a, none⟩ = some (.string l[a]) ∧ w.frozen? ⟨g, a, none⟩ = false ∧ (w.setCell ⟨g, a, none⟩ (.string x)).ownsRow base e 1 v n ((l.set a x).map Wp.mkT) := by
  have hl : l.length = n := by have := h.1; simpa using this
  rcases h.2 with ⟨hv, h0⟩ | ⟨g, cap, cur, hv, hg, hc, hn, hm, hs, ht⟩
  · omega
  · have hcs : a < cur.size := by omega
    refine ⟨g, cap, hv, hg, (Array.getElem?_eq_some_iff.1 hc).1, ?_, by simp [World.frozen?, hc], by simp [hl], Or.inr ⟨g, cap, cur.setIfInBounds a (.string x), hv, hg, Lib.heap_setCell_same hc _, hn, hm, by rw [Array.size_setIfInBounds]; exact hs, ?_⟩⟩
    · rw [Lib.cell_of_heap hc]
      have h2 : (cur.toList.take (n * 1))[a]? = (l.map Wp.mkT)[a]? := by rw [ht]
      rw [List.getElem?_take_of_lt (by omega), List.getElem?_map, List.getElem?_eq_getElem ha, Array.getElem?_toList] at h2
      exact h2
    · rw [Array.toList_setIfInBounds, List.take_set, ht, List.map_set]
      rfl
theorem Sc.addP_ne {c a : UInt8} {out : List (List UInt8)} (h : a ≠ c) (hne : out ≠ []) : Sc.addP c out a = out.set (out.length - 1) (out.getLastD [] ++ [a]) := by
  unfold Sc.addP
  rw [if_neg h]
  obtain ⟨q, x, rfl⟩ := List.eq_nil_or_concat out |>.resolve_left hne
  simp [List.getLastD]
/-- What split hands back. -/
def Sc.SplPost (L : List (List UInt8)) (w : World) (e : Ending) (w' : World) : Prop := ∃ v, e = .returned v ∧ w'.ownsRow w.heap.size 9 1 v L.length ((L.map Wp.B).map Wp.mkT) ∧ Below w.heap.size w w'
set_option maxRecDepth 100000 in
set_option maxHeartbeats 2000000 in
theorem refSplit_any (s : ByteArray) (c : UInt8) (w : World) (hs : s.size ≤ 3000000) :
    Calls Tryz.prog 226 #[.string s, .int .u8 c.toNat] w (Sc.SplPost (Sc.splitP c s.data.toList) w) := by
  obtain ⟨i0, hi, hz0, hz1, hz2⟩ := Vl.infoText
  have HF : Hid (∀ k, k ≤ s.size → s.data.toList.take k = s.data.toList.take k) := Lib.hid (fun _ _ => rfl)
  have hlen := Lib.hid (Wp.size_len s)
  have H0 : Hid ((w.alloc (.cells #[.string ⟨#[]⟩] 9)).ownsRow w.heap.size 9 1 (.slice (some ⟨w.heap.size, 0, none⟩) 1 1) 1 ([Wp.B []].map Wp.mkT)) :=
    Lib.hid ⟨rfl, Or.inr ⟨w.heap.size, 1, #[.string ⟨#[]⟩], rfl, Nat.le_refl _, Vl.new _ _, Nat.le_refl _, by unfold maxLen; omega, rfl, rfl⟩⟩
  have HB0 := Lib.hid ((Below.refl w.heap.size w).alloc (Nat.le_refl _) (.cells #[.string ⟨#[]⟩] 9))
  clear HF
  go_enter Tryz.func226, Tryz.ntmps226
  go_wp2_with fail
  go_loopw [5, 6] (fun v i wr => ∃ (k : Nat) (n : Nat), k ≤ s.size ∧ i = .int .i64 k ∧ 1 ≤ n ∧ n ≤ k + 1 ∧ Hid (n = (Sc.splitP c (s.data.toList.take k)).length) ∧ Hid (wr.ownsRow w.heap.size 9 1 v n (((Sc.splitP c (s.data.toList.take k)).map Wp.B).map Wp.mkT)) ∧ Hid (Below w.heap.size w wr)) (fun _ i _ => s.size - (intOf i).toNat)
  case atStart => exact ⟨0, 1, Nat.zero_le _, rfl, by omega, by omega, Lib.hid rfl, H0, HB0⟩
  case round =>
    obtain ⟨k, n, hk, rfl, hn1, hnk, HN, HO, HB⟩ := hrel
    by_cases hlt : k < s.size
    · have hst := Sc.splitP_snoc c s[k] (s.data.toList.take k)
      rw [← Wp.take_snoc s k hlt] at hst
      have hne := Sc.splitP_ne c (s.data.toList.take k)
      have hk0 : (0 : Int) ≤ (k : Int) := by omega
      have hk1 : (k : Int) < (s.size : Int) := by omega
      by_cases hc : s[k] = c
      · have q : ((s[k].toNat : Int) == (c.toNat : Int)) = true := by rw [hc]; simp
        have HS := Lib.hid (show Sc.splitP c (s.data.toList.take (k + 1)) = Sc.splitP c (s.data.toList.take k) ++ [[]] by rw [hst]; unfold Sc.addP; rw [if_pos hc])
        have HO1 := Lib.hid (HO.out.alloc (.cells #[.string ⟨#[]⟩] 9))
        have HB1 := Lib.hid (HB.out.alloc HB.out.size (.cells #[.string ⟨#[]⟩] 9))
        have HC1 := Lib.hid (cell_one_new wr (.string ⟨#[]⟩) 9)
        clear hst hne hc
        go_wp2_with (at_builtin; refine Vl.listApp _ rfl _ _ 23 rfl w.heap.size 9 i0 _ 1 16 Tryz.underlying23 hi hz0 hz1 hz2 rfl (by decide) _ n _ rfl HO1.out ⟨wr.heap.size, 0, none⟩ 1 1 [.string ⟨#[]⟩] rfl rfl ?c1 ?c2 ?c3 ?c4 ?c5 ?_)
        case c1 => exact HC1.out
        case c2 => simp [Value.oneCell']
        case c3 => unfold maxLen; omega
        case c4 => omega
        case c5 => exact HB1.out.size
        intro v' w2 hown hgrow _
        have HB2 := Lib.hid (below_grown HB1.out HO1.out (Nat.le_refl _) hgrow)
        have HO2 := Lib.hid (show w2.ownsRow w.heap.size 9 1 v' (n + 1) (((Sc.splitP c (s.data.toList.take (k + 1))).map Wp.B).map Wp.mkT) by
          rw [HS.out, List.map_append, List.map_append, List.map_map]; exact hown)
        have HN2 := Lib.hid (show n + 1 = (Sc.splitP c (s.data.toList.take (k + 1))).length by rw [HS.out, List.length_append, ← HN.out]; rfl)
        clear hown hgrow HO1 HB1
        go_wp2_with fail
        refine ⟨⟨k + 1, n + 1, by omega, by go_num, by omega, by omega, HN2, HO2, HB2⟩, by simp [intOf]; omega⟩
      · have q : ((s[k].toNat : Int) == (c.toNat : Int)) = false := by rw [beq_eq_false_iff_ne]; intro e; exact hc (UInt8.toNat_inj.1 (by omega))
        have hset := Sc.addP_ne hc hne
        rw [← hst, ← HN.out] at hset
        have hOD := ownsRow_below HO.out ((Below.refl wr.heap.size wr).drew)
        have hll : n - 1 < ((Sc.splitP c (s.data.toList.take k)).map Wp.B).length := by rw [List.length_map, ← HN.out]; omega
        have hel : ((Sc.splitP c (s.data.toList.take k)).map Wp.B)[n - 1] = Wp.B ((Sc.splitP c (s.data.toList.take k)).getLastD []) := by
          rw [List.getElem_map]
          congr 1
          have hx : n - 1 = (Sc.splitP c (s.data.toList.take k)).length - 1 := by rw [← HN.out]
          simp only [hx]
          rw [← List.getLast_eq_getElem hne, List.getLastD_eq_getLast?, List.getLast?_eq_some_getLast hne]
          rfl
        obtain ⟨g, cp, hv, hg0, hg1, hcell, hfz, hown⟩ := Sc.own_set hOD (n - 1) hll (Wp.B ((Sc.splitP c (s.data.toList.take k)).getLastD [] ++ [s[k]]))
        subst hv
        rw [hel] at hcell
        have hsz : ((Sc.splitP c (s.data.toList.take k)).getLastD []).length ≤ 3000000 := by
          have hm : (Sc.splitP c (s.data.toList.take k)).getLastD [] ∈ Sc.splitP c (s.data.toList.take k) := by
            rw [List.getLastD_eq_getLast?, List.getLast?_eq_some_getLast hne]
            exact List.getLast_mem hne
          have := Sc.split_len c _ _ hm
          rw [List.length_take] at this
          omega
        have hadd := Lib.hid (show Wp.B ((Sc.splitP c (s.data.toList.take k)).getLastD []) ++ s.extract k (k + 1) = Wp.B ((Sc.splitP c (s.data.toList.take k)).getLastD [] ++ [s[k]]) by
          rw [Wp.B_append, Wp.data_extract, Nat.add_sub_cancel_left, List.drop_eq_getElem_cons (by rw [← Wp.size_len]; exact hlt), Wp.getElem_data s k hlt]
          rfl)
        have HO2 := Lib.hid (show (wr.drew.setCell ⟨g, n - 1, none⟩ (.string (Wp.B ((Sc.splitP c (s.data.toList.take k)).getLastD [] ++ [s[k]])))).ownsRow w.heap.size 9 1 (.slice (some ⟨g, 0, none⟩) n cp) n (((Sc.splitP c (s.data.toList.take (k + 1))).map Wp.B).map Wp.mkT) by
          rw [hset, List.map_set]; exact hown)
        have HN2 := Lib.hid (show n = (Sc.splitP c (s.data.toList.take (k + 1))).length by rw [hset, List.length_set, ← HN.out])
        have HB2 := Lib.hid ((HB.out.drew).setCell (p := ⟨g, n - 1, none⟩) hg0 (.string (Wp.B ((Sc.splitP c (s.data.toList.take k)).getLastD [] ++ [s[k]]))))
        have hszB : (Wp.B ((Sc.splitP c (s.data.toList.take k)).getLastD [])).size ≤ 3000000 := by rw [Wp.B_size]; exact hsz
        clear hset hown hel hll hsz hst hne hc hOD HO HB HN
        generalize Wp.B ((Sc.splitP c (s.data.toList.take k)).getLastD [] ++ [s[k]]) = nx at *
        generalize Wp.B ((Sc.splitP c (s.data.toList.take k)).getLastD []) = lx at *
        have hn0 : (0 : Int) ≤ ((n - 1 : Nat) : Int) := by omega
        have hnn : (n : Int) - 1 = ((n - 1 : Nat) : Int) := by omega
        have hnl : ((n - 1 : Nat) : Int) < (n : Int) := by omega
        obtain ⟨m, hm⟩ : ∃ m, m = n - 1 := ⟨_, rfl⟩
        rw [← hm] at hcell hfz hn0 hnn hnl HO2 HB2
        have hkk : (k : Int) + 1 ≤ (s.size : Int) := by omega
        have hkl : (k : Int) ≤ (k : Int) + 1 := by omega
        have hsl : ∀ W, (Instr.sliceAt 9 (.string s) (some (.int .i64 (k : Int))) (some (.int .i64 ((k : Int) + 1))) none).run Tryz.prog W = .ok (.string (s.extract k (k + 1))) W := by
          intro W
          rw [run_sliceAt_string (h := Tryz.underlying9), run_slice_string (h := Tryz.underlying9) (h0 := by omega) (h1 := by omega) (h2 := by omega)]
          rfl
        have hcw : wr.cell? ⟨g, m, none⟩ = some (.string lx) := hcell
        have hex : (s.extract k (k + 1)).size ≤ 1 := by rw [ByteArray.size_extract]; omega
        generalize s.extract k (k + 1) = ex at *
        have hwm : IntKind.i64.wrap ((m : Nat) : Int) = ((m : Nat) : Int) := IntWalk.i64_in _ (by omega)
        have hab : ∀ W, (Op.stringOp .add lx ex).run Tryz.prog W = .ok (.string (lx ++ ex)) W := fun W => run_string_add_sum W _ _ (by omega)
        have hwk : IntKind.i64.wrap ((k : Int) + 1) = (k : Int) + 1 := IntWalk.i64_in _ (by omega)
        clear hm hcell
        go_wp2_with fail
        go_still_tail 13, (by kernel_rfl)
        change wpList _ _ _ _ _ wr.drew
        go_wp2_with fail
        exact ⟨⟨k + 1, n, by omega, by go_num, by omega, by omega, HN2, by rw [hadd.out]; exact HO2.out, by rw [hadd.out]; exact HB2.out⟩, by simp [intOf]; omega⟩
    · obtain rfl : k = s.size := by omega
      have e : s.data.toList.take s.size = s.data.toList := List.take_of_length_le (by rw [← hlen.out]; exact Nat.le_refl _)
      rw [e] at HN HO
      have hn := HN.out
      subst hn
      go_wp2_with fail
      go_ret
      exact ⟨_, rfl, HO.out, HB.out⟩
end Go.Proofs.YteiccjakaabfnaaGreatDoor
namespace Go.Proofs.YteiccjakaabfnaaGreatDoor
open Go.RowKit

theorem Sc.pathR_ok {w : List UInt8} (h : Sc.pathOk (Sc.splitP 46 w) = true) : Sc.pathR w = ((Sc.splitP 46 w).map Wp.B, 0) := by unfold Sc.pathR Sc.pathP; rw [if_pos h]
theorem Sc.pathR_bad {w : List UInt8} (h : Sc.pathOk (Sc.splitP 46 w) = false) : Sc.pathR w = ([], 13) := by unfold Sc.pathR Sc.pathP; rw [if_neg (by rw [h]; simp)]
theorem Sc.rightB_map (l : List (List UInt8)) : Sc.rightB (l.map Wp.B) = Sc.pathOk l := by
  unfold Sc.rightB
  rw [List.map_map]
  congr 1
  conv => rhs; rw [← List.map_id l]
  exact List.map_congr_left fun x _ => rfl
theorem Sc.own_off {B : Nat} {W : World} {p : Option Addr} {n c : Nat} {l : List ByteArray} (h : W.ownsRow B 9 1 (.slice p n c) n (l.map Wp.mkT)) : n ≤ c ∧ Sc.OffT B W p l := by
  constructor
  · rcases h.2 with ⟨hv, h0⟩ | ⟨g, cap, cur, hv, hg, hc, hn, hm, hcs, ht⟩
    · omega
    · cases hv; exact hn
  · obtain ⟨p', c', e, ha⟩ := Vl.texts_off h
    cases e
    exact ha
set_option maxRecDepth 100000 in
set_option maxHeartbeats 1000000 in
theorem refPath_any (s : ByteArray) (w : World) (hs : s.size ≤ 3000000) :
    Calls Tryz.prog 227 #[.string s] w (Sc.PathPost (Sc.pathR s.data.toList) w) := by
  have hsp : Hid (Calls Tryz.prog 226 #[.string s, .int .u8 46] w (Sc.SplPost (Sc.splitP 46 s.data.toList) w)) := Lib.hid (refSplit_any s 46 w hs)
  unfold Sc.SplPost at hsp
  have hlen := Sc.splitP_len 46 s.data.toList
  rw [← Wp.size_len] at hlen
  have hpl := fun x hx => Sc.split_len 46 s.data.toList x hx
  have Hg := Lib.hid (@Sc.pathR_ok s.data.toList)
  have Hb := Lib.hid (@Sc.pathR_bad s.data.toList)
  have Hm := Lib.hid (Sc.rightB_map (Sc.splitP 46 s.data.toList))
  have Hsz := Lib.hid (show ∀ x ∈ (Sc.splitP 46 s.data.toList).map Wp.B, x.size ≤ 140737488351232 from fun x hx => by
    obtain ⟨y, hy, rfl⟩ := List.mem_map.1 hx
    have := hpl y hy
    rw [← Wp.size_len] at this
    rw [Wp.B_size]
    omega)
  obtain ⟨T, hT⟩ : ∃ T, T = Sc.pathR s.data.toList := ⟨_, rfl⟩
  rw [← hT] at Hg Hb ⊢
  obtain ⟨ps, hps⟩ : ∃ ps, ps = (Sc.splitP 46 s.data.toList).map Wp.B := ⟨_, rfl⟩
  have hpn : ps.length = (Sc.splitP 46 s.data.toList).length := by rw [hps, List.length_map]
  rw [← hps] at Hg Hm Hsz hsp
  rw [← hpn] at hlen hsp
  generalize Sc.pathOk (Sc.splitP 46 s.data.toList) = ok at *
  clear hT hps hpn hpl
  go_enter Tryz.func227, Tryz.ntmps227
  go_wp2_with fail
  refine hsp.out.mono ?_
  rintro e w1 ⟨v, rfl, hown, hb1⟩
  obtain ⟨p, c, rfl, hat⟩ := owns_at (mk := Wp.mkT) hown
  have HR := Lib.hid (refRight10_any p c ps w1 (by omega) Hsz.out hat)
  rw [Hm.out] at HR
  have Hown := Lib.hid hown
  have HB := Lib.hid hb1
  clear hown hb1 hat hsp
  go_wp2_with fail
  refine HR.out.mono ?_
  rintro e w2 ⟨rfl, rfl⟩
  cases hok : ok with
  | false =>
    obtain rfl := Hb.out hok
    subst hok
    clear Hb Hg Hm
    go_wp2_with fail
    go_ret2
    exact ⟨none, 0, rfl, Nat.le_refl _, fun _ _ => Or.inl rfl, HB.out⟩
  | true =>
    obtain rfl := Hg.out hok
    subst hok
    clear Hb Hg Hm
    go_wp2_with fail
    go_ret2
    obtain ⟨h1, h2⟩ := Sc.own_off Hown.out
    exact ⟨p, c, rfl, h1, h2, HB.out⟩
/-- What lies in internal/bytealg.MaxLen is an int. -/
def Sc.MaxLen (w : World) : Prop := ∃ m, w.cell? ⟨5, 0, none⟩ = some (.int .i64 m)
theorem Sc.MaxLen.below {w w' : World} (h : Sc.MaxLen w) (hb : Below w.heap.size w w') : Sc.MaxLen w' := by
  obtain ⟨m, h⟩ := h
  exact ⟨m, (hb.cell (World.block_lt_of_cell? w _ h)).trans h⟩
theorem Sc.split_own (s sep : ByteArray) (k N : Nat) (hN : N = k + 1) (hm : N ≤ maxLen) (w : World) :
    (w.alloc (.cells (Lib.cellsOf (Lib.splitB sep 0 k s) N) 9)).ownsRow w.heap.size 9 1 (.slice (some ⟨w.heap.size, 0, none⟩) (Lib.splitB sep 0 k s).length N) (Lib.splitB sep 0 k s).length ((Lib.splitB sep 0 k s).map Wp.mkT) := by
  have hl := Lib.splitB_length_le sep 0 k s
  refine ⟨by simp, Or.inr ⟨w.heap.size, N, _, rfl, Nat.le_refl _, Vl.new _ _, by omega, hm, by rw [Lib.cellsOf_size (by omega)]; omega, ?_⟩⟩
  unfold Lib.cellsOf
  rw [Nat.mul_one]
  show (_ ++ _ : List Value).take _ = _
  rw [List.take_append_of_le_length (by simp), List.take_of_length_le (by simp)]
  rfl
theorem Sc.pieces (s : ByteArray) (k : Nat) (hk : k = min 5 (s.size + 1) - 1) : Sc.rightB (Lib.splitB ⟨#[46]⟩ 0 k s) = Sc.pathOk (Sc.splitP 46 s.data.toList) ∧ (Sc.pathOk (Sc.splitP 46 s.data.toList) = true → Lib.splitB ⟨#[46]⟩ 0 k s = (Sc.splitP 46 s.data.toList).map Wp.B) := by
  have h1 := Lib.splitB_data ⟨#[46]⟩ 0 k s
  obtain ⟨h2, h3⟩ := Sc.splitN_path s.data.toList k (by rw [← Wp.size_len]; exact hk)
  have h1' : (Lib.splitB ⟨#[46]⟩ 0 k s).map (·.data.toList) = Lib.splitK [46] 0 k s.data.toList := h1
  refine ⟨by unfold Sc.rightB; rw [h1', h2], fun h => ?_⟩
  rw [← h3 h, ← h1', List.map_map]
  conv => lhs; rw [← List.map_id (Lib.splitB ⟨#[46]⟩ 0 k s)]
  exact List.map_congr_left fun x _ => (Wp.B_of x).symm
theorem Sc.piece_size (sep : ByteArray) : ∀ (k : Nat) (s : ByteArray), ∀ x ∈ Lib.splitB sep 0 k s, x.size ≤ s.size
  | 0, s, x, hx => by simp [Lib.splitB] at hx; rw [hx]; exact Nat.le_refl _
  | k + 1, s, x, hx => by
    unfold Lib.splitB at hx
    split at hx
    · simp at hx; rw [hx]; exact Nat.le_refl _
    · rcases List.mem_cons.1 hx with rfl | hx
      · rw [ByteArray.size_extract]; omega
      · have := Sc.piece_size sep k _ x hx
        rw [ByteArray.size_extract] at this
        omega
set_option maxRecDepth 100000 in
set_option maxHeartbeats 1000000 in
theorem scPath_any (s : ByteArray) (w : World) (hs : s.size ≤ 3000000) (hT : Sc.Laid w) (hM : Sc.MaxLen w) :
    Calls Tryz.prog 43 #[.string s] w (Sc.PathPost (Sc.pathR s.data.toList) w) := by
  obtain ⟨m, hm⟩ := hM
  obtain ⟨N, hN⟩ : ∃ N, N = min 5 (s.size + 1) := ⟨_, rfl⟩
  obtain ⟨k0, hk0⟩ : ∃ k0, k0 = N - 1 := ⟨_, rfl⟩
  have q1 : 1 ≤ (⟨#[46]⟩ : ByteArray).size := Nat.le_refl 1
  have q2 : (5 : Nat) ≤ 9223372036854775807 := by omega
  have q3 : (1 : Nat) ≤ 5 := by omega
  have q4 : s.size < 4294967281 := by omega
  have hsp := Lib.hid (Tryz.strings_SplitN s ⟨#[46]⟩ 5 m w q4 hm q1 q3 q2)
  clear q1 q2 q3 q4
  rw [← hN, ← hk0] at hsp
  have hsz := Sc.piece_size ⟨#[46]⟩ k0 s
  have hown := Sc.split_own s ⟨#[46]⟩ k0 N (by omega) (by unfold maxLen; omega) w
  obtain ⟨p1, p2⟩ := Sc.pieces s k0 (by omega)
  have Hg := Lib.hid (@Sc.pathR_ok s.data.toList)
  have Hb := Lib.hid (@Sc.pathR_bad s.data.toList)
  obtain ⟨T, hTT⟩ : ∃ T, T = Sc.pathR s.data.toList := ⟨_, rfl⟩
  rw [← hTT] at Hg Hb ⊢
  obtain ⟨ps, hps⟩ : ∃ ps, ps = Lib.splitB ⟨#[46]⟩ 0 k0 s := ⟨_, rfl⟩
  have hln : ps.length ≤ 5 := by have := Lib.splitB_length_le ⟨#[46]⟩ 0 k0 s; rw [← hps] at this; omega
  rw [← hps] at hown p1 p2 hsz hsp
  have Hp1 := Lib.hid p1
  have Hp2 := Lib.hid p2
  have Hsz := Lib.hid (show ∀ x ∈ ps, x.size ≤ 3000000 from fun x hx => Nat.le_trans (hsz x hx) hs)
  generalize Lib.cellsOf ps N = cs at *
  have HB0 := Lib.hid ((Below.refl w.heap.size w).alloc (Nat.le_refl _) (.cells cs 9))
  have HT1 := Lib.hid (hT.below HB0.out)
  have Hown := Lib.hid hown
  generalize Sc.pathOk (Sc.splitP 46 s.data.toList) = ok at *
  clear hps hsz p1 p2 hTT hT hm hk0 hown hN
  go_enter Tryz.func43, Tryz.ntmps43
  go_wp2_with fail
  refine hsp.out.mono ?_
  rintro e w1 ⟨rfl, hw1⟩
  obtain ⟨W1, hW1⟩ : ∃ W1, W1 = w.alloc (.cells cs 9) := ⟨_, rfl⟩
  rw [← hW1] at hw1 HB0 HT1 Hown
  subst hw1
  have HR : Hid (Calls Tryz.prog 88 #[.slice (some ⟨w.heap.size, 0, none⟩) ps.length N] w1 fun e w' => e = .returned (.bool ok) ∧ w' = w1) := Lib.hid (by
    obtain ⟨p, c, he, hat⟩ := owns_at (mk := Wp.mkT) Hown.out
    have := scPathRight_any p c ps w1 HT1.out (by omega) (fun x hx => by have := Hsz.out x hx; omega) hat
    rw [Hp1.out, ← he] at this
    exact this)
  clear hW1 hsp
  go_wp2_with fail
  refine HR.out.mono ?_
  rintro e w2 ⟨rfl, rfl⟩
  cases ok with
  | false =>
    obtain rfl := Hb.out rfl
    go_wp2_with fail
    go_ret2
    exact ⟨none, 0, rfl, Nat.le_refl _, fun _ _ => Or.inl rfl, HB0.out⟩
  | true =>
    have e2 := Hp2.out rfl
    have HTe := Lib.hid (show T = (ps, 0) by rw [e2]; exact Hg.out rfl)
    clear e2 Hg Hb HR
    obtain ⟨n, hn⟩ : ∃ n, n = ps.length := ⟨_, rfl⟩
    rw [← hn] at Hown hln ⊢
    have HN := Lib.hid hn
    clear hn
    go_wp2_with fail
    go_loopw [14] (fun t wr => ∃ k : Nat, k ≤ n ∧ t = .int .i64 k ∧ Hid (wr.ownsRow w.heap.size 9 1 (.slice (some ⟨w.heap.size, 0, none⟩) n N) n (ps.map Wp.mkT)) ∧ Hid (Below w.heap.size w wr)) (fun t _ => n - (intOf t).toNat)
    case atStart => exact ⟨0, Nat.zero_le _, rfl, Hown, HB0⟩
    case round =>
      obtain ⟨k, hk, rfl, HO, HB⟩ := hrel
      by_cases hlt : k < n
      · have hkl : k < ps.length := by rw [← HN.out]; exact hlt
        obtain ⟨g, c, he, hg0, hg1, hcell, hfz, _⟩ := Sc.own_set HO.out k hkl ps[k]
        cases he
        have hxs := Hsz.out ps[k] (List.getElem_mem _)
        have HC := Lib.hid (vlClone_any ps[k] wr (by omega))
        have HO5 := Lib.hid (fun w5 (hb : Below wr.heap.size wr w5) => (show w5.frozen? ⟨w.heap.size, k, none⟩ = false ∧ (∃ u, w5.cell? ⟨w.heap.size, k, none⟩ = some u) ∧ w.heap.size < w5.heap.size ∧ (w5.setCell ⟨w.heap.size, k, none⟩ (.string ps[k])).ownsRow w.heap.size 9 1 (.slice (some ⟨w.heap.size, 0, none⟩) n N) n (ps.map Wp.mkT) by
          obtain ⟨g, c, he, hg0, hg1, hcell, hfz, ho⟩ := Sc.own_set (ownsRow_below HO.out hb) k hkl ps[k]
          cases he
          rw [List.set_getElem_self] at ho
          exact ⟨hfz, ⟨_, hcell⟩, hg1, ho⟩))
        have hk1 : (k : Int) < (n : Int) := by omega
        generalize ps[k] = x at *
        clear hkl hfz
        go_wp2_with fail
        refine HC.out.mono ?_
        rintro e w5 ⟨rfl, hb5⟩
        obtain ⟨f5, ⟨u5, c5⟩, s5, o5⟩ := HO5.out w5 hb5
        have HO6 := Lib.hid o5
        have HB6 := Lib.hid ((HB.out.trans (hb5.mono HB.out.size)).setCell (p := ⟨w.heap.size, k, none⟩) (Nat.le_refl _) (.string x))
        clear hb5 o5 HC HO5 HO HB hcell
        go_wp2_with fail
        exact ⟨⟨k + 1, by omega, by go_num, HO6, HB6⟩, by simp [intOf]; omega⟩
      · obtain rfl : k = n := by omega
        go_wp2_with fail
        have e := HTe.out
        have hn := HN.out
        subst e
        subst hn
        go_ret2
        obtain ⟨h1, h2⟩ := Sc.own_off HO.out
        exact ⟨_, N, rfl, h1, h2, HB.out⟩
end Go.Proofs.YteiccjakaabfnaaGreatDoor
