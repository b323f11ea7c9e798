/-
  The walk of the document's own tag (bellmanref10). Condition: a text takes at most 3000000 bytes.
  The walk of the document's own Tokens (bellmanref10). Condition: a text takes no more than a machine holds.
-/
import Derived.Test.YteajjlilpikdeaaGreatDoorScTT
import Derived.Test.YteajjlilpikdeaaGreatDoorScRef
import Derived.Test.YteajjlilpikdeaaGreatDoorScA
namespace Go.Proofs.YteajjlilpikdeaaGreatDoor
open Go.RowKit Go.Shelf

namespace Sc
def ne (x : List UInt8) : Bool := !x.isEmpty
theorem words_split : ∀ (l cur : List UInt8), wordsGo cur l = (match splitP 32 l with | [] => [] | h :: r => (cur ++ h) :: r).filter ne
  | [], cur => by
    rw [wordsGo, splitP]
    cases cur with
    | nil => rfl
    | cons a t => simp [ne]
  | a :: t, cur => by
    rw [wordsGo, splitP]
    by_cases ha : a = 32
    · rw [if_pos ha, if_pos ha, words_split t []]
      have hn := splitP_ne 32 t
      cases hs : splitP 32 t with
      | nil => exact absurd hs hn
      | cons h r =>
        cases cur with
        | nil => simp [ne]
        | cons b u => simp [ne]
    · rw [if_neg ha, if_neg ha, words_split t (cur ++ [a])]
      have hn := splitP_ne 32 t
      cases hs : splitP 32 t with
      | nil => exact absurd hs hn
      | cons h r => simp
theorem words_filter (l : List UInt8) : (splitP 32 l).filter ne = wordsP l := by
  unfold wordsP
  rw [words_split l []]
  cases hs : splitP 32 l with
  | nil => exact absurd hs (splitP_ne 32 l)
  | cons h r => rfl
theorem filter_snoc (L : List (List UInt8)) (k : Nat) (h : k < L.length) : (L.take (k + 1)).filter ne = (L.take k).filter ne ++ (if L[k] = [] then [] else [L[k]]) := by
  rw [List.take_succ_eq_append_getElem h, List.filter_append]
  congr 1
  by_cases e : L[k] = []
  · rw [if_pos e, e]; rfl
  · rw [if_neg e]
    have : ne L[k] = true := by unfold ne; cases hl : L[k] with | nil => exact absurd hl e | cons a t => rfl
    simp [List.filter, this]
end Sc
set_option maxRecDepth 100000 in
set_option maxHeartbeats 4000000 in
theorem refTag_any (s : ByteArray) (w : World) (hs : s.size ≤ 3000000) :
    Calls Tryz.prog 85 #[.string s] w (Sc.TagPost (Sc.tagP s.data.toList) w) := by
  obtain ⟨i0, hi, hz0, hz1, hz2⟩ := Vl.infoText
  have HSp := Lib.hid (fun W => refSplit_any s 32 W hs)
  have hsl := Sc.splitP_len 32 s.data.toList
  rw [← Wp.size_len] at hsl
  have hsz := Sc.words_size s.data.toList
  have hwf := Sc.words_filter s.data.toList
  obtain ⟨T, hTT⟩ : ∃ T, T = Sc.tagP s.data.toList := ⟨_, rfl⟩
  rw [← hTT]
  unfold Sc.tagP at hTT
  have HSz := Lib.hid (show ∀ x ∈ Sc.wordsP s.data.toList, x.length ≤ 3000000 from fun x hx => by have := hsz x hx; have := Wp.size_len s; omega)
  have hpl := fun x hx => Sc.split_len 32 s.data.toList x hx
  rw [← Wp.size_len] at hpl
  generalize Sc.wordsP s.data.toList = ws at *
  generalize Sc.splitP 32 s.data.toList = L at *
  have HPl := Lib.hid hpl
  have HTT := Lib.hid hTT
  have HWf := Lib.hid hwf
  have HB0 := Lib.hid ((Below.refl w.heap.size w).alloc (Nat.le_refl _) (.cells #[.int .u8 0, .string ⟨#[]⟩, .slice none 0 0] 46))
  have HR0 := Lib.hid (Vl.new w (.cells #[.int .u8 0, .string ⟨#[]⟩, .slice none 0 0] 46))
  have HSn := Lib.hid (Sc.filter_snoc L)
  obtain ⟨n, hn⟩ : ∃ n, n = L.length := ⟨_, rfl⟩
  rw [← hn] at hsl
  have HN := Lib.hid hn
  have HTk := Lib.hid (show L.take n = L by rw [hn, List.take_length])
  clear hTT hsz hwf hpl hn
  go_enter Tryz.func85, Tryz.ntmps85
  go_wp2_with fail
  refine (HSp.out _).mono ?_
  rintro e w1 ⟨v0, rfl, hown, hb⟩
  rw [← HN.out] at hown
  obtain ⟨sp, sc, rfl, hat⟩ := owns_at (mk := Wp.mkT) (l := L.map Wp.B) (by rw [List.length_map, ← HN.out]; exact hown)
  rw [List.length_map, ← HN.out]
  have HAt := Lib.hid hat
  have HR1 := Lib.hid (Sc.keepBox HR0.out hb)
  have HB1 := Lib.hid (HB0.out.trans (hb.mono HB0.out.size))
  have hsz1 : w.heap.size < w1.heap.size := by have := hb.size; simp at this; omega
  clear hb HSp HR0 HB0 hown hat
  go_wp2_with fail
  go_loopw [4, 13] (fun sv t wr => ∃ (k m : Nat), k ≤ n ∧ t = .int .i64 k ∧ m ≤ k ∧ Hid (m = ((L.take k).filter Sc.ne).length) ∧ Hid (wr.ownsRow w1.heap.size 9 1 sv m ((((L.take k).filter Sc.ne).map Wp.B).map Wp.mkT)) ∧ Hid (Below w1.heap.size w1 wr)) (fun _ t _ => n - (intOf t).toNat)
  case atStart => exact ⟨0, 0, Nat.zero_le _, rfl, Nat.le_refl _, Lib.hid rfl, Lib.hid (World.ownsRow_nil _ _ _ _), Lib.hid (Below.refl _ _)⟩
  case round =>
    obtain ⟨k, m, hk, rfl, hmk, HM, HO, HB⟩ := hrel
    by_cases hlt : k < n
    · have hkl : k < L.length := by rw [← HN.out]; exact hlt
      obtain ⟨pb, po, rfl, hcell⟩ := (HAt.out.below HB.out).get k (by rw [List.length_map]; exact hkl)
      rw [List.getElem_map, show Wp.mkT (Wp.B L[k]) = Value.string (Wp.B L[k]) from rfl] at hcell
      have hsn := HSn.out k hkl
      have hxl := HPl.out L[k] (List.getElem_mem hkl)
      have hxs : (Wp.B L[k]).size ≤ 3000000 := by rw [Wp.B_size]; omega
      have hk1 : (k : Int) < (n : Int) := by omega
      have hemp : (Wp.B L[k]).toList.isEmpty = decide (L[k] = []) := by
        rw [Lib.toList_data, Wp.B_data]
        cases L[k] with
        | nil => rfl
        | cons a t => rfl
      by_cases h0 : L[k] = []
      · rw [if_pos h0, List.append_nil] at hsn
        rw [decide_eq_true h0] at hemp
        rw [← hsn] at HM HO
        clear hsn h0 hxl
        generalize Wp.B L[k] = x at *
        go_wp2_with fail
        exact ⟨⟨k + 1, m, by omega, by go_num, by omega, HM, HO, HB⟩, by simp [intOf]; omega⟩
      · rw [if_neg h0] at hsn
        rw [decide_eq_false h0] at hemp
        have HM2 := Lib.hid (show m + 1 = ((L.take (k + 1)).filter Sc.ne).length by rw [hsn, List.length_append, ← HM.out]; rfl)
        have HSx := Lib.hid hsn
        have HO1 := Lib.hid (HO.out.alloc (.cells #[.string (Wp.B L[k])] 9))
        have HB1' := Lib.hid (HB.out.alloc HB.out.size (.cells #[.string (Wp.B L[k])] 9))
        have HC1 := Lib.hid (cell_one_new wr (.string (Wp.B L[k])) 9)
        clear hsn h0 hxl
        have HX := Lib.hid (rfl : Wp.B L[k] = Wp.B L[k])
        generalize hx : Wp.B L[k] = x at *
        have HXx := Lib.hid hx
        clear hx HX
        go_wp2_with (at_builtin; refine Vl.listApp _ rfl _ _ 35 rfl w1.heap.size 9 i0 _ 1 16 Tryz.underlying35 hi hz0 hz1 hz2 rfl (by decide) _ m _ rfl HO1.out ⟨wr.heap.size, 0, none⟩ 1 1 [.string x] rfl rfl ?c1 ?c2 ?c3 ?c4 ?c5 ?_)
        case c1 => exact HC1.out
        case c2 => simp [Value.oneCell']
        case c3 => unfold maxLen; omega
        case c4 => omega
        case c5 => exact HB1'.out.size
        intro v' w2 hown hgrow _
        have HB2 := Lib.hid (below_grown HB1'.out HO1.out (Nat.le_refl _) hgrow)
        have HO2 := Lib.hid (show w2.ownsRow w1.heap.size 9 1 v' (m + 1) ((((L.take (k + 1)).filter Sc.ne).map Wp.B).map Wp.mkT) by
          rw [HSx.out, List.map_append, List.map_append, List.map_map]
          rw [← HXx.out] at hown
          exact hown)
        clear hown hgrow HO1 HB1' HC1
        go_wp2_with fail
        exact ⟨⟨k + 1, m + 1, by omega, by go_num, by omega, HM2, HO2, HB2⟩, by simp [intOf]; omega⟩
    · obtain rfl : k = n := by omega
      rw [HTk.out, HWf.out] at HM HO
      have HR2 := Lib.hid (Sc.keepBox HR1.out HB.out)
      have HB2 := Lib.hid (HB1.out.trans (HB.out.mono HB1.out.size))
      have hsz2 : w1.heap.size ≤ wr.heap.size := HB.out.size
      clear HR1 HB1 HB HSn HAt HPl HTk HWf
      obtain ⟨r0, r1, r2⟩ := Sc.three_of HR2.out
      obtain ⟨n0, n1, n2⟩ := Sc.threeF_of HR2.out
      have HPa : Hid (∀ (x : List UInt8), x ∈ ws → Calls Tryz.prog 119 #[.string (Wp.B x)] wr (Sc.PathPost (Sc.pathR x) wr)) := Lib.hid (fun x hx => by
        have := refPath_any (Wp.B x) wr (by rw [Wp.B_size]; exact HSz.out x hx)
        rwa [Wp.B_data] at this)
      have HPf := Lib.hid (fun (x : List UInt8) (hx : x ∈ ws) => Sc.path_fits x (HSz.out x hx))
      match ws, HM, HO, HTT, HPa, HPf with
      | [], HM, HO, HTT, HPa, HPf =>
        obtain rfl : m = 0 := HM.out
        have HTz := Lib.hid (show T = none from HTT.out)
        obtain ⟨q, cap, rfl, hat⟩ := owns_at (mk := Wp.mkT) (l := ([] : List ByteArray)) HO.out
        clear HO HPa HPf hat
        go_wp2_with fail
        refine bodyPost_ret (Vl.ret2 rfl _ _ w.heap.size 46 _ _ rfl (Sc.set3 HR2.out _ _ _) Tryz.underlying46 rfl (by kernel_rfl)) rfl ?_
        have hT := HTz.out
        subst hT
        exact ⟨0, _, _, _, _, rfl, (fun y h => by cases h), below_grownBy HB2.out (Sc.set3_grown _ _ _ _ _) (by omega) HB2.out.size⟩
      | [a], HM, HO, HTT, HPa, HPf =>
        obtain rfl : m = 1 := HM.out
        obtain ⟨q, cap, rfl, hat⟩ := owns_at (mk := Wp.mkT) (l := [Wp.B a]) HO.out
        obtain ⟨A, ao, rfl, hd⟩ := hat.get 0 (by simp)
        have hd0 : wr.cell? ⟨A, ao, none⟩ = some (.string (Wp.B a)) := hd
        clear hat hd
        by_cases h4 : a = Sc.wElse
        · have z4 : ((Wp.B a).toList == [101, 108, 115, 101]) = true := Sc.str_eq (by rw [Wp.B_data]; exact h4)
          have HTz := Lib.hid (show T = some ⟨4, ⟨#[]⟩, []⟩ from HTT.out.trans (by rw [h4]; rfl))
          clear HO HPa HPf
          (try clear h4)
          (try clear h6)
          generalize Wp.B a = xa at *
          go_wp2_with fail
          refine bodyPost_ret (Vl.ret2 rfl _ _ w.heap.size 46 _ _ rfl (Sc.set3 HR2.out _ _ _) Tryz.underlying46 rfl (by kernel_rfl)) rfl ?_
          have hT := HTz.out
          subst hT
          refine ⟨4, _, _, _, _, rfl, (fun y h => ?_), below_grownBy HB2.out (Sc.set3_grown _ _ _ _ _) (by omega) HB2.out.size⟩
          cases h
          exact fun W' _ => ⟨none, 0, rfl, ⟨⟨(by show 4 ≤ 255; omega), Nat.le_refl _⟩, (by show (0 : Nat) ≤ _; omega), (by show (0 : Nat) ≤ _; omega), by simp⟩, Or.inl rfl⟩
        by_cases h6 : a = Sc.wEnd
        · have z4 : ((Wp.B a).toList == [101, 108, 115, 101]) = false := Sc.str_ne (by rw [Wp.B_data]; exact h4)
          have z6 : ((Wp.B a).toList == [101, 110, 100]) = true := Sc.str_eq (by rw [Wp.B_data]; exact h6)
          have HTz := Lib.hid (show T = some ⟨6, ⟨#[]⟩, []⟩ from HTT.out.trans (by rw [h6]; rfl))
          clear HO HPa HPf
          (try clear h4)
          (try clear h6)
          generalize Wp.B a = xa at *
          go_wp2_with fail
          refine bodyPost_ret (Vl.ret2 rfl _ _ w.heap.size 46 _ _ rfl (Sc.set3 HR2.out _ _ _) Tryz.underlying46 rfl (by kernel_rfl)) rfl ?_
          have hT := HTz.out
          subst hT
          refine ⟨6, _, _, _, _, rfl, (fun y h => ?_), below_grownBy HB2.out (Sc.set3_grown _ _ _ _ _) (by omega) HB2.out.size⟩
          cases h
          exact fun W' _ => ⟨none, 0, rfl, ⟨⟨(by show 6 ≤ 255; omega), Nat.le_refl _⟩, (by show (0 : Nat) ≤ _; omega), (by show (0 : Nat) ≤ _; omega), by simp⟩, Or.inl rfl⟩
        have HTz := Lib.hid (show T = (Sc.pathP a).map fun p => ⟨2, ⟨#[]⟩, p⟩ from HTT.out.trans (by simp only [Sc.tagW]; rw [if_neg h4, if_neg h6]))
        have z4 : ((Wp.B a).toList == [101, 108, 115, 101]) = false := Sc.str_ne (by rw [Wp.B_data]; exact h4)
        have z6 : ((Wp.B a).toList == [101, 110, 100]) = false := Sc.str_ne (by rw [Wp.B_data]; exact h6)
        have HC := Lib.hid (HPa.out a (by simp))
        have hpf := HPf.out a (by simp)
        have hxs : (Wp.B a).size ≤ 3000000 := by rw [Wp.B_size]; exact HSz.out a (by simp)
        obtain ⟨⟨ps, pc⟩, hQ⟩ : ∃ Q, Q = Sc.pathR a := ⟨_, rfl⟩
        rw [← hQ] at HC hpf
        have HTy : Hid ((pc = 0 ∧ T = some ⟨2, ⟨#[]⟩, ps⟩ ∧ ps.length ≤ 4 ∧ ∀ x ∈ ps, x.size ≤ 140737488351232) ∨ (pc = 13 ∧ T = none)) := Lib.hid (by
          have e := HTz.out
          unfold Sc.pathR at hQ
          cases hp : Sc.pathP a with
          | none => rw [hp] at hQ e; exact Or.inr ⟨congrArg Prod.snd hQ, e⟩
          | some q =>
            rw [hp] at hQ e
            have h1 := congrArg Prod.fst hQ
            have h2 := congrArg Prod.snd hQ
            simp only at h1 h2
            subst h1
            exact Or.inl ⟨h2, e, hpf.1, hpf.2⟩)
        clear hQ hpf HPa HPf HO
        (try clear h3)
        (try clear h4)
        (try clear h5)
        (try clear h6)
        (try generalize Wp.B a = xa at *)
        (try generalize Wp.B b = xb at *)
        go_wp2_with fail
        refine HC.out.mono ?_
        rintro e w4 ⟨pp, pcap, rfl, hcp, hoff, hb⟩
        have HCp := Lib.hid hcp
        have HR4 := Lib.hid (Sc.keepBox HR2.out hb)
        have HB4 := Lib.hid (HB2.out.trans (hb.mono HB2.out.size))
        have HF4 := Lib.hid hoff
        have hlt4 : wr.heap.size ≤ w4.heap.size := hb.size
        clear hcp hoff hb HC HR2 HB2 r0 r1 r2 n0 n1 n2
        obtain ⟨r0, r1, r2⟩ := Sc.three_of HR4.out
        obtain ⟨n0, n1, n2⟩ := Sc.threeF_of HR4.out
        rcases HTy.out with ⟨rfl, hT, hp4, hpz⟩ | ⟨rfl, hT⟩
        · have HT2 := Lib.hid hT
          have Hp4 := Lib.hid hp4
          have Hpz := Lib.hid hpz
          clear hT hp4 hpz HTy HTz
          go_wp2_with fail
          refine bodyPost_ret (Vl.ret2 rfl _ _ w.heap.size 46 _ _ rfl (Sc.set3 HR4.out _ _ _) Tryz.underlying46 rfl (by kernel_rfl)) rfl ?_
          have hT := HT2.out
          subst hT
          refine ⟨2, _, _, _, _, rfl, (fun y h => ?_), below_grownBy HB4.out (Sc.set3_grown _ _ _ _ _) (by omega) HB4.out.size⟩
          cases h
          refine fun W' hW' => ⟨pp, pcap, rfl, ⟨⟨(by show 2 ≤ 255; omega), HCp.out⟩, (by show (0 : Nat) ≤ _; omega), (by show ps.length ≤ _; have := Hp4.out; omega), Hpz.out⟩, HF4.out W' (fun j h1 h2 => ?_)⟩
          rw [hW' j (by omega) (by rw [Sc.set3_size]; exact h2) (by simp), Sc.set3_rest _ _ _ _ _ j (by omega)]
        · have HT2 := Lib.hid hT
          clear hT HTy HTz
          go_wp2_with fail
          refine bodyPost_ret (Vl.ret2 rfl _ _ w.heap.size 46 _ _ rfl (Sc.set3 HR4.out _ _ _) Tryz.underlying46 rfl (by kernel_rfl)) rfl ?_
          have hT := HT2.out
          subst hT
          exact ⟨2, _, _, _, _, rfl, (fun y h => by cases h), below_grownBy HB4.out (Sc.set3_grown _ _ _ _ _) (by omega) HB4.out.size⟩
      | [a, b], HM, HO, HTT, HPa, HPf =>
        obtain rfl : m = 2 := HM.out
        obtain ⟨q, cap, rfl, hat⟩ := owns_at (mk := Wp.mkT) (l := [Wp.B a, Wp.B b]) HO.out
        have hcap : 2 ≤ cap := (Sc.own_off (l := [Wp.B a, Wp.B b]) HO.out).1
        obtain ⟨A, ao, rfl, hd⟩ := hat.get 0 (by simp)
        have hd0 : wr.cell? ⟨A, ao, none⟩ = some (.string (Wp.B a)) := hd
        obtain ⟨A', ao', hq, hd'⟩ := hat.get 1 (by simp)
        cases hq
        have hd1 : wr.cell? ⟨A, ao + 1, none⟩ = some (.string (Wp.B b)) := hd'
        clear hat hd hd'
        by_cases h3 : a = Sc.wIf
        · have z3 : ((Wp.B a).toList == [105, 102]) = true := Sc.str_eq (by rw [Wp.B_data]; exact h3)
          have HTz := Lib.hid (show T = (Sc.pathP b).map fun p => ⟨3, ⟨#[]⟩, p⟩ from HTT.out.trans (by rw [h3]; rfl))
          have HC := Lib.hid (HPa.out b (by simp))
          have hpf := HPf.out b (by simp)
          have hxs : (Wp.B b).size ≤ 3000000 := by rw [Wp.B_size]; exact HSz.out b (by simp)
          obtain ⟨⟨ps, pc⟩, hQ⟩ : ∃ Q, Q = Sc.pathR b := ⟨_, rfl⟩
          rw [← hQ] at HC hpf
          have HTy : Hid ((pc = 0 ∧ T = some ⟨3, ⟨#[]⟩, ps⟩ ∧ ps.length ≤ 4 ∧ ∀ x ∈ ps, x.size ≤ 140737488351232) ∨ (pc = 13 ∧ T = none)) := Lib.hid (by
            have e := HTz.out
            unfold Sc.pathR at hQ
            cases hp : Sc.pathP b with
            | none => rw [hp] at hQ e; exact Or.inr ⟨congrArg Prod.snd hQ, e⟩
            | some q =>
              rw [hp] at hQ e
              have h1 := congrArg Prod.fst hQ
              have h2 := congrArg Prod.snd hQ
              simp only at h1 h2
              subst h1
              exact Or.inl ⟨h2, e, hpf.1, hpf.2⟩)
          clear hQ hpf HPa HPf HO
          (try clear h3)
          (try clear h4)
          (try clear h5)
          (try clear h6)
          (try generalize Wp.B a = xa at *)
          (try generalize Wp.B b = xb at *)
          go_wp2_with fail
          refine HC.out.mono ?_
          rintro e w4 ⟨pp, pcap, rfl, hcp, hoff, hb⟩
          have HCp := Lib.hid hcp
          have HR4 := Lib.hid (Sc.keepBox HR2.out hb)
          have HB4 := Lib.hid (HB2.out.trans (hb.mono HB2.out.size))
          have HF4 := Lib.hid hoff
          have hlt4 : wr.heap.size ≤ w4.heap.size := hb.size
          clear hcp hoff hb HC HR2 HB2 r0 r1 r2 n0 n1 n2
          obtain ⟨r0, r1, r2⟩ := Sc.three_of HR4.out
          obtain ⟨n0, n1, n2⟩ := Sc.threeF_of HR4.out
          rcases HTy.out with ⟨rfl, hT, hp4, hpz⟩ | ⟨rfl, hT⟩
          · have HT2 := Lib.hid hT
            have Hp4 := Lib.hid hp4
            have Hpz := Lib.hid hpz
            clear hT hp4 hpz HTy HTz
            go_wp2_with fail
            refine bodyPost_ret (Vl.ret2 rfl _ _ w.heap.size 46 _ _ rfl (Sc.set3 HR4.out _ _ _) Tryz.underlying46 rfl (by kernel_rfl)) rfl ?_
            have hT := HT2.out
            subst hT
            refine ⟨3, _, _, _, _, rfl, (fun y h => ?_), below_grownBy HB4.out (Sc.set3_grown _ _ _ _ _) (by omega) HB4.out.size⟩
            cases h
            refine fun W' hW' => ⟨pp, pcap, rfl, ⟨⟨(by show 3 ≤ 255; omega), HCp.out⟩, (by show (0 : Nat) ≤ _; omega), (by show ps.length ≤ _; have := Hp4.out; omega), Hpz.out⟩, HF4.out W' (fun j h1 h2 => ?_)⟩
            rw [hW' j (by omega) (by rw [Sc.set3_size]; exact h2) (by simp), Sc.set3_rest _ _ _ _ _ j (by omega)]
          · have HT2 := Lib.hid hT
            clear hT HTy HTz
            go_wp2_with fail
            refine bodyPost_ret (Vl.ret2 rfl _ _ w.heap.size 46 _ _ rfl (Sc.set3 HR4.out _ _ _) Tryz.underlying46 rfl (by kernel_rfl)) rfl ?_
            have hT := HT2.out
            subst hT
            exact ⟨3, _, _, _, _, rfl, (fun y h => by cases h), below_grownBy HB4.out (Sc.set3_grown _ _ _ _ _) (by omega) HB4.out.size⟩
        by_cases h5 : a = Sc.wEach
        · have z3 : ((Wp.B a).toList == [105, 102]) = false := Sc.str_ne (by rw [Wp.B_data]; exact h3)
          have z5 : ((Wp.B a).toList == [101, 97, 99, 104]) = true := Sc.str_eq (by rw [Wp.B_data]; exact h5)
          have HTz := Lib.hid (show T = (Sc.pathP b).map fun p => ⟨5, ⟨#[]⟩, p⟩ from HTT.out.trans (by rw [h5]; rfl))
          have HC := Lib.hid (HPa.out b (by simp))
          have hpf := HPf.out b (by simp)
          have hxs : (Wp.B b).size ≤ 3000000 := by rw [Wp.B_size]; exact HSz.out b (by simp)
          obtain ⟨⟨ps, pc⟩, hQ⟩ : ∃ Q, Q = Sc.pathR b := ⟨_, rfl⟩
          rw [← hQ] at HC hpf
          have HTy : Hid ((pc = 0 ∧ T = some ⟨5, ⟨#[]⟩, ps⟩ ∧ ps.length ≤ 4 ∧ ∀ x ∈ ps, x.size ≤ 140737488351232) ∨ (pc = 13 ∧ T = none)) := Lib.hid (by
            have e := HTz.out
            unfold Sc.pathR at hQ
            cases hp : Sc.pathP b with
            | none => rw [hp] at hQ e; exact Or.inr ⟨congrArg Prod.snd hQ, e⟩
            | some q =>
              rw [hp] at hQ e
              have h1 := congrArg Prod.fst hQ
              have h2 := congrArg Prod.snd hQ
              simp only at h1 h2
              subst h1
              exact Or.inl ⟨h2, e, hpf.1, hpf.2⟩)
          clear hQ hpf HPa HPf HO
          (try clear h3)
          (try clear h4)
          (try clear h5)
          (try clear h6)
          (try generalize Wp.B a = xa at *)
          (try generalize Wp.B b = xb at *)
          go_wp2_with fail
          refine HC.out.mono ?_
          rintro e w4 ⟨pp, pcap, rfl, hcp, hoff, hb⟩
          have HCp := Lib.hid hcp
          have HR4 := Lib.hid (Sc.keepBox HR2.out hb)
          have HB4 := Lib.hid (HB2.out.trans (hb.mono HB2.out.size))
          have HF4 := Lib.hid hoff
          have hlt4 : wr.heap.size ≤ w4.heap.size := hb.size
          clear hcp hoff hb HC HR2 HB2 r0 r1 r2 n0 n1 n2
          obtain ⟨r0, r1, r2⟩ := Sc.three_of HR4.out
          obtain ⟨n0, n1, n2⟩ := Sc.threeF_of HR4.out
          rcases HTy.out with ⟨rfl, hT, hp4, hpz⟩ | ⟨rfl, hT⟩
          · have HT2 := Lib.hid hT
            have Hp4 := Lib.hid hp4
            have Hpz := Lib.hid hpz
            clear hT hp4 hpz HTy HTz
            go_wp2_with fail
            refine bodyPost_ret (Vl.ret2 rfl _ _ w.heap.size 46 _ _ rfl (Sc.set3 HR4.out _ _ _) Tryz.underlying46 rfl (by kernel_rfl)) rfl ?_
            have hT := HT2.out
            subst hT
            refine ⟨5, _, _, _, _, rfl, (fun y h => ?_), below_grownBy HB4.out (Sc.set3_grown _ _ _ _ _) (by omega) HB4.out.size⟩
            cases h
            refine fun W' hW' => ⟨pp, pcap, rfl, ⟨⟨(by show 5 ≤ 255; omega), HCp.out⟩, (by show (0 : Nat) ≤ _; omega), (by show ps.length ≤ _; have := Hp4.out; omega), Hpz.out⟩, HF4.out W' (fun j h1 h2 => ?_)⟩
            rw [hW' j (by omega) (by rw [Sc.set3_size]; exact h2) (by simp), Sc.set3_rest _ _ _ _ _ j (by omega)]
          · have HT2 := Lib.hid hT
            clear hT HTy HTz
            go_wp2_with fail
            refine bodyPost_ret (Vl.ret2 rfl _ _ w.heap.size 46 _ _ rfl (Sc.set3 HR4.out _ _ _) Tryz.underlying46 rfl (by kernel_rfl)) rfl ?_
            have hT := HT2.out
            subst hT
            exact ⟨5, _, _, _, _, rfl, (fun y h => by cases h), below_grownBy HB4.out (Sc.set3_grown _ _ _ _ _) (by omega) HB4.out.size⟩
        have HTz := Lib.hid (show T = none from HTT.out.trans (by simp only [Sc.tagW]; rw [if_neg h3, if_neg h5]))
        have z3 : ((Wp.B a).toList == [105, 102]) = false := Sc.str_ne (by rw [Wp.B_data]; exact h3)
        have z5 : ((Wp.B a).toList == [101, 97, 99, 104]) = false := Sc.str_ne (by rw [Wp.B_data]; exact h5)
        clear HO HPa HPf h3 h5
        generalize Wp.B a = xa at *
        go_wp2_with fail
        refine bodyPost_ret (Vl.ret2 rfl _ _ w.heap.size 46 _ _ rfl (Sc.set3 HR2.out _ _ _) Tryz.underlying46 rfl (by kernel_rfl)) rfl ?_
        have hT := HTz.out
        subst hT
        exact ⟨0, _, _, _, _, rfl, (fun y h => by cases h), below_grownBy HB2.out (Sc.set3_grown _ _ _ _ _) (by omega) HB2.out.size⟩
      | a :: b :: c :: r, HM, HO, HTT, HPa, HPf =>
        have hm3 : 3 ≤ m := by rw [HM.out]; simp
        have HTz := Lib.hid (show T = none from HTT.out)
        have y1 : ((m : Int) == 1) = false := beq_eq_false_iff_ne.2 (by omega)
        have y2 : ((m : Int) == 2) = false := beq_eq_false_iff_ne.2 (by omega)
        obtain ⟨q, cap, rfl, hat⟩ := owns_at (mk := Wp.mkT) (l := (a :: b :: c :: r).map Wp.B) (by rw [List.length_map, ← HM.out]; exact HO.out)
        rw [List.length_map, ← HM.out]
        clear HO HPa HPf hat
        go_wp2_with fail
        refine bodyPost_ret (Vl.ret2 rfl _ _ w.heap.size 46 _ _ rfl (Sc.set3 HR2.out _ _ _) Tryz.underlying46 rfl (by kernel_rfl)) rfl ?_
        have hT := HTz.out
        subst hT
        exact ⟨0, _, _, _, _, rfl, (fun y h => by cases h), below_grownBy HB2.out (Sc.set3_grown _ _ _ _ _) (by omega) HB2.out.size⟩
end Go.Proofs.YteajjlilpikdeaaGreatDoor
namespace Go.Proofs.YteajjlilpikdeaaGreatDoor
open Go.RowKit Go.Shelf

namespace Sc
/-- Where find looks, and where a cut falls. -/
theorem cut_find {l a b : List UInt8} {k : Nat} {c : UInt8} {f : Bool} (hk : k ≤ l.length) (h : Lib.cut (l.drop k) [c, c] = (a, b, f)) :
    (f = false → findP l k c = -1 ∧ a = l.drop k) ∧ (f = true → findP l k c = ((k + a.length : Nat) : Int) ∧ k + a.length + 2 ≤ l.length ∧ a = (l.drop k).take a.length ∧ b = l.drop (k + a.length + 2)) := by
  rcases cut_spec (l.drop k) [c, c] with ⟨h1, h2, h3⟩ | ⟨h1, h2, h3⟩
  · rw [h] at h1 h2
    simp only at h1
    subst h1
    refine ⟨fun _ => ⟨find_miss fun m hm hl => ?_, (Prod.mk.inj h2).1⟩, fun e => by cases e⟩
    have := h3 (m - k) (by rw [List.length_drop]; omega)
    rw [occ_drop, show k + (m - k) = m by omega] at this
    exact this
  · rw [h] at h1 h2 h3
    simp only at h1 h2 h3
    subst h1
    refine ⟨(fun e => by cases e), fun _ => ?_⟩
    have hlen := congrArg List.length h2
    simp only [List.length_drop, List.length_append, List.length_cons, List.length_nil] at hlen
    have hocc : Lib.occAt l [c, c] (k + a.length) = true := by
      rw [← occ_drop, h2]
      unfold Lib.occAt
      rw [List.drop_left]
      simp [List.isPrefixOf]
    refine ⟨find_hit (by omega) (by omega) hocc (fun m hm1 hm2 => ?_), by omega, ?_, ?_⟩
    · have := h3 (m - k) (by omega)
      rw [occ_drop, show k + (m - k) = m by omega] at this
      exact this
    · rw [h2, List.take_left]
    · have : l.drop (k + a.length + 2) = (l.drop k).drop (a.length + 2) := by rw [List.drop_drop]; congr 1
      rw [this, h2, ← List.drop_drop, List.drop_left]
      rfl
theorem one_src {t : T} (h : okT t = true) : 1 ≤ (srcT t).length := by
  by_cases h1 : t.kind = 1
  · obtain ⟨-, h2, -⟩ := okT_text h h1
    unfold srcT
    rw [if_pos h1]
    cases e : t.text.data.toList with
    | nil => exact absurd e h2
    | cons a b => simp
  · unfold srcT
    rw [if_neg h1]
    simp [oo]
theorem count_src : ∀ {l : List T}, l.all okT = true → l.length ≤ (srcs l).length
  | [], _ => Nat.le_refl _
  | a :: r, h => by
    rw [List.all_cons, Bool.and_eq_true] at h
    have i1 := count_src h.2
    have j1 := one_src h.1
    have e : (srcs (a :: r)).length = (srcT a).length + (srcs r).length := by simp [srcs]
    rw [e, List.length_cons]
    omega
theorem toks_len (s : List UInt8) : (toksR s).1.length ≤ 1024 := by
  unfold toksR
  by_cases hl : 1024 < s.length
  · rw [if_pos hl]; exact Nat.zero_le _
  · rw [if_neg hl]
    cases hp : toksP (s.length + 1) s with
    | none => exact Nat.zero_le _
    | some r =>
      obtain ⟨h1, h2⟩ := toks_ok _ _ _ hp
      have h3 : r.all okT = true := by unfold okTs at h1; rw [Bool.and_eq_true] at h1; exact h1.1
      have := count_src h3
      show r.length ≤ 1024
      omega
theorem ext_B (s : ByteArray) (i j : Nat) (a : List UInt8) (h : a = (s.data.toList.drop i).take (j - i)) : s.extract i j = Wp.B a := by
  rw [h, ← Wp.data_extract, Wp.B_of]
end Sc
set_option maxRecDepth 100000 in
set_option maxHeartbeats 8000000 in
theorem refToks_any (s : ByteArray) (w : World) (hs : s.size ≤ 140737488351232) :
    Calls Tryz.prog 43 #[.string s] w (Sc.ToksPost (Sc.toksR s.data.toList) w) := by
  obtain ⟨R, hR⟩ : ∃ R, R = Sc.toksR s.data.toList := ⟨_, rfl⟩
  rw [← hR]
  have hsl := Wp.size_len s
  unfold Sc.toksR at hR
  by_cases hlong : 1024 < s.data.toList.length
  · rw [if_pos hlong] at hR
    have hk : (1024 : Int) < (s.size : Int) := by omega
    have HR := Lib.hid hR
    clear hR hsl hlong
    go_enter Tryz.func43, Tryz.ntmps43
    go_wp2_with fail
    have hR := HR.out
    subst hR
    go_ret2
    exact ⟨_, rfl, Sc.OwnRow.nil _ _, Below.refl _ _⟩
  · rw [if_neg hlong] at hR
    have hk : ¬ (1024 : Int) < (s.size : Int) := by omega
    have hsz : s.size ≤ 1024 := by omega
    have HSl := Lib.hid hsl
    have HE0 := Lib.hid (show Sc.Ans R [] (Sc.toksP (s.size + 1) (s.data.toList.drop 0)) from by rw [hR, List.drop_zero, hsl]; cases Sc.toksP (s.data.toList.length + 1) s.data.toList <;> rfl)
    clear hR hlong hsl
    go_enter Tryz.func43, Tryz.ntmps43
    go_wp2_with fail
    go_loopw [4, 5] (fun v t wr => ∃ (pos f : Nat) (acc : List Sc.T), pos ≤ s.size ∧ t = .int .i64 pos ∧ s.size - pos < f + 1 ∧ acc.length ≤ pos ∧ Hid (Sc.OwnRow w.heap.size wr v acc.length acc) ∧ Hid (Below w.heap.size w wr) ∧ Hid (Sc.Ans R acc (Sc.toksP (f + 1) (s.data.toList.drop pos)))) (fun _ t _ => s.size - (intOf t).toNat)
    case atStart => exact ⟨0, s.size, [], Nat.zero_le _, rfl, by omega, Nat.zero_le _, Lib.hid (Sc.OwnRow.nil _ _), Lib.hid (Below.refl _ _), HE0⟩
    case round =>
      clear HE0 hk
      obtain ⟨pos, f, acc, hpos, rfl, hf, hacc, HS, HB, HE⟩ := hrel
      obtain ⟨⟨a, b, ff⟩, hc1⟩ : ∃ Q, Lib.cut (s.data.toList.drop pos) Sc.oo = Q := ⟨_, rfl⟩
      have hcf := Sc.cut_find (k := pos) (c := 123) (by rw [← HSl.out]; exact hpos) hc1
      rw [← HSl.out] at hcf
      have hal := (Sc.cut_lens hc1).1
      rw [List.length_drop, ← HSl.out] at hal
      have Hc1 := Lib.hid hc1
      clear hc1
      by_cases hlt : pos < s.size
      · have hp0 : (pos : Int) < (s.size : Int) := by omega
        have HF1 := Lib.hid (refFind10_any s pos 123 wr hs hpos)
        cases ff with
        | false =>
          obtain ⟨hfi, ha⟩ := hcf.1 rfl
          rw [hfi] at HF1
          have hal2 : a.length = s.size - pos := by rw [ha, List.length_drop, ← HSl.out]
          have hane : a ≠ [] := by intro e; rw [e] at hal2; simp at hal2; omega
          have HA := Lib.hid (show Sc.pre a = [⟨1, Wp.B a, []⟩] by unfold Sc.pre; rw [if_neg hane])
          have hex := Sc.ext_B s pos s.size a (by rw [ha, List.take_of_length_le (by rw [List.length_drop, ← HSl.out]; exact Nat.le_refl _)])
          have hslc : ∀ W, (Instr.sliceAt 9 (.string s) (some (.int .i64 (pos : Int))) (some (.int .i64 (s.size : Int))) none).run Tryz.prog W = .ok (.string (Wp.B a)) W := fun W => by
            rw [run_sliceAt_string (h := Tryz.underlying9), run_slice_string (h := Tryz.underlying9) (h0 := by omega) (h1 := by omega) (h2 := by omega), ← hex]
            rfl
          have Hzs := Lib.hid (show (Wp.B a).size ≤ 140737488351232 by rw [Wp.B_size]; omega)
          have hi0 : (pos : Int) < (s.size : Int) := by omega
          have HRz := Lib.hid (show R = (acc ++ [⟨1, Wp.B a, []⟩], 0) by have := Sc.ans_end HE.out Hc1.out; rwa [HA.out] at this)
          clear hfi ha hal2 hane hex hcf hal HA
          go_wp2_with fail
          refine HF1.out.mono ?_
          rintro e W1 ⟨rfl, rfl⟩
          clear HF1
          obtain ⟨cs9, g91, g92, g93⟩ := HS.out
          have HO9 := Lib.hid g91
          have HG9 := Lib.hid g93
          have HO9' := Lib.hid (HO9.out.alloc (.cells #[.int .u8 1, .string (Wp.B a), .slice none 0 0] 46))
          have HB9 := Lib.hid (HB.out.alloc HB.out.size (.cells #[.int .u8 1, .string (Wp.B a), .slice none 0 0] 46))
          have Hnew := Lib.hid (Sc.three_of (Vl.new W1 (.cells #[.int .u8 1, .string (Wp.B a), .slice none 0 0] 46)))
          have Hn9 := Lib.hid (show ∀ j q, ([.int .u8 1, .string (Wp.B a), .slice none 0 0] : List Value)[j]? = some q → (W1.alloc (.cells #[.int .u8 1, .string (Wp.B a), .slice none 0 0] 46)).cell? ((⟨W1.heap.size, 0, none⟩ : Addr).add j) = some q from fun j q hq => by
            obtain ⟨n0, n1, n2⟩ := Hnew.out
            match j, hq with
            | 0, hq => cases hq; exact n0
            | 1, hq => cases hq; exact n1
            | 2, hq => cases hq; exact n2
            | j + 3, hq => simp at hq)
          clear g91 g92 g93 Hnew
          obtain ⟨i0, hi, hz0, hz1, hz2⟩ := Sc.infoTok
          go_wp2_with (at_builtin; refine Vl.listApp _ rfl _ _ 22 rfl w.heap.size 46 i0 _ 3 48 Tryz.underlying22 hi hz0 hz1 hz2 rfl (by decide) _ acc.length _ rfl HO9'.out ⟨W1.heap.size, 0, none⟩ 1 1 [.int .u8 1, .string (Wp.B a), .slice none 0 0] rfl rfl ?cpb1 ?cpb2 ?cpb3 ?cpb4 ?cpb5 ?_)
          try case cpb1 => exact Hn9.out
          case cpb2 => first | (intro q hq; simp at hq; rcases hq with rfl | rfl | rfl <;> rfl) | (simp [Value.oneCell'])
          case cpb3 => unfold maxLen; omega
          case cpb4 => omega
          case cpb5 => first | exact HB9.out.size | (have := HB9.out.size; rw [World.size_alloc] at this; exact this)
          intro v9 W9 hown9 hgrow9 hat9
          have HB2 := Lib.hid (below_grown5 HB9.out HO9'.out (Nat.le_refl _) hgrow9)
          have HS2 := Lib.hid (show Sc.OwnRow w.heap.size W9 v9 (acc ++ [(⟨1, Wp.B a, []⟩ : Sc.T)]).length (acc ++ [(⟨1, Wp.B a, []⟩ : Sc.T)]) by
            have := Sc.OwnRow.grow (y := (⟨1, Wp.B a, []⟩ : Sc.T)) rfl HO9.out HG9.out HB.out.size (Below.refl _ _) rfl (Sc.Off.text _ _ _ _ Hzs.out) _ hown9 hgrow9 hat9
            rwa [List.length_append])
          clear hown9 hgrow9 hat9 HO9 HG9 HO9' HB9 Hn9 hi hz0 hz1 hz2 hslc
          go_wp2_with fail
          have hR := HRz.out
          subst hR
          go_ret2
          exact ⟨_, rfl, HS2.out, HB2.out⟩
        | true =>
          obtain ⟨hfi, hal3, ha, hb⟩ := hcf.2 rfl
          obtain ⟨i, hi⟩ : ∃ i, i = pos + a.length := ⟨_, rfl⟩
          rw [← hi] at hfi hal3 hb
          rw [hfi] at HF1
          obtain ⟨⟨a2, b2, f2⟩, hc2⟩ : ∃ Q, Lib.cut b Sc.cc = Q := ⟨_, rfl⟩
          have Hc2 := Lib.hid hc2
          rw [hb] at hc2
          have hcf2 := Sc.cut_find (k := i + 2) (c := 125) (by rw [← HSl.out]; exact hal3) hc2
          rw [← HSl.out] at hcf2
          have HF2 := Lib.hid (fun W => (show Calls Tryz.prog 84 #[.string s, .int .i64 ((i : Int) + 2), .int .u8 125] W fun e w' => e = .returned (.int .i64 (Sc.findP s.data.toList (i + 2) 125)) ∧ w' = W from by
            have := refFind10_any s (i + 2) 125 W hs hal3
            rw [show (((i + 2 : Nat)) : Int) = (i : Int) + 2 by omega] at this
            exact this))
          have Hcf2 := Lib.hid hcf2
          have Hi := Lib.hid hi
          have Hb := Lib.hid hb
          have hie : ((i : Int) == (s.size : Int)) = false := beq_eq_false_iff_ne.2 (by omega)
          have hipos : pos ≤ i := by omega
          have hi20 : (0 : Int) ≤ (i : Int) + 2 := by omega
          clear hcf hcf2 hc2 hfi hb hal
          by_cases hane : a = []
          · have hieq : i = pos := by rw [hi, hane]; rfl
            have hni : ¬ (pos : Int) < (i : Int) := by omega
            have HA := Lib.hid (show Sc.pre a = [] by rw [hane]; rfl)
            clear hane ha hi hieq
            go_wp2_with fail
            refine HF1.out.mono ?_
            rintro e W1 ⟨rfl, rfl⟩
            clear HF1
            have HS2 := HS
            have HB2 := HB
            obtain ⟨L2, hL2⟩ : ∃ L2, L2 = acc ++ Sc.pre a := ⟨_, rfl⟩
            have HL := Lib.hid hL2
            have hLe : L2 = acc := by rw [hL2, HA.out, List.append_nil]
            subst hLe
            have hl2 : L2.length ≤ i := by omega
            clear hL2 HS HB
            go_wp2_with fail
            refine (HF2.out _).mono ?_
            rintro e W2 ⟨rfl, rfl⟩
            clear HF2
            cases f2 with
            | false =>
              have hfi2 := (Hcf2.out.1 rfl).1
              rw [hfi2]
              have HRz := Lib.hid (Sc.ans_bad HE.out Hc1.out Hc2.out (Or.inl rfl))
              clear hfi2
              go_wp2_with fail
              have hR := HRz.out
              subst hR
              go_ret2
              exact ⟨_, rfl, Sc.OwnRow.nil _ _, HB2.out⟩
            | true =>
              obtain ⟨hfi2, hal4, ha2, hb2⟩ := Hcf2.out.2 rfl
              rw [hfi2]
              obtain ⟨kk, hkk⟩ : ∃ kk, kk = i + 2 + a2.length := ⟨_, rfl⟩
              rw [← hkk] at hal4 hb2 ⊢
              have hex2 := Sc.ext_B s (i + 2) kk a2 (by rw [show kk - (i + 2) = a2.length by omega]; exact ha2)
              have hslc2 : ∀ W, (Instr.sliceAt 9 (.string s) (some (.int .i64 ((i : Int) + 2))) (some (.int .i64 (kk : Int))) none).run Tryz.prog W = .ok (.string (Wp.B a2)) W := fun W => by
                rw [run_sliceAt_string (h := Tryz.underlying9), run_slice_string (h := Tryz.underlying9) (h0 := by omega) (h1 := by omega) (h2 := by omega), ← hex2]
                rfl
              have hkk0 : ¬ (kk : Int) < 0 := by omega
              have htg := fun W => refTag_any (Wp.B a2) W (by rw [Wp.B_size]; omega)
              rw [Wp.B_data] at htg
              obtain ⟨o, ho⟩ : ∃ o, Sc.tagP a2 = o := ⟨_, rfl⟩
              rw [ho] at htg
              have HC3 := Lib.hid htg
              have Ho := Lib.hid ho
              have Hb2 := Lib.hid hb2
              have hik : i + 2 ≤ kk := by omega
              clear htg ho hfi2 ha2 hb2 hex2 hkk
              go_wp2_with fail
              refine (HC3.out _).mono ?_
              rintro e w4 ⟨k4, t4, pn4, nn4, cn4, rfl, hoff, hb⟩
              have hal := (Below.refl w4.heap.size w4).alloc (Nat.le_refl _) (.cells #[.int .u8 k4, .string t4, .slice pn4 nn4 cn4] 46)
              have h34 := hb.trans (hal.mono hb.size)
              have HB4 := Lib.hid (HB2.out.trans (h34.mono HB2.out.size))
              have H34 := Lib.hid h34
              have HV4 := Lib.hid (Vl.new w4 (.cells #[.int .u8 k4, .string t4, .slice pn4 nn4 cn4] 46))
              have Hoff := Lib.hid (fun y h => (fun W' hW' => hoff y h W' (fun j q1 q2 q3 => (hW' j q1 (Nat.lt_of_lt_of_le q2 hal.size) q3).trans (hal.block j q2)) : Sc.Off _ (w4.alloc (.cells #[.int .u8 k4, .string t4, .slice pn4 nn4 cn4] 46)) none (.agg #[.int .u8 k4, .string t4, .slice pn4 nn4 cn4]) y))
              clear hal h34 hoff hb HC3 hslc2
              go_upto_region 16 with fail
              generalize (w4.alloc (.cells #[.int .u8 k4, .string t4, .slice pn4 nn4 cn4] 46)) = W4 at *
              cases o with
              | none =>
                have HRz := Lib.hid (Sc.ans_bad HE.out Hc1.out Hc2.out (Or.inr Ho.out))
                go_wp2_with fail
                have hR := HRz.out
                subst hR
                go_ret2
                exact ⟨_, rfl, Sc.OwnRow.nil _ _, HB4.out⟩
              | some y =>
                have HEn := Lib.hid (show Sc.Ans R (L2 ++ [y]) (Sc.toksP f b2) by
                  have := Sc.ans_go HE.out Hc1.out Hc2.out Ho.out
                  rw [← HL.out] at this
                  exact this)
                have Hoy := Lib.hid (Hoff.out y rfl)
                obtain ⟨v0, v1, v2⟩ := Sc.three_of HV4.out
                clear Hoff HE
                obtain ⟨cs9, g91, g92, g93⟩ := HS2.out
                have HO9 := Lib.hid g91
                have HG9 := Lib.hid g93
                have HO9' := Lib.hid ((ownsRow_below HO9.out H34.out).alloc (.cells #[.int .u8 k4, .string t4, .slice pn4 nn4 cn4] 46))
                have HB9 := Lib.hid ((HB2.out.trans (H34.out.mono HB2.out.size)).alloc (by have := HB2.out.size; have := H34.out.size; omega) (.cells #[.int .u8 k4, .string t4, .slice pn4 nn4 cn4] 46))
                have Hnew := Lib.hid (Sc.three_of (Vl.new W4 (.cells #[.int .u8 k4, .string t4, .slice pn4 nn4 cn4] 46)))
                have Hn9 := Lib.hid (show ∀ j q, ([.int .u8 k4, .string t4, .slice pn4 nn4 cn4] : List Value)[j]? = some q → (W4.alloc (.cells #[.int .u8 k4, .string t4, .slice pn4 nn4 cn4] 46)).cell? ((⟨W4.heap.size, 0, none⟩ : Addr).add j) = some q from fun j q hq => by
                  obtain ⟨n0, n1, n2⟩ := Hnew.out
                  match j, hq with
                  | 0, hq => cases hq; exact n0
                  | 1, hq => cases hq; exact n1
                  | 2, hq => cases hq; exact n2
                  | j + 3, hq => simp at hq)
                clear g91 g92 g93 Hnew
                obtain ⟨i0, hi, hz0, hz1, hz2⟩ := Sc.infoTok
                go_wp2_with (at_builtin; refine Vl.listApp _ rfl _ _ 22 rfl w.heap.size 46 i0 _ 3 48 Tryz.underlying22 hi hz0 hz1 hz2 rfl (by decide) _ L2.length _ rfl HO9'.out ⟨W4.heap.size, 0, none⟩ 1 1 [.int .u8 k4, .string t4, .slice pn4 nn4 cn4] rfl rfl ?cec1 ?cec2 ?cec3 ?cec4 ?cec5 ?_)
                try case cec1 => exact Hn9.out
                case cec2 => first | (intro q hq; simp at hq; rcases hq with rfl | rfl | rfl <;> rfl) | (simp [Value.oneCell'])
                case cec3 => unfold maxLen; omega
                case cec4 => omega
                case cec5 => first | exact HB9.out.size | (have := HB9.out.size; rw [World.size_alloc] at this; exact this)
                intro v9 W9 hown9 hgrow9 hat9
                have HB5 := Lib.hid (below_grown5 HB9.out HO9'.out (Nat.le_refl _) hgrow9)
                have HS5 := Lib.hid (show Sc.OwnRow w.heap.size W9 v9 (L2 ++ [y]).length (L2 ++ [y]) by
                  have := Sc.OwnRow.grow (y := y) rfl HO9.out HG9.out HB2.out.size H34.out rfl Hoy.out _ hown9 hgrow9 hat9
                  rwa [List.length_append])
                clear hown9 hgrow9 hat9 HO9 HG9 HO9' HB9 Hn9 hi hz0 hz1 hz2
                go_wp2_with fail
                exact ⟨⟨kk + 2, f - 1, L2 ++ [y], by omega, by go_num, by omega, by rw [List.length_append]; simp; omega, HS5, HB5, Lib.hid (by have := HEn.out; rw [show f - 1 + 1 = f by omega, ← Hb2.out]; exact this)⟩, by simp [intOf]; omega⟩
          · have hlen1 : 1 ≤ a.length := by cases a with | nil => exact absurd rfl hane | cons x y => simp
            have hni : (pos : Int) < (i : Int) := by omega
            have HA := Lib.hid (show Sc.pre a = [⟨1, Wp.B a, []⟩] by unfold Sc.pre; rw [if_neg hane])
            have hex := Sc.ext_B s pos i a (by rw [show i - pos = a.length by omega]; exact ha)
            have hslc : ∀ W, (Instr.sliceAt 9 (.string s) (some (.int .i64 (pos : Int))) (some (.int .i64 (i : Int))) none).run Tryz.prog W = .ok (.string (Wp.B a)) W := fun W => by
              rw [run_sliceAt_string (h := Tryz.underlying9), run_slice_string (h := Tryz.underlying9) (h0 := by omega) (h1 := by omega) (h2 := by omega), ← hex]
              rfl
            have Hzs := Lib.hid (show (Wp.B a).size ≤ 140737488351232 by rw [Wp.B_size]; omega)
            clear hane ha hi hex
            go_wp2_with fail
            refine HF1.out.mono ?_
            rintro e W1 ⟨rfl, rfl⟩
            clear HF1
            obtain ⟨cs9, g91, g92, g93⟩ := HS.out
            have HO9 := Lib.hid g91
            have HG9 := Lib.hid g93
            have HO9' := Lib.hid (HO9.out.alloc (.cells #[.int .u8 1, .string (Wp.B a), .slice none 0 0] 46))
            have HB9 := Lib.hid (HB.out.alloc HB.out.size (.cells #[.int .u8 1, .string (Wp.B a), .slice none 0 0] 46))
            have Hnew := Lib.hid (Sc.three_of (Vl.new W1 (.cells #[.int .u8 1, .string (Wp.B a), .slice none 0 0] 46)))
            have Hn9 := Lib.hid (show ∀ j q, ([.int .u8 1, .string (Wp.B a), .slice none 0 0] : List Value)[j]? = some q → (W1.alloc (.cells #[.int .u8 1, .string (Wp.B a), .slice none 0 0] 46)).cell? ((⟨W1.heap.size, 0, none⟩ : Addr).add j) = some q from fun j q hq => by
              obtain ⟨n0, n1, n2⟩ := Hnew.out
              match j, hq with
              | 0, hq => cases hq; exact n0
              | 1, hq => cases hq; exact n1
              | 2, hq => cases hq; exact n2
              | j + 3, hq => simp at hq)
            clear g91 g92 g93 Hnew
            obtain ⟨i0, hi, hz0, hz1, hz2⟩ := Sc.infoTok
            go_wp2_with (at_builtin; refine Vl.listApp _ rfl _ _ 22 rfl w.heap.size 46 i0 _ 3 48 Tryz.underlying22 hi hz0 hz1 hz2 rfl (by decide) _ acc.length _ rfl HO9'.out ⟨W1.heap.size, 0, none⟩ 1 1 [.int .u8 1, .string (Wp.B a), .slice none 0 0] rfl rfl ?cpd1 ?cpd2 ?cpd3 ?cpd4 ?cpd5 ?_)
            try case cpd1 => exact Hn9.out
            case cpd2 => first | (intro q hq; simp at hq; rcases hq with rfl | rfl | rfl <;> rfl) | (simp [Value.oneCell'])
            case cpd3 => unfold maxLen; omega
            case cpd4 => omega
            case cpd5 => first | exact HB9.out.size | (have := HB9.out.size; rw [World.size_alloc] at this; exact this)
            intro v9 W9 hown9 hgrow9 hat9
            have HB2 := Lib.hid (below_grown5 HB9.out HO9'.out (Nat.le_refl _) hgrow9)
            have HS2 := Lib.hid (show Sc.OwnRow w.heap.size W9 v9 (acc ++ [(⟨1, Wp.B a, []⟩ : Sc.T)]).length (acc ++ [(⟨1, Wp.B a, []⟩ : Sc.T)]) by
              have := Sc.OwnRow.grow (y := (⟨1, Wp.B a, []⟩ : Sc.T)) rfl HO9.out HG9.out HB.out.size (Below.refl _ _) rfl (Sc.Off.text _ _ _ _ Hzs.out) _ hown9 hgrow9 hat9
              rwa [List.length_append])
            clear hown9 hgrow9 hat9 HO9 HG9 HO9' HB9 Hn9 hi hz0 hz1 hz2 hslc
            obtain ⟨L2, hL2⟩ : ∃ L2, L2 = acc ++ Sc.pre a := ⟨_, rfl⟩
            have HL := Lib.hid hL2
            rw [← HA.out, ← hL2] at HS2
            have hl2 : L2.length ≤ i := by rw [hL2, HA.out, List.length_append]; simp; omega
            clear hL2
            go_wp2_with fail
            refine (HF2.out _).mono ?_
            rintro e W2 ⟨rfl, rfl⟩
            clear HF2
            cases f2 with
            | false =>
              have hfi2 := (Hcf2.out.1 rfl).1
              rw [hfi2]
              have HRz := Lib.hid (Sc.ans_bad HE.out Hc1.out Hc2.out (Or.inl rfl))
              clear hfi2
              go_wp2_with fail
              have hR := HRz.out
              subst hR
              go_ret2
              exact ⟨_, rfl, Sc.OwnRow.nil _ _, HB2.out⟩
            | true =>
              obtain ⟨hfi2, hal4, ha2, hb2⟩ := Hcf2.out.2 rfl
              rw [hfi2]
              obtain ⟨kk, hkk⟩ : ∃ kk, kk = i + 2 + a2.length := ⟨_, rfl⟩
              rw [← hkk] at hal4 hb2 ⊢
              have hex2 := Sc.ext_B s (i + 2) kk a2 (by rw [show kk - (i + 2) = a2.length by omega]; exact ha2)
              have hslc2 : ∀ W, (Instr.sliceAt 9 (.string s) (some (.int .i64 ((i : Int) + 2))) (some (.int .i64 (kk : Int))) none).run Tryz.prog W = .ok (.string (Wp.B a2)) W := fun W => by
                rw [run_sliceAt_string (h := Tryz.underlying9), run_slice_string (h := Tryz.underlying9) (h0 := by omega) (h1 := by omega) (h2 := by omega), ← hex2]
                rfl
              have hkk0 : ¬ (kk : Int) < 0 := by omega
              have htg := fun W => refTag_any (Wp.B a2) W (by rw [Wp.B_size]; omega)
              rw [Wp.B_data] at htg
              obtain ⟨o, ho⟩ : ∃ o, Sc.tagP a2 = o := ⟨_, rfl⟩
              rw [ho] at htg
              have HC3 := Lib.hid htg
              have Ho := Lib.hid ho
              have Hb2 := Lib.hid hb2
              have hik : i + 2 ≤ kk := by omega
              clear htg ho hfi2 ha2 hb2 hex2 hkk
              go_wp2_with fail
              refine (HC3.out _).mono ?_
              rintro e w4 ⟨k4, t4, pn4, nn4, cn4, rfl, hoff, hb⟩
              have hal := (Below.refl w4.heap.size w4).alloc (Nat.le_refl _) (.cells #[.int .u8 k4, .string t4, .slice pn4 nn4 cn4] 46)
              have h34 := hb.trans (hal.mono hb.size)
              have HB4 := Lib.hid (HB2.out.trans (h34.mono HB2.out.size))
              have H34 := Lib.hid h34
              have HV4 := Lib.hid (Vl.new w4 (.cells #[.int .u8 k4, .string t4, .slice pn4 nn4 cn4] 46))
              have Hoff := Lib.hid (fun y h => (fun W' hW' => hoff y h W' (fun j q1 q2 q3 => (hW' j q1 (Nat.lt_of_lt_of_le q2 hal.size) q3).trans (hal.block j q2)) : Sc.Off _ (w4.alloc (.cells #[.int .u8 k4, .string t4, .slice pn4 nn4 cn4] 46)) none (.agg #[.int .u8 k4, .string t4, .slice pn4 nn4 cn4]) y))
              clear hal h34 hoff hb HC3 hslc2
              go_upto_region 16 with fail
              generalize (w4.alloc (.cells #[.int .u8 k4, .string t4, .slice pn4 nn4 cn4] 46)) = W4 at *
              cases o with
              | none =>
                have HRz := Lib.hid (Sc.ans_bad HE.out Hc1.out Hc2.out (Or.inr Ho.out))
                go_wp2_with fail
                have hR := HRz.out
                subst hR
                go_ret2
                exact ⟨_, rfl, Sc.OwnRow.nil _ _, HB4.out⟩
              | some y =>
                have HEn := Lib.hid (show Sc.Ans R (L2 ++ [y]) (Sc.toksP f b2) by
                  have := Sc.ans_go HE.out Hc1.out Hc2.out Ho.out
                  rw [← HL.out] at this
                  exact this)
                have Hoy := Lib.hid (Hoff.out y rfl)
                obtain ⟨v0, v1, v2⟩ := Sc.three_of HV4.out
                clear Hoff HE
                obtain ⟨cs9, g91, g92, g93⟩ := HS2.out
                have HO9 := Lib.hid g91
                have HG9 := Lib.hid g93
                have HO9' := Lib.hid ((ownsRow_below HO9.out H34.out).alloc (.cells #[.int .u8 k4, .string t4, .slice pn4 nn4 cn4] 46))
                have HB9 := Lib.hid ((HB2.out.trans (H34.out.mono HB2.out.size)).alloc (by have := HB2.out.size; have := H34.out.size; omega) (.cells #[.int .u8 k4, .string t4, .slice pn4 nn4 cn4] 46))
                have Hnew := Lib.hid (Sc.three_of (Vl.new W4 (.cells #[.int .u8 k4, .string t4, .slice pn4 nn4 cn4] 46)))
                have Hn9 := Lib.hid (show ∀ j q, ([.int .u8 k4, .string t4, .slice pn4 nn4 cn4] : List Value)[j]? = some q → (W4.alloc (.cells #[.int .u8 k4, .string t4, .slice pn4 nn4 cn4] 46)).cell? ((⟨W4.heap.size, 0, none⟩ : Addr).add j) = some q from fun j q hq => by
                  obtain ⟨n0, n1, n2⟩ := Hnew.out
                  match j, hq with
                  | 0, hq => cases hq; exact n0
                  | 1, hq => cases hq; exact n1
                  | 2, hq => cases hq; exact n2
                  | j + 3, hq => simp at hq)
                clear g91 g92 g93 Hnew
                obtain ⟨i0, hi, hz0, hz1, hz2⟩ := Sc.infoTok
                go_wp2_with (at_builtin; refine Vl.listApp _ rfl _ _ 22 rfl w.heap.size 46 i0 _ 3 48 Tryz.underlying22 hi hz0 hz1 hz2 rfl (by decide) _ L2.length _ rfl HO9'.out ⟨W4.heap.size, 0, none⟩ 1 1 [.int .u8 k4, .string t4, .slice pn4 nn4 cn4] rfl rfl ?cee1 ?cee2 ?cee3 ?cee4 ?cee5 ?_)
                try case cee1 => exact Hn9.out
                case cee2 => first | (intro q hq; simp at hq; rcases hq with rfl | rfl | rfl <;> rfl) | (simp [Value.oneCell'])
                case cee3 => unfold maxLen; omega
                case cee4 => omega
                case cee5 => first | exact HB9.out.size | (have := HB9.out.size; rw [World.size_alloc] at this; exact this)
                intro v9 W9 hown9 hgrow9 hat9
                have HB5 := Lib.hid (below_grown5 HB9.out HO9'.out (Nat.le_refl _) hgrow9)
                have HS5 := Lib.hid (show Sc.OwnRow w.heap.size W9 v9 (L2 ++ [y]).length (L2 ++ [y]) by
                  have := Sc.OwnRow.grow (y := y) rfl HO9.out HG9.out HB2.out.size H34.out rfl Hoy.out _ hown9 hgrow9 hat9
                  rwa [List.length_append])
                clear hown9 hgrow9 hat9 HO9 HG9 HO9' HB9 Hn9 hi hz0 hz1 hz2
                go_wp2_with fail
                exact ⟨⟨kk + 2, f - 1, L2 ++ [y], by omega, by go_num, by omega, by rw [List.length_append]; simp; omega, HS5, HB5, Lib.hid (by have := HEn.out; rw [show f - 1 + 1 = f by omega, ← Hb2.out]; exact this)⟩, by simp [intOf]; omega⟩
      · obtain rfl : pos = s.size := by omega
        have hp0 : ¬ (s.size : Int) < (s.size : Int) := by omega
        have hnil : s.data.toList.drop s.size = [] := by rw [HSl.out, List.drop_length]
        have HRz := Lib.hid (show R = (acc, 0) by
          have h2 := Sc.ans_end (a := []) (b := []) HE.out (by rw [hnil]; rfl)
          rw [h2]
          simp [Sc.pre])
        clear hcf hal hnil
        go_wp2_with fail
        have hR := HRz.out
        subst hR
        go_ret2
        exact ⟨_, rfl, HS.out, HB.out⟩
end Go.Proofs.YteajjlilpikdeaaGreatDoor
