
/-
  The walk of the document's own tag (bellmanref10). Condition: a text takes at most 3000000 bytes.
-/
import Derived.Test.YteiccjakaabfnaaGreatDoorScTagW
import Derived.Test.YteiccjakaabfnaaGreatDoorZ34
namespace Go.Proofs.YteiccjakaabfnaaGreatDoor
open Go.RowKit Go.Shelf

namespace Sc
def ne (x : List UInt8) : Bool := !x.isEmpty
theorem words_split : ∀ (l cur : List UInt8), wordsGo cur l = (match splitP 32 l with | [] => [] | h :: r => (cur ++ h) :: r).filter ne
  | [], cur => by
    rw [wordsGo, splitP]
    cases cur with
    | nil => rfl
    | cons a t => simp [ne]
  | a :: t, cur => by
    rw [wordsGo, splitP]
    by_cases ha : a = 32
    · rw [if_pos ha, if_pos ha, words_split t []]
      have hn := splitP_ne 32 t
      cases hs : splitP 32 t with
      | nil => exact absurd hs hn
      | cons h r =>
        cases cur with
        | nil => simp [ne]
        | cons b u => simp [ne]
    · rw [if_neg ha, if_neg ha, words_split t (cur ++ [a])]
      have hn := splitP_ne 32 t
      cases hs : splitP 32 t with
      | nil => exact absurd hs hn
      | cons h r => simp
theorem words_filter (l : List UInt8) : (splitP 32 l).filter ne = wordsP l := by
  unfold wordsP
  rw [words_split l []]
  cases hs : splitP 32 l with
  | nil => exact absurd hs (splitP_ne 32 l)
  | cons h r => rfl
theorem filter_snoc (L : List (List UInt8)) (k : Nat) (h : k < L.length) : (L.take (k + 1)).filter ne = (L.take k).filter ne ++ (if L[k] = [] then [] else [L[k]]) := by
  rw [List.take_succ_eq_append_getElem h, List.filter_append]
  congr 1
  by_cases e : L[k] = []
  · rw [if_pos e, e]; rfl
  · rw [if_neg e]
    have : ne L[k] = true := by unfold ne; cases hl : L[k] with | nil => exact absurd hl e | cons a t => rfl
    simp [List.filter, this]
end Sc
set_option maxRecDepth 100000 in
set_option maxHeartbeats 4000000 in
theorem refTag_any (s : ByteArray) (w : World) (hs : s.size ≤ 3000000) :
    Calls Tryz.prog 173 #[.string s] w (Sc.TagPost (Sc.tagP s.data.toList) w) := by
  obtain ⟨i0, hi, hz0, hz1, hz2⟩ := Vl.infoText
  have HSp := Lib.hid (fun W => refSplit_any s 32 W hs)
  have hsl := Sc.splitP_len 32 s.data.toList
  rw [← Wp.size_len] at hsl
  have hsz := Sc.words_size s.data.toList
  have hwf := Sc.words_filter s.data.toList
  obtain ⟨T, hTT⟩ : ∃ T, T = Sc.tagP s.data.toList := ⟨_, rfl⟩
  rw [← hTT]
  unfold Sc.tagP at hTT
  have HSz := Lib.hid (show ∀ x ∈ Sc.wordsP s.data.toList, x.length ≤ 3000000 from fun x hx => by have := hsz x hx; have := Wp.size_len s; omega)
  have hpl := fun x hx => Sc.split_len 32 s.data.toList x hx
  rw [← Wp.size_len] at hpl
  generalize Sc.wordsP s.data.toList = ws at *
  generalize Sc.splitP 32 s.data.toList = L at *
  have HPl := Lib.hid hpl
  have HTT := Lib.hid hTT
  have HWf := Lib.hid hwf
  have HB0 := Lib.hid ((Below.refl w.heap.size w).alloc (Nat.le_refl _) (.cells #[.int .u8 0, .string ⟨#[]⟩, .slice none 0 0] 110))
  have HR0 := Lib.hid (Vl.new w (.cells #[.int .u8 0, .string ⟨#[]⟩, .slice none 0 0] 110))
  have HSn := Lib.hid (Sc.filter_snoc L)
  obtain ⟨n, hn⟩ : ∃ n, n = L.length := ⟨_, rfl⟩
  rw [← hn] at hsl
  have HN := Lib.hid hn
  have HTk := Lib.hid (show L.take n = L by rw [hn, List.take_length])
  clear hTT hsz hwf hpl hn
  go_enter Tryz.func173, Tryz.ntmps173
  go_wp2_with fail
  refine (HSp.out _).mono ?_
  rintro e w1 ⟨v0, rfl, hown, hb⟩
  rw [← HN.out] at hown
  obtain ⟨sp, sc, rfl, hat⟩ := owns_at (mk := Wp.mkT) (l := L.map Wp.B) (by rw [List.length_map, ← HN.out]; exact hown)
  rw [List.length_map, ← HN.out]
  have HAt := Lib.hid hat
  have HR1 := Lib.hid (Sc.keepBox HR0.out hb)
  have HB1 := Lib.hid (HB0.out.trans (hb.mono HB0.out.size))
  have hsz1 : w.heap.size < w1.heap.size := by have := hb.size; simp at this; omega
  clear hb HSp HR0 HB0 hown hat
  go_wp2_with fail
  go_loopw [4, 13] (fun sv t wr => ∃ (k m : Nat), k ≤ n ∧ t = .int .i64 k ∧ m ≤ k ∧ Hid (m = ((L.take k).filter Sc.ne).length) ∧ Hid (wr.ownsRow w1.heap.size 9 1 sv m ((((L.take k).filter Sc.ne).map Wp.B).map Wp.mkT)) ∧ Hid (Below w1.heap.size w1 wr)) (fun _ t _ => n - (intOf t).toNat)
  case atStart => exact ⟨0, 0, Nat.zero_le _, rfl, Nat.le_refl _, Lib.hid rfl, Lib.hid (World.ownsRow_nil _ _ _ _), Lib.hid (Below.refl _ _)⟩
  case round =>
    obtain ⟨k, m, hk, rfl, hmk, HM, HO, HB⟩ := hrel
    by_cases hlt : k < n
    · have hkl : k < L.length := by rw [← HN.out]; exact hlt
      obtain ⟨pb, po, rfl, hcell⟩ := (HAt.out.below HB.out).get k (by rw [List.length_map]; exact hkl)
      rw [List.getElem_map, show Wp.mkT (Wp.B L[k]) = Value.string (Wp.B L[k]) from rfl] at hcell
      have hsn := HSn.out k hkl
      have hxl := HPl.out L[k] (List.getElem_mem hkl)
      have hxs : (Wp.B L[k]).size ≤ 3000000 := by rw [Wp.B_size]; omega
      have hk1 : (k : Int) < (n : Int) := by omega
      have hemp : (Wp.B L[k]).toList.isEmpty = decide (L[k] = []) := by
        rw [Lib.toList_data, Wp.B_data]
        cases L[k] with
        | nil => rfl
        | cons a t => rfl
      by_cases h0 : L[k] = []
      · rw [if_pos h0, List.append_nil] at hsn
        rw [decide_eq_true h0] at hemp
        rw [← hsn] at HM HO
        clear hsn h0 hxl
        generalize Wp.B L[k] = x at *
        go_wp2_with fail
        exact ⟨⟨k + 1, m, by omega, by go_num, by omega, HM, HO, HB⟩, by simp [intOf]; omega⟩
      · rw [if_neg h0] at hsn
        rw [decide_eq_false h0] at hemp
        have HM2 := Lib.hid (show m + 1 = ((L.take (k + 1)).filter Sc.ne).length by rw [hsn, List.length_append, ← HM.out]; rfl)
        have HSx := Lib.hid hsn
        have HO1 := Lib.hid (HO.out.alloc (.cells #[.string (Wp.B L[k])] 9))
        have HB1' := Lib.hid (HB.out.alloc HB.out.size (.cells #[.string (Wp.B L[k])] 9))
        have HC1 := Lib.hid (cell_one_new wr (.string (Wp.B L[k])) 9)
        clear hsn h0 hxl
        have HX := Lib.hid (rfl : Wp.B L[k] = Wp.B L[k])
        generalize hx : Wp.B L[k] = x at *
        have HXx := Lib.hid hx
        clear hx HX
        go_wp2_with (at_builtin; refine Vl.listApp _ rfl _ _ 23 rfl w1.heap.size 9 i0 _ 1 16 Tryz.underlying23 hi hz0 hz1 hz2 rfl (by decide) _ m _ rfl HO1.out ⟨wr.heap.size, 0, none⟩ 1 1 [.string x] rfl rfl ?c1 ?c2 ?c3 ?c4 ?c5 ?_)
        case c1 => exact HC1.out
        case c2 => simp [Value.oneCell']
        case c3 => unfold maxLen; omega
        case c4 => omega
        case c5 => exact HB1'.out.size
        intro v' w2 hown hgrow _
        have HB2 := Lib.hid (below_grown HB1'.out HO1.out (Nat.le_refl _) hgrow)
        have HO2 := Lib.hid (show w2.ownsRow w1.heap.size 9 1 v' (m + 1) ((((L.take (k + 1)).filter Sc.ne).map Wp.B).map Wp.mkT) by
          rw [HSx.out, List.map_append, List.map_append, List.map_map]
          rw [← HXx.out] at hown
          exact hown)
        clear hown hgrow HO1 HB1' HC1
        go_wp2_with fail
        exact ⟨⟨k + 1, m + 1, by omega, by go_num, by omega, HM2, HO2, HB2⟩, by simp [intOf]; omega⟩
    · obtain rfl : k = n := by omega
      rw [HTk.out, HWf.out] at HM HO
      have HR2 := Lib.hid (Sc.keepBox HR1.out HB.out)
      have HB2 := Lib.hid (HB1.out.trans (HB.out.mono HB1.out.size))
      have hsz2 : w1.heap.size ≤ wr.heap.size := HB.out.size
      clear HR1 HB1 HB HSn HAt HPl HTk HWf
      obtain ⟨r0, r1, r2⟩ := Sc.three_of HR2.out
      obtain ⟨n0, n1, n2⟩ := Sc.threeF_of HR2.out
      have HPa : Hid (∀ (x : List UInt8), x ∈ ws → Calls Tryz.prog 227 #[.string (Wp.B x)] wr (Sc.PathPost (Sc.pathR x) wr)) := Lib.hid (fun x hx => by
        have := refPath_any (Wp.B x) wr (by rw [Wp.B_size]; exact HSz.out x hx)
        rwa [Wp.B_data] at this)
      have HPf := Lib.hid (fun (x : List UInt8) (hx : x ∈ ws) => Sc.path_fits x (HSz.out x hx))
      match ws, HM, HO, HTT, HPa, HPf with
      | [], HM, HO, HTT, HPa, HPf =>
        obtain rfl : m = 0 := HM.out
        have HTz := Lib.hid (show T = none from HTT.out)
        obtain ⟨q, cap, rfl, hat⟩ := owns_at (mk := Wp.mkT) (l := ([] : List ByteArray)) HO.out
        clear HO HPa HPf hat
        go_wp2_with fail
        refine bodyPost_ret (Vl.ret2 rfl _ _ w.heap.size 110 _ _ rfl (Sc.set3 HR2.out _ _ _) Tryz.underlying110 rfl (by kernel_rfl)) rfl ?_
        have hT := HTz.out
        subst hT
        exact ⟨0, _, _, _, _, rfl, (fun y h => by cases h), below_grownBy HB2.out (Sc.set3_grown _ _ _ _ _) (by omega) HB2.out.size⟩
      | [a], HM, HO, HTT, HPa, HPf =>
        obtain rfl : m = 1 := HM.out
        obtain ⟨q, cap, rfl, hat⟩ := owns_at (mk := Wp.mkT) (l := [Wp.B a]) HO.out
        obtain ⟨A, ao, rfl, hd⟩ := hat.get 0 (by simp)
        have hd0 : wr.cell? ⟨A, ao, none⟩ = some (.string (Wp.B a)) := hd
        clear hat hd
        by_cases h4 : a = Sc.wElse
        · have z4 : ((Wp.B a).toList == [101, 108, 115, 101]) = true := Sc.str_eq (by rw [Wp.B_data]; exact h4)
          have HTz := Lib.hid (show T = some ⟨4, ⟨#[]⟩, []⟩ from HTT.out.trans (by rw [h4]; rfl))
          clear HO HPa HPf
          (try clear h4)
          (try clear h6)
          generalize Wp.B a = xa at *
          go_wp2_with fail
          refine bodyPost_ret (Vl.ret2 rfl _ _ w.heap.size 110 _ _ rfl (Sc.set3 HR2.out _ _ _) Tryz.underlying110 rfl (by kernel_rfl)) rfl ?_
          have hT := HTz.out
          subst hT
          refine ⟨4, _, _, _, _, rfl, (fun y h => ?_), below_grownBy HB2.out (Sc.set3_grown _ _ _ _ _) (by omega) HB2.out.size⟩
          cases h
          exact fun W' _ => ⟨none, 0, rfl, ⟨⟨(by show 4 ≤ 255; omega), Nat.le_refl _⟩, (by show (0 : Nat) ≤ _; omega), (by show (0 : Nat) ≤ _; omega), by simp⟩, Or.inl rfl⟩
        by_cases h6 : a = Sc.wEnd
        · have z4 : ((Wp.B a).toList == [101, 108, 115, 101]) = false := Sc.str_ne (by rw [Wp.B_data]; exact h4)
          have z6 : ((Wp.B a).toList == [101, 110, 100]) = true := Sc.str_eq (by rw [Wp.B_data]; exact h6)
          have HTz := Lib.hid (show T = some ⟨6, ⟨#[]⟩, []⟩ from HTT.out.trans (by rw [h6]; rfl))
          clear HO HPa HPf
          (try clear h4)
          (try clear h6)
          generalize Wp.B a = xa at *
          go_wp2_with fail
          refine bodyPost_ret (Vl.ret2 rfl _ _ w.heap.size 110 _ _ rfl (Sc.set3 HR2.out _ _ _) Tryz.underlying110 rfl (by kernel_rfl)) rfl ?_
          have hT := HTz.out
          subst hT
          refine ⟨6, _, _, _, _, rfl, (fun y h => ?_), below_grownBy HB2.out (Sc.set3_grown _ _ _ _ _) (by omega) HB2.out.size⟩
          cases h
          exact fun W' _ => ⟨none, 0, rfl, ⟨⟨(by show 6 ≤ 255; omega), Nat.le_refl _⟩, (by show (0 : Nat) ≤ _; omega), (by show (0 : Nat) ≤ _; omega), by simp⟩, Or.inl rfl⟩
        have HTz := Lib.hid (show T = (Sc.pathP a).map fun p => ⟨2, ⟨#[]⟩, p⟩ from HTT.out.trans (by simp only [Sc.tagW]; rw [if_neg h4, if_neg h6]))
        have z4 : ((Wp.B a).toList == [101, 108, 115, 101]) = false := Sc.str_ne (by rw [Wp.B_data]; exact h4)
        have z6 : ((Wp.B a).toList == [101, 110, 100]) = false := Sc.str_ne (by rw [Wp.B_data]; exact h6)
        have HC := Lib.hid (HPa.out a (by simp))
        have hpf := HPf.out a (by simp)
        have hxs : (Wp.B a).size ≤ 3000000 := by rw [Wp.B_size]; exact HSz.out a (by simp)
        obtain ⟨⟨ps, pc⟩, hQ⟩ : ∃ Q, Q = Sc.pathR a := ⟨_, rfl⟩
        rw [← hQ] at HC hpf
        have HTy : Hid ((pc = 0 ∧ T = some ⟨2, ⟨#[]⟩, ps⟩ ∧ ps.length ≤ 4 ∧ ∀ x ∈ ps, x.size ≤ 140737488351232) ∨ (pc = 13 ∧ T = none)) := Lib.hid (by
          have e := HTz.out
          unfold Sc.pathR at hQ
          cases hp : Sc.pathP a with
          | none => rw [hp] at hQ e; exact Or.inr ⟨congrArg Prod.snd hQ, e⟩
          | some q =>
            rw [hp] at hQ e
            have h1 := congrArg Prod.fst hQ
            have h2 := congrArg Prod.snd hQ
            simp only at h1 h2
            subst h1
            exact Or.inl ⟨h2, e, hpf.1, hpf.2⟩)
        clear hQ hpf HPa HPf HO
        (try clear h3)
        (try clear h4)
        (try clear h5)
        (try clear h6)
        (try generalize Wp.B a = xa at *)
        (try generalize Wp.B b = xb at *)
        go_wp2_with fail
        refine HC.out.mono ?_
        rintro e w4 ⟨pp, pcap, rfl, hcp, hoff, hb⟩
        have HCp := Lib.hid hcp
        have HR4 := Lib.hid (Sc.keepBox HR2.out hb)
        have HB4 := Lib.hid (HB2.out.trans (hb.mono HB2.out.size))
        have HF4 := Lib.hid hoff
        have hlt4 : wr.heap.size ≤ w4.heap.size := hb.size
        clear hcp hoff hb HC HR2 HB2 r0 r1 r2 n0 n1 n2
        obtain ⟨r0, r1, r2⟩ := Sc.three_of HR4.out
        obtain ⟨n0, n1, n2⟩ := Sc.threeF_of HR4.out
        rcases HTy.out with ⟨rfl, hT, hp4, hpz⟩ | ⟨rfl, hT⟩
        · have HT2 := Lib.hid hT
          have Hp4 := Lib.hid hp4
          have Hpz := Lib.hid hpz
          clear hT hp4 hpz HTy HTz
          go_wp2_with fail
          refine bodyPost_ret (Vl.ret2 rfl _ _ w.heap.size 110 _ _ rfl (Sc.set3 HR4.out _ _ _) Tryz.underlying110 rfl (by kernel_rfl)) rfl ?_
          have hT := HT2.out
          subst hT
          refine ⟨2, _, _, _, _, rfl, (fun y h => ?_), below_grownBy HB4.out (Sc.set3_grown _ _ _ _ _) (by omega) HB4.out.size⟩
          cases h
          refine fun W' hW' => ⟨pp, pcap, rfl, ⟨⟨(by show 2 ≤ 255; omega), HCp.out⟩, (by show (0 : Nat) ≤ _; omega), (by show ps.length ≤ _; have := Hp4.out; omega), Hpz.out⟩, HF4.out W' (fun j h1 h2 => ?_)⟩
          rw [hW' j (by omega) (by rw [Sc.set3_size]; exact h2) (by simp), Sc.set3_rest _ _ _ _ _ j (by omega)]
        · have HT2 := Lib.hid hT
          clear hT HTy HTz
          go_wp2_with fail
          refine bodyPost_ret (Vl.ret2 rfl _ _ w.heap.size 110 _ _ rfl (Sc.set3 HR4.out _ _ _) Tryz.underlying110 rfl (by kernel_rfl)) rfl ?_
          have hT := HT2.out
          subst hT
          exact ⟨2, _, _, _, _, rfl, (fun y h => by cases h), below_grownBy HB4.out (Sc.set3_grown _ _ _ _ _) (by omega) HB4.out.size⟩
      | [a, b], HM, HO, HTT, HPa, HPf =>
        obtain rfl : m = 2 := HM.out
        obtain ⟨q, cap, rfl, hat⟩ := owns_at (mk := Wp.mkT) (l := [Wp.B a, Wp.B b]) HO.out
        have hcap : 2 ≤ cap := (Sc.own_off (l := [Wp.B a, Wp.B b]) HO.out).1
        obtain ⟨A, ao, rfl, hd⟩ := hat.get 0 (by simp)
        have hd0 : wr.cell? ⟨A, ao, none⟩ = some (.string (Wp.B a)) := hd
        obtain ⟨A', ao', hq, hd'⟩ := hat.get 1 (by simp)
        cases hq
        have hd1 : wr.cell? ⟨A, ao + 1, none⟩ = some (.string (Wp.B b)) := hd'
        clear hat hd hd'
        by_cases h3 : a = Sc.wIf
        · have z3 : ((Wp.B a).toList == [105, 102]) = true := Sc.str_eq (by rw [Wp.B_data]; exact h3)
          have HTz := Lib.hid (show T = (Sc.pathP b).map fun p => ⟨3, ⟨#[]⟩, p⟩ from HTT.out.trans (by rw [h3]; rfl))
          have HC := Lib.hid (HPa.out b (by simp))
          have hpf := HPf.out b (by simp)
          have hxs : (Wp.B b).size ≤ 3000000 := by rw [Wp.B_size]; exact HSz.out b (by simp)
          obtain ⟨⟨ps, pc⟩, hQ⟩ : ∃ Q, Q = Sc.pathR b := ⟨_, rfl⟩
          rw [← hQ] at HC hpf
          have HTy : Hid ((pc = 0 ∧ T = some ⟨3, ⟨#[]⟩, ps⟩ ∧ ps.length ≤ 4 ∧ ∀ x ∈ ps, x.size ≤ 140737488351232) ∨ (pc = 13 ∧ T = none)) := Lib.hid (by
            have e := HTz.out
            unfold Sc.pathR at hQ
            cases hp : Sc.pathP b with
            | none => rw [hp] at hQ e; exact Or.inr ⟨congrArg Prod.snd hQ, e⟩
            | some q =>
              rw [hp] at hQ e
              have h1 := congrArg Prod.fst hQ
              have h2 := congrArg Prod.snd hQ
              simp only at h1 h2
              subst h1
              exact Or.inl ⟨h2, e, hpf.1, hpf.2⟩)
          clear hQ hpf HPa HPf HO
          (try clear h3)
          (try clear h4)
          (try clear h5)
          (try clear h6)
          (try generalize Wp.B a = xa at *)
          (try generalize Wp.B b = xb at *)
          go_wp2_with fail
          refine HC.out.mono ?_
          rintro e w4 ⟨pp, pcap, rfl, hcp, hoff, hb⟩
          have HCp := Lib.hid hcp
          have HR4 := Lib.hid (Sc.keepBox HR2.out hb)
          have HB4 := Lib.hid (HB2.out.trans (hb.mono HB2.out.size))
          have HF4 := Lib.hid hoff
          have hlt4 : wr.heap.size ≤ w4.heap.size := hb.size
          clear hcp hoff hb HC HR2 HB2 r0 r1 r2 n0 n1 n2
          obtain ⟨r0, r1, r2⟩ := Sc.three_of HR4.out
          obtain ⟨n0, n1, n2⟩ := Sc.threeF_of HR4.out
          rcases HTy.out with ⟨rfl, hT, hp4, hpz⟩ | ⟨rfl, hT⟩
          · have HT2 := Lib.hid hT
            have Hp4 := Lib.hid hp4
            have Hpz := Lib.hid hpz
            clear hT hp4 hpz HTy HTz
            go_wp2_with fail
            refine bodyPost_ret (Vl.ret2 rfl _ _ w.heap.size 110 _ _ rfl (Sc.set3 HR4.out _ _ _) Tryz.underlying110 rfl (by kernel_rfl)) rfl ?_
            have hT := HT2.out
            subst hT
            refine ⟨3, _, _, _, _, rfl, (fun y h => ?_), below_grownBy HB4.out (Sc.set3_grown _ _ _ _ _) (by omega) HB4.out.size⟩
            cases h
            refine fun W' hW' => ⟨pp, pcap, rfl, ⟨⟨(by show 3 ≤ 255; omega), HCp.out⟩, (by show (0 : Nat) ≤ _; omega), (by show ps.length ≤ _; have := Hp4.out; omega), Hpz.out⟩, HF4.out W' (fun j h1 h2 => ?_)⟩
            rw [hW' j (by omega) (by rw [Sc.set3_size]; exact h2) (by simp), Sc.set3_rest _ _ _ _ _ j (by omega)]
          · have HT2 := Lib.hid hT
            clear hT HTy HTz
            go_wp2_with fail
            refine bodyPost_ret (Vl.ret2 rfl _ _ w.heap.size 110 _ _ rfl (Sc.set3 HR4.out _ _ _) Tryz.underlying110 rfl (by kernel_rfl)) rfl ?_
            have hT := HT2.out
            subst hT
            exact ⟨3, _, _, _, _, rfl, (fun y h => by cases h), below_grownBy HB4.out (Sc.set3_grown _ _ _ _ _) (by omega) HB4.out.size⟩
        by_cases h5 : a = Sc.wEach
        · have z3 : ((Wp.B a).toList == [105, 102]) = false := Sc.str_ne (by rw [Wp.B_data]; exact h3)
          have z5 : ((Wp.B a).toList == [101, 97, 99, 104]) = true := Sc.str_eq (by rw [Wp.B_data]; exact h5)
          have HTz := Lib.hid (show T = (Sc.pathP b).map fun p => ⟨5, ⟨#[]⟩, p⟩ from HTT.out.trans (by rw [h5]; rfl))
          have HC := Lib.hid (HPa.out b (by simp))
          have hpf := HPf.out b (by simp)
          have hxs : (Wp.B b).size ≤ 3000000 := by rw [Wp.B_size]; exact HSz.out b (by simp)
          obtain ⟨⟨ps, pc⟩, hQ⟩ : ∃ Q, Q = Sc.pathR b := ⟨_, rfl⟩
          rw [← hQ] at HC hpf
          have HTy : Hid ((pc = 0 ∧ T = some ⟨5, ⟨#[]⟩, ps⟩ ∧ ps.length ≤ 4 ∧ ∀ x ∈ ps, x.size ≤ 140737488351232) ∨ (pc = 13 ∧ T = none)) := Lib.hid (by
            have e := HTz.out
            unfold Sc.pathR at hQ
            cases hp : Sc.pathP b with
            | none => rw [hp] at hQ e; exact Or.inr ⟨congrArg Prod.snd hQ, e⟩
            | some q =>
              rw [hp] at hQ e
              have h1 := congrArg Prod.fst hQ
              have h2 := congrArg Prod.snd hQ
              simp only at h1 h2
              subst h1
              exact Or.inl ⟨h2, e, hpf.1, hpf.2⟩)
          clear hQ hpf HPa HPf HO
          (try clear h3)
          (try clear h4)
          (try clear h5)
          (try clear h6)
          (try generalize Wp.B a = xa at *)
          (try generalize Wp.B b = xb at *)
          go_wp2_with fail
          refine HC.out.mono ?_
          rintro e w4 ⟨pp, pcap, rfl, hcp, hoff, hb⟩
          have HCp := Lib.hid hcp
          have HR4 := Lib.hid (Sc.keepBox HR2.out hb)
          have HB4 := Lib.hid (HB2.out.trans (hb.mono HB2.out.size))
          have HF4 := Lib.hid hoff
          have hlt4 : wr.heap.size ≤ w4.heap.size := hb.size
          clear hcp hoff hb HC HR2 HB2 r0 r1 r2 n0 n1 n2
          obtain ⟨r0, r1, r2⟩ := Sc.three_of HR4.out
          obtain ⟨n0, n1, n2⟩ := Sc.threeF_of HR4.out
          rcases HTy.out with ⟨rfl, hT, hp4, hpz⟩ | ⟨rfl, hT⟩
          · have HT2 := Lib.hid hT
            have Hp4 := Lib.hid hp4
            have Hpz := Lib.hid hpz
            clear hT hp4 hpz HTy HTz
            go_wp2_with fail
            refine bodyPost_ret (Vl.ret2 rfl _ _ w.heap.size 110 _ _ rfl (Sc.set3 HR4.out _ _ _) Tryz.underlying110 rfl (by kernel_rfl)) rfl ?_
            have hT := HT2.out
            subst hT
            refine ⟨5, _, _, _, _, rfl, (fun y h => ?_), below_grownBy HB4.out (Sc.set3_grown _ _ _ _ _) (by omega) HB4.out.size⟩
            cases h
            refine fun W' hW' => ⟨pp, pcap, rfl, ⟨⟨(by show 5 ≤ 255; omega), HCp.out⟩, (by show (0 : Nat) ≤ _; omega), (by show ps.length ≤ _; have := Hp4.out; omega), Hpz.out⟩, HF4.out W' (fun j h1 h2 => ?_)⟩
            rw [hW' j (by omega) (by rw [Sc.set3_size]; exact h2) (by simp), Sc.set3_rest _ _ _ _ _ j (by omega)]
          · have HT2 := Lib.hid hT
            clear hT HTy HTz
            go_wp2_with fail
            refine bodyPost_ret (Vl.ret2 rfl _ _ w.heap.size 110 _ _ rfl (Sc.set3 HR4.out _ _ _) Tryz.underlying110 rfl (by kernel_rfl)) rfl ?_
            have hT := HT2.out
            subst hT
            exact ⟨5, _, _, _, _, rfl, (fun y h => by cases h), below_grownBy HB4.out (Sc.set3_grown _ _ _ _ _) (by omega) HB4.out.size⟩
        have HTz := Lib.hid (show T = none from HTT.out.trans (by simp only [Sc.tagW]; rw [if_neg h3, if_neg h5]))
        have z3 : ((Wp.B a).toList == [105, 102]) = false := Sc.str_ne (by rw [Wp.B_data]; exact h3)
        have z5 : ((Wp.B a).toList == [101, 97, 99, 104]) = false := Sc.str_ne (by rw [Wp.B_data]; exact h5)
        clear HO HPa HPf h3 h5
        generalize Wp.B a = xa at *
        go_wp2_with fail
        refine bodyPost_ret (Vl.ret2 rfl _ _ w.heap.size 110 _ _ rfl (Sc.set3 HR2.out _ _ _) Tryz.underlying110 rfl (by kernel_rfl)) rfl ?_
        have hT := HTz.out
        subst hT
        exact ⟨0, _, _, _, _, rfl, (fun y h => by cases h), below_grownBy HB2.out (Sc.set3_grown _ _ _ _ _) (by omega) HB2.out.size⟩
      | a :: b :: c :: r, HM, HO, HTT, HPa, HPf =>
        have hm3 : 3 ≤ m := by rw [HM.out]; simp
        have HTz := Lib.hid (show T = none from HTT.out)
        have y1 : ((m : Int) == 1) = false := beq_eq_false_iff_ne.2 (by omega)
        have y2 : ((m : Int) == 2) = false := beq_eq_false_iff_ne.2 (by omega)
        obtain ⟨q, cap, rfl, hat⟩ := owns_at (mk := Wp.mkT) (l := (a :: b :: c :: r).map Wp.B) (by rw [List.length_map, ← HM.out]; exact HO.out)
        rw [List.length_map, ← HM.out]
        clear HO HPa HPf hat
        go_wp2_with fail
        refine bodyPost_ret (Vl.ret2 rfl _ _ w.heap.size 110 _ _ rfl (Sc.set3 HR2.out _ _ _) Tryz.underlying110 rfl (by kernel_rfl)) rfl ?_
        have hT := HTz.out
        subst hT
        exact ⟨0, _, _, _, _, rfl, (fun y h => by cases h), below_grownBy HB2.out (Sc.set3_grown _ _ _ _ _) (by omega) HB2.out.size⟩
end Go.Proofs.YteiccjakaabfnaaGreatDoor
