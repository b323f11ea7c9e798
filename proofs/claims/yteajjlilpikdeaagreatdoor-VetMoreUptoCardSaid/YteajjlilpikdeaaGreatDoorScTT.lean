/-
  The walk of scan's tag. Conditions: the words' table reads as it is laid, the search's limit is set; the text is of a size that a path's word may have.
  The walk of scan's Tokens. Conditions: the words' table reads as it is laid, the search's limit is set; the text is of a size that a machine holds.
-/
import Derived.Test.YteajjlilpikdeaaGreatDoorScPathW
import Derived.Test.YteajjlilpikdeaaGreatDoorScA
namespace Go.Proofs.YteajjlilpikdeaaGreatDoor
open Go.RowKit Go.Shelf

/-- What a tag's walk hands back. -/
def Sc.TagPost (o : Option Sc.T) (w : World) (e : Ending) (w' : World) : Prop := ∃ (k : Nat) (t : ByteArray) (pn : Option Addr) (nn cn : Nat), e = .returned (.tuple #[.agg #[.int .u8 k, .string t, .slice pn nn cn], .bool o.isSome]) ∧ (∀ y, o = some y → Sc.Off w.heap.size w' none (.agg #[.int .u8 k, .string t, .slice pn nn cn]) y) ∧ Below w.heap.size w w'
theorem scSpace_pred (w : World) : PredAt Tryz.prog 116 #[] encR (fun x => decide (x = 32)) w := fun W r _ => by
  unfold FnGives
  by_cases h : r = 32
  · subst h
    go_enter Tryz.func116, Tryz.ntmps116
    go_wp2_with fail
    go_ret
    exact ⟨rfl, 0, rfl⟩
  · have q : ((r : Int) == 32) = false := beq_eq_false_iff_ne.2 (by omega)
    go_enter Tryz.func116, Tryz.ntmps116
    go_wp2_with fail
    go_ret
    exact ⟨by simp [h], 0, rfl⟩
theorem Sc.tagW_var {k : List UInt8} {r : List (List UInt8)} (hk : Sc.kindW k = 2) : Sc.tagW (k :: r) = if r.length = 0 then (Sc.pathP k).map fun p => ⟨2, ⟨#[]⟩, p⟩ else none := by
  have hn : k ≠ Sc.wIf ∧ k ≠ Sc.wElse ∧ k ≠ Sc.wEach ∧ k ≠ Sc.wEnd := by
    refine ⟨?_, ?_, ?_, ?_⟩ <;> (intro e; subst e; revert hk; decide)
  obtain ⟨h1, h2, h3, h4⟩ := hn
  match r with
  | [] => simp [Sc.tagW, h2, h4]
  | [a] => simp [Sc.tagW, h1, h3]
  | a :: b :: r => simp [Sc.tagW]
theorem Sc.path_kw {k : List UInt8} (hk : Sc.kindW k ≠ 2) (hd : Sc.splitP 46 k = [k]) : Sc.pathP k = none := by
  unfold Sc.pathP Sc.pathOk
  rw [hd]
  simp [hk]
theorem Sc.kind_cases (k : List UInt8) : Sc.kindW k = 2 ∨ (k = Sc.wIf ∧ Sc.kindW k = 3) ∨ (k = Sc.wElse ∧ Sc.kindW k = 4) ∨ (k = Sc.wEach ∧ Sc.kindW k = 5) ∨ (k = Sc.wEnd ∧ Sc.kindW k = 6) := by
  by_cases h3 : k = Sc.wIf
  · subst h3; right; left; exact ⟨rfl, by decide⟩
  by_cases h4 : k = Sc.wElse
  · subst h4; right; right; left; exact ⟨rfl, by decide⟩
  by_cases h5 : k = Sc.wEach
  · subst h5; right; right; right; left; exact ⟨rfl, by decide⟩
  by_cases h6 : k = Sc.wEnd
  · subst h6; right; right; right; right; exact ⟨rfl, by decide⟩
  left
  unfold Sc.kindW
  rw [if_neg h3, if_neg h4, if_neg h5, if_neg h6]
theorem Sc.tagW_path {k : List UInt8} {r : List (List UInt8)} (hk : Sc.kindW k ≠ 2) (hp : Sc.hasP (Sc.kindW k) = true) : Sc.tagW (k :: r) = if r.length = 1 then (Sc.pathP (r.headD [])).map fun p => ⟨Sc.kindW k, ⟨#[]⟩, p⟩ else none := by
  rcases Sc.kind_cases k with h | ⟨rfl, h⟩ | ⟨rfl, h⟩ | ⟨rfl, h⟩ | ⟨rfl, h⟩
  · exact absurd h hk
  · rw [h]
    match r with
    | [] => simp only [Sc.tagW]; rw [if_neg (by decide), if_neg (by decide), Sc.path_kw hk (by decide)]; rfl
    | [a] => simp [Sc.tagW]
    | a :: b :: r => simp [Sc.tagW]
  · rw [h] at hp; exact absurd hp (by decide)
  · rw [h]
    match r with
    | [] => simp only [Sc.tagW]; rw [if_neg (by decide), if_neg (by decide), Sc.path_kw hk (by decide)]; rfl
    | [a] => simp only [Sc.tagW]; rw [if_neg (by decide)]; rfl
    | a :: b :: r => simp [Sc.tagW]
  · rw [h] at hp; exact absurd hp (by decide)
theorem Sc.tagW_word {k : List UInt8} {r : List (List UInt8)} (hk : Sc.kindW k ≠ 2) (hp : Sc.hasP (Sc.kindW k) = false) : Sc.tagW (k :: r) = if r.length = 0 then some ⟨Sc.kindW k, ⟨#[]⟩, []⟩ else none := by
  rcases Sc.kind_cases k with h | ⟨rfl, h⟩ | ⟨rfl, h⟩ | ⟨rfl, h⟩ | ⟨rfl, h⟩
  · exact absurd h hk
  · rw [h] at hp; exact absurd hp (by decide)
  · rw [h]
    match r with
    | [] => simp [Sc.tagW]
    | [a] => simp only [Sc.tagW]; rw [if_neg (by decide), if_neg (by decide)]; rfl
    | a :: b :: r => simp [Sc.tagW]
  · rw [h] at hp; exact absurd hp (by decide)
  · rw [h]
    match r with
    | [] => simp only [Sc.tagW]; rw [if_neg (by decide)]; rfl
    | [a] => simp only [Sc.tagW]; rw [if_neg (by decide), if_neg (by decide)]; rfl
    | a :: b :: r => simp [Sc.tagW]
theorem Sc.words_size (l : List UInt8) : ∀ x ∈ Sc.wordsP l, x.length ≤ l.length := by
  intro x hx
  have h := Sc.words_len l []
  unfold Sc.wordsP at hx
  have h2 : x.length ≤ ((Sc.wordsGo [] l).map List.length).sum := by
    generalize Sc.wordsGo [] l = L at hx
    clear h
    induction L with
    | nil => cases hx
    | cons a t ih =>
      rcases List.mem_cons.1 hx with rfl | hx
      · simp
      · have := ih hx; simp; omega
  have h3 : 1 ≤ (Sc.wordsGo [] l).length := List.length_pos_iff.2 (List.ne_nil_of_mem hx)
  simp at h
  omega
/-- The walk --/
theorem Sc.keepBox {W W' : World} {b : Nat} {o : Obj} (h : W.heap[b]? = some o) (hb : Below W.heap.size W W') : W'.heap[b]? = some o := (hb.block b (Array.getElem?_eq_some_iff.1 h).1).trans h
theorem Sc.word_cell {B : Nat} {W : World} {A n c : Nat} {l : List ByteArray} (h : W.ownsRow B 9 1 (.slice (some ⟨A, 0, none⟩) n c) n (l.map Value.string)) (hn : n = l.length) (i : Nat) (hi : i < l.length) : W.cell? ⟨A, i, none⟩ = some (.string l[i]) := by
  subst hn
  obtain ⟨p, c, he, hat⟩ := owns_at (mk := Wp.mkT) h
  cases he
  obtain ⟨b, o, e, hc⟩ := hat.get i hi
  cases e
  rw [Nat.zero_add] at hc
  exact hc
theorem Sc.path_fits (l : List UInt8) (h : l.length ≤ 3000000) : (Sc.pathR l).1.length ≤ 4 ∧ ∀ x ∈ (Sc.pathR l).1, x.size ≤ 140737488351232 := by
  unfold Sc.pathR Sc.pathP
  by_cases hp : Sc.pathOk (Sc.splitP 46 l) = true
  · rw [if_pos hp]
    refine ⟨?_, fun x hx => ?_⟩
    · have h2 := hp
      unfold Sc.pathOk at h2
      simp only [Bool.and_eq_true, decide_eq_true_eq] at h2
      simp only [List.length_map]
      exact h2.1.1.2
    · obtain ⟨y, hy, rfl⟩ := List.mem_map.1 hx
      have := Sc.split_len 46 l y hy
      rw [Wp.B_size]
      omega
  · rw [if_neg hp]
    exact ⟨Nat.zero_le _, fun x hx => by cases hx⟩
set_option maxRecDepth 100000 in
set_option maxHeartbeats 4000000 in
theorem scTag_any (s : ByteArray) (w : World) (hs : s.size ≤ 3000000) (hT : Sc.Laid w) (hM : Sc.MaxLen w) :
    Calls Tryz.prog 83 #[.string s] w (Sc.TagPost (Sc.tagP s.data.toList) w) := by
  have hf := Tryz.strings_FieldsFunc 116 #[] (enters_of Tryz.func116 (by kernel_rfl) rfl) (fun x => decide (x = 32)) s (w.alloc (.cells #[.int .u8 0, .string ⟨#[]⟩, .slice none 0 0] 46)) (by omega) (scSpace_pred _)
  rw [Sc.fields_words, List.length_map] at hf
  have hsz := Sc.words_size s.data.toList
  have hwl := Sc.words_len s.data.toList []
  obtain ⟨T, hTT⟩ : ∃ T, T = Sc.tagP s.data.toList := ⟨_, rfl⟩
  rw [← hTT]
  unfold Sc.tagP at hTT
  have hws : (Sc.wordsP s.data.toList).length ≤ 3000001 := by
    unfold Sc.wordsP
    have := Wp.size_len s
    simp at hwl
    omega
  have HSz := Lib.hid (show ∀ x ∈ Sc.wordsP s.data.toList, x.length ≤ 3000000 from fun x hx => by have := hsz x hx; have := Wp.size_len s; omega)
  generalize Sc.wordsP s.data.toList = ws at *
  have HF := Lib.hid hf
  have HTT := Lib.hid hTT
  have HB0 := Lib.hid ((Below.refl w.heap.size w).alloc (Nat.le_refl _) (.cells #[.int .u8 0, .string ⟨#[]⟩, .slice none 0 0] 46))
  have HR0 := Lib.hid (Vl.new w (.cells #[.int .u8 0, .string ⟨#[]⟩, .slice none 0 0] 46))
  have HT0 := Lib.hid hT
  have HM0 := Lib.hid hM
  clear hf hTT hsz hwl hT hM
  go_enter Tryz.func83, Tryz.ntmps83
  go_wp2_with fail
  refine HF.out.mono ?_
  rintro e w1 ⟨A, rfl, hA, hO, hb⟩
  have HR1 := Lib.hid (Sc.keepBox HR0.out hb)
  have HB1 := Lib.hid (HB0.out.trans (hb.mono HB0.out.size))
  have HO := Lib.hid hO
  have hsz1 : w.heap.size < w1.heap.size := by have := hb.size; simp at this; omega
  clear hb hO HF HR0 HB0
  cases ws with
  | nil =>
    have HTz := Lib.hid (show T = none from HTT.out)
    have HR2 := HR1
    have HB2 := HB1
    clear HO
    obtain ⟨r0, r1, r2⟩ := Sc.three_of HR2.out
    obtain ⟨n0, n1, n2⟩ := Sc.threeF_of HR2.out
    go_wp2_with fail
    refine bodyPost_ret (Vl.ret2 rfl _ _ w.heap.size 46 _ _ rfl (Sc.set3 HR2.out _ _ _) Tryz.underlying46 rfl (by kernel_rfl)) rfl ?_
    have hT := HTz.out
    subst hT
    exact ⟨0, _, _, _, _, rfl, (fun y h => by cases h), below_grownBy HB2.out (Sc.set3_grown _ _ _ _ _) (by omega) HB2.out.size⟩
  | cons k r =>
    have hc0 := Sc.word_cell HO.out (by simp) 0 (by simp)
    rw [show ((k :: r).map Wp.B)[0]'(by simp) = Wp.B k from rfl] at hc0
    have hkk := scKindOf_any (Wp.B k) w1 (HT0.out.below HB1.out)
    rw [show (Wp.B k).data.toList = k by simp [Wp.B]] at hkk
    have HK := Lib.hid hkk
    obtain ⟨K, hK⟩ : ∃ K, K = Sc.kindW k := ⟨_, rfl⟩
    rw [← hK] at HK
    have HKe := Lib.hid hK
    have hK6 : K ≤ 6 := by rw [hK]; exact Sc.kindW_le k
    have hAs := hA
    have hd0 := hc0
    obtain ⟨n, hn⟩ : ∃ n, n = (k :: r).length := ⟨_, rfl⟩
    rw [← hn] at hws
    have hn1 : 1 ≤ n := by rw [hn]; simp
    rw [← hn] at HO
    rw [← hn]
    have HN := Lib.hid hn
    have hk0 : (0 : Int) < (n : Int) := by omega
    have qn : ((n : Int) == 0) = false := beq_eq_false_iff_ne.2 (by omega)
    clear hkk hK hn
    go_wp2_with fail
    refine HK.out.mono ?_
    rintro e w1' ⟨rfl, rfl⟩
    have hal := (Below.refl w1'.heap.size w1').alloc (Nat.le_refl _) (.cells #[.int .u8 K, .string ⟨#[]⟩, .slice none 0 0] 46)
    have HV2 := Lib.hid (Vl.new w1' (.cells #[.int .u8 K, .string ⟨#[]⟩, .slice none 0 0] 46))
    have HR2 := Lib.hid ((Vl.past w1' (.cells #[.int .u8 K, .string ⟨#[]⟩, .slice none 0 0] 46) w.heap.size hsz1).trans HR1.out)
    have HB2 := Lib.hid (HB1.out.trans (hal.mono HB1.out.size))
    have HO2 := Lib.hid (ownsRow_below HO.out hal)
    have HT2 := Lib.hid (HT0.out.below HB2.out)
    have HM2 := Lib.hid (HM0.out.below HB2.out)
    clear hal HO HR1 HB1 hc0 hd0 hA hAs HK HT0 HM0
    go_upto_region 5 with fail
    generalize hW2 : (w1'.alloc (.cells #[.int .u8 K, .string ⟨#[]⟩, .slice none 0 0] 46)) = W2 at *
    have hsz2 : w1'.heap.size < W2.heap.size := by rw [← hW2]; simp
    clear hW2
    generalize w1'.heap.size = bv at *
    have HP := Lib.hid (scHasPath_any K W2)
    by_cases h2 : K = 2
    · subst h2
      rw [show Sc.hasP 2 = true from rfl] at HP
      obtain ⟨t0, t1, t2⟩ := Sc.three_of HV2.out
      go_wp2_with fail
      refine HP.out.mono ?_
      rintro e W2 ⟨rfl, rfl⟩
      clear HP
      match r, HO2, HN, HTT, HSz, HKe with
      | [], HO2, HN, HTT, HSz, HKe =>
        obtain rfl : n = 1 := HN.out
        have hd0 := Sc.word_cell HO2.out rfl 0 (by simp)
        rw [show ([k].map Wp.B)[0]'(by simp) = Wp.B k from rfl] at hd0
        have HC := Lib.hid (show Calls Tryz.prog 41 #[.string (Wp.B k)] W2 (Sc.PathPost (Sc.pathR k) W2) from by
          have := scPath_any (Wp.B k) W2 (by rw [Wp.B_size]; exact HSz.out k (by simp)) HT2.out HM2.out
          rwa [show (Wp.B k).data.toList = k by simp [Wp.B]] at this)
        obtain ⟨⟨ps, pc⟩, hQ⟩ : ∃ Q, Q = Sc.pathR k := ⟨_, rfl⟩
        rw [← hQ] at HC
        have HTz : Hid ((pc = 0 ∧ T = some ⟨2, ⟨#[]⟩, ps⟩ ∧ ps.length ≤ 4 ∧ ∀ x ∈ ps, x.size ≤ 140737488351232) ∨ (pc = 13 ∧ T = none)) := Lib.hid (by
          have hpf := Sc.path_fits k (HSz.out k (by simp))
          have e := HTT.out.trans ((Sc.tagW_var HKe.out.symm).trans (if_pos rfl))
          rw [← hQ] at hpf
          unfold Sc.pathR at hQ
          cases hp : Sc.pathP k with
          | none => rw [hp] at hQ e; exact Or.inr ⟨congrArg Prod.snd hQ, e⟩
          | some q =>
            rw [hp] at hQ e
            have h1 := congrArg Prod.fst hQ
            have h2 := congrArg Prod.snd hQ
            simp only at h1 h2
            subst h1
            exact Or.inl ⟨h2, e, hpf.1, hpf.2⟩)
        clear hQ
        go_wp2_with fail
        refine HC.out.mono ?_
        rintro e w4 ⟨pp, pcap, rfl, hcp, hoff, hb⟩
        have HCp := Lib.hid hcp
        clear hcp
        have HR4 := Lib.hid (Sc.keepBox HR2.out hb)
        have HV4 := Lib.hid (Sc.keepBox HV2.out hb)
        have HB4 := Lib.hid (HB2.out.trans (hb.mono HB2.out.size))
        have HF4 := Lib.hid hoff
        have hlt4 : W2.heap.size ≤ w4.heap.size := hb.size
        clear hoff hb HC HR2 HV2 HB2
        obtain ⟨r0, r1, r2⟩ := Sc.three_of HR4.out
        obtain ⟨n0, n1, n2⟩ := Sc.threeF_of HR4.out
        obtain ⟨t0, t1, t2⟩ := Sc.three_of HV4.out
        obtain ⟨u0, u1, u2⟩ := Sc.threeF_of HV4.out
        rcases HTz.out with ⟨rfl, hT, hp4, hpz⟩ | ⟨rfl, hT⟩
        · have HTz2 := Lib.hid hT
          have Hp4 := Lib.hid hp4
          have Hpz := Lib.hid hpz
          clear hT hp4 hpz HTz
          have HR5 := Lib.hid ((Below.heap_setCell w4 ⟨bv, 2, none⟩ (.slice pp ps.length pcap) w.heap.size (by show w.heap.size ≠ bv; omega)).trans HR4.out)
          have HB5 := Lib.hid (HB4.out.setCell (p := ⟨bv, 2, none⟩) (by show w.heap.size ≤ bv; omega) (.slice pp ps.length pcap))
          have hsz5 : (w4.setCell ⟨bv, 2, none⟩ (.slice pp ps.length pcap)).heap.size = w4.heap.size := World.size_setCell _ _ _
          go_wp2_with fail
          refine bodyPost_ret (Vl.ret2 rfl _ _ w.heap.size 46 _ _ rfl (Sc.set3 HR5.out _ _ _) Tryz.underlying46 rfl (by kernel_rfl)) rfl ?_
          have hT := HTz2.out
          subst hT
          refine ⟨2, _, _, _, _, rfl, (fun y h => ?_), below_grownBy HB5.out (Sc.set3_grown _ _ _ _ _) (by omega) HB5.out.size⟩
          cases h
          refine fun W' hW' => ⟨pp, pcap, rfl, ⟨⟨(by show 2 ≤ 255; omega), HCp.out⟩, (by show (0 : Nat) ≤ _; omega), (by show ps.length ≤ _; have := Hp4.out; omega), Hpz.out⟩, HF4.out W' (fun j h1 h2 => ?_)⟩
          rw [hW' j (by omega) (by rw [Sc.set3_size, hsz5]; exact h2) (by simp), Sc.set3_rest _ _ _ _ _ j (by omega), Below.heap_setCell _ _ _ j (by show j ≠ bv; omega)]
        · have HTz2 := Lib.hid hT
          clear hT HTz
          have HR5 := Lib.hid ((Below.heap_setCell w4 ⟨bv, 2, none⟩ (.slice pp ps.length pcap) w.heap.size (by show w.heap.size ≠ bv; omega)).trans HR4.out)
          have HB5 := Lib.hid (HB4.out.setCell (p := ⟨bv, 2, none⟩) (by show w.heap.size ≤ bv; omega) (.slice pp ps.length pcap))
          go_wp2_with fail
          refine bodyPost_ret (Vl.ret2 rfl _ _ w.heap.size 46 _ _ rfl (Sc.set3 HR5.out _ _ _) Tryz.underlying46 rfl (by kernel_rfl)) rfl ?_
          have hT := HTz2.out
          subst hT
          exact ⟨2, _, _, _, _, rfl, (fun y h => by cases h), below_grownBy HB5.out (Sc.set3_grown _ _ _ _ _) (by omega) HB5.out.size⟩
      | a :: r', HO2, HN, HTT, HSz, HKe =>
        have hn2 : 2 ≤ n := by rw [HN.out]; simp
        have qn2 : ((n : Int) == 1) = false := beq_eq_false_iff_ne.2 (by omega)
        have qn3 : ((n : Int) != 1) = true := bne_iff_ne.2 (by omega)
        have HTz := Lib.hid (show T = none by rw [HTT.out, Sc.tagW_var HKe.out.symm]; rfl)
        obtain ⟨r0, r1, r2⟩ := Sc.three_of HR2.out
        obtain ⟨n0, n1, n2⟩ := Sc.threeF_of HR2.out
        go_wp2_with fail
        refine bodyPost_ret (Vl.ret2 rfl _ _ w.heap.size 46 _ _ rfl (Sc.set3 HR2.out _ _ _) Tryz.underlying46 rfl (by kernel_rfl)) rfl ?_
        have hT := HTz.out
        subst hT
        exact ⟨0, _, _, _, _, rfl, (fun y h => by cases h), below_grownBy HB2.out (Sc.set3_grown _ _ _ _ _) (by omega) HB2.out.size⟩
    · have q2 : ((K : Int) == 2) = false := beq_eq_false_iff_ne.2 (by omega)
      have q3 : ((K : Int) != 2) = true := bne_iff_ne.2 (by omega)
      obtain ⟨t0, t1, t2⟩ := Sc.three_of HV2.out
      have h1n : (1 : Int) ≤ (n : Int) := by omega
      cases hP : Sc.hasP K with
      | true =>
        rw [hP] at HP
        match r, HO2, HN, HTT, HSz, HKe with
        | [], HO2, HN, HTT, HSz, HKe =>
          obtain rfl : n = 1 := HN.out
          clear HO2
          go_wp2_with fail
          refine HP.out.mono ?_
          rintro e W2 ⟨rfl, rfl⟩
          clear HP
          have HTz := Lib.hid (show T = none by rw [HTT.out, Sc.tagW_path (by rw [← HKe.out]; exact h2) (by rw [← HKe.out]; exact hP)]; rfl)
          obtain ⟨r0, r1, r2⟩ := Sc.three_of HR2.out
          obtain ⟨n0, n1, n2⟩ := Sc.threeF_of HR2.out
          go_wp2_with fail
          refine bodyPost_ret (Vl.ret2 rfl _ _ w.heap.size 46 _ _ rfl (Sc.set3 HR2.out _ _ _) Tryz.underlying46 rfl (by kernel_rfl)) rfl ?_
          have hT := HTz.out
          subst hT
          exact ⟨0, _, _, _, _, rfl, (fun y h => by cases h), below_grownBy HB2.out (Sc.set3_grown _ _ _ _ _) (by omega) HB2.out.size⟩
        | [a], HO2, HN, HTT, HSz, HKe =>
          obtain rfl : n = 2 := HN.out
          have hd1 := Sc.word_cell HO2.out rfl 1 (by simp)
          rw [show ([k, a].map Wp.B)[1]'(by simp) = Wp.B a from rfl] at hd1
          go_wp2_with fail
          refine HP.out.mono ?_
          rintro e W2 ⟨rfl, rfl⟩
          clear HP
          have HC := Lib.hid (show Calls Tryz.prog 41 #[.string (Wp.B a)] W2 (Sc.PathPost (Sc.pathR a) W2) from by
            have := scPath_any (Wp.B a) W2 (by rw [Wp.B_size]; exact HSz.out a (by simp)) HT2.out HM2.out
            rwa [show (Wp.B a).data.toList = a by simp [Wp.B]] at this)
          obtain ⟨⟨ps, pc⟩, hQ⟩ : ∃ Q, Q = Sc.pathR a := ⟨_, rfl⟩
          rw [← hQ] at HC
          have HTz : Hid ((pc = 0 ∧ T = some ⟨K, ⟨#[]⟩, ps⟩ ∧ ps.length ≤ 4 ∧ ∀ x ∈ ps, x.size ≤ 140737488351232) ∨ (pc = 13 ∧ T = none)) := Lib.hid (by
            have hpf := Sc.path_fits a (HSz.out a (by simp))
            have e := (show T = (Sc.pathP a).map fun p => ⟨K, ⟨#[]⟩, p⟩ from (HTT.out.trans ((Sc.tagW_path (by rw [← HKe.out]; exact h2) (by rw [← HKe.out]; exact hP)).trans (if_pos rfl))).trans (by rw [← HKe.out]; rfl))
            rw [← hQ] at hpf
            unfold Sc.pathR at hQ
            cases hp : Sc.pathP a with
            | none => rw [hp] at hQ e; exact Or.inr ⟨congrArg Prod.snd hQ, e⟩
            | some q =>
              rw [hp] at hQ e
              have h1 := congrArg Prod.fst hQ
              have h2 := congrArg Prod.snd hQ
              simp only at h1 h2
              subst h1
              exact Or.inl ⟨h2, e, hpf.1, hpf.2⟩)
          clear hQ
          go_wp2_with fail
          refine HC.out.mono ?_
          rintro e w4 ⟨pp, pcap, rfl, hcp, hoff, hb⟩
          have HCp := Lib.hid hcp
          clear hcp
          have HR4 := Lib.hid (Sc.keepBox HR2.out hb)
          have HV4 := Lib.hid (Sc.keepBox HV2.out hb)
          have HB4 := Lib.hid (HB2.out.trans (hb.mono HB2.out.size))
          have HF4 := Lib.hid hoff
          have hlt4 : W2.heap.size ≤ w4.heap.size := hb.size
          clear hoff hb HC HR2 HV2 HB2
          obtain ⟨r0, r1, r2⟩ := Sc.three_of HR4.out
          obtain ⟨n0, n1, n2⟩ := Sc.threeF_of HR4.out
          obtain ⟨t0, t1, t2⟩ := Sc.three_of HV4.out
          obtain ⟨u0, u1, u2⟩ := Sc.threeF_of HV4.out
          rcases HTz.out with ⟨rfl, hT, hp4, hpz⟩ | ⟨rfl, hT⟩
          · have HTz2 := Lib.hid hT
            have Hp4 := Lib.hid hp4
            have Hpz := Lib.hid hpz
            clear hT hp4 hpz HTz
            have HR5 := Lib.hid ((Below.heap_setCell w4 ⟨bv, 2, none⟩ (.slice pp ps.length pcap) w.heap.size (by show w.heap.size ≠ bv; omega)).trans HR4.out)
            have HB5 := Lib.hid (HB4.out.setCell (p := ⟨bv, 2, none⟩) (by show w.heap.size ≤ bv; omega) (.slice pp ps.length pcap))
            have hsz5 : (w4.setCell ⟨bv, 2, none⟩ (.slice pp ps.length pcap)).heap.size = w4.heap.size := World.size_setCell _ _ _
            go_wp2_with fail
            refine bodyPost_ret (Vl.ret2 rfl _ _ w.heap.size 46 _ _ rfl (Sc.set3 HR5.out _ _ _) Tryz.underlying46 rfl (by kernel_rfl)) rfl ?_
            have hT := HTz2.out
            subst hT
            refine ⟨K, _, _, _, _, rfl, (fun y h => ?_), below_grownBy HB5.out (Sc.set3_grown _ _ _ _ _) (by omega) HB5.out.size⟩
            cases h
            refine fun W' hW' => ⟨pp, pcap, rfl, ⟨⟨(by show K ≤ 255; omega), HCp.out⟩, (by show (0 : Nat) ≤ _; omega), (by show ps.length ≤ _; have := Hp4.out; omega), Hpz.out⟩, HF4.out W' (fun j h1 h2 => ?_)⟩
            rw [hW' j (by omega) (by rw [Sc.set3_size, hsz5]; exact h2) (by simp), Sc.set3_rest _ _ _ _ _ j (by omega), Below.heap_setCell _ _ _ j (by show j ≠ bv; omega)]
          · have HTz2 := Lib.hid hT
            clear hT HTz
            have HR5 := Lib.hid ((Below.heap_setCell w4 ⟨bv, 2, none⟩ (.slice pp ps.length pcap) w.heap.size (by show w.heap.size ≠ bv; omega)).trans HR4.out)
            have HB5 := Lib.hid (HB4.out.setCell (p := ⟨bv, 2, none⟩) (by show w.heap.size ≤ bv; omega) (.slice pp ps.length pcap))
            go_wp2_with fail
            refine bodyPost_ret (Vl.ret2 rfl _ _ w.heap.size 46 _ _ rfl (Sc.set3 HR5.out _ _ _) Tryz.underlying46 rfl (by kernel_rfl)) rfl ?_
            have hT := HTz2.out
            subst hT
            exact ⟨K, _, _, _, _, rfl, (fun y h => by cases h), below_grownBy HB5.out (Sc.set3_grown _ _ _ _ _) (by omega) HB5.out.size⟩
        | a :: b :: r', HO2, HN, HTT, HSz, HKe =>
          have hn2 : 3 ≤ n := by rw [HN.out]; simp
          clear HO2
          go_wp2_with fail
          refine HP.out.mono ?_
          rintro e W2 ⟨rfl, rfl⟩
          clear HP
          have HTz := Lib.hid (show T = none by rw [HTT.out, Sc.tagW_path (by rw [← HKe.out]; exact h2) (by rw [← HKe.out]; exact hP)]; rfl)
          obtain ⟨r0, r1, r2⟩ := Sc.three_of HR2.out
          obtain ⟨n0, n1, n2⟩ := Sc.threeF_of HR2.out
          go_wp2_with fail
          refine bodyPost_ret (Vl.ret2 rfl _ _ w.heap.size 46 _ _ rfl (Sc.set3 HR2.out _ _ _) Tryz.underlying46 rfl (by kernel_rfl)) rfl ?_
          have hT := HTz.out
          subst hT
          exact ⟨0, _, _, _, _, rfl, (fun y h => by cases h), below_grownBy HB2.out (Sc.set3_grown _ _ _ _ _) (by omega) HB2.out.size⟩
      | false =>
        rw [hP] at HP
        match r, HO2, HN, HTT, HSz, HKe with
        | [], HO2, HN, HTT, HSz, HKe =>
          obtain rfl : n = 1 := HN.out
          clear HO2
          go_wp2_with fail
          refine HP.out.mono ?_
          rintro e W2 ⟨rfl, rfl⟩
          clear HP
          have HTz := Lib.hid (show T = some ⟨K, ⟨#[]⟩, []⟩ by rw [HTT.out, Sc.tagW_word (by rw [← HKe.out]; exact h2) (by rw [← HKe.out]; exact hP), ← HKe.out]; rfl)
          obtain ⟨r0, r1, r2⟩ := Sc.three_of HR2.out
          obtain ⟨n0, n1, n2⟩ := Sc.threeF_of HR2.out
          go_wp2_with fail
          refine bodyPost_ret (Vl.ret2 rfl _ _ w.heap.size 46 _ _ rfl (Sc.set3 HR2.out _ _ _) Tryz.underlying46 rfl (by kernel_rfl)) rfl ?_
          have hT := HTz.out
          subst hT
          refine ⟨K, _, _, _, _, rfl, (fun y h => ?_), below_grownBy HB2.out (Sc.set3_grown _ _ _ _ _) (by omega) HB2.out.size⟩
          cases h
          exact fun W' hW' => ⟨none, 0, rfl, ⟨⟨(by show K ≤ 255; omega), Nat.le_refl 0⟩, (by show (0 : Nat) ≤ _; omega), (by show (0 : Nat) ≤ _; omega), (fun x hx => by cases hx)⟩, Or.inl rfl⟩
        | a :: r', HO2, HN, HTT, HSz, HKe =>
          have hn2 : 2 ≤ n := by rw [HN.out]; simp
          have qn4 : (((n - 1 : Nat) : Int) == 0) = false := beq_eq_false_iff_ne.2 (by omega)
          clear HO2
          go_wp2_with fail
          refine HP.out.mono ?_
          rintro e W2 ⟨rfl, rfl⟩
          clear HP
          have HTz := Lib.hid (show T = none by rw [HTT.out, Sc.tagW_word (by rw [← HKe.out]; exact h2) (by rw [← HKe.out]; exact hP), ← HKe.out]; rfl)
          obtain ⟨r0, r1, r2⟩ := Sc.three_of HR2.out
          obtain ⟨n0, n1, n2⟩ := Sc.threeF_of HR2.out
          go_wp2_with fail
          refine bodyPost_ret (Vl.ret2 rfl _ _ w.heap.size 46 _ _ rfl (Sc.set3 HR2.out _ _ _) Tryz.underlying46 rfl (by kernel_rfl)) rfl ?_
          have hT := HTz.out
          subst hT
          exact ⟨K, _, _, _, _, rfl, (fun y h => by cases h), below_grownBy HB2.out (Sc.set3_grown _ _ _ _ _) (by omega) HB2.out.size⟩
end Go.Proofs.YteajjlilpikdeaaGreatDoor
namespace Go.Proofs.YteajjlilpikdeaaGreatDoor
open Go.RowKit Go.Shelf

/-- What a text's tokens hand back. -/
def Sc.ToksPost (R : List Sc.T × Int) (w : World) (e : Ending) (w' : World) : Prop := ∃ v, e = .returned (.tuple #[v, .int .i64 R.2]) ∧ Sc.OwnRow w.heap.size w' v R.1.length R.1 ∧ Below w.heap.size w w'
def Sc.Ans (R : List Sc.T × Int) (acc : List Sc.T) (o : Option (List Sc.T)) : Prop := R = match o with
  | some r => (acc ++ r, 0)
  | none => ([], 7)
theorem Sc.ans_end {R : List Sc.T × Int} {acc : List Sc.T} {f : Nat} {l a b : List UInt8} (h : Sc.Ans R acc (Sc.toksP (f + 1) l)) (hc : Lib.cut l Sc.oo = (a, b, false)) : R = (acc ++ Sc.pre a, 0) := by
  unfold Sc.Ans Sc.toksP at h
  rw [hc] at h
  exact h
theorem Sc.ans_bad {R : List Sc.T × Int} {acc : List Sc.T} {f : Nat} {l a b a2 b2 : List UInt8} {f2 : Bool} (h : Sc.Ans R acc (Sc.toksP (f + 1) l)) (hc : Lib.cut l Sc.oo = (a, b, true)) (h2 : Lib.cut b Sc.cc = (a2, b2, f2)) (hb : f2 = false ∨ Sc.tagP a2 = none) : R = ([], 7) := by
  unfold Sc.Ans Sc.toksP at h
  rw [hc] at h
  simp only [h2] at h
  rcases hb with rfl | hb
  · exact h
  · rw [hb] at h
    cases f2 <;> exact h
theorem Sc.ans_go {R : List Sc.T × Int} {acc : List Sc.T} {f : Nat} {l a b a2 b2 : List UInt8} {t : Sc.T} (h : Sc.Ans R acc (Sc.toksP (f + 1) l)) (hc : Lib.cut l Sc.oo = (a, b, true)) (h2 : Lib.cut b Sc.cc = (a2, b2, true)) (ht : Sc.tagP a2 = some t) : Sc.Ans R (acc ++ Sc.pre a ++ [t]) (Sc.toksP f b2) := by
  unfold Sc.Ans Sc.toksP at h
  rw [hc] at h
  simp only [h2, ht] at h
  unfold Sc.Ans
  rw [h]
  cases Sc.toksP f b2 with
  | none => rfl
  | some r => simp
theorem Sc.cut_lens {l s a b : List UInt8} {f : Bool} (h : Lib.cut l s = (a, b, f)) : a.length ≤ l.length ∧ b.length ≤ l.length ∧ (f = true → a.length + s.length + b.length = l.length) := by
  rcases Sc.cut_spec l s with ⟨h1, h2, _⟩ | ⟨h1, h2, _⟩
  · rw [h] at h1 h2
    simp only at h1
    subst h1
    cases h2
    exact ⟨Nat.le_refl _, Nat.zero_le _, fun e => by cases e⟩
  · rw [h] at h2
    simp only at h2
    have := congrArg List.length h2
    simp at this
    exact ⟨by omega, by omega, fun _ => by omega⟩
theorem scCut_any (l : List UInt8) (sep : ByteArray) (a b : List UInt8) (f : Bool) (hT : Lib.cut l sep.data.toList = (a, b, f)) (w : World) (hl : l.length ≤ 3000000) (hM : Sc.MaxLen w) :
    Calls Tryz.prog 82 #[.string (Wp.B l), .string sep] w fun e w' => e = .returned (.tuple #[.string (Wp.B a), .string (Wp.B b), .bool f]) ∧ Below w.heap.size w w' := by
  obtain ⟨m, hm⟩ := hM
  refine (Tryz.strings_Cut (Wp.B l) sep m w (by rw [Wp.B_size]; omega) hm).mono ?_
  rintro e w' ⟨rfl, n, rfl⟩
  rw [show (Wp.B l).data.toList = l by simp [Wp.B], hT]
  exact ⟨rfl, ⟨rfl, rfl, rfl, Nat.le_refl _, fun _ _ => rfl⟩⟩
theorem Sc.OwnRow.below {B : Nat} {W W' : World} {v : Value} {n : Nat} {l : List Sc.T} (h : Sc.OwnRow B W v n l) (hb : Below W.heap.size W W') : Sc.OwnRow B W' v n l := by
  obtain ⟨cs, h1, h2, h3⟩ := h
  exact ⟨cs, ownsRow_below h1 hb, h2, fun i y hy => by
    obtain ⟨c0, c1, c2, e0, e1, e2, ho⟩ := h3 i y hy
    exact ⟨c0, c1, c2, e0, e1, e2, fun W2 hW => ho W2 (fun j a b c => (hW j a (Nat.lt_of_lt_of_le b hb.size) c).trans (hb.block j b))⟩⟩
theorem Sc.Off.text (B : Nat) (W : World) (blk : Option Nat) (t : ByteArray) (ht : t.size ≤ 140737488351232) : Sc.Off B W blk (.agg #[.int .u8 1, .string t, .slice none 0 0]) ⟨1, t, []⟩ :=
  fun W' _ => ⟨none, 0, rfl, ⟨⟨(by show 1 ≤ 255; omega), Nat.le_refl 0⟩, ht, (by show (0 : Nat) ≤ _; omega), (fun x hx => by cases hx)⟩, Or.inl rfl⟩
set_option maxRecDepth 100000 in
set_option maxHeartbeats 8000000 in
theorem scTokens_any (s : ByteArray) (w : World) (hs : s.size ≤ 900000000000000) (hT : Sc.Laid w) (hM : Sc.MaxLen w) :
    Calls Tryz.prog 42 #[.string s] w (Sc.ToksPost (Sc.toksR s.data.toList) w) := by
  obtain ⟨R, hR⟩ : ∃ R, R = Sc.toksR s.data.toList := ⟨_, rfl⟩
  rw [← hR]
  have hsl := Wp.size_len s
  unfold Sc.toksR at hR
  by_cases hlong : 1024 < s.data.toList.length
  · rw [if_pos hlong] at hR
    have hk : (1024 : Int) < (s.size : Int) := by omega
    have HR := Lib.hid hR
    clear hR hsl hlong
    go_enter Tryz.func42, Tryz.ntmps42
    go_wp2_with fail
    have hR := HR.out
    subst hR
    go_ret2
    exact ⟨_, rfl, Sc.OwnRow.nil _ _, Below.refl _ _⟩
  · rw [if_neg hlong] at hR
    have hk : ¬ (1024 : Int) < (s.size : Int) := by omega
    have hln : s.data.toList.length ≤ 1024 := by omega
    have HLn := Lib.hid hln
    clear hln
    have HE0 := Lib.hid (show Sc.Ans R [] (Sc.toksP (s.data.toList.length + 1) s.data.toList) from by rw [hR]; cases Sc.toksP (s.data.toList.length + 1) s.data.toList <;> rfl)
    have HT0 := Lib.hid hT
    have HM0 := Lib.hid hM
    have HS0 := Lib.hid (show Value.string s = Value.string (Wp.B s.data.toList) by rw [Wp.B_of])
    clear hR hT hM hsl
    have hlg := Lib.hid hlong
    clear hlong
    go_enter Tryz.func42, Tryz.ntmps42
    go_wp2_with fail
    go_loopw [0, 4] (fun sv v wr => ∃ (rest : List UInt8) (acc : List Sc.T) (f : Nat), rest.length < f + 1 ∧ rest.length ≤ 1024 ∧ acc.length + rest.length ≤ 1024 ∧ sv = .string (Wp.B rest) ∧ Hid (Sc.OwnRow w.heap.size wr v acc.length acc) ∧ Hid (Below w.heap.size w wr) ∧ Hid (Sc.Ans R acc (Sc.toksP (f + 1) rest))) (fun sv _ _ => match sv with | .string t => t.size | _ => 0)
    case atStart => exact ⟨s.data.toList, [], s.data.toList.length, Nat.lt_succ_self _, HLn.out, by rw [List.length_nil, Nat.zero_add]; exact HLn.out, HS0.out, Lib.hid (Sc.OwnRow.nil _ _), Lib.hid (Below.refl _ _), HE0⟩
    case round =>
      clear HLn HE0 HS0 hlg hk hs
      obtain ⟨rest, acc, f, hf, hr1, hr2, rfl, HS, HB, HE⟩ := hrel
      obtain ⟨⟨a, b, ff⟩, hc1⟩ : ∃ Q, Lib.cut rest Sc.oo = Q := ⟨_, rfl⟩
      have HC1 := Lib.hid (scCut_any rest ⟨#[123, 123]⟩ a b ff hc1 wr (by omega) (HM0.out.below HB.out))
      have hal := (Sc.cut_lens hc1).1
      have Hc1 := Lib.hid hc1
      clear hc1
      go_wp2_with fail
      refine HC1.out.mono ?_
      rintro e w1 ⟨rfl, hb⟩
      have HB1 := Lib.hid (HB.out.trans (hb.mono HB.out.size))
      have HS1 := Lib.hid (HS.out.below hb)
      clear hb HC1 HS HB
      by_cases ha : a = []
      · have q1 : ((Wp.B a).toList != ([] : List UInt8)) = false := by rw [ha, Lib.toList_data]; rfl
        have q2 : ((Wp.B a).toList == ([] : List UInt8)) = true := by rw [ha, Lib.toList_data]; rfl
        have HA := Lib.hid (show Sc.pre a = [] by rw [ha]; rfl)
        clear ha
        cases ff with
        | false =>
          have HRz := Lib.hid (show R = (acc, 0) by have := Sc.ans_end HE.out Hc1.out; rwa [HA.out, List.append_nil] at this)
          go_wp2_with fail
          have hR := HRz.out
          subst hR
          go_ret2
          exact ⟨_, rfl, HS1.out, HB1.out⟩
        | true =>
          have hl3 := (Sc.cut_lens Hc1.out).2.2 rfl
          have hbl : b.length ≤ 1024 := by have := (Sc.cut_lens Hc1.out).2.1; omega
          obtain ⟨⟨a2, b2, f2⟩, hc2⟩ : ∃ Q, Lib.cut b Sc.cc = Q := ⟨_, rfl⟩
          have hl4 := Sc.cut_lens hc2
          have HC2 := Lib.hid (scCut_any b ⟨#[125, 125]⟩ a2 b2 f2 hc2 w1 (by omega) (HM0.out.below HB1.out))
          have Hc2 := Lib.hid hc2
          clear hc2
          go_wp2_with fail
          refine HC2.out.mono ?_
          rintro e w3 ⟨rfl, hb⟩
          have HB3 := Lib.hid (HB1.out.trans (hb.mono HB1.out.size))
          have HS3 := Lib.hid (HS1.out.below hb)
          clear hb HC2
          have htg := scTag_any (Wp.B a2) w3 (by rw [Wp.B_size]; omega) (HT0.out.below HB3.out) (HM0.out.below HB3.out)
          rw [show (Wp.B a2).data.toList = a2 by simp [Wp.B]] at htg
          obtain ⟨o, ho⟩ : ∃ o, Sc.tagP a2 = o := ⟨_, rfl⟩
          rw [ho] at htg
          have HC3 := Lib.hid htg
          have Ho := Lib.hid ho
          clear htg ho
          go_wp2_with fail
          refine HC3.out.mono ?_
          rintro e w4 ⟨k4, t4, pn4, nn4, cn4, rfl, hoff, hb⟩
          have hal := (Below.refl w4.heap.size w4).alloc (Nat.le_refl _) (.cells #[.int .u8 k4, .string t4, .slice pn4 nn4 cn4] 46)
          have h34 := hb.trans (hal.mono hb.size)
          have HB4 := Lib.hid (HB3.out.trans (h34.mono HB3.out.size))
          have H34 := Lib.hid h34
          have HV4 := Lib.hid (Vl.new w4 (.cells #[.int .u8 k4, .string t4, .slice pn4 nn4 cn4] 46))
          have Hoff := Lib.hid (fun y h => (fun W' hW' => hoff y h W' (fun j q1 q2 q3 => (hW' j q1 (Nat.lt_of_lt_of_le q2 hal.size) q3).trans (hal.block j q2)) : Sc.Off w3.heap.size (w4.alloc (.cells #[.int .u8 k4, .string t4, .slice pn4 nn4 cn4] 46)) none (.agg #[.int .u8 k4, .string t4, .slice pn4 nn4 cn4]) y))
          clear hal h34 hoff hb HC3
          go_upto_region 11 with fail
          generalize (w4.alloc (.cells #[.int .u8 k4, .string t4, .slice pn4 nn4 cn4] 46)) = W4 at *
          cases f2 with
          | false =>
            have HRz := Lib.hid (Sc.ans_bad HE.out Hc1.out Hc2.out (Or.inl rfl))
            go_wp2_with fail
            have hR := HRz.out
            subst hR
            go_ret2
            exact ⟨_, rfl, Sc.OwnRow.nil _ _, HB4.out⟩
          | true =>
            cases o with
            | none =>
              have HRz := Lib.hid (Sc.ans_bad HE.out Hc1.out Hc2.out (Or.inr Ho.out))
              go_wp2_with fail
              have hR := HRz.out
              subst hR
              go_ret2
              exact ⟨_, rfl, Sc.OwnRow.nil _ _, HB4.out⟩
            | some y =>
              have hl5 := (Sc.cut_lens Hc2.out).2.2 rfl
              have hos : Sc.oo.length = 2 := rfl
              have hcs : Sc.cc.length = 2 := rfl
              have HEn := Lib.hid (Sc.ans_go HE.out Hc1.out Hc2.out Ho.out)
              have Hoy := Lib.hid (Hoff.out y rfl)
              obtain ⟨v0, v1, v2⟩ := Sc.three_of HV4.out
              clear Hoff HE
              obtain ⟨cs9, g91, g92, g93⟩ := HS3.out
              have HO9 := Lib.hid g91
              have HG9 := Lib.hid g93
              have HO9' := Lib.hid ((ownsRow_below HO9.out H34.out).alloc (.cells #[.int .u8 k4, .string t4, .slice pn4 nn4 cn4] 46))
              have HB9 := Lib.hid ((HB3.out.trans (H34.out.mono HB3.out.size)).alloc (by have := HB3.out.size; have := H34.out.size; omega) (.cells #[.int .u8 k4, .string t4, .slice pn4 nn4 cn4] 46))
              have Hnew := Lib.hid (Sc.three_of (Vl.new W4 (.cells #[.int .u8 k4, .string t4, .slice pn4 nn4 cn4] 46)))
              have Hn9 := Lib.hid (show ∀ j q, ([.int .u8 k4, .string t4, .slice pn4 nn4 cn4] : List Value)[j]? = some q → (W4.alloc (.cells #[.int .u8 k4, .string t4, .slice pn4 nn4 cn4] 46)).cell? ((⟨W4.heap.size, 0, none⟩ : Addr).add j) = some q from fun j q hq => by
                obtain ⟨n0, n1, n2⟩ := Hnew.out
                match j, hq with
                | 0, hq => cases hq; exact n0
                | 1, hq => cases hq; exact n1
                | 2, hq => cases hq; exact n2
                | j + 3, hq => simp at hq)
              clear g91 g92 g93 Hnew
              obtain ⟨i0, hi, hz0, hz1, hz2⟩ := Sc.infoTok
              
              go_wp2_with (at_builtin; refine Vl.listApp _ rfl _ _ 22 rfl w.heap.size 46 i0 _ 3 48 Tryz.underlying22 hi hz0 hz1 hz2 rfl (by decide) _ acc.length _ rfl HO9'.out ⟨W4.heap.size, 0, none⟩ 1 1 [.int .u8 k4, .string t4, .slice pn4 nn4 cn4] rfl rfl ?ce1 ?ce2 ?ce3 ?ce4 ?ce5 ?_)
              try case ce1 => exact Hn9.out
              case ce2 => first | (intro q hq; simp at hq; rcases hq with rfl | rfl | rfl <;> rfl) | (simp [Value.oneCell'])
              case ce3 => unfold maxLen; omega
              case ce4 => omega
              case ce5 => first | exact HB9.out.size | (have := HB9.out.size; rw [World.size_alloc] at this; exact this)
              intro v9 W9 hown9 hgrow9 hat9
              have HB5 := Lib.hid (below_grown5 HB9.out HO9'.out (Nat.le_refl _) hgrow9)
              have HS5 := Lib.hid (show Sc.OwnRow w.heap.size W9 v9 (acc ++ [y]).length (acc ++ [y]) by
                have := Sc.OwnRow.grow (y := y) rfl HO9.out HG9.out HB3.out.size H34.out rfl Hoy.out _ hown9 hgrow9 hat9
                rwa [List.length_append])
              clear hown9 hgrow9 hat9 HO9 HG9 HO9' HB9 Hn9 hi hz0 hz1 hz2
              go_wp2_with fail
              exact ⟨⟨b2, acc ++ [y], f - 1, by omega, by omega, by simp; omega, rfl, HS5, HB5, Lib.hid (by have := HEn.out; rw [show f - 1 + 1 = f by omega]; rwa [HA.out, List.append_nil] at this)⟩, by simp [Wp.B_size]; omega⟩
      · have hne : (Wp.B a).toList ≠ [] := by rw [Lib.toList_data]; simpa [Wp.B] using ha
        have q1 : ((Wp.B a).toList != ([] : List UInt8)) = true := bne_iff_ne.2 hne
        have q2 : ((Wp.B a).toList == ([] : List UInt8)) = false := beq_eq_false_iff_ne.2 hne
        have HA := Lib.hid (show Sc.pre a = [⟨1, Wp.B a, []⟩] by unfold Sc.pre; rw [if_neg ha])
        have hzs : (Wp.B a).size ≤ 140737488351232 := by rw [Wp.B_size]; omega
        have HCl := Lib.hid (vlClone_any (Wp.B a) w1 (by omega))
        have Hzs := Lib.hid hzs
        clear ha hne hzs
        go_wp2_with fail
        refine HCl.out.mono ?_
        rintro e w2 ⟨rfl, hb⟩
        have Hb12 := Lib.hid hb
        clear hb HCl
        obtain ⟨cs9, g91, g92, g93⟩ := HS1.out
        have HO9 := Lib.hid g91
        have HG9 := Lib.hid g93
        have HO9' := Lib.hid ((ownsRow_below HO9.out Hb12.out).alloc (.cells #[.int .u8 1, .string (Wp.B a), .slice none 0 0] 46))
        have HB9 := Lib.hid ((HB1.out.trans (Hb12.out.mono HB1.out.size)).alloc (by have := HB1.out.size; have := Hb12.out.size; omega) (.cells #[.int .u8 1, .string (Wp.B a), .slice none 0 0] 46))
        have Hnew := Lib.hid (Sc.three_of (Vl.new w2 (.cells #[.int .u8 1, .string (Wp.B a), .slice none 0 0] 46)))
        have Hn9 := Lib.hid (show ∀ j q, ([.int .u8 1, .string (Wp.B a), .slice none 0 0] : List Value)[j]? = some q → (w2.alloc (.cells #[.int .u8 1, .string (Wp.B a), .slice none 0 0] 46)).cell? ((⟨w2.heap.size, 0, none⟩ : Addr).add j) = some q from fun j q hq => by
          obtain ⟨n0, n1, n2⟩ := Hnew.out
          match j, hq with
          | 0, hq => cases hq; exact n0
          | 1, hq => cases hq; exact n1
          | 2, hq => cases hq; exact n2
          | j + 3, hq => simp at hq)
        clear g91 g92 g93 Hnew
        obtain ⟨i0, hi, hz0, hz1, hz2⟩ := Sc.infoTok
        
        go_wp2_with (at_builtin; refine Vl.listApp _ rfl _ _ 22 rfl w.heap.size 46 i0 _ 3 48 Tryz.underlying22 hi hz0 hz1 hz2 rfl (by decide) _ acc.length _ rfl HO9'.out ⟨w2.heap.size, 0, none⟩ 1 1 [.int .u8 1, .string (Wp.B a), .slice none 0 0] rfl rfl ?cp1 ?cp2 ?cp3 ?cp4 ?cp5 ?_)
        try case cp1 => exact Hn9.out
        case cp2 => first | (intro q hq; simp at hq; rcases hq with rfl | rfl | rfl <;> rfl) | (simp [Value.oneCell'])
        case cp3 => unfold maxLen; omega
        case cp4 => omega
        case cp5 => first | exact HB9.out.size | (have := HB9.out.size; rw [World.size_alloc] at this; exact this)
        intro v9 W9 hown9 hgrow9 hat9
        have HB2 := Lib.hid (below_grown5 HB9.out HO9'.out (Nat.le_refl _) hgrow9)
        have HS2 := Lib.hid (show Sc.OwnRow w.heap.size W9 v9 (acc ++ [(⟨1, Wp.B a, []⟩ : Sc.T)]).length (acc ++ [(⟨1, Wp.B a, []⟩ : Sc.T)]) by
          have := Sc.OwnRow.grow (y := (⟨1, Wp.B a, []⟩ : Sc.T)) rfl HO9.out HG9.out HB1.out.size Hb12.out rfl (Sc.Off.text _ _ _ _ Hzs.out) _ hown9 hgrow9 hat9
          rwa [List.length_append])
        clear hown9 hgrow9 hat9 HO9 HG9 HO9' HB9 Hn9 hi hz0 hz1 hz2
        have hlen2 : (acc ++ [(⟨1, Wp.B a, []⟩ : Sc.T)]).length ≤ acc.length + 1 := by simp
        obtain ⟨L2, hL2⟩ : ∃ L2, L2 = acc ++ [(⟨1, Wp.B a, []⟩ : Sc.T)] := ⟨_, rfl⟩
        rw [← hL2] at HS2 hlen2
        have HL := Lib.hid hL2
        clear hL2
        cases ff with
        | false =>
          have HRz := Lib.hid (show R = (L2, 0) by have := Sc.ans_end HE.out Hc1.out; rwa [HA.out, ← HL.out] at this)
          go_wp2_with fail
          have hR := HRz.out
          subst hR
          go_ret2
          exact ⟨_, rfl, HS2.out, HB2.out⟩
        | true =>
          have hl3 := (Sc.cut_lens Hc1.out).2.2 rfl
          have hbl : b.length ≤ 1024 := by have := (Sc.cut_lens Hc1.out).2.1; omega
          obtain ⟨⟨a2, b2, f2⟩, hc2⟩ : ∃ Q, Lib.cut b Sc.cc = Q := ⟨_, rfl⟩
          have hl4 := Sc.cut_lens hc2
          have HC2 := Lib.hid (scCut_any b ⟨#[125, 125]⟩ a2 b2 f2 hc2 W9 (by omega) (HM0.out.below HB2.out))
          have Hc2 := Lib.hid hc2
          clear hc2
          go_wp2_with fail
          refine HC2.out.mono ?_
          rintro e w3 ⟨rfl, hb⟩
          have HB3 := Lib.hid (HB2.out.trans (hb.mono HB2.out.size))
          have HS3 := Lib.hid (HS2.out.below hb)
          clear hb HC2
          have htg := scTag_any (Wp.B a2) w3 (by rw [Wp.B_size]; omega) (HT0.out.below HB3.out) (HM0.out.below HB3.out)
          rw [show (Wp.B a2).data.toList = a2 by simp [Wp.B]] at htg
          obtain ⟨o, ho⟩ : ∃ o, Sc.tagP a2 = o := ⟨_, rfl⟩
          rw [ho] at htg
          have HC3 := Lib.hid htg
          have Ho := Lib.hid ho
          clear htg ho
          go_wp2_with fail
          refine HC3.out.mono ?_
          rintro e w4 ⟨k4, t4, pn4, nn4, cn4, rfl, hoff, hb⟩
          have hal := (Below.refl w4.heap.size w4).alloc (Nat.le_refl _) (.cells #[.int .u8 k4, .string t4, .slice pn4 nn4 cn4] 46)
          have h34 := hb.trans (hal.mono hb.size)
          have HB4 := Lib.hid (HB3.out.trans (h34.mono HB3.out.size))
          have H34 := Lib.hid h34
          have HV4 := Lib.hid (Vl.new w4 (.cells #[.int .u8 k4, .string t4, .slice pn4 nn4 cn4] 46))
          have Hoff := Lib.hid (fun y h => (fun W' hW' => hoff y h W' (fun j q1 q2 q3 => (hW' j q1 (Nat.lt_of_lt_of_le q2 hal.size) q3).trans (hal.block j q2)) : Sc.Off w3.heap.size (w4.alloc (.cells #[.int .u8 k4, .string t4, .slice pn4 nn4 cn4] 46)) none (.agg #[.int .u8 k4, .string t4, .slice pn4 nn4 cn4]) y))
          clear hal h34 hoff hb HC3
          go_upto_region 11 with fail
          generalize (w4.alloc (.cells #[.int .u8 k4, .string t4, .slice pn4 nn4 cn4] 46)) = W4 at *
          cases f2 with
          | false =>
            have HRz := Lib.hid (Sc.ans_bad HE.out Hc1.out Hc2.out (Or.inl rfl))
            go_wp2_with fail
            have hR := HRz.out
            subst hR
            go_ret2
            exact ⟨_, rfl, Sc.OwnRow.nil _ _, HB4.out⟩
          | true =>
            cases o with
            | none =>
              have HRz := Lib.hid (Sc.ans_bad HE.out Hc1.out Hc2.out (Or.inr Ho.out))
              go_wp2_with fail
              have hR := HRz.out
              subst hR
              go_ret2
              exact ⟨_, rfl, Sc.OwnRow.nil _ _, HB4.out⟩
            | some y =>
              have hl5 := (Sc.cut_lens Hc2.out).2.2 rfl
              have hos : Sc.oo.length = 2 := rfl
              have hcs : Sc.cc.length = 2 := rfl
              have HEn := Lib.hid (Sc.ans_go HE.out Hc1.out Hc2.out Ho.out)
              have Hoy := Lib.hid (Hoff.out y rfl)
              obtain ⟨v0, v1, v2⟩ := Sc.three_of HV4.out
              clear Hoff HE
              obtain ⟨cs9, g91, g92, g93⟩ := HS3.out
              have HO9 := Lib.hid g91
              have HG9 := Lib.hid g93
              have HO9' := Lib.hid ((ownsRow_below HO9.out H34.out).alloc (.cells #[.int .u8 k4, .string t4, .slice pn4 nn4 cn4] 46))
              have HB9 := Lib.hid ((HB3.out.trans (H34.out.mono HB3.out.size)).alloc (by have := HB3.out.size; have := H34.out.size; omega) (.cells #[.int .u8 k4, .string t4, .slice pn4 nn4 cn4] 46))
              have Hnew := Lib.hid (Sc.three_of (Vl.new W4 (.cells #[.int .u8 k4, .string t4, .slice pn4 nn4 cn4] 46)))
              have Hn9 := Lib.hid (show ∀ j q, ([.int .u8 k4, .string t4, .slice pn4 nn4 cn4] : List Value)[j]? = some q → (W4.alloc (.cells #[.int .u8 k4, .string t4, .slice pn4 nn4 cn4] 46)).cell? ((⟨W4.heap.size, 0, none⟩ : Addr).add j) = some q from fun j q hq => by
                obtain ⟨n0, n1, n2⟩ := Hnew.out
                match j, hq with
                | 0, hq => cases hq; exact n0
                | 1, hq => cases hq; exact n1
                | 2, hq => cases hq; exact n2
                | j + 3, hq => simp at hq)
              clear g91 g92 g93 Hnew
              obtain ⟨i0, hi, hz0, hz1, hz2⟩ := Sc.infoTok
              
              go_wp2_with (at_builtin; refine Vl.listApp _ rfl _ _ 22 rfl w.heap.size 46 i0 _ 3 48 Tryz.underlying22 hi hz0 hz1 hz2 rfl (by decide) _ L2.length _ rfl HO9'.out ⟨W4.heap.size, 0, none⟩ 1 1 [.int .u8 k4, .string t4, .slice pn4 nn4 cn4] rfl rfl ?cn1 ?cn2 ?cn3 ?cn4 ?cn5 ?_)
              try case cn1 => exact Hn9.out
              case cn2 => first | (intro q hq; simp at hq; rcases hq with rfl | rfl | rfl <;> rfl) | (simp [Value.oneCell'])
              case cn3 => unfold maxLen; omega
              case cn4 => omega
              case cn5 => first | exact HB9.out.size | (have := HB9.out.size; rw [World.size_alloc] at this; exact this)
              intro v9 W9 hown9 hgrow9 hat9
              have HB5 := Lib.hid (below_grown5 HB9.out HO9'.out (Nat.le_refl _) hgrow9)
              have HS5 := Lib.hid (show Sc.OwnRow w.heap.size W9 v9 (L2 ++ [y]).length (L2 ++ [y]) by
                have := Sc.OwnRow.grow (y := y) rfl HO9.out HG9.out HB3.out.size H34.out rfl Hoy.out _ hown9 hgrow9 hat9
                rwa [List.length_append])
              clear hown9 hgrow9 hat9 HO9 HG9 HO9' HB9 Hn9 hi hz0 hz1 hz2
              go_wp2_with fail
              exact ⟨⟨b2, L2 ++ [y], f - 1, by omega, by omega, by simp; omega, rfl, HS5, HB5, Lib.hid (by have := HEn.out; rw [show f - 1 + 1 = f by omega]; rwa [HA.out, ← HL.out] at this)⟩, by simp [Wp.B_size]; omega⟩
end Go.Proofs.YteajjlilpikdeaaGreatDoor
