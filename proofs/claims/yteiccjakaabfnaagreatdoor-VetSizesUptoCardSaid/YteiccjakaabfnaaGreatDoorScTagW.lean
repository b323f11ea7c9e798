
/-
  The walk of scan's tag. Conditions: the words' table reads as it is laid, the search's limit is set; the text is of a size that a path's word may have.
-/
import Derived.Test.YteiccjakaabfnaaGreatDoorZ48
import Derived.Test.YteiccjakaabfnaaGreatDoorScMath
namespace Go.Proofs.YteiccjakaabfnaaGreatDoor
open Go.RowKit Go.Shelf

/-- What a tag's walk hands back. -/
def Sc.TagPost (o : Option Sc.T) (w : World) (e : Ending) (w' : World) : Prop := ∃ (k : Nat) (t : ByteArray) (pn : Option Addr) (nn cn : Nat), e = .returned (.tuple #[.agg #[.int .u8 k, .string t, .slice pn nn cn], .bool o.isSome]) ∧ (∀ y, o = some y → Sc.Off w.heap.size w' none (.agg #[.int .u8 k, .string t, .slice pn nn cn]) y) ∧ Below w.heap.size w w'
theorem scSpace_pred (w : World) : PredAt Tryz.prog 185 #[] encR (fun x => decide (x = 32)) w := fun W r _ => by
  unfold FnGives
  by_cases h : r = 32
  · subst h
    go_enter Tryz.func185, Tryz.ntmps185
    go_wp2_with fail
    go_ret
    exact ⟨rfl, 0, rfl⟩
  · have q : ((r : Int) == 32) = false := beq_eq_false_iff_ne.2 (by omega)
    go_enter Tryz.func185, Tryz.ntmps185
    go_wp2_with fail
    go_ret
    exact ⟨by simp [h], 0, rfl⟩
theorem Sc.tagW_var {k : List UInt8} {r : List (List UInt8)} (hk : Sc.kindW k = 2) : Sc.tagW (k :: r) = if r.length = 0 then (Sc.pathP k).map fun p => ⟨2, ⟨#[]⟩, p⟩ else none := by
  have hn : k ≠ Sc.wIf ∧ k ≠ Sc.wElse ∧ k ≠ Sc.wEach ∧ k ≠ Sc.wEnd := by
    refine ⟨?_, ?_, ?_, ?_⟩ <;> (intro e; subst e; revert hk; decide)
  obtain ⟨h1, h2, h3, h4⟩ := hn
  match r with
  | [] => simp [Sc.tagW, h2, h4]
  | [a] => simp [Sc.tagW, h1, h3]
  | a :: b :: r => simp [Sc.tagW]
theorem Sc.path_kw {k : List UInt8} (hk : Sc.kindW k ≠ 2) (hd : Sc.splitP 46 k = [k]) : Sc.pathP k = none := by
  unfold Sc.pathP Sc.pathOk
  rw [hd]
  simp [hk]
theorem Sc.kind_cases (k : List UInt8) : Sc.kindW k = 2 ∨ (k = Sc.wIf ∧ Sc.kindW k = 3) ∨ (k = Sc.wElse ∧ Sc.kindW k = 4) ∨ (k = Sc.wEach ∧ Sc.kindW k = 5) ∨ (k = Sc.wEnd ∧ Sc.kindW k = 6) := by
  by_cases h3 : k = Sc.wIf
  · subst h3; right; left; exact ⟨rfl, by decide⟩
  by_cases h4 : k = Sc.wElse
  · subst h4; right; right; left; exact ⟨rfl, by decide⟩
  by_cases h5 : k = Sc.wEach
  · subst h5; right; right; right; left; exact ⟨rfl, by decide⟩
  by_cases h6 : k = Sc.wEnd
  · subst h6; right; right; right; right; exact ⟨rfl, by decide⟩
  left
  unfold Sc.kindW
  rw [if_neg h3, if_neg h4, if_neg h5, if_neg h6]
theorem Sc.tagW_path {k : List UInt8} {r : List (List UInt8)} (hk : Sc.kindW k ≠ 2) (hp : Sc.hasP (Sc.kindW k) = true) : Sc.tagW (k :: r) = if r.length = 1 then (Sc.pathP (r.headD [])).map fun p => ⟨Sc.kindW k, ⟨#[]⟩, p⟩ else none := by
  rcases Sc.kind_cases k with h | ⟨rfl, h⟩ | ⟨rfl, h⟩ | ⟨rfl, h⟩ | ⟨rfl, h⟩
  · exact absurd h hk
  · rw [h]
    match r with
    | [] => simp only [Sc.tagW]; rw [if_neg (by decide), if_neg (by decide), Sc.path_kw hk (by decide)]; rfl
    | [a] => simp [Sc.tagW]
    | a :: b :: r => simp [Sc.tagW]
  · rw [h] at hp; exact absurd hp (by decide)
  · rw [h]
    match r with
    | [] => simp only [Sc.tagW]; rw [if_neg (by decide), if_neg (by decide), Sc.path_kw hk (by decide)]; rfl
    | [a] => simp only [Sc.tagW]; rw [if_neg (by decide)]; rfl
    | a :: b :: r => simp [Sc.tagW]
  · rw [h] at hp; exact absurd hp (by decide)
theorem Sc.tagW_word {k : List UInt8} {r : List (List UInt8)} (hk : Sc.kindW k ≠ 2) (hp : Sc.hasP (Sc.kindW k) = false) : Sc.tagW (k :: r) = if r.length = 0 then some ⟨Sc.kindW k, ⟨#[]⟩, []⟩ else none := by
  rcases Sc.kind_cases k with h | ⟨rfl, h⟩ | ⟨rfl, h⟩ | ⟨rfl, h⟩ | ⟨rfl, h⟩
  · exact absurd h hk
  · rw [h] at hp; exact absurd hp (by decide)
  · rw [h]
    match r with
    | [] => simp [Sc.tagW]
    | [a] => simp only [Sc.tagW]; rw [if_neg (by decide), if_neg (by decide)]; rfl
    | a :: b :: r => simp [Sc.tagW]
  · rw [h] at hp; exact absurd hp (by decide)
  · rw [h]
    match r with
    | [] => simp only [Sc.tagW]; rw [if_neg (by decide)]; rfl
    | [a] => simp only [Sc.tagW]; rw [if_neg (by decide), if_neg (by decide)]; rfl
    | a :: b :: r => simp [Sc.tagW]
theorem Sc.words_size (l : List UInt8) : ∀ x ∈ Sc.wordsP l, x.length ≤ l.length := by
  intro x hx
  have h := Sc.words_len l []
  unfold Sc.wordsP at hx
  have h2 : x.length ≤ ((Sc.wordsGo [] l).map List.length).sum := by
    generalize Sc.wordsGo [] l = L at hx
    clear h
    induction L with
    | nil => cases hx
    | cons a t ih =>
      rcases List.mem_cons.1 hx with rfl | hx
      · simp
      · have := ih hx; simp; omega
  have h3 : 1 ≤ (Sc.wordsGo [] l).length := List.length_pos_iff.2 (List.ne_nil_of_mem hx)
  simp at h
  omega
/-- The walk --/
theorem Sc.keepBox {W W' : World} {b : Nat} {o : Obj} (h : W.heap[b]? = some o) (hb : Below W.heap.size W W') : W'.heap[b]? = some o := (hb.block b (Array.getElem?_eq_some_iff.1 h).1).trans h
theorem Sc.word_cell {B : Nat} {W : World} {A n c : Nat} {l : List ByteArray} (h : W.ownsRow B 9 1 (.slice (some ⟨A, 0, none⟩) n c) n (l.map Value.string)) (hn : n = l.length) (i : Nat) (hi : i < l.length) : W.cell? ⟨A, i, none⟩ = some (.string l[i]) := by
  subst hn
  obtain ⟨p, c, he, hat⟩ := owns_at (mk := Wp.mkT) h
  cases he
  obtain ⟨b, o, e, hc⟩ := hat.get i hi
  cases e
  rw [Nat.zero_add] at hc
  exact hc
theorem Sc.path_fits (l : List UInt8) (h : l.length ≤ 3000000) : (Sc.pathR l).1.length ≤ 4 ∧ ∀ x ∈ (Sc.pathR l).1, x.size ≤ 140737488351232 := by
  unfold Sc.pathR Sc.pathP
  by_cases hp : Sc.pathOk (Sc.splitP 46 l) = true
  · rw [if_pos hp]
    refine ⟨?_, fun x hx => ?_⟩
    · have h2 := hp
      unfold Sc.pathOk at h2
      simp only [Bool.and_eq_true, decide_eq_true_eq] at h2
      simp only [List.length_map]
      exact h2.1.1.2
    · obtain ⟨y, hy, rfl⟩ := List.mem_map.1 hx
      have := Sc.split_len 46 l y hy
      rw [Wp.B_size]
      omega
  · rw [if_neg hp]
    exact ⟨Nat.zero_le _, fun x hx => by cases hx⟩
set_option maxRecDepth 100000 in
set_option maxHeartbeats 4000000 in
theorem scTag_any (s : ByteArray) (w : World) (hs : s.size ≤ 3000000) (hT : Sc.Laid w) (hM : Sc.MaxLen w) :
    Calls Tryz.prog 117 #[.string s] w (Sc.TagPost (Sc.tagP s.data.toList) w) := by
  have hf := Tryz.strings_FieldsFunc 185 #[] (enters_of Tryz.func185 (by kernel_rfl) rfl) (fun x => decide (x = 32)) s (w.alloc (.cells #[.int .u8 0, .string ⟨#[]⟩, .slice none 0 0] 110)) (by omega) (scSpace_pred _)
  rw [Sc.fields_words, List.length_map] at hf
  have hsz := Sc.words_size s.data.toList
  have hwl := Sc.words_len s.data.toList []
  obtain ⟨T, hTT⟩ : ∃ T, T = Sc.tagP s.data.toList := ⟨_, rfl⟩
  rw [← hTT]
  unfold Sc.tagP at hTT
  have hws : (Sc.wordsP s.data.toList).length ≤ 3000001 := by
    unfold Sc.wordsP
    have := Wp.size_len s
    simp at hwl
    omega
  have HSz := Lib.hid (show ∀ x ∈ Sc.wordsP s.data.toList, x.length ≤ 3000000 from fun x hx => by have := hsz x hx; have := Wp.size_len s; omega)
  generalize Sc.wordsP s.data.toList = ws at *
  have HF := Lib.hid hf
  have HTT := Lib.hid hTT
  have HB0 := Lib.hid ((Below.refl w.heap.size w).alloc (Nat.le_refl _) (.cells #[.int .u8 0, .string ⟨#[]⟩, .slice none 0 0] 110))
  have HR0 := Lib.hid (Vl.new w (.cells #[.int .u8 0, .string ⟨#[]⟩, .slice none 0 0] 110))
  have HT0 := Lib.hid hT
  have HM0 := Lib.hid hM
  clear hf hTT hsz hwl hT hM
  go_enter Tryz.func117, Tryz.ntmps117
  go_wp2_with fail
  refine HF.out.mono ?_
  rintro e w1 ⟨A, rfl, hA, hO, hb⟩
  have HR1 := Lib.hid (Sc.keepBox HR0.out hb)
  have HB1 := Lib.hid (HB0.out.trans (hb.mono HB0.out.size))
  have HO := Lib.hid hO
  have hsz1 : w.heap.size < w1.heap.size := by have := hb.size; simp at this; omega
  clear hb hO HF HR0 HB0
  cases ws with
  | nil =>
    have HTz := Lib.hid (show T = none from HTT.out)
    have HR2 := HR1
    have HB2 := HB1
    clear HO
    obtain ⟨r0, r1, r2⟩ := Sc.three_of HR2.out
    obtain ⟨n0, n1, n2⟩ := Sc.threeF_of HR2.out
    go_wp2_with fail
    refine bodyPost_ret (Vl.ret2 rfl _ _ w.heap.size 110 _ _ rfl (Sc.set3 HR2.out _ _ _) Tryz.underlying110 rfl (by kernel_rfl)) rfl ?_
    have hT := HTz.out
    subst hT
    exact ⟨0, _, _, _, _, rfl, (fun y h => by cases h), below_grownBy HB2.out (Sc.set3_grown _ _ _ _ _) (by omega) HB2.out.size⟩
  | cons k r =>
    have hc0 := Sc.word_cell HO.out (by simp) 0 (by simp)
    rw [show ((k :: r).map Wp.B)[0]'(by simp) = Wp.B k from rfl] at hc0
    have hkk := scKindOf_any (Wp.B k) w1 (HT0.out.below HB1.out)
    rw [show (Wp.B k).data.toList = k by simp [Wp.B]] at hkk
    have HK := Lib.hid hkk
    obtain ⟨K, hK⟩ : ∃ K, K = Sc.kindW k := ⟨_, rfl⟩
    rw [← hK] at HK
    have HKe := Lib.hid hK
    have hK6 : K ≤ 6 := by rw [hK]; exact Sc.kindW_le k
    have hAs := hA
    have hd0 := hc0
    obtain ⟨n, hn⟩ : ∃ n, n = (k :: r).length := ⟨_, rfl⟩
    rw [← hn] at hws
    have hn1 : 1 ≤ n := by rw [hn]; simp
    rw [← hn] at HO
    rw [← hn]
    have HN := Lib.hid hn
    have hk0 : (0 : Int) < (n : Int) := by omega
    have qn : ((n : Int) == 0) = false := beq_eq_false_iff_ne.2 (by omega)
    clear hkk hK hn
    go_wp2_with fail
    refine HK.out.mono ?_
    rintro e w1' ⟨rfl, rfl⟩
    have hal := (Below.refl w1'.heap.size w1').alloc (Nat.le_refl _) (.cells #[.int .u8 K, .string ⟨#[]⟩, .slice none 0 0] 110)
    have HV2 := Lib.hid (Vl.new w1' (.cells #[.int .u8 K, .string ⟨#[]⟩, .slice none 0 0] 110))
    have HR2 := Lib.hid ((Vl.past w1' (.cells #[.int .u8 K, .string ⟨#[]⟩, .slice none 0 0] 110) w.heap.size hsz1).trans HR1.out)
    have HB2 := Lib.hid (HB1.out.trans (hal.mono HB1.out.size))
    have HO2 := Lib.hid (ownsRow_below HO.out hal)
    have HT2 := Lib.hid (HT0.out.below HB2.out)
    have HM2 := Lib.hid (HM0.out.below HB2.out)
    clear hal HO HR1 HB1 hc0 hd0 hA hAs HK HT0 HM0
    go_upto_region 5 with fail
    generalize hW2 : (w1'.alloc (.cells #[.int .u8 K, .string ⟨#[]⟩, .slice none 0 0] 110)) = W2 at *
    have hsz2 : w1'.heap.size < W2.heap.size := by rw [← hW2]; simp
    clear hW2
    generalize w1'.heap.size = bv at *
    have HP := Lib.hid (scHasPath_any K W2)
    by_cases h2 : K = 2
    · subst h2
      rw [show Sc.hasP 2 = true from rfl] at HP
      obtain ⟨t0, t1, t2⟩ := Sc.three_of HV2.out
      go_wp2_with fail
      refine HP.out.mono ?_
      rintro e W2 ⟨rfl, rfl⟩
      clear HP
      match r, HO2, HN, HTT, HSz, HKe with
      | [], HO2, HN, HTT, HSz, HKe =>
        obtain rfl : n = 1 := HN.out
        have hd0 := Sc.word_cell HO2.out rfl 0 (by simp)
        rw [show ([k].map Wp.B)[0]'(by simp) = Wp.B k from rfl] at hd0
        have HC := Lib.hid (show Calls Tryz.prog 43 #[.string (Wp.B k)] W2 (Sc.PathPost (Sc.pathR k) W2) from by
          have := scPath_any (Wp.B k) W2 (by rw [Wp.B_size]; exact HSz.out k (by simp)) HT2.out HM2.out
          rwa [show (Wp.B k).data.toList = k by simp [Wp.B]] at this)
        obtain ⟨⟨ps, pc⟩, hQ⟩ : ∃ Q, Q = Sc.pathR k := ⟨_, rfl⟩
        rw [← hQ] at HC
        have HTz : Hid ((pc = 0 ∧ T = some ⟨2, ⟨#[]⟩, ps⟩ ∧ ps.length ≤ 4 ∧ ∀ x ∈ ps, x.size ≤ 140737488351232) ∨ (pc = 13 ∧ T = none)) := Lib.hid (by
          have hpf := Sc.path_fits k (HSz.out k (by simp))
          have e := HTT.out.trans ((Sc.tagW_var HKe.out.symm).trans (if_pos rfl))
          rw [← hQ] at hpf
          unfold Sc.pathR at hQ
          cases hp : Sc.pathP k with
          | none => rw [hp] at hQ e; exact Or.inr ⟨congrArg Prod.snd hQ, e⟩
          | some q =>
            rw [hp] at hQ e
            have h1 := congrArg Prod.fst hQ
            have h2 := congrArg Prod.snd hQ
            simp only at h1 h2
            subst h1
            exact Or.inl ⟨h2, e, hpf.1, hpf.2⟩)
        clear hQ
        go_wp2_with fail
        refine HC.out.mono ?_
        rintro e w4 ⟨pp, pcap, rfl, hcp, hoff, hb⟩
        have HCp := Lib.hid hcp
        clear hcp
        have HR4 := Lib.hid (Sc.keepBox HR2.out hb)
        have HV4 := Lib.hid (Sc.keepBox HV2.out hb)
        have HB4 := Lib.hid (HB2.out.trans (hb.mono HB2.out.size))
        have HF4 := Lib.hid hoff
        have hlt4 : W2.heap.size ≤ w4.heap.size := hb.size
        clear hoff hb HC HR2 HV2 HB2
        obtain ⟨r0, r1, r2⟩ := Sc.three_of HR4.out
        obtain ⟨n0, n1, n2⟩ := Sc.threeF_of HR4.out
        obtain ⟨t0, t1, t2⟩ := Sc.three_of HV4.out
        obtain ⟨u0, u1, u2⟩ := Sc.threeF_of HV4.out
        rcases HTz.out with ⟨rfl, hT, hp4, hpz⟩ | ⟨rfl, hT⟩
        · have HTz2 := Lib.hid hT
          have Hp4 := Lib.hid hp4
          have Hpz := Lib.hid hpz
          clear hT hp4 hpz HTz
          have HR5 := Lib.hid ((Below.heap_setCell w4 ⟨bv, 2, none⟩ (.slice pp ps.length pcap) w.heap.size (by show w.heap.size ≠ bv; omega)).trans HR4.out)
          have HB5 := Lib.hid (HB4.out.setCell (p := ⟨bv, 2, none⟩) (by show w.heap.size ≤ bv; omega) (.slice pp ps.length pcap))
          have hsz5 : (w4.setCell ⟨bv, 2, none⟩ (.slice pp ps.length pcap)).heap.size = w4.heap.size := World.size_setCell _ _ _
          go_wp2_with fail
          refine bodyPost_ret (Vl.ret2 rfl _ _ w.heap.size 110 _ _ rfl (Sc.set3 HR5.out _ _ _) Tryz.underlying110 rfl (by kernel_rfl)) rfl ?_
          have hT := HTz2.out
          subst hT
          refine ⟨2, _, _, _, _, rfl, (fun y h => ?_), below_grownBy HB5.out (Sc.set3_grown _ _ _ _ _) (by omega) HB5.out.size⟩
          cases h
          refine fun W' hW' => ⟨pp, pcap, rfl, ⟨⟨(by show 2 ≤ 255; omega), HCp.out⟩, (by show (0 : Nat) ≤ _; omega), (by show ps.length ≤ _; have := Hp4.out; omega), Hpz.out⟩, HF4.out W' (fun j h1 h2 => ?_)⟩
          rw [hW' j (by omega) (by rw [Sc.set3_size, hsz5]; exact h2) (by simp), Sc.set3_rest _ _ _ _ _ j (by omega), Below.heap_setCell _ _ _ j (by show j ≠ bv; omega)]
        · have HTz2 := Lib.hid hT
          clear hT HTz
          have HR5 := Lib.hid ((Below.heap_setCell w4 ⟨bv, 2, none⟩ (.slice pp ps.length pcap) w.heap.size (by show w.heap.size ≠ bv; omega)).trans HR4.out)
          have HB5 := Lib.hid (HB4.out.setCell (p := ⟨bv, 2, none⟩) (by show w.heap.size ≤ bv; omega) (.slice pp ps.length pcap))
          go_wp2_with fail
          refine bodyPost_ret (Vl.ret2 rfl _ _ w.heap.size 110 _ _ rfl (Sc.set3 HR5.out _ _ _) Tryz.underlying110 rfl (by kernel_rfl)) rfl ?_
          have hT := HTz2.out
          subst hT
          exact ⟨2, _, _, _, _, rfl, (fun y h => by cases h), below_grownBy HB5.out (Sc.set3_grown _ _ _ _ _) (by omega) HB5.out.size⟩
      | a :: r', HO2, HN, HTT, HSz, HKe =>
        have hn2 : 2 ≤ n := by rw [HN.out]; simp
        have qn2 : ((n : Int) == 1) = false := beq_eq_false_iff_ne.2 (by omega)
        have qn3 : ((n : Int) != 1) = true := bne_iff_ne.2 (by omega)
        have HTz := Lib.hid (show T = none by rw [HTT.out, Sc.tagW_var HKe.out.symm]; rfl)
        obtain ⟨r0, r1, r2⟩ := Sc.three_of HR2.out
        obtain ⟨n0, n1, n2⟩ := Sc.threeF_of HR2.out
        go_wp2_with fail
        refine bodyPost_ret (Vl.ret2 rfl _ _ w.heap.size 110 _ _ rfl (Sc.set3 HR2.out _ _ _) Tryz.underlying110 rfl (by kernel_rfl)) rfl ?_
        have hT := HTz.out
        subst hT
        exact ⟨0, _, _, _, _, rfl, (fun y h => by cases h), below_grownBy HB2.out (Sc.set3_grown _ _ _ _ _) (by omega) HB2.out.size⟩
    · have q2 : ((K : Int) == 2) = false := beq_eq_false_iff_ne.2 (by omega)
      have q3 : ((K : Int) != 2) = true := bne_iff_ne.2 (by omega)
      obtain ⟨t0, t1, t2⟩ := Sc.three_of HV2.out
      have h1n : (1 : Int) ≤ (n : Int) := by omega
      cases hP : Sc.hasP K with
      | true =>
        rw [hP] at HP
        match r, HO2, HN, HTT, HSz, HKe with
        | [], HO2, HN, HTT, HSz, HKe =>
          obtain rfl : n = 1 := HN.out
          clear HO2
          go_wp2_with fail
          refine HP.out.mono ?_
          rintro e W2 ⟨rfl, rfl⟩
          clear HP
          have HTz := Lib.hid (show T = none by rw [HTT.out, Sc.tagW_path (by rw [← HKe.out]; exact h2) (by rw [← HKe.out]; exact hP)]; rfl)
          obtain ⟨r0, r1, r2⟩ := Sc.three_of HR2.out
          obtain ⟨n0, n1, n2⟩ := Sc.threeF_of HR2.out
          go_wp2_with fail
          refine bodyPost_ret (Vl.ret2 rfl _ _ w.heap.size 110 _ _ rfl (Sc.set3 HR2.out _ _ _) Tryz.underlying110 rfl (by kernel_rfl)) rfl ?_
          have hT := HTz.out
          subst hT
          exact ⟨0, _, _, _, _, rfl, (fun y h => by cases h), below_grownBy HB2.out (Sc.set3_grown _ _ _ _ _) (by omega) HB2.out.size⟩
        | [a], HO2, HN, HTT, HSz, HKe =>
          obtain rfl : n = 2 := HN.out
          have hd1 := Sc.word_cell HO2.out rfl 1 (by simp)
          rw [show ([k, a].map Wp.B)[1]'(by simp) = Wp.B a from rfl] at hd1
          go_wp2_with fail
          refine HP.out.mono ?_
          rintro e W2 ⟨rfl, rfl⟩
          clear HP
          have HC := Lib.hid (show Calls Tryz.prog 43 #[.string (Wp.B a)] W2 (Sc.PathPost (Sc.pathR a) W2) from by
            have := scPath_any (Wp.B a) W2 (by rw [Wp.B_size]; exact HSz.out a (by simp)) HT2.out HM2.out
            rwa [show (Wp.B a).data.toList = a by simp [Wp.B]] at this)
          obtain ⟨⟨ps, pc⟩, hQ⟩ : ∃ Q, Q = Sc.pathR a := ⟨_, rfl⟩
          rw [← hQ] at HC
          have HTz : Hid ((pc = 0 ∧ T = some ⟨K, ⟨#[]⟩, ps⟩ ∧ ps.length ≤ 4 ∧ ∀ x ∈ ps, x.size ≤ 140737488351232) ∨ (pc = 13 ∧ T = none)) := Lib.hid (by
            have hpf := Sc.path_fits a (HSz.out a (by simp))
            have e := (show T = (Sc.pathP a).map fun p => ⟨K, ⟨#[]⟩, p⟩ from (HTT.out.trans ((Sc.tagW_path (by rw [← HKe.out]; exact h2) (by rw [← HKe.out]; exact hP)).trans (if_pos rfl))).trans (by rw [← HKe.out]; rfl))
            rw [← hQ] at hpf
            unfold Sc.pathR at hQ
            cases hp : Sc.pathP a with
            | none => rw [hp] at hQ e; exact Or.inr ⟨congrArg Prod.snd hQ, e⟩
            | some q =>
              rw [hp] at hQ e
              have h1 := congrArg Prod.fst hQ
              have h2 := congrArg Prod.snd hQ
              simp only at h1 h2
              subst h1
              exact Or.inl ⟨h2, e, hpf.1, hpf.2⟩)
          clear hQ
          go_wp2_with fail
          refine HC.out.mono ?_
          rintro e w4 ⟨pp, pcap, rfl, hcp, hoff, hb⟩
          have HCp := Lib.hid hcp
          clear hcp
          have HR4 := Lib.hid (Sc.keepBox HR2.out hb)
          have HV4 := Lib.hid (Sc.keepBox HV2.out hb)
          have HB4 := Lib.hid (HB2.out.trans (hb.mono HB2.out.size))
          have HF4 := Lib.hid hoff
          have hlt4 : W2.heap.size ≤ w4.heap.size := hb.size
          clear hoff hb HC HR2 HV2 HB2
          obtain ⟨r0, r1, r2⟩ := Sc.three_of HR4.out
          obtain ⟨n0, n1, n2⟩ := Sc.threeF_of HR4.out
          obtain ⟨t0, t1, t2⟩ := Sc.three_of HV4.out
          obtain ⟨u0, u1, u2⟩ := Sc.threeF_of HV4.out
          rcases HTz.out with ⟨rfl, hT, hp4, hpz⟩ | ⟨rfl, hT⟩
          · have HTz2 := Lib.hid hT
            have Hp4 := Lib.hid hp4
            have Hpz := Lib.hid hpz
            clear hT hp4 hpz HTz
            have HR5 := Lib.hid ((Below.heap_setCell w4 ⟨bv, 2, none⟩ (.slice pp ps.length pcap) w.heap.size (by show w.heap.size ≠ bv; omega)).trans HR4.out)
            have HB5 := Lib.hid (HB4.out.setCell (p := ⟨bv, 2, none⟩) (by show w.heap.size ≤ bv; omega) (.slice pp ps.length pcap))
            have hsz5 : (w4.setCell ⟨bv, 2, none⟩ (.slice pp ps.length pcap)).heap.size = w4.heap.size := World.size_setCell _ _ _
            go_wp2_with fail
            refine bodyPost_ret (Vl.ret2 rfl _ _ w.heap.size 110 _ _ rfl (Sc.set3 HR5.out _ _ _) Tryz.underlying110 rfl (by kernel_rfl)) rfl ?_
            have hT := HTz2.out
            subst hT
            refine ⟨K, _, _, _, _, rfl, (fun y h => ?_), below_grownBy HB5.out (Sc.set3_grown _ _ _ _ _) (by omega) HB5.out.size⟩
            cases h
            refine fun W' hW' => ⟨pp, pcap, rfl, ⟨⟨(by show K ≤ 255; omega), HCp.out⟩, (by show (0 : Nat) ≤ _; omega), (by show ps.length ≤ _; have := Hp4.out; omega), Hpz.out⟩, HF4.out W' (fun j h1 h2 => ?_)⟩
            rw [hW' j (by omega) (by rw [Sc.set3_size, hsz5]; exact h2) (by simp), Sc.set3_rest _ _ _ _ _ j (by omega), Below.heap_setCell _ _ _ j (by show j ≠ bv; omega)]
          · have HTz2 := Lib.hid hT
            clear hT HTz
            have HR5 := Lib.hid ((Below.heap_setCell w4 ⟨bv, 2, none⟩ (.slice pp ps.length pcap) w.heap.size (by show w.heap.size ≠ bv; omega)).trans HR4.out)
            have HB5 := Lib.hid (HB4.out.setCell (p := ⟨bv, 2, none⟩) (by show w.heap.size ≤ bv; omega) (.slice pp ps.length pcap))
            go_wp2_with fail
            refine bodyPost_ret (Vl.ret2 rfl _ _ w.heap.size 110 _ _ rfl (Sc.set3 HR5.out _ _ _) Tryz.underlying110 rfl (by kernel_rfl)) rfl ?_
            have hT := HTz2.out
            subst hT
            exact ⟨K, _, _, _, _, rfl, (fun y h => by cases h), below_grownBy HB5.out (Sc.set3_grown _ _ _ _ _) (by omega) HB5.out.size⟩
        | a :: b :: r', HO2, HN, HTT, HSz, HKe =>
          have hn2 : 3 ≤ n := by rw [HN.out]; simp
          clear HO2
          go_wp2_with fail
          refine HP.out.mono ?_
          rintro e W2 ⟨rfl, rfl⟩
          clear HP
          have HTz := Lib.hid (show T = none by rw [HTT.out, Sc.tagW_path (by rw [← HKe.out]; exact h2) (by rw [← HKe.out]; exact hP)]; rfl)
          obtain ⟨r0, r1, r2⟩ := Sc.three_of HR2.out
          obtain ⟨n0, n1, n2⟩ := Sc.threeF_of HR2.out
          go_wp2_with fail
          refine bodyPost_ret (Vl.ret2 rfl _ _ w.heap.size 110 _ _ rfl (Sc.set3 HR2.out _ _ _) Tryz.underlying110 rfl (by kernel_rfl)) rfl ?_
          have hT := HTz.out
          subst hT
          exact ⟨0, _, _, _, _, rfl, (fun y h => by cases h), below_grownBy HB2.out (Sc.set3_grown _ _ _ _ _) (by omega) HB2.out.size⟩
      | false =>
        rw [hP] at HP
        match r, HO2, HN, HTT, HSz, HKe with
        | [], HO2, HN, HTT, HSz, HKe =>
          obtain rfl : n = 1 := HN.out
          clear HO2
          go_wp2_with fail
          refine HP.out.mono ?_
          rintro e W2 ⟨rfl, rfl⟩
          clear HP
          have HTz := Lib.hid (show T = some ⟨K, ⟨#[]⟩, []⟩ by rw [HTT.out, Sc.tagW_word (by rw [← HKe.out]; exact h2) (by rw [← HKe.out]; exact hP), ← HKe.out]; rfl)
          obtain ⟨r0, r1, r2⟩ := Sc.three_of HR2.out
          obtain ⟨n0, n1, n2⟩ := Sc.threeF_of HR2.out
          go_wp2_with fail
          refine bodyPost_ret (Vl.ret2 rfl _ _ w.heap.size 110 _ _ rfl (Sc.set3 HR2.out _ _ _) Tryz.underlying110 rfl (by kernel_rfl)) rfl ?_
          have hT := HTz.out
          subst hT
          refine ⟨K, _, _, _, _, rfl, (fun y h => ?_), below_grownBy HB2.out (Sc.set3_grown _ _ _ _ _) (by omega) HB2.out.size⟩
          cases h
          exact fun W' hW' => ⟨none, 0, rfl, ⟨⟨(by show K ≤ 255; omega), Nat.le_refl 0⟩, (by show (0 : Nat) ≤ _; omega), (by show (0 : Nat) ≤ _; omega), (fun x hx => by cases hx)⟩, Or.inl rfl⟩
        | a :: r', HO2, HN, HTT, HSz, HKe =>
          have hn2 : 2 ≤ n := by rw [HN.out]; simp
          have qn4 : (((n - 1 : Nat) : Int) == 0) = false := beq_eq_false_iff_ne.2 (by omega)
          clear HO2
          go_wp2_with fail
          refine HP.out.mono ?_
          rintro e W2 ⟨rfl, rfl⟩
          clear HP
          have HTz := Lib.hid (show T = none by rw [HTT.out, Sc.tagW_word (by rw [← HKe.out]; exact h2) (by rw [← HKe.out]; exact hP), ← HKe.out]; rfl)
          obtain ⟨r0, r1, r2⟩ := Sc.three_of HR2.out
          obtain ⟨n0, n1, n2⟩ := Sc.threeF_of HR2.out
          go_wp2_with fail
          refine bodyPost_ret (Vl.ret2 rfl _ _ w.heap.size 110 _ _ rfl (Sc.set3 HR2.out _ _ _) Tryz.underlying110 rfl (by kernel_rfl)) rfl ?_
          have hT := HTz.out
          subst hT
          exact ⟨K, _, _, _, _, rfl, (fun y h => by cases h), below_grownBy HB2.out (Sc.set3_grown _ _ _ _ _) (by omega) HB2.out.size⟩
end Go.Proofs.YteiccjakaabfnaaGreatDoor
