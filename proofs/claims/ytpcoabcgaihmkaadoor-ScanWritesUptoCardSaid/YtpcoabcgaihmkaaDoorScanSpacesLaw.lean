/-
  The law ScanSpaces: whatever the path, the kind and the gaps, it hands back true. Conditions: a path's names are of a size that a machine holds; the words' table reads as it is laid, the search's limit is set.
-/
import Derived.Test.YtpcoabcgaihmkaaDoorScLives
import Derived.Test.YtpcoabcgaihmkaaDoorScSameW
namespace Go.Proofs.YtpcoabcgaihmkaaDoor
open Go.RowKit Go.Shelf

namespace Sc
def sp (n : Nat) : List UInt8 := List.replicate n 32
theorem join_snoc : ∀ (p : List ByteArray) (x : ByteArray), p ≠ [] → joinP (p ++ [x]) = joinP p ++ 46 :: x.data.toList
  | [], _, h => absurd rfl h
  | [a], x, _ => by simp [joinP]
  | a :: b :: r, x, _ => by
    have := join_snoc (b :: r) x (by simp)
    rw [List.cons_append, List.cons_append, joinP, joinP, ← List.cons_append, this]
    simp
theorem join_take (p : List ByteArray) (k : Nat) (h : k < p.length) : joinP (p.take (k + 1)) = if k = 0 then p[k].data.toList else joinP (p.take k) ++ 46 :: p[k].data.toList := by
  rw [List.take_succ_eq_append_getElem h]
  by_cases h0 : k = 0
  · subst h0; simp [joinP]
  · rw [if_neg h0, join_snoc _ _ (by intro e; have := congrArg List.length e; rw [List.length_take, List.length_nil] at this; omega)]
theorem join_take_len (p : List ByteArray) (hp : ∀ n ∈ p, Vl.nameL n.data.toList = true) : ∀ k, k ≤ p.length → (joinP (p.take k)).length ≤ 33 * k := by
  intro k
  induction k with
  | zero => intro _; simp [joinP]
  | succ k ih =>
    intro hk
    have h1 := ih (by omega)
    have h2 := hp _ (List.getElem_mem (show k < p.length by omega))
    unfold Vl.nameL at h2
    simp only [Bool.and_eq_true, decide_eq_true_eq] at h2
    rw [join_take p k (by omega)]
    split
    · omega
    · rw [List.length_append, List.length_cons]; omega
/-- What stands within a tag, with gaps. -/
def within (K a b c : Nat) (p : List ByteArray) : List UInt8 :=
  if K = 3 then sp a ++ (wIf ++ 32 :: (sp b ++ (joinP p ++ sp c))) else if K = 5 then sp a ++ (wEach ++ 32 :: (sp b ++ (joinP p ++ sp c))) else sp a ++ (joinP p ++ sp c)
theorem within_tag (K a b c : Nat) (hK : K = 2 ∨ K = 3 ∨ K = 5) {p : List ByteArray} (h : pathOk (p.map (·.data.toList)) = true) : tagP (within K a b c p) = some ⟨K, ⟨#[]⟩, p⟩ := by
  rcases hK with rfl | rfl | rfl
  · exact tag_var a c h
  · exact tag_if a b c h
  · exact tag_each a b c h
theorem within_ne (K a b c : Nat) {p : List ByteArray} (h : pathOk (p.map (·.data.toList)) = true) : ∀ x ∈ within K a b c p, x ≠ 125 := by
  obtain ⟨h1, _, h3, _⟩ := pathOk_facts h
  have hj := (join_ne h1 h3).2
  have hs : ∀ n x, x ∈ sp n → x ≠ 125 := fun n x hx => by rw [List.eq_of_mem_replicate hx]; decide
  intro x hx
  unfold within at hx
  split at hx
  · simp only [List.mem_append, List.mem_cons] at hx
    rcases hx with hx | hx | rfl | hx | hx | hx
    · exact hs _ x hx
    · revert hx; simp only [wIf, List.mem_cons, List.mem_nil_iff, or_false]; rintro (rfl | rfl) <;> decide
    · decide
    · exact hs _ x hx
    · exact (hj x hx).2
    · exact hs _ x hx
  split at hx
  · simp only [List.mem_append, List.mem_cons] at hx
    rcases hx with hx | hx | rfl | hx | hx | hx
    · exact hs _ x hx
    · revert hx; simp only [wEach, List.mem_cons, List.mem_nil_iff, or_false]; rintro (rfl | rfl | rfl | rfl) <;> decide
    · decide
    · exact hs _ x hx
    · exact (hj x hx).2
    · exact hs _ x hx
  · simp only [List.mem_append] at hx
    rcases hx with hx | hx | hx
    · exact hs _ x hx
    · exact (hj x hx).2
    · exact hs _ x hx
theorem within_toks (K a b c : Nat) (hK : K = 2 ∨ K = 3 ∨ K = 5) {p : List ByteArray} (h : pathOk (p.map (·.data.toList)) = true) (hl : (oo ++ (within K a b c p ++ cc)).length ≤ 1024) : toksR (oo ++ (within K a b c p ++ cc)) = ([⟨K, ⟨#[]⟩, p⟩], 0) := by
  have c1 : Lib.cut (oo ++ (within K a b c p ++ cc)) oo = ([], within K a b c p ++ cc, true) := by
    have := cut_at (a := []) (s := oo) (b := within K a b c p ++ cc) (fun j hj => by simp at hj)
    simpa using this
  have c2 : Lib.cut (within K a b c p ++ cc) cc = (within K a b c p, [], true) := by
    have := cut_at (a := within K a b c p) (s := cc) (b := []) (by
      intro j hj
      rw [List.append_nil]
      exact occ_no (c := 125) (a := within K a b c p) (b := [125, 125]) (t := [125]) (within_ne K a b c h) j hj)
    simpa using this
  unfold toksR
  rw [if_neg (by omega)]
  obtain ⟨f, hf⟩ : ∃ f, (oo ++ (within K a b c p ++ cc)).length = f + 1 := ⟨(within K a b c p ++ cc).length + 1, by rw [List.length_append]; show 2 + _ = _; omega⟩
  have key : toksP ((oo ++ (within K a b c p ++ cc)).length + 1) (oo ++ (within K a b c p ++ cc)) = some [⟨K, ⟨#[]⟩, p⟩] := by
    rw [hf]
    unfold toksP
    rw [c1]
    simp only [if_true]
    rw [c2]
    simp only [if_true]
    rw [within_tag K a b c hK h]
    unfold toksP
    rw [cut_none (l := []) (s := oo) (fun j hj => by unfold Lib.occAt; simp [oo])]
    rfl
  rw [key]
theorem within_len (K a b c : Nat) (p : List ByteArray) (ha : a ≤ 15) (hb : b ≤ 15) (hc : c ≤ 15) (hj : (joinP p).length ≤ 132) : (oo ++ (within K a b c p ++ cc)).length ≤ 1024 := by
  have hw : (within K a b c p).length ≤ 200 := by
    unfold within sp
    repeat' split
    all_goals simp only [List.length_append, List.length_cons, List.length_replicate, wIf, wEach, List.length_nil]
    all_goals omega
  simp only [List.length_append, oo, cc, List.length_cons, List.length_nil]
  omega
theorem at_one {W : World} {blk : Nat} {K : Nat} {p : Option Addr} {cp : Nat} {path : List ByteArray} {t : TypeId} {fr : Nat × Nat} (hc : W.heap[blk]? = some (.cells #[.int .u8 K, .string ⟨#[]⟩, .slice p path.length cp] t fr))
    (hK : K ≤ 255) (hl : path.length ≤ 140737488351232) (hs : ∀ x ∈ path, x.size ≤ 140737488351232) (hcp : path.length ≤ cp) (hp : Wp.At Wp.mkT W p path) : At W (some ⟨blk, 0, none⟩) [⟨K, ⟨#[]⟩, path⟩] := by
  intro i hi
  have : i = 0 := by simpa using hi
  subst this
  refine ⟨blk, 0, _, _, _, rfl, ⟨?_, ?_, ?_⟩, _, rfl, p, cp, rfl, ⟨⟨hK, hcp⟩, by show (0 : Nat) ≤ _; omega, hl, hs⟩, hp⟩
  · rw [Lib.cell_of_heap hc]; rfl
  · rw [Lib.cell_of_heap hc]; rfl
  · rw [Lib.cell_of_heap hc]; rfl
def gap : ByteArray := ⟨#[32, 32, 32, 32, 32, 32, 32, 32, 32, 32, 32, 32, 32, 32, 32, 32]⟩
theorem gap_cut : ∀ n, n < 16 → gap.extract 0 n = Wp.B (sp n) := by decide +kernel
theorem gap_slice (n : Nat) (W : World) : (Instr.sliceAt 9 (.string ⟨#[32, 32, 32, 32, 32, 32, 32, 32, 32, 32, 32, 32, 32, 32, 32, 32]⟩) none (some (.int .u8 ((n : Int) % 16))) none).run Tryd.prog W = .ok (.string (Wp.B (sp (n % 16)))) W := by
  rw [run_sliceAt_string (h := Tryd.underlying9), run_slice_string_h (ht := Tryd.underlying9) (h0 := by omega) (h2 := by show _ ≤ (16 : Int); omega)]
  rw [show ((n : Int) % 16).toNat = n % 16 by omega]
  exact congrArg (fun s => Result.ok (Value.string s) W) (gap_cut (n % 16) (by omega))
end Sc
set_option maxRecDepth 100000 in
set_option maxHeartbeats 4000000 in
theorem scanSpacesVar (p : Option Addr) (cp : Nat) (path : List ByteArray) (kd a b c : Nat) (w : World) (hmod : (kd : Int) % 3 = 0) (hp : Wp.At Wp.mkT w p path) (hl : path.length ≤ 140737488351232) (hs : ∀ x ∈ path, x.size ≤ 140737488351232) (hcp : path.length ≤ cp) (hT : Sc.Laid w) (hM : Sc.MaxLen w) :
    Calls Tryd.prog 7 #[.slice p path.length cp, .int .u8 (kd : Int), .int .u8 (a : Int), .int .u8 (b : Int), .int .u8 (c : Int)] w fun e w' => e = .returned (.bool true) ∧ Below w.heap.size w w' := by
  have HLv := Lib.hid (lives10_any w hT hM)
  have HT := Lib.hid hT
  have HM := Lib.hid hM
  have HP := Lib.hid hp
  have HS := Lib.hid hs
  have HAt : Hid (∀ (W : World) (blk : Nat), Below w.heap.size w W → W.heap[blk]? = some (.cells #[.int .u8 2, .string ⟨#[]⟩, .slice p path.length cp] 40 (0, 0)) → Sc.At W (some ⟨blk, 0, none⟩) [⟨2, ⟨#[]⟩, path⟩]) := Lib.hid (fun W blk h hc => Sc.at_one hc (by decide) hl hs hcp (hp.below h))
  obtain ⟨n, hn⟩ : ∃ n, n = path.length := ⟨_, rfl⟩
  have HN := Lib.hid hn
  rw [← hn] at hl hcp HAt ⊢
  clear hT hM hp hs hn
  go_enter Tryd.func7, Tryd.ntmps7
  go_wp2_with fail
  refine HLv.out.mono ?_
  rintro e w1 ⟨rfl, b1⟩
  have hA1 := (Below.refl w1.heap.size w1).alloc (Nat.le_refl _) (.cells #[.int .u8 2, .int .u8 3, .int .u8 5] 38)
  have B1 := Lib.hid (b1.trans (hA1.mono b1.size))
  have q0 : (w1.alloc (.cells #[.int .u8 2, .int .u8 3, .int .u8 5] 38)).cell? ⟨w1.heap.size, 0, none⟩ = some (.int .u8 2) := by rw [World.cell?_alloc_at _ _ _ _ rfl]; rfl
  clear b1 HLv hA1
  go_upto_region 4 with fail
  generalize (w1.alloc (.cells #[.int .u8 2, .int .u8 3, .int .u8 5] 38)) = w2 at *
  have hV := Vl.new w2 (.cells #[.int .u8 2, .string ⟨#[]⟩, .slice p n cp] 40)
  have hA2 := (Below.refl w2.heap.size w2).alloc (Nat.le_refl _) (.cells #[.int .u8 2, .string ⟨#[]⟩, .slice p n cp] 40)
  have B2 := Lib.hid (B1.out.trans (hA2.mono B1.out.size))
  have HV := Lib.hid hV
  clear q0 hA2 hV B1
  obtain ⟨m0, m1, m2⟩ := Sc.three_of HV.out
  go_upto_region 5 with fail
  generalize (w2.alloc (.cells #[.int .u8 2, .string ⟨#[]⟩, .slice p n cp] 40)) = w3 at *
  generalize w2.heap.size = bx at *
  have hA3 := (Below.refl w3.heap.size w3).alloc (Nat.le_refl _) (.cells #[.int .u8 2, .string ⟨#[]⟩, .slice p n cp] 40)
  have B3 := Lib.hid (B2.out.trans (hA3.mono B2.out.size))
  have HV3 := Lib.hid (Sc.keepBox HV.out hA3)
  have HC := Lib.hid (scCheck_any [⟨2, ⟨#[]⟩, path⟩] (some ⟨w3.heap.size, 0, none⟩) 1 (w3.alloc (.cells #[.int .u8 2, .string ⟨#[]⟩, .slice p n cp] 40)) (HAt.out _ _ B3.out (Vl.new _ _)) (by show 1 ≤ _; omega) (by intro t ht; rw [List.mem_singleton.1 ht]; show (0 : Nat) ≤ _; omega) (HT.out.below B3.out) (HM.out.below B3.out))
  clear hA3
  go_wp2_with fail
  refine HC.out.mono ?_
  rintro e w4 ⟨rfl, b4⟩
  have B4 := Lib.hid (B3.out.trans (b4.mono B3.out.size))
  have HV4 := Lib.hid (Sc.keepBox HV3.out b4)
  clear b4 HC HV HV3 B2 B3 m0 m1 m2
  cases hok : Sc.okT ⟨2, ⟨#[]⟩, path⟩ with
  | false =>
    rw [show Sc.chkTs [⟨2, ⟨#[]⟩, path⟩] = 2 by unfold Sc.chkTs; rw [if_neg (by simp [Sc.okTs, Sc.chain, hok])]]
    go_wp2_with fail
    go_ret
    exact ⟨rfl, B4.out⟩
  | true =>
    rw [show Sc.chkTs [⟨2, ⟨#[]⟩, path⟩] = 0 by unfold Sc.chkTs; rw [if_pos (by simp [Sc.okTs, Sc.chain, hok])]]
    have hpo : Sc.pathOk (path.map (·.data.toList)) = true := by
      obtain ⟨_, h | h⟩ := Sc.okT_tag hok (show (2 : Nat) ≠ 1 by decide)
      · exact h.2
      · exact absurd h.1 (show ¬ ((2 : Nat) = 4 ∨ (2 : Nat) = 6) by decide)
    obtain ⟨g1, g4, g3, -⟩ := Sc.pathOk_facts hpo
    have hjl := Sc.join_take_len path g3
    have HJt := Lib.hid (Sc.join_take path)
    have HTk := Lib.hid (show path.take n = path by rw [HN.out, List.take_length])
    have HNm := Lib.hid (fun (k : Nat) (h : k < path.length) => (show path[k].size ≤ 32 by
      have h2 := g3 _ (List.getElem_mem h)
      unfold Vl.nameL at h2
      simp only [Bool.and_eq_true, decide_eq_true_eq] at h2
      rw [Wp.size_len]; exact h2.1.1))
    have hn4 : n ≤ 4 := by rw [HN.out]; exact g4
    have HJl := Lib.hid hjl
    have HPO := Lib.hid hpo
    clear hok hpo g1 g3 g4 hjl
    go_wp2_with fail
    go_loop [13, 36] (fun t13 t36 => ∃ k : Nat, k ≤ n ∧ t36 = .int .i64 k ∧ t13 = .string (Wp.B (Sc.joinP (path.take k)))) (fun _ t36 => n - (intOf t36).toNat)
    case atStart => exact ⟨0, Nat.zero_le _, rfl, rfl⟩
    case round =>
      obtain ⟨k, hk, rfl, rfl⟩ := hrel
      by_cases hlt : k < n
      · have hkl : k < path.length := by rw [← HN.out]; exact hlt
        have hjk : (Wp.B (Sc.joinP (path.take k))).size ≤ 132 := by
          rw [Wp.B_size]
          have := HJl.out k (by omega)
          omega
        obtain ⟨pb, po, rfl, hcell⟩ := (HP.out.below B4.out).get k hkl
        rw [show Wp.mkT path[k] = Value.string path[k] from rfl] at hcell
        have hxs := HNm.out k hkl
        have hjt := HJt.out k hkl
        by_cases h0 : k = 0
        · rw [if_pos h0] at hjt
          have HE := Lib.hid (show Wp.B (Sc.joinP (path.take k)) ++ path[k] = Wp.B (Sc.joinP (path.take (k + 1))) by subst h0; rw [hjt, Wp.B_append]; simp [Sc.joinP])
          generalize path[k] = x at *
          generalize Wp.B (Sc.joinP (path.take k)) = jk at *
          have hk00 : ¬ (0 : Int) < (k : Int) := by omega
          clear hjt h0
          go_wp2_with fail
          exact ⟨⟨k + 1, by omega, by go_num, by rw [HE.out]⟩, by simp [intOf]; omega⟩
        · rw [if_neg h0] at hjt
          have HE := Lib.hid (show (Wp.B (Sc.joinP (path.take k)) ++ (⟨#[46]⟩ : ByteArray)) ++ path[k] = Wp.B (Sc.joinP (path.take (k + 1))) by
            rw [hjt, show (⟨#[46]⟩ : ByteArray) = Wp.B [46] from rfl, Wp.B_append, Wp.B_data, Wp.B_append, List.append_assoc]; rfl)
          generalize path[k] = x at *
          generalize Wp.B (Sc.joinP (path.take k)) = jk at *
          have hk00 : (0 : Int) < (k : Int) := by omega
          clear hjt h0
          go_wp2_with fail
          exact ⟨⟨k + 1, by omega, by go_num, by rw [HE.out]⟩, by simp [intOf]; omega⟩
      · obtain rfl : k = n := by omega
        have hlj : (Sc.joinP path).length ≤ 132 := by
          have := HJl.out k (by rw [← HN.out]; exact Nat.le_refl _)
          rw [HTk.out] at this
          omega
        have HFull := Lib.hid (show ((((⟨#[123, 123]⟩ : ByteArray) ++ Wp.B (Sc.sp (a % 16))) ++ Wp.B (Sc.joinP path)) ++ Wp.B (Sc.sp (c % 16))) ++ (⟨#[125, 125]⟩ : ByteArray) = Wp.B (Sc.oo ++ (Sc.within 2 (a % 16) (b % 16) (c % 16) path ++ Sc.cc)) by
          rw [show (⟨#[123, 123]⟩ : ByteArray) = Wp.B [123, 123] from rfl, show (⟨#[125, 125]⟩ : ByteArray) = Wp.B [125, 125] from rfl]
          simp only [Wp.B_append, Wp.B_data]
          refine congrArg Wp.B ?_
          unfold Sc.within
          simp [Sc.oo, Sc.cc, Sc.wIf, Sc.wEach])
        have hwt := Sc.within_toks 2 (a % 16) (b % 16) (c % 16) (by omega) HPO.out (Sc.within_len 2 _ _ _ path (by omega) (by omega) (by omega) hlj)
        have HTok : Hid (∀ W, Below w.heap.size w W → Calls Tryd.prog 8 #[.string (Wp.B (Sc.oo ++ (Sc.within 2 (a % 16) (b % 16) (c % 16) path ++ Sc.cc)))] W (Sc.ToksPost ([⟨2, ⟨#[]⟩, path⟩], 0) W)) := Lib.hid (fun W h => by
          have := scTokens_any (Wp.B (Sc.oo ++ (Sc.within 2 (a % 16) (b % 16) (c % 16) path ++ Sc.cc))) W (by rw [Wp.B_size]; have := Sc.within_len 2 (a % 16) (b % 16) (c % 16) path (by omega) (by omega) (by omega) hlj; omega) (HT.out.below h) (HM.out.below h)
          rw [Wp.B_data, hwt] at this
          exact this)
        have hga := fun W => Sc.gap_slice a W
        have hgb := fun W => Sc.gap_slice b W
        have hgc := fun W => Sc.gap_slice c W
        have sa : (Wp.B (Sc.sp (a % 16))).size ≤ 15 := by rw [Wp.B_size]; unfold Sc.sp; rw [List.length_replicate]; omega
        have sb : (Wp.B (Sc.sp (b % 16))).size ≤ 15 := by rw [Wp.B_size]; unfold Sc.sp; rw [List.length_replicate]; omega
        have sc : (Wp.B (Sc.sp (c % 16))).size ≤ 15 := by rw [Wp.B_size]; unfold Sc.sp; rw [List.length_replicate]; omega
        have sj : (Wp.B (Sc.joinP path)).size ≤ 132 := by rw [Wp.B_size]; exact hlj
        rw [HTk.out]
        clear hwt hlj
        generalize Wp.B (Sc.oo ++ (Sc.within 2 (a % 16) (b % 16) (c % 16) path ++ Sc.cc)) = F at *
        generalize Wp.B (Sc.sp (a % 16)) = ga at *
        generalize Wp.B (Sc.sp (b % 16)) = gb at *
        generalize Wp.B (Sc.sp (c % 16)) = gc at *
        generalize Wp.B (Sc.joinP path) = jp at *
        have ha0 : (0 : Int) ≤ (a : Int) % 16 := by omega
        have hb0 : (0 : Int) ≤ (b : Int) % 16 := by omega
        have hc0 : (0 : Int) ≤ (c : Int) % 16 := by omega
        go_wp2_with fail
        rw [HFull.out]
        refine (HTok.out _ B4.out).mono ?_
        rintro e w5 ⟨v, rfl, hO, b5⟩
        obtain ⟨tp, tc, hv, -, hA5⟩ := hO.at
        obtain rfl : v = .slice tp 1 tc := hv
        have HV5 := Lib.hid (Sc.keepBox HV4.out b5)
        have B5 := Lib.hid (B4.out.trans (b5.mono B4.out.size))
        have hA6 := (Below.refl w5.heap.size w5).alloc (Nat.le_refl _) (.cells #[.int .u8 2, .string ⟨#[]⟩, .slice p k cp] 40)
        have B6 := Lib.hid (B5.out.trans (hA6.mono B5.out.size))
        have HSm := Lib.hid (refSame_any [⟨2, ⟨#[]⟩, path⟩] tp (some ⟨w5.heap.size, 0, none⟩) tc 1 (w5.alloc (.cells #[.int .u8 2, .string ⟨#[]⟩, .slice p k cp] 40)) (by show 1 ≤ _; omega) (hA5.below hA6) (HAt.out _ _ B6.out (Vl.new _ _)))
        clear b5 hO hA5 hA6 HTok
        obtain ⟨m0, m1, m2⟩ := Sc.three_of HV5.out
        go_wp2_with fail
        refine HSm.out.mono ?_
        rintro e w6 ⟨rfl, b6⟩
        have B7 := Lib.hid (B6.out.trans (b6.mono B6.out.size))
        clear b6 m0 m1 m2
        go_wp2_with fail
        go_ret
        exact ⟨rfl, B7.out⟩
set_option maxRecDepth 100000 in
set_option maxHeartbeats 4000000 in
theorem scanSpacesIf (p : Option Addr) (cp : Nat) (path : List ByteArray) (kd a b c : Nat) (w : World) (hmod : (kd : Int) % 3 = 1) (hp : Wp.At Wp.mkT w p path) (hl : path.length ≤ 140737488351232) (hs : ∀ x ∈ path, x.size ≤ 140737488351232) (hcp : path.length ≤ cp) (hT : Sc.Laid w) (hM : Sc.MaxLen w) :
    Calls Tryd.prog 7 #[.slice p path.length cp, .int .u8 (kd : Int), .int .u8 (a : Int), .int .u8 (b : Int), .int .u8 (c : Int)] w fun e w' => e = .returned (.bool true) ∧ Below w.heap.size w w' := by
  have HLv := Lib.hid (lives10_any w hT hM)
  have HT := Lib.hid hT
  have HM := Lib.hid hM
  have HP := Lib.hid hp
  have HS := Lib.hid hs
  have HAt : Hid (∀ (W : World) (blk : Nat), Below w.heap.size w W → W.heap[blk]? = some (.cells #[.int .u8 3, .string ⟨#[]⟩, .slice p path.length cp] 40 (0, 0)) → Sc.At W (some ⟨blk, 0, none⟩) [⟨3, ⟨#[]⟩, path⟩]) := Lib.hid (fun W blk h hc => Sc.at_one hc (by decide) hl hs hcp (hp.below h))
  obtain ⟨n, hn⟩ : ∃ n, n = path.length := ⟨_, rfl⟩
  have HN := Lib.hid hn
  rw [← hn] at hl hcp HAt ⊢
  clear hT hM hp hs hn
  go_enter Tryd.func7, Tryd.ntmps7
  go_wp2_with fail
  refine HLv.out.mono ?_
  rintro e w1 ⟨rfl, b1⟩
  have hA1 := (Below.refl w1.heap.size w1).alloc (Nat.le_refl _) (.cells #[.int .u8 2, .int .u8 3, .int .u8 5] 38)
  have B1 := Lib.hid (b1.trans (hA1.mono b1.size))
  have q0 : (w1.alloc (.cells #[.int .u8 2, .int .u8 3, .int .u8 5] 38)).cell? ⟨w1.heap.size, 1, none⟩ = some (.int .u8 3) := by rw [World.cell?_alloc_at _ _ _ _ rfl]; rfl
  clear b1 HLv hA1
  go_upto_region 4 with fail
  generalize (w1.alloc (.cells #[.int .u8 2, .int .u8 3, .int .u8 5] 38)) = w2 at *
  have hV := Vl.new w2 (.cells #[.int .u8 3, .string ⟨#[]⟩, .slice p n cp] 40)
  have hA2 := (Below.refl w2.heap.size w2).alloc (Nat.le_refl _) (.cells #[.int .u8 3, .string ⟨#[]⟩, .slice p n cp] 40)
  have B2 := Lib.hid (B1.out.trans (hA2.mono B1.out.size))
  have HV := Lib.hid hV
  clear q0 hA2 hV B1
  obtain ⟨m0, m1, m2⟩ := Sc.three_of HV.out
  go_upto_region 5 with fail
  generalize (w2.alloc (.cells #[.int .u8 3, .string ⟨#[]⟩, .slice p n cp] 40)) = w3 at *
  generalize w2.heap.size = bx at *
  have hA3 := (Below.refl w3.heap.size w3).alloc (Nat.le_refl _) (.cells #[.int .u8 3, .string ⟨#[]⟩, .slice p n cp] 40)
  have B3 := Lib.hid (B2.out.trans (hA3.mono B2.out.size))
  have HV3 := Lib.hid (Sc.keepBox HV.out hA3)
  have HC := Lib.hid (scCheck_any [⟨3, ⟨#[]⟩, path⟩] (some ⟨w3.heap.size, 0, none⟩) 1 (w3.alloc (.cells #[.int .u8 3, .string ⟨#[]⟩, .slice p n cp] 40)) (HAt.out _ _ B3.out (Vl.new _ _)) (by show 1 ≤ _; omega) (by intro t ht; rw [List.mem_singleton.1 ht]; show (0 : Nat) ≤ _; omega) (HT.out.below B3.out) (HM.out.below B3.out))
  clear hA3
  go_wp2_with fail
  refine HC.out.mono ?_
  rintro e w4 ⟨rfl, b4⟩
  have B4 := Lib.hid (B3.out.trans (b4.mono B3.out.size))
  have HV4 := Lib.hid (Sc.keepBox HV3.out b4)
  clear b4 HC HV HV3 B2 B3 m0 m1 m2
  cases hok : Sc.okT ⟨3, ⟨#[]⟩, path⟩ with
  | false =>
    rw [show Sc.chkTs [⟨3, ⟨#[]⟩, path⟩] = 2 by unfold Sc.chkTs; rw [if_neg (by simp [Sc.okTs, Sc.chain, hok])]]
    go_wp2_with fail
    go_ret
    exact ⟨rfl, B4.out⟩
  | true =>
    rw [show Sc.chkTs [⟨3, ⟨#[]⟩, path⟩] = 0 by unfold Sc.chkTs; rw [if_pos (by simp [Sc.okTs, Sc.chain, hok])]]
    have hpo : Sc.pathOk (path.map (·.data.toList)) = true := by
      obtain ⟨_, h | h⟩ := Sc.okT_tag hok (show (3 : Nat) ≠ 1 by decide)
      · exact h.2
      · exact absurd h.1 (show ¬ ((3 : Nat) = 4 ∨ (3 : Nat) = 6) by decide)
    obtain ⟨g1, g4, g3, -⟩ := Sc.pathOk_facts hpo
    have hjl := Sc.join_take_len path g3
    have HJt := Lib.hid (Sc.join_take path)
    have HTk := Lib.hid (show path.take n = path by rw [HN.out, List.take_length])
    have HNm := Lib.hid (fun (k : Nat) (h : k < path.length) => (show path[k].size ≤ 32 by
      have h2 := g3 _ (List.getElem_mem h)
      unfold Vl.nameL at h2
      simp only [Bool.and_eq_true, decide_eq_true_eq] at h2
      rw [Wp.size_len]; exact h2.1.1))
    have hn4 : n ≤ 4 := by rw [HN.out]; exact g4
    have HJl := Lib.hid hjl
    have HPO := Lib.hid hpo
    clear hok hpo g1 g3 g4 hjl
    go_wp2_with fail
    go_loop [13, 36] (fun t13 t36 => ∃ k : Nat, k ≤ n ∧ t36 = .int .i64 k ∧ t13 = .string (Wp.B (Sc.joinP (path.take k)))) (fun _ t36 => n - (intOf t36).toNat)
    case atStart => exact ⟨0, Nat.zero_le _, rfl, rfl⟩
    case round =>
      obtain ⟨k, hk, rfl, rfl⟩ := hrel
      by_cases hlt : k < n
      · have hkl : k < path.length := by rw [← HN.out]; exact hlt
        have hjk : (Wp.B (Sc.joinP (path.take k))).size ≤ 132 := by
          rw [Wp.B_size]
          have := HJl.out k (by omega)
          omega
        obtain ⟨pb, po, rfl, hcell⟩ := (HP.out.below B4.out).get k hkl
        rw [show Wp.mkT path[k] = Value.string path[k] from rfl] at hcell
        have hxs := HNm.out k hkl
        have hjt := HJt.out k hkl
        by_cases h0 : k = 0
        · rw [if_pos h0] at hjt
          have HE := Lib.hid (show Wp.B (Sc.joinP (path.take k)) ++ path[k] = Wp.B (Sc.joinP (path.take (k + 1))) by subst h0; rw [hjt, Wp.B_append]; simp [Sc.joinP])
          generalize path[k] = x at *
          generalize Wp.B (Sc.joinP (path.take k)) = jk at *
          have hk00 : ¬ (0 : Int) < (k : Int) := by omega
          clear hjt h0
          go_wp2_with fail
          exact ⟨⟨k + 1, by omega, by go_num, by rw [HE.out]⟩, by simp [intOf]; omega⟩
        · rw [if_neg h0] at hjt
          have HE := Lib.hid (show (Wp.B (Sc.joinP (path.take k)) ++ (⟨#[46]⟩ : ByteArray)) ++ path[k] = Wp.B (Sc.joinP (path.take (k + 1))) by
            rw [hjt, show (⟨#[46]⟩ : ByteArray) = Wp.B [46] from rfl, Wp.B_append, Wp.B_data, Wp.B_append, List.append_assoc]; rfl)
          generalize path[k] = x at *
          generalize Wp.B (Sc.joinP (path.take k)) = jk at *
          have hk00 : (0 : Int) < (k : Int) := by omega
          clear hjt h0
          go_wp2_with fail
          exact ⟨⟨k + 1, by omega, by go_num, by rw [HE.out]⟩, by simp [intOf]; omega⟩
      · obtain rfl : k = n := by omega
        have hlj : (Sc.joinP path).length ≤ 132 := by
          have := HJl.out k (by rw [← HN.out]; exact Nat.le_refl _)
          rw [HTk.out] at this
          omega
        have HFull := Lib.hid (show (((((⟨#[123, 123]⟩ : ByteArray) ++ Wp.B (Sc.sp (a % 16))) ++ ((⟨#[105, 102, 32]⟩ : ByteArray) ++ Wp.B (Sc.sp (b % 16)))) ++ Wp.B (Sc.joinP path)) ++ Wp.B (Sc.sp (c % 16))) ++ (⟨#[125, 125]⟩ : ByteArray) = Wp.B (Sc.oo ++ (Sc.within 3 (a % 16) (b % 16) (c % 16) path ++ Sc.cc)) by
          rw [show (⟨#[123, 123]⟩ : ByteArray) = Wp.B [123, 123] from rfl, show (⟨#[125, 125]⟩ : ByteArray) = Wp.B [125, 125] from rfl, show (⟨#[105, 102, 32]⟩ : ByteArray) = Wp.B [105, 102, 32] from rfl]
          simp only [Wp.B_append, Wp.B_data]
          refine congrArg Wp.B ?_
          unfold Sc.within
          simp [Sc.oo, Sc.cc, Sc.wIf, Sc.wEach])
        have hwt := Sc.within_toks 3 (a % 16) (b % 16) (c % 16) (by omega) HPO.out (Sc.within_len 3 _ _ _ path (by omega) (by omega) (by omega) hlj)
        have HTok : Hid (∀ W, Below w.heap.size w W → Calls Tryd.prog 8 #[.string (Wp.B (Sc.oo ++ (Sc.within 3 (a % 16) (b % 16) (c % 16) path ++ Sc.cc)))] W (Sc.ToksPost ([⟨3, ⟨#[]⟩, path⟩], 0) W)) := Lib.hid (fun W h => by
          have := scTokens_any (Wp.B (Sc.oo ++ (Sc.within 3 (a % 16) (b % 16) (c % 16) path ++ Sc.cc))) W (by rw [Wp.B_size]; have := Sc.within_len 3 (a % 16) (b % 16) (c % 16) path (by omega) (by omega) (by omega) hlj; omega) (HT.out.below h) (HM.out.below h)
          rw [Wp.B_data, hwt] at this
          exact this)
        have hga := fun W => Sc.gap_slice a W
        have hgb := fun W => Sc.gap_slice b W
        have hgc := fun W => Sc.gap_slice c W
        have sa : (Wp.B (Sc.sp (a % 16))).size ≤ 15 := by rw [Wp.B_size]; unfold Sc.sp; rw [List.length_replicate]; omega
        have sb : (Wp.B (Sc.sp (b % 16))).size ≤ 15 := by rw [Wp.B_size]; unfold Sc.sp; rw [List.length_replicate]; omega
        have sc : (Wp.B (Sc.sp (c % 16))).size ≤ 15 := by rw [Wp.B_size]; unfold Sc.sp; rw [List.length_replicate]; omega
        have sj : (Wp.B (Sc.joinP path)).size ≤ 132 := by rw [Wp.B_size]; exact hlj
        rw [HTk.out]
        clear hwt hlj
        generalize Wp.B (Sc.oo ++ (Sc.within 3 (a % 16) (b % 16) (c % 16) path ++ Sc.cc)) = F at *
        generalize Wp.B (Sc.sp (a % 16)) = ga at *
        generalize Wp.B (Sc.sp (b % 16)) = gb at *
        generalize Wp.B (Sc.sp (c % 16)) = gc at *
        generalize Wp.B (Sc.joinP path) = jp at *
        have ha0 : (0 : Int) ≤ (a : Int) % 16 := by omega
        have hb0 : (0 : Int) ≤ (b : Int) % 16 := by omega
        have hc0 : (0 : Int) ≤ (c : Int) % 16 := by omega
        go_wp2_with fail
        rw [HFull.out]
        refine (HTok.out _ B4.out).mono ?_
        rintro e w5 ⟨v, rfl, hO, b5⟩
        obtain ⟨tp, tc, hv, -, hA5⟩ := hO.at
        obtain rfl : v = .slice tp 1 tc := hv
        have HV5 := Lib.hid (Sc.keepBox HV4.out b5)
        have B5 := Lib.hid (B4.out.trans (b5.mono B4.out.size))
        have hA6 := (Below.refl w5.heap.size w5).alloc (Nat.le_refl _) (.cells #[.int .u8 3, .string ⟨#[]⟩, .slice p k cp] 40)
        have B6 := Lib.hid (B5.out.trans (hA6.mono B5.out.size))
        have HSm := Lib.hid (refSame_any [⟨3, ⟨#[]⟩, path⟩] tp (some ⟨w5.heap.size, 0, none⟩) tc 1 (w5.alloc (.cells #[.int .u8 3, .string ⟨#[]⟩, .slice p k cp] 40)) (by show 1 ≤ _; omega) (hA5.below hA6) (HAt.out _ _ B6.out (Vl.new _ _)))
        clear b5 hO hA5 hA6 HTok
        obtain ⟨m0, m1, m2⟩ := Sc.three_of HV5.out
        go_wp2_with fail
        refine HSm.out.mono ?_
        rintro e w6 ⟨rfl, b6⟩
        have B7 := Lib.hid (B6.out.trans (b6.mono B6.out.size))
        clear b6 m0 m1 m2
        go_wp2_with fail
        go_ret
        exact ⟨rfl, B7.out⟩
set_option maxRecDepth 100000 in
set_option maxHeartbeats 4000000 in
theorem scanSpacesEach (p : Option Addr) (cp : Nat) (path : List ByteArray) (kd a b c : Nat) (w : World) (hmod : (kd : Int) % 3 = 2) (hp : Wp.At Wp.mkT w p path) (hl : path.length ≤ 140737488351232) (hs : ∀ x ∈ path, x.size ≤ 140737488351232) (hcp : path.length ≤ cp) (hT : Sc.Laid w) (hM : Sc.MaxLen w) :
    Calls Tryd.prog 7 #[.slice p path.length cp, .int .u8 (kd : Int), .int .u8 (a : Int), .int .u8 (b : Int), .int .u8 (c : Int)] w fun e w' => e = .returned (.bool true) ∧ Below w.heap.size w w' := by
  have HLv := Lib.hid (lives10_any w hT hM)
  have HT := Lib.hid hT
  have HM := Lib.hid hM
  have HP := Lib.hid hp
  have HS := Lib.hid hs
  have HAt : Hid (∀ (W : World) (blk : Nat), Below w.heap.size w W → W.heap[blk]? = some (.cells #[.int .u8 5, .string ⟨#[]⟩, .slice p path.length cp] 40 (0, 0)) → Sc.At W (some ⟨blk, 0, none⟩) [⟨5, ⟨#[]⟩, path⟩]) := Lib.hid (fun W blk h hc => Sc.at_one hc (by decide) hl hs hcp (hp.below h))
  obtain ⟨n, hn⟩ : ∃ n, n = path.length := ⟨_, rfl⟩
  have HN := Lib.hid hn
  rw [← hn] at hl hcp HAt ⊢
  clear hT hM hp hs hn
  go_enter Tryd.func7, Tryd.ntmps7
  go_wp2_with fail
  refine HLv.out.mono ?_
  rintro e w1 ⟨rfl, b1⟩
  have hA1 := (Below.refl w1.heap.size w1).alloc (Nat.le_refl _) (.cells #[.int .u8 2, .int .u8 3, .int .u8 5] 38)
  have B1 := Lib.hid (b1.trans (hA1.mono b1.size))
  have q0 : (w1.alloc (.cells #[.int .u8 2, .int .u8 3, .int .u8 5] 38)).cell? ⟨w1.heap.size, 2, none⟩ = some (.int .u8 5) := by rw [World.cell?_alloc_at _ _ _ _ rfl]; rfl
  clear b1 HLv hA1
  go_upto_region 4 with fail
  generalize (w1.alloc (.cells #[.int .u8 2, .int .u8 3, .int .u8 5] 38)) = w2 at *
  have hV := Vl.new w2 (.cells #[.int .u8 5, .string ⟨#[]⟩, .slice p n cp] 40)
  have hA2 := (Below.refl w2.heap.size w2).alloc (Nat.le_refl _) (.cells #[.int .u8 5, .string ⟨#[]⟩, .slice p n cp] 40)
  have B2 := Lib.hid (B1.out.trans (hA2.mono B1.out.size))
  have HV := Lib.hid hV
  clear q0 hA2 hV B1
  obtain ⟨m0, m1, m2⟩ := Sc.three_of HV.out
  go_upto_region 5 with fail
  generalize (w2.alloc (.cells #[.int .u8 5, .string ⟨#[]⟩, .slice p n cp] 40)) = w3 at *
  generalize w2.heap.size = bx at *
  have hA3 := (Below.refl w3.heap.size w3).alloc (Nat.le_refl _) (.cells #[.int .u8 5, .string ⟨#[]⟩, .slice p n cp] 40)
  have B3 := Lib.hid (B2.out.trans (hA3.mono B2.out.size))
  have HV3 := Lib.hid (Sc.keepBox HV.out hA3)
  have HC := Lib.hid (scCheck_any [⟨5, ⟨#[]⟩, path⟩] (some ⟨w3.heap.size, 0, none⟩) 1 (w3.alloc (.cells #[.int .u8 5, .string ⟨#[]⟩, .slice p n cp] 40)) (HAt.out _ _ B3.out (Vl.new _ _)) (by show 1 ≤ _; omega) (by intro t ht; rw [List.mem_singleton.1 ht]; show (0 : Nat) ≤ _; omega) (HT.out.below B3.out) (HM.out.below B3.out))
  clear hA3
  go_wp2_with fail
  refine HC.out.mono ?_
  rintro e w4 ⟨rfl, b4⟩
  have B4 := Lib.hid (B3.out.trans (b4.mono B3.out.size))
  have HV4 := Lib.hid (Sc.keepBox HV3.out b4)
  clear b4 HC HV HV3 B2 B3 m0 m1 m2
  cases hok : Sc.okT ⟨5, ⟨#[]⟩, path⟩ with
  | false =>
    rw [show Sc.chkTs [⟨5, ⟨#[]⟩, path⟩] = 2 by unfold Sc.chkTs; rw [if_neg (by simp [Sc.okTs, Sc.chain, hok])]]
    go_wp2_with fail
    go_ret
    exact ⟨rfl, B4.out⟩
  | true =>
    rw [show Sc.chkTs [⟨5, ⟨#[]⟩, path⟩] = 0 by unfold Sc.chkTs; rw [if_pos (by simp [Sc.okTs, Sc.chain, hok])]]
    have hpo : Sc.pathOk (path.map (·.data.toList)) = true := by
      obtain ⟨_, h | h⟩ := Sc.okT_tag hok (show (5 : Nat) ≠ 1 by decide)
      · exact h.2
      · exact absurd h.1 (show ¬ ((5 : Nat) = 4 ∨ (5 : Nat) = 6) by decide)
    obtain ⟨g1, g4, g3, -⟩ := Sc.pathOk_facts hpo
    have hjl := Sc.join_take_len path g3
    have HJt := Lib.hid (Sc.join_take path)
    have HTk := Lib.hid (show path.take n = path by rw [HN.out, List.take_length])
    have HNm := Lib.hid (fun (k : Nat) (h : k < path.length) => (show path[k].size ≤ 32 by
      have h2 := g3 _ (List.getElem_mem h)
      unfold Vl.nameL at h2
      simp only [Bool.and_eq_true, decide_eq_true_eq] at h2
      rw [Wp.size_len]; exact h2.1.1))
    have hn4 : n ≤ 4 := by rw [HN.out]; exact g4
    have HJl := Lib.hid hjl
    have HPO := Lib.hid hpo
    clear hok hpo g1 g3 g4 hjl
    go_wp2_with fail
    go_loop [13, 36] (fun t13 t36 => ∃ k : Nat, k ≤ n ∧ t36 = .int .i64 k ∧ t13 = .string (Wp.B (Sc.joinP (path.take k)))) (fun _ t36 => n - (intOf t36).toNat)
    case atStart => exact ⟨0, Nat.zero_le _, rfl, rfl⟩
    case round =>
      obtain ⟨k, hk, rfl, rfl⟩ := hrel
      by_cases hlt : k < n
      · have hkl : k < path.length := by rw [← HN.out]; exact hlt
        have hjk : (Wp.B (Sc.joinP (path.take k))).size ≤ 132 := by
          rw [Wp.B_size]
          have := HJl.out k (by omega)
          omega
        obtain ⟨pb, po, rfl, hcell⟩ := (HP.out.below B4.out).get k hkl
        rw [show Wp.mkT path[k] = Value.string path[k] from rfl] at hcell
        have hxs := HNm.out k hkl
        have hjt := HJt.out k hkl
        by_cases h0 : k = 0
        · rw [if_pos h0] at hjt
          have HE := Lib.hid (show Wp.B (Sc.joinP (path.take k)) ++ path[k] = Wp.B (Sc.joinP (path.take (k + 1))) by subst h0; rw [hjt, Wp.B_append]; simp [Sc.joinP])
          generalize path[k] = x at *
          generalize Wp.B (Sc.joinP (path.take k)) = jk at *
          have hk00 : ¬ (0 : Int) < (k : Int) := by omega
          clear hjt h0
          go_wp2_with fail
          exact ⟨⟨k + 1, by omega, by go_num, by rw [HE.out]⟩, by simp [intOf]; omega⟩
        · rw [if_neg h0] at hjt
          have HE := Lib.hid (show (Wp.B (Sc.joinP (path.take k)) ++ (⟨#[46]⟩ : ByteArray)) ++ path[k] = Wp.B (Sc.joinP (path.take (k + 1))) by
            rw [hjt, show (⟨#[46]⟩ : ByteArray) = Wp.B [46] from rfl, Wp.B_append, Wp.B_data, Wp.B_append, List.append_assoc]; rfl)
          generalize path[k] = x at *
          generalize Wp.B (Sc.joinP (path.take k)) = jk at *
          have hk00 : (0 : Int) < (k : Int) := by omega
          clear hjt h0
          go_wp2_with fail
          exact ⟨⟨k + 1, by omega, by go_num, by rw [HE.out]⟩, by simp [intOf]; omega⟩
      · obtain rfl : k = n := by omega
        have hlj : (Sc.joinP path).length ≤ 132 := by
          have := HJl.out k (by rw [← HN.out]; exact Nat.le_refl _)
          rw [HTk.out] at this
          omega
        have HFull := Lib.hid (show (((((⟨#[123, 123]⟩ : ByteArray) ++ Wp.B (Sc.sp (a % 16))) ++ ((⟨#[101, 97, 99, 104, 32]⟩ : ByteArray) ++ Wp.B (Sc.sp (b % 16)))) ++ Wp.B (Sc.joinP path)) ++ Wp.B (Sc.sp (c % 16))) ++ (⟨#[125, 125]⟩ : ByteArray) = Wp.B (Sc.oo ++ (Sc.within 5 (a % 16) (b % 16) (c % 16) path ++ Sc.cc)) by
          rw [show (⟨#[123, 123]⟩ : ByteArray) = Wp.B [123, 123] from rfl, show (⟨#[125, 125]⟩ : ByteArray) = Wp.B [125, 125] from rfl, show (⟨#[101, 97, 99, 104, 32]⟩ : ByteArray) = Wp.B [101, 97, 99, 104, 32] from rfl]
          simp only [Wp.B_append, Wp.B_data]
          refine congrArg Wp.B ?_
          unfold Sc.within
          simp [Sc.oo, Sc.cc, Sc.wIf, Sc.wEach])
        have hwt := Sc.within_toks 5 (a % 16) (b % 16) (c % 16) (by omega) HPO.out (Sc.within_len 5 _ _ _ path (by omega) (by omega) (by omega) hlj)
        have HTok : Hid (∀ W, Below w.heap.size w W → Calls Tryd.prog 8 #[.string (Wp.B (Sc.oo ++ (Sc.within 5 (a % 16) (b % 16) (c % 16) path ++ Sc.cc)))] W (Sc.ToksPost ([⟨5, ⟨#[]⟩, path⟩], 0) W)) := Lib.hid (fun W h => by
          have := scTokens_any (Wp.B (Sc.oo ++ (Sc.within 5 (a % 16) (b % 16) (c % 16) path ++ Sc.cc))) W (by rw [Wp.B_size]; have := Sc.within_len 5 (a % 16) (b % 16) (c % 16) path (by omega) (by omega) (by omega) hlj; omega) (HT.out.below h) (HM.out.below h)
          rw [Wp.B_data, hwt] at this
          exact this)
        have hga := fun W => Sc.gap_slice a W
        have hgb := fun W => Sc.gap_slice b W
        have hgc := fun W => Sc.gap_slice c W
        have sa : (Wp.B (Sc.sp (a % 16))).size ≤ 15 := by rw [Wp.B_size]; unfold Sc.sp; rw [List.length_replicate]; omega
        have sb : (Wp.B (Sc.sp (b % 16))).size ≤ 15 := by rw [Wp.B_size]; unfold Sc.sp; rw [List.length_replicate]; omega
        have sc : (Wp.B (Sc.sp (c % 16))).size ≤ 15 := by rw [Wp.B_size]; unfold Sc.sp; rw [List.length_replicate]; omega
        have sj : (Wp.B (Sc.joinP path)).size ≤ 132 := by rw [Wp.B_size]; exact hlj
        rw [HTk.out]
        clear hwt hlj
        generalize Wp.B (Sc.oo ++ (Sc.within 5 (a % 16) (b % 16) (c % 16) path ++ Sc.cc)) = F at *
        generalize Wp.B (Sc.sp (a % 16)) = ga at *
        generalize Wp.B (Sc.sp (b % 16)) = gb at *
        generalize Wp.B (Sc.sp (c % 16)) = gc at *
        generalize Wp.B (Sc.joinP path) = jp at *
        have ha0 : (0 : Int) ≤ (a : Int) % 16 := by omega
        have hb0 : (0 : Int) ≤ (b : Int) % 16 := by omega
        have hc0 : (0 : Int) ≤ (c : Int) % 16 := by omega
        go_wp2_with fail
        rw [HFull.out]
        refine (HTok.out _ B4.out).mono ?_
        rintro e w5 ⟨v, rfl, hO, b5⟩
        obtain ⟨tp, tc, hv, -, hA5⟩ := hO.at
        obtain rfl : v = .slice tp 1 tc := hv
        have HV5 := Lib.hid (Sc.keepBox HV4.out b5)
        have B5 := Lib.hid (B4.out.trans (b5.mono B4.out.size))
        have hA6 := (Below.refl w5.heap.size w5).alloc (Nat.le_refl _) (.cells #[.int .u8 5, .string ⟨#[]⟩, .slice p k cp] 40)
        have B6 := Lib.hid (B5.out.trans (hA6.mono B5.out.size))
        have HSm := Lib.hid (refSame_any [⟨5, ⟨#[]⟩, path⟩] tp (some ⟨w5.heap.size, 0, none⟩) tc 1 (w5.alloc (.cells #[.int .u8 5, .string ⟨#[]⟩, .slice p k cp] 40)) (by show 1 ≤ _; omega) (hA5.below hA6) (HAt.out _ _ B6.out (Vl.new _ _)))
        clear b5 hO hA5 hA6 HTok
        obtain ⟨m0, m1, m2⟩ := Sc.three_of HV5.out
        go_wp2_with fail
        refine HSm.out.mono ?_
        rintro e w6 ⟨rfl, b6⟩
        have B7 := Lib.hid (B6.out.trans (b6.mono B6.out.size))
        clear b6 m0 m1 m2
        go_wp2_with fail
        go_ret
        exact ⟨rfl, B7.out⟩
theorem scanSpaces_law (p : Option Addr) (cp : Nat) (path : List ByteArray) (kd a b c : Nat) (w : World) (hp : Wp.At Wp.mkT w p path) (hl : path.length ≤ 140737488351232) (hs : ∀ x ∈ path, x.size ≤ 140737488351232) (hcp : path.length ≤ cp) (hT : Sc.Laid w) (hM : Sc.MaxLen w) :
    Calls Tryd.prog 7 #[.slice p path.length cp, .int .u8 (kd : Int), .int .u8 (a : Int), .int .u8 (b : Int), .int .u8 (c : Int)] w fun e w' => e = .returned (.bool true) ∧ Below w.heap.size w w' := by
  have h : (kd : Int) % 3 = 0 ∨ (kd : Int) % 3 = 1 ∨ (kd : Int) % 3 = 2 := by omega
  rcases h with h | h | h
  · exact scanSpacesVar p cp path kd a b c w h hp hl hs hcp hT hM
  · exact scanSpacesIf p cp path kd a b c w h hp hl hs hcp hT hM
  · exact scanSpacesEach p cp path kd a b c w h hp hl hs hcp hT hM
end Go.Proofs.YtpcoabcgaihmkaaDoor
