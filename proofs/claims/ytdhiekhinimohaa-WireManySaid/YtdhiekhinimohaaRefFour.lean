/-
  The walks of the document's own GetNums and GetTexts (bellmanref01): the list that bytes begin with, or why there is none, in new memory. Condition: the bytes are at most 2^48.
-/
import Derived.Test.YtdhiekhinimohaaRefThree
namespace Go.Proofs.Ytdhiekhinimohaa
open Go.RowKit

/-- What is handed back where a list is got. -/
def Wp.Got {α : Type} (mk : α → Value) (w : World) (G : List α × List UInt8 × Int) (e : Ending) (w' : World) : Prop :=
  ∃ p c, e = .returned (.tuple #[.slice p G.1.length c, .string (Wp.B G.2.1), .int .i64 G.2.2]) ∧ Wp.At mk w' p G.1 ∧ Below w.heap.size w w'
theorem Wp.gl_bounds2 (s : ByteArray) (most n : Int) (r : List UInt8) (e : Int) (hm : 0 ≤ most) (h : Wp.gl s most = (n, r, e)) : 0 ≤ n ∧ n ≤ most ∧ r.length ≤ s.size := by
  obtain ⟨⟨n', r', e'⟩, hg⟩ : ∃ g, Wp.gn s = g := ⟨_, rfl⟩
  have h2 := h
  rw [Wp.gl_eq s most _ _ _ hg] at h2
  have hr := Wp.gn_rest s _ _ _ hg
  repeat' split at h2
  all_goals simp only [Prod.mk.injEq] at h2
  all_goals obtain ⟨rfl, rfl, rfl⟩ := h2
  all_goals first | exact ⟨by omega, by omega, by omega⟩ | exact ⟨by omega, by omega, by simp⟩
theorem relem_nums (r : List UInt8) (w : World) (h : r.length ≤ 281474976710656) :
    Calls Try.prog 9 #[.string (Wp.B r)] w fun e w' => e = .returned (.tuple #[Wp.mkN (Wp.getNum r).1, .string (Wp.B (Wp.getNum r).2.1), .int .i64 (Wp.getNum r).2.2]) ∧ Below w.heap.size w w' :=
  rgetNum_any (Wp.B r) w (by rw [Wp.B_size]; exact h)
set_option maxHeartbeats 2000000 in
/-- The document's list of numbers that s begins with. -/
theorem rget_nums (s : ByteArray) (w : World) (hs : s.size ≤ 281474976710656) :
    Calls Try.prog 20 #[.string s] w (Wp.Got Wp.mkN w (Wp.getList Wp.getNum s.data.toList)) := by
  have hcl := fun w => rmany_any s 1024 w hs (by omega)
  obtain ⟨⟨m, r, er⟩, hg⟩ : ∃ g, Wp.gl s 1024 = g := ⟨_, rfl⟩
  have hg' : Wp.cutLen s.data.toList 1024 = (m, r, er) := hg
  rw [hg] at hcl
  have hbd := Wp.gl_bounds2 s 1024 m r er (by omega) hg
  obtain ⟨G, hG⟩ : ∃ G, G = Wp.getList Wp.getNum s.data.toList := ⟨_, rfl⟩
  have hG2 : G = if er ≠ 0 then ([], [], er) else Wp.getAll Wp.getNum m.toNat r := by rw [hG]; unfold Wp.getList; rw [hg']
  rw [← hG]
  clear hG hg hg'
  simp only [] at hcl
  obtain ⟨hn0, hn1, hr⟩ := hbd
  obtain ⟨n, rfl⟩ := Int.eq_ofNat_of_zero_le hn0
  rw [Int.toNat_natCast] at hG2
  have hst : (er = 0 ∧ Wp.fin [] (Wp.getAll Wp.getNum (n - 0) r) = G) ∨ (er ≠ 0 ∧ G = ([], [], er)) := by
    by_cases he : er = 0
    · exact Or.inl ⟨he, by rw [hG2, if_neg (by simpa using he), Nat.sub_zero, Wp.fin_nil]⟩
    · exact Or.inr ⟨he, by rw [hG2, if_pos he]⟩
  have Hst := Lib.hid hst
  clear hG2 hst
  obtain ⟨i0, hi, hz0, hz1, hz2⟩ := info_parts infoE_nums
  go_enter Try.func20, Try.ntmps20
  go_wp2_with fail
  refine (hcl _).mono ?_
  rintro e w1 ⟨rfl, hb⟩
  go_wp2_with fail
  go_loopw [6, 7, 8, 9, 10, 11, 12] (fun t6 t7 t8 t9 _ _ _ wr => ∃ (k : Nat) (acc : List Int) (r' : List UInt8) (e : Int), k ≤ n ∧ t9 = .int .i64 k ∧ t6 = .string (Wp.B r') ∧ t7 = .int .i64 e ∧ r'.length ≤ s.size ∧ acc.length = k ∧ wr.ownsRow w.heap.size 2 1 t8 acc.length (acc.map Wp.mkN) ∧ ((e = 0 ∧ Wp.fin acc (Wp.getAll Wp.getNum (n - k) r') = G) ∨ (e ≠ 0 ∧ G = ([], [], e))) ∧ Below w.heap.size w wr) (fun _ _ _ t _ _ _ _ => n - (intOf t).toNat)
  case atStart => exact ⟨0, [], r, er, Nat.zero_le _, rfl, rfl, rfl, hr, rfl, World.ownsRow_nil _ _ _ _, Hst.out, hb⟩
  case round =>
    obtain ⟨k, acc, r', e, hk, rfl, rfl, rfl, hr', hacc, hown, hfin, hB⟩ := hrel
    have Hacc := Lib.hid hacc
    have Hown := Lib.hid hown
    clear hacc hown Hst
    by_cases he : e = 0
    · subst he
      have hfin := (hfin.resolve_right (fun h => h.1 rfl)).2
      have Hfin := Lib.hid hfin
      clear hfin
      by_cases hlt : k < n
      · have hcall := fun w => relem_nums r' w (by omega)
        obtain ⟨⟨x, r2, e2⟩, hg2⟩ : ∃ g, Wp.getNum r' = g := ⟨_, rfl⟩
        have hr2 := rest_nums r' x r2 e2 hg2
        rw [hg2] at hcall
        simp only [Wp.mkN] at hcall
        have hnext : (e2 = 0 ∧ Wp.fin (acc ++ [x]) (Wp.getAll Wp.getNum (n - (k + 1)) r2) = G) ∨ (e2 ≠ 0 ∧ G = ([], [], e2)) := by
          by_cases he2 : e2 = 0
          · subst he2
            have hstep := Wp.fin_step Wp.getNum acc (n - (k + 1)) r' r2 x hg2
            rw [show n - (k + 1) + 1 = n - k by omega, Hfin.out] at hstep
            exact Or.inl ⟨rfl, hstep⟩
          · have hbad := Wp.fin_bad Wp.getNum acc (n - (k + 1)) r' r2 x e2 hg2 he2
            rw [show n - (k + 1) + 1 = n - k by omega, Hfin.out] at hbad
            exact Or.inr ⟨he2, hbad⟩
        have Hnext := Lib.hid hnext
        clear hnext hg2
        go_wp2_with fail
        refine (hcall _).mono ?_
        rintro e w3 ⟨rfl, hb3⟩
        have Hown3 := Lib.hid (ownsRow_below Hown.out hb3)
        have hB3 := hB.trans (hb3.mono hB.size)
        go_wp2_with (at_builtin; refine wpList_append_own _ rfl _ _ 32 rfl w.heap.size 2 i0 _ 1 8 Try.underlying32 hi hz0 hz1 hz2 rfl (by decide) _ _ _ rfl (Hown3.out.alloc _) ⟨w3.heap.size, 0, none⟩ 1 1 [Wp.mkN x] rfl rfl ?c1 ?c2 ?c3 ?c4 ?c5 ?_)
        case c1 => exact cell_one_new _ _ _
        case c2 => simp [Wp.mkN, Value.oneCell']
        case c3 => have := Hacc.out; unfold maxLen; omega
        case c4 => have := Hacc.out; omega
        case c5 => have := hB3.size; simp; omega
        intro v' w4 hown4 hgrow4 _
        have hB4 := below_grown (hB3.alloc hB3.size _) (Hown3.out.alloc _) (Nat.le_refl _) hgrow4
        have Hown4 := Lib.hid hown4
        clear hown4 hgrow4
        go_wp2_with fail
        refine ⟨⟨k + 1, acc ++ [x], r2, e2, by omega, by go_num, rfl, rfl, by omega, by rw [List.length_append, Hacc.out]; rfl, ?_, Hnext.out, hB4⟩, by simp [intOf]; omega⟩
        have := Hown4.out
        rw [List.length_append, List.map_append]
        exact this
      · obtain rfl : k = n := by omega
        have hfin := Hfin.out
        rw [Nat.sub_self] at hfin
        have hG3 : G = (acc, r', 0) := by rw [← hfin]; simp [Wp.fin, Wp.getAll]
        have HG3 := Lib.hid hG3
        clear hG3 hfin
        go_wp2_with fail
        go_ret3
        obtain ⟨p, c, hv, hat⟩ := owns_at Hown.out
        refine ⟨p, c, ?_, ?_, hB⟩
        · rw [HG3.out, ← hv]; rfl
        · rw [HG3.out]; exact hat
    · have hfin := (hfin.resolve_left (fun h => he h.1)).2
      have hb1 : (e != 0) = true := by rw [bne_iff_ne]; exact he
      have hb2 : (e == 0) = false := by rw [beq_eq_false_iff_ne]; exact he
      have Hfin := Lib.hid hfin
      clear hfin he
      by_cases hlt : k < n
      · go_wp2_with fail
        go_ret3
        refine ⟨none, 0, ?_, ?_, hB⟩
        · rw [Hfin.out]; rfl
        · rw [Hfin.out]; exact Or.inl rfl
      · go_wp2_with fail
        go_ret3
        refine ⟨none, 0, ?_, ?_, hB⟩
        · rw [Hfin.out]; rfl
        · rw [Hfin.out]; exact Or.inl rfl
theorem relem_texts (r : List UInt8) (w : World) (h : r.length ≤ 281474976710656) :
    Calls Try.prog 13 #[.string (Wp.B r)] w fun e w' => e = .returned (.tuple #[Wp.mkT (Wp.getT r).1, .string (Wp.B (Wp.getT r).2.1), .int .i64 (Wp.getT r).2.2]) ∧ Below w.heap.size w w' :=
  rgetText_any (Wp.B r) w (by rw [Wp.B_size]; exact h)
set_option maxHeartbeats 2000000 in
/-- The document's list of texts that s begins with. -/
theorem rget_texts (s : ByteArray) (w : World) (hs : s.size ≤ 281474976710656) :
    Calls Try.prog 24 #[.string s] w (Wp.Got Wp.mkT w (Wp.getList Wp.getT s.data.toList)) := by
  have hcl := fun w => rmany_any s 1024 w hs (by omega)
  obtain ⟨⟨m, r, er⟩, hg⟩ : ∃ g, Wp.gl s 1024 = g := ⟨_, rfl⟩
  have hg' : Wp.cutLen s.data.toList 1024 = (m, r, er) := hg
  rw [hg] at hcl
  have hbd := Wp.gl_bounds2 s 1024 m r er (by omega) hg
  obtain ⟨G, hG⟩ : ∃ G, G = Wp.getList Wp.getT s.data.toList := ⟨_, rfl⟩
  have hG2 : G = if er ≠ 0 then ([], [], er) else Wp.getAll Wp.getT m.toNat r := by rw [hG]; unfold Wp.getList; rw [hg']
  rw [← hG]
  clear hG hg hg'
  simp only [] at hcl
  obtain ⟨hn0, hn1, hr⟩ := hbd
  obtain ⟨n, rfl⟩ := Int.eq_ofNat_of_zero_le hn0
  rw [Int.toNat_natCast] at hG2
  have hst : (er = 0 ∧ Wp.fin [] (Wp.getAll Wp.getT (n - 0) r) = G) ∨ (er ≠ 0 ∧ G = ([], [], er)) := by
    by_cases he : er = 0
    · exact Or.inl ⟨he, by rw [hG2, if_neg (by simpa using he), Nat.sub_zero, Wp.fin_nil]⟩
    · exact Or.inr ⟨he, by rw [hG2, if_pos he]⟩
  have Hst := Lib.hid hst
  clear hG2 hst
  obtain ⟨i0, hi, hz0, hz1, hz2⟩ := info_parts infoE_texts
  go_enter Try.func24, Try.ntmps24
  go_wp2_with fail
  refine (hcl _).mono ?_
  rintro e w1 ⟨rfl, hb⟩
  go_wp2_with fail
  go_loopw [6, 7, 8, 9, 10, 11, 12] (fun t6 t7 t8 t9 _ _ _ wr => ∃ (k : Nat) (acc : List ByteArray) (r' : List UInt8) (e : Int), k ≤ n ∧ t9 = .int .i64 k ∧ t6 = .string (Wp.B r') ∧ t7 = .int .i64 e ∧ r'.length ≤ s.size ∧ acc.length = k ∧ wr.ownsRow w.heap.size 9 1 t8 acc.length (acc.map Wp.mkT) ∧ ((e = 0 ∧ Wp.fin acc (Wp.getAll Wp.getT (n - k) r') = G) ∨ (e ≠ 0 ∧ G = ([], [], e))) ∧ Below w.heap.size w wr) (fun _ _ _ t _ _ _ _ => n - (intOf t).toNat)
  case atStart => exact ⟨0, [], r, er, Nat.zero_le _, rfl, rfl, rfl, hr, rfl, World.ownsRow_nil _ _ _ _, Hst.out, hb⟩
  case round =>
    obtain ⟨k, acc, r', e, hk, rfl, rfl, rfl, hr', hacc, hown, hfin, hB⟩ := hrel
    have Hacc := Lib.hid hacc
    have Hown := Lib.hid hown
    clear hacc hown Hst
    by_cases he : e = 0
    · subst he
      have hfin := (hfin.resolve_right (fun h => h.1 rfl)).2
      have Hfin := Lib.hid hfin
      clear hfin
      by_cases hlt : k < n
      · have hcall := fun w => relem_texts r' w (by omega)
        obtain ⟨⟨x, r2, e2⟩, hg2⟩ : ∃ g, Wp.getT r' = g := ⟨_, rfl⟩
        have hr2 := rest_texts r' x r2 e2 hg2
        rw [hg2] at hcall
        simp only [Wp.mkT] at hcall
        have hnext : (e2 = 0 ∧ Wp.fin (acc ++ [x]) (Wp.getAll Wp.getT (n - (k + 1)) r2) = G) ∨ (e2 ≠ 0 ∧ G = ([], [], e2)) := by
          by_cases he2 : e2 = 0
          · subst he2
            have hstep := Wp.fin_step Wp.getT acc (n - (k + 1)) r' r2 x hg2
            rw [show n - (k + 1) + 1 = n - k by omega, Hfin.out] at hstep
            exact Or.inl ⟨rfl, hstep⟩
          · have hbad := Wp.fin_bad Wp.getT acc (n - (k + 1)) r' r2 x e2 hg2 he2
            rw [show n - (k + 1) + 1 = n - k by omega, Hfin.out] at hbad
            exact Or.inr ⟨he2, hbad⟩
        have Hnext := Lib.hid hnext
        clear hnext hg2
        go_wp2_with fail
        refine (hcall _).mono ?_
        rintro e w3 ⟨rfl, hb3⟩
        have Hown3 := Lib.hid (ownsRow_below Hown.out hb3)
        have hB3 := hB.trans (hb3.mono hB.size)
        go_wp2_with (at_builtin; refine wpList_append_own _ rfl _ _ 33 rfl w.heap.size 9 i0 _ 1 16 Try.underlying33 hi hz0 hz1 hz2 rfl (by decide) _ _ _ rfl (Hown3.out.alloc _) ⟨w3.heap.size, 0, none⟩ 1 1 [Wp.mkT x] rfl rfl ?c1 ?c2 ?c3 ?c4 ?c5 ?_)
        case c1 => exact cell_one_new _ _ _
        case c2 => simp [Wp.mkT, Value.oneCell']
        case c3 => have := Hacc.out; unfold maxLen; omega
        case c4 => have := Hacc.out; omega
        case c5 => have := hB3.size; simp; omega
        intro v' w4 hown4 hgrow4 _
        have hB4 := below_grown (hB3.alloc hB3.size _) (Hown3.out.alloc _) (Nat.le_refl _) hgrow4
        have Hown4 := Lib.hid hown4
        clear hown4 hgrow4
        go_wp2_with fail
        refine ⟨⟨k + 1, acc ++ [x], r2, e2, by omega, by go_num, rfl, rfl, by omega, by rw [List.length_append, Hacc.out]; rfl, ?_, Hnext.out, hB4⟩, by simp [intOf]; omega⟩
        have := Hown4.out
        rw [List.length_append, List.map_append]
        exact this
      · obtain rfl : k = n := by omega
        have hfin := Hfin.out
        rw [Nat.sub_self] at hfin
        have hG3 : G = (acc, r', 0) := by rw [← hfin]; simp [Wp.fin, Wp.getAll]
        have HG3 := Lib.hid hG3
        clear hG3 hfin
        go_wp2_with fail
        go_ret3
        obtain ⟨p, c, hv, hat⟩ := owns_at Hown.out
        refine ⟨p, c, ?_, ?_, hB⟩
        · rw [HG3.out, ← hv]; rfl
        · rw [HG3.out]; exact hat
    · have hfin := (hfin.resolve_left (fun h => he h.1)).2
      have hb1 : (e != 0) = true := by rw [bne_iff_ne]; exact he
      have hb2 : (e == 0) = false := by rw [beq_eq_false_iff_ne]; exact he
      have Hfin := Lib.hid hfin
      clear hfin he
      by_cases hlt : k < n
      · go_wp2_with fail
        go_ret3
        refine ⟨none, 0, ?_, ?_, hB⟩
        · rw [Hfin.out]; rfl
        · rw [Hfin.out]; exact Or.inl rfl
      · go_wp2_with fail
        go_ret3
        refine ⟨none, 0, ?_, ?_, hB⟩
        · rw [Hfin.out]; rfl
        · rw [Hfin.out]; exact Or.inl rfl
end Go.Proofs.Ytdhiekhinimohaa
