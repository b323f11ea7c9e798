
/-
  The walks of the document's Sort, Is, Make and Sorted for timers: the timers in order. Condition: at most 100000 timers, or a list of a size that a machine holds.
-/
import Derived.Test.YtaaodbljdpchhaaHpRef
namespace Go.Proofs.Ytaaodbljdpchhaa
open Go.RowKit Go.Lib Go.Sort Go.Shelf

def Hp.srtK (l : List (Int × Int × Int × Int)) (k : Nat) : List (Int × Int × Int × Int) := (l.take k).foldl (fun o t => Hp.ins t o) []
theorem Hp.srtK_all (l : List (Int × Int × Int × Int)) : Hp.srtK l l.length = Hp.srt l := by unfold Hp.srtK; rw [List.take_length]; rfl
theorem Hp.srtK_succ (l : List (Int × Int × Int × Int)) (k : Nat) (h : k < l.length) : Hp.srtK l (k + 1) = Hp.ins l[k] (Hp.srtK l k) := by
  unfold Hp.srtK
  rw [List.take_succ_eq_append_getElem h, List.foldl_append]
  rfl
theorem Hp.srtK_len (l : List (Int × Int × Int × Int)) (k : Nat) (h : k ≤ l.length) : (Hp.srtK l k).length = k := by
  unfold Hp.srtK
  have := (Hp.fold_perm (l.take k) []).length_eq
  rw [this]
  simp
  omega
theorem Hp.ins_at (t : Int × Int × Int × Int) : ∀ (o : List (Int × Int × Int × Int)) (j : Nat), j ≤ o.length → (∀ a (ha : a < o.length), a < j → Hp.lt o[a] t = true) → (∀ h : j < o.length, Hp.lt o[j] t = false) → Hp.ins t o = o.take j ++ [t] ++ o.drop j
  | [], j, _, _, _ => by simp [Hp.ins]
  | x :: r, 0, _, _, h2 => by
    have := h2 (by simp)
    simp only [List.getElem_cons_zero] at this
    unfold Hp.ins
    rw [if_neg (by rw [this]; simp)]
    simp
  | x :: r, j + 1, hj, h1, h2 => by
    have h0 := h1 0 (by simp) (by omega)
    simp only [List.getElem_cons_zero] at h0
    unfold Hp.ins
    rw [if_pos h0, Hp.ins_at t r j (by simpa using hj) (fun a ha haj => by have := h1 (a + 1) (by simpa using ha) (by omega); simpa using this) (fun h => by have := h2 (by simpa using h); simpa using this)]
    simp
theorem Hp.At.dropIf {w : World} {b c : Nat} {l : List (Int × Int × Int × Int)} (h : Hp.At w (some ⟨b, 0, none⟩) l) (i : Nat) (hc : l.length ≤ c) : Hp.At w (if c = i then some ⟨b, 0, none⟩ else some ⟨b, i * 4, none⟩) (l.drop i) := by
  by_cases e : c = i
  · rw [if_pos e]
    exact Or.inl (List.drop_eq_nil_of_le (by omega))
  · rw [if_neg e]
    rcases h with h | ⟨b', off, hp, hcl⟩
    · exact Or.inl (by rw [h]; simp)
    · cases hp
      refine Or.inr ⟨b, i * 4, rfl, fun a ha => ?_⟩
      have hl : i + a < l.length := by simp at ha; omega
      rw [List.getElem_drop]
      have := hcl (i + a) hl
      rwa [Nat.zero_add, Nat.add_mul] at this
theorem Hp.At.grownBy {w w' : World} {row : Option Nat} {p : Option Addr} {l : List (Int × Int × Int × Int)} (h : Hp.At w p l) (hg : w.grownBy w' row) (hne : ∀ b off, p = some ⟨b, off, none⟩ → some b ≠ row) : Hp.At w' p l := by
  rcases h with h | ⟨b, off, hp, hc⟩
  · exact Or.inl h
  · refine Or.inr ⟨b, off, hp, fun i hi => ?_⟩
    obtain ⟨c0, c1, c2, c3⟩ := hc i hi
    exact ⟨hg.cell c0 (hne _ _ hp), hg.cell c1 (hne _ _ hp), hg.cell c2 (hne _ _ hp), hg.cell c3 (hne _ _ hp)⟩
section
variable (W : World) (o : Obj) (x : Int × Int × Int × Int)
/-- An empty literal; with a new block behind it; with one ahead of it. -/
theorem Hp.a1 : Hp.Own ((W.alloc (.cells #[] 31)).drew) W.heap.size (.slice (some ⟨W.heap.size, 0, none⟩) 0 0) [] := World.ownsRow_made W #[] 0 (Nat.le_refl _) (Nat.zero_le _) rfl
theorem Hp.b1 : Hp.Own (((W.alloc (.cells #[] 31)).alloc o).drew) W.heap.size (.slice (some ⟨W.heap.size, 0, none⟩) 0 0) [] := (World.ownsRow_made W #[] 0 (Nat.le_refl _) (Nat.zero_le _) rfl).alloc o
theorem Hp.c1 : Hp.Own (((W.alloc o).alloc (.cells #[] 31)).drew) W.heap.size (.slice (some ⟨W.heap.size + 1, 0, none⟩) 0 0) [] := by
  have h := World.ownsRow_made (base := W.heap.size) (e := 31) (size := 4) (W.alloc o) #[] 0 (by rw [World.size_alloc]; omega) (Nat.zero_le _) rfl
  rw [World.size_alloc] at h
  exact h
theorem Hp.a2 : Below W.heap.size W (W.alloc o).drew := ((Below.refl _ _).alloc (Nat.le_refl _) o).drew
theorem Hp.b2 (o' : Obj) : Below W.heap.size W ((W.alloc o).alloc o').drew := (((Below.refl _ _).alloc (Nat.le_refl _) o).alloc (by rw [World.size_alloc]; omega) o').drew
theorem Hp.b3 : Hp.At (((W.alloc o).alloc (.cells #[.int .i64 x.1, .int .i64 x.2.1, .int .u8 x.2.2.1, .int .i64 x.2.2.2] 31)).drew) (some ⟨W.heap.size + 1, 0, none⟩) [x] := by
  have h := Hp.one_new (W.alloc o) x
  rw [World.size_alloc] at h
  exact h
theorem Hp.c3 : Hp.At (((W.alloc (.cells #[.int .i64 x.1, .int .i64 x.2.1, .int .u8 x.2.2.1, .int .i64 x.2.2.2] 31)).alloc o).drew) (some ⟨W.heap.size, 0, none⟩) [x] :=
  (Hp.one_new W x).below (hp_box (W.alloc (.cells #[.int .i64 x.1, .int .i64 x.2.1, .int .u8 x.2.2.1, .int .i64 x.2.2.2] 31)) o).drew
end
set_option maxHeartbeats 8000000 in
set_option maxRecDepth 100000 in
theorem ref_Sort15 (l : List (Int × Int × Int × Int)) (p : Option Addr) (c : Nat) (w : World) (hA : Hp.At w p l) (hn : l.length ≤ 100000) :
    Calls Try.prog 46 #[.slice p l.length c] w (Hp.Copied (Hp.srt l) w) := by
  have AL := Lib.hid hA
  have HS0 := Lib.hid (show Hp.srtK l 0 = [] from rfl)
  have HSs := Lib.hid (fun k h => Hp.srtK_succ l k h)
  have HSl := Lib.hid (fun k h => Hp.srtK_len l k h)
  have HSa := Lib.hid (Hp.srtK_all l)
  generalize Hp.srt l = R at *
  generalize Hp.srtK l = S at *
  obtain ⟨n, hnl⟩ : ∃ n, n = l.length := ⟨_, rfl⟩
  have Hn := Lib.hid hnl
  rw [← hnl] at hn
  rw [← hnl]
  clear hnl hA
  have mixed : Try.prog.follows .mixedOrders = true := by kernel_rfl
  go_enter Try.func46, Try.ntmps46
  go_wp2_with fail
  go_loopw [3, 9] (fun v i wr => ∃ k : Nat, k ≤ n ∧ i = .int .i64 k ∧ Hp.Own wr w.heap.size v (S k) ∧ Below w.heap.size w wr) (fun _ i _ => n - (RowKit.intOf i).toNat)
  case atStart => exact ⟨0, Nat.zero_le _, rfl, by rw [HS0.out]; exact Hp.Own.nil _ _, Below.refl _ _⟩
  case round =>
    obtain ⟨k, hk, rfl, hO, hBw⟩ := hrel
    have BW := Lib.hid hBw
    have OW := Lib.hid hO
    have hz := hBw.size
    clear hBw hO
    by_cases hlt : k < n
    · have hkl : k < l.length := by rw [← Hn.out]; exact hlt
      have hltz : (k : Int) < (n : Int) := by omega
      have hk0 : (0 : Int) ≤ (k : Int) := by omega
      obtain ⟨b1, o1, rfl, e1, e2, e3, e4⟩ := (AL.out.below BW.out).get k hkl
      have HSk := Lib.hid (HSs.out k hkl)
      have HLk := Lib.hid (HSl.out k (Nat.le_of_lt hkl))
      have HIn := Lib.hid (fun j => Hp.ins_at l[k] (S k) j)
      have CA := Lib.hid (fun y W => hp_Ahead y l[k] W)
      generalize l[k] = x at *
      generalize S k = O at *
      obtain ⟨x1, x2, x3, x4⟩ := x
      simp only [] at e1 e2 e3 e4 CA
      clear hkl
      have XB := Lib.hid (hp_new wr (.cells #[.int .i64 x1, .int .i64 x2, .int .u8 x3, .int .i64 x4] 31))
      have BB := Lib.hid (BW.out.alloc hz (.cells #[.int .i64 x1, .int .i64 x2, .int .u8 x3, .int .i64 x4] 31))
      have OB := Lib.hid (OW.out.below (hp_box wr (.cells #[.int .i64 x1, .int .i64 x2, .int .u8 x3, .int .i64 x4] 31)))
      have SB := Lib.hid (World.size_alloc wr (.cells #[.int .i64 x1, .int .i64 x2, .int .u8 x3, .int .i64 x4] 31))
      have hB0 : w.heap.size ≤ wr.heap.size := hz
      obtain ⟨vO, cO, hv, _⟩ := OW.out.at
      rw [HLk.out] at hv
      subst hv
      have hvn : vO = none ∨ ∃ g, vO = some ⟨g, 0, none⟩ := by
        rcases OW.out.blk with ⟨_, h⟩ | ⟨g, cap, rest, h, _⟩
        · cases h; exact Or.inl rfl
        · cases h; exact Or.inr ⟨g, rfl⟩
      have hcap : k ≤ cO := by
        rcases OW.out.blk with ⟨h0, h⟩ | ⟨g, cap, rest, h, _, _, hc, _⟩
        · have := HLk.out; rw [h0] at this; simp at this; omega
        · cases h; have := HLk.out; omega
      go_wp2_with fail
      clear e1 e2 e3 e4
      generalize hB : wr.heap.size = B at *
      generalize wr.alloc (.cells #[.int .i64 x1, .int .i64 x2, .int .u8 x3, .int .i64 x4] 31) = W0 at *
      have HBd := Lib.hid hB
      clear hB
      go_loopw [6] (fun i wi => ∃ j : Nat, j ≤ k ∧ i = .int .i64 j ∧ Aside (∀ a (ha : a < O.length), a < j → Hp.lt O[a] (x1, x2, x3, x4) = true) ∧ Below W0.heap.size W0 wi) (fun i _ => k - (RowKit.intOf i).toNat)
      case atStart => exact ⟨0, Nat.zero_le _, rfl, fun a ha h => absurd h (Nat.not_lt_zero _), Below.refl _ _⟩
      case round =>
        obtain ⟨j, hj, rfl, hF, hBi⟩ := hrel
        have BI := Lib.hid hBi
        have HF := Lib.hid hF.out
        have hBlt : B < W0.heap.size := by rw [SB.out]; omega
        have XI := Lib.hid ((hBi.block B hBlt).trans XB.out)
        have OI := Lib.hid (OB.out.below hBi)
        have BI2 := Lib.hid (BB.out.trans (hBi.mono (by rw [SB.out]; omega)))
        clear hBi hF
        have hj0 : (0 : Int) ≤ (j : Int) := by omega
        obtain ⟨p0, c0, hv0, hAO⟩ := OI.out.at
        rw [HLk.out] at hv0
        cases hv0
        have HAO := Lib.hid hAO
        clear hAO
        obtain ⟨x1c, x2c, x3c, x4c⟩ := Hp.box XI.out
        by_cases hlt2 : j < k
        · have hjl : j < O.length := by rw [HLk.out]; exact hlt2
          obtain ⟨b2, o2, hpe, hy⟩ := HAO.out.get j hjl
          subst hpe
          have CAy := Lib.hid (fun W => CA.out O[j] W)
          have HX := Lib.hid (fun (h : Hp.lt O[j] (x1, x2, x3, x4) = true) => show Aside (∀ a (ha : a < O.length), a < j + 1 → Hp.lt O[a] (x1, x2, x3, x4) = true) from fun a ha haj => by
            by_cases e : a = j
            · subst e; exact h
            · exact HF.out a ha (by omega))
          have HI := Lib.hid (fun (h : Hp.lt O[j] (x1, x2, x3, x4) = false) => HIn.out j (by rw [HLk.out]; exact hj) HF.out (fun _ => h))
          generalize O[j] = y at hy CAy HX HI
          obtain ⟨y1, y2, y3, y4⟩ := y
          generalize Hp.lt (y1, y2, y3, y4) (x1, x2, x3, x4) = b at CAy HX HI
          simp only [] at CAy
          have hjz : (j : Int) < (k : Int) := by omega
          have hjz2 : decide ((j : Int) < (k : Int)) = true := by simp; omega
          have hXB : Hp.At1 wr B 0 (x1, x2, x3, x4) := Hp.boxed XI.out
          have X1 := fun n os => (hXB.grown n os).1
          have X2 := fun n os => (hXB.grown n os).2.1
          have X3 := fun n os => (hXB.grown n os).2.2.1
          have X4 := fun n os => (hXB.grown n os).2.2.2
          have Y1 := fun n os => (hy.grown n os).1
          have Y2 := fun n os => (hy.grown n os).2.1
          have Y3 := fun n os => (hy.grown n os).2.2.1
          have Y4 := fun n os => (hy.grown n os).2.2.2
          simp only [Nat.zero_add] at X1 X2 X3 X4 Y1 Y2 Y3 Y4
          clear hXB hy x1c x2c x3c x4c hjl
          go_wp2_with fail
          go_quiet_grown (first | (go_at_call 23; refine Calls.grown_of (CAy.out _)))
          clear X1 X2 X3 X4 Y1 Y2 Y3 Y4
          have hb3 : Below wr.heap.size wr (grow (wr.drewN nq) osq) := hp_grown_below ⟨nq, osq, rfl⟩
          have B3 := Lib.hid (BI.out.trans (hb3.mono BI.out.size))
          cases b with
          | true =>
            have hF2 := HX.out rfl
            go_wp2_with fail
            exact ⟨⟨j + 1, by omega, by go_num, hF2, B3.out⟩, by simp [RowKit.intOf]; omega⟩
          | false =>
            have HE := Lib.hid (HI.out rfl)
            rcases hvn with h | ⟨g, h⟩
            · cases h
            cases h
            have O2 := Lib.hid (OI.out.below hb3)
            have A2 := Lib.hid (HAO.out.below hb3)
            have X2 := Lib.hid ((hb3.block B (Nat.lt_of_lt_of_le hBlt BI.out.size)).trans XI.out)
            have BW2 := Lib.hid (BI2.out.trans (hb3.mono BI2.out.size))
            have hBw : B < wr.heap.size := Nat.lt_of_lt_of_le hBlt BI.out.size
            have hBw2 := Nat.lt_of_lt_of_le hBw hb3.size
            clear hb3 hBw B3
            generalize grow (wr.drewN nq) osq = w2 at *
            have HK := Lib.hid (fun (W : World) (hW : Below w2.heap.size w2 W) => Hp.box ((hW.block B hBw2).trans X2.out))
            have Hd1 := Lib.hid (show k - j = (O.drop j).length by rw [List.length_drop, HLk.out])
            have Hd2 := Lib.hid (show ([] ++ O.take j ++ [(x1, x2, x3, x4)]).length ≤ 1000000 by rw [List.nil_append, List.length_append, List.length_take, HLk.out, List.length_singleton]; omega)
            have Hd3 := Lib.hid (show (O.drop j).length ≤ 1000000 by rw [List.length_drop, HLk.out]; omega)
            have Ht1 := Lib.hid (show ([] ++ O.take j).length ≤ 1000000 by rw [List.nil_append, List.length_take, HLk.out]; omega)
            have Ht2 := Lib.hid (show j = (O.take j).length by rw [List.length_take, HLk.out]; omega)
            have Ht3 := Lib.hid (show (O.take j).length ≤ 1000000 by rw [List.length_take, HLk.out]; omega)
            have Hone := Lib.hid (show [(x1, x2, x3, x4)].length ≤ 1000000 by simp)
            have Hc := Lib.hid (show O.length ≤ cO by rw [HLk.out]; exact hcap)
            have HS2 := Lib.hid (HSk.out.trans HE.out)
            obtain ⟨x1c, x2c, x3c, x4c⟩ := Hp.box X2.out
            have hi2 : (j : Int) ≤ (cO : Int) := by omega
            have hi3 : (k : Int) ≤ (cO : Int) := by omega
            have hi4 : (j : Int) ≤ (k : Int) := by omega
            go_wp2_with fail
            go_region_held3 (fun w' => w'.cell? ⟨B, 0, none⟩ = some (.int .i64 x1) ∧ w'.cell? ⟨B, 1, none⟩ = some (.int .i64 x2) ∧ w'.cell? ⟨B, 2, none⟩ = some (.int .u8 x3) ∧ w'.cell? ⟨B, 3, none⟩ = some (.int .i64 x4))
              (first | (with_reducible exact HK.out _ ec) | (with_reducible exact HK.out _ eb) | (with_reducible exact HK.out _ ea) | (with_reducible exact HK.out _ (ea.alloc ea.size _)) | (with_reducible exact HK.out _ (Below.refl _ w2).drew) | (go_keep; done))
              (first
                | (refine Hp.step rfl _ _ rfl ([] ++ O.take j ++ [(x1, x2, x3, x4)]) (O.drop j) vb _ _ _ w2.heap.size rfl rfl hob ((A2.out.dropIf (c := cO) j Hc.out).below eb) Hd1.out Hd2.out Hd3.out eb.size ?_; intro vc wc3 hoc hgc; have ec := hp_grown_own eb hob hgc eb.size)
                | (refine Hp.step rfl _ _ rfl ([] ++ O.take j) [(x1, x2, x3, x4)] va _ _ _ w2.heap.size rfl rfl hoa hB rfl Ht1.out Hone.out ea.size ?_; intro vb wb hob hgb; have eb := hp_grown_own ea hoa hgb ea.size)
                | (refine Hp.step rfl _ _ rfl ([] ++ O.take j) [(x1, x2, x3, x4)] va _ _ _ w2.heap.size rfl rfl (hoa.below (hp_box wa _)) (Hp.one_new wa (x1, x2, x3, x4)) rfl Ht1.out Hone.out (ea.alloc ea.size _).size ?_; intro vb wb hob hgb; have eb := hp_grown_own (ea.alloc ea.size _) (hoa.below (hp_box wa _)) hgb (ea.alloc ea.size _).size)
                | (refine Hp.step rfl _ _ rfl [] (O.take j) (.slice (some ⟨w2.heap.size, 0, none⟩) 0 0) _ _ _ w2.heap.size rfl rfl (Hp.a1 w2) ((A2.out.take j).below (Hp.a2 w2 (.cells #[] 31))) Ht2.out (Nat.zero_le _) Ht3.out (Hp.a2 w2 (.cells #[] 31)).size ?_; intro va wa hoa hga; have ea := hp_grown_own (Hp.a2 w2 (.cells #[] 31)) (Hp.a1 w2) hga (Hp.a2 w2 (.cells #[] 31)).size)
                | (refine Hp.step rfl _ _ rfl [] (O.take j) (.slice (some ⟨w2.heap.size, 0, none⟩) 0 0) _ _ _ w2.heap.size rfl rfl (Hp.b1 w2 (.cells #[.int .i64 x1, .int .i64 x2, .int .u8 x3, .int .i64 x4] 31)) ((A2.out.take j).below (Hp.b2 w2 (.cells #[] 31) (.cells #[.int .i64 x1, .int .i64 x2, .int .u8 x3, .int .i64 x4] 31))) Ht2.out (Nat.zero_le _) Ht3.out (Hp.b2 w2 (.cells #[] 31) (.cells #[.int .i64 x1, .int .i64 x2, .int .u8 x3, .int .i64 x4] 31)).size ?_; intro va wa hoa hga; have ea := hp_grown_own (Hp.b2 w2 (.cells #[] 31) (.cells #[.int .i64 x1, .int .i64 x2, .int .u8 x3, .int .i64 x4] 31)) (Hp.b1 w2 (.cells #[.int .i64 x1, .int .i64 x2, .int .u8 x3, .int .i64 x4] 31)) hga (Hp.b2 w2 (.cells #[] 31) (.cells #[.int .i64 x1, .int .i64 x2, .int .u8 x3, .int .i64 x4] 31)).size; have hB := (Hp.b3 w2 (.cells #[] 31) (x1, x2, x3, x4)).grownBy hga (fun b off h => by cases h; simp [Value.ownBlock]))
                | (refine Hp.step rfl _ _ rfl [] (O.take j) (.slice (some ⟨w2.heap.size + 1, 0, none⟩) 0 0) _ _ _ w2.heap.size rfl rfl (Hp.c1 w2 (.cells #[.int .i64 x1, .int .i64 x2, .int .u8 x3, .int .i64 x4] 31)) ((A2.out.take j).below (Hp.b2 w2 (.cells #[.int .i64 x1, .int .i64 x2, .int .u8 x3, .int .i64 x4] 31) (.cells #[] 31))) Ht2.out (Nat.zero_le _) Ht3.out (Hp.b2 w2 (.cells #[.int .i64 x1, .int .i64 x2, .int .u8 x3, .int .i64 x4] 31) (.cells #[] 31)).size ?_; intro va wa hoa hga; have ea := hp_grown_own (Hp.b2 w2 (.cells #[.int .i64 x1, .int .i64 x2, .int .u8 x3, .int .i64 x4] 31) (.cells #[] 31)) (Hp.c1 w2 (.cells #[.int .i64 x1, .int .i64 x2, .int .u8 x3, .int .i64 x4] 31)) hga (Hp.b2 w2 (.cells #[.int .i64 x1, .int .i64 x2, .int .u8 x3, .int .i64 x4] 31) (.cells #[] 31)).size; have hB := (Hp.c3 w2 (.cells #[] 31) (x1, x2, x3, x4)).grownBy hga (fun b off h => by cases h; simp [Value.ownBlock])))
            all_goals
              go_wp2_with fail
              exact ⟨⟨k + 1, by omega, by go_num, by rw [HS2.out]; exact hoc.mono BW2.out.size, BW2.out.trans (ec.mono BW2.out.size)⟩, by simp [RowKit.intOf]; omega⟩
        · obtain rfl : j = k := by omega
          have hjz2 : decide ((j : Int) < (j : Int)) = false := by simp
          have HE := Lib.hid (HIn.out j (by rw [HLk.out]; exact Nat.le_refl _) HF.out (fun h => absurd h (by rw [HLk.out]; exact Nat.lt_irrefl _)))
          clear x1c x2c x3c x4c
          go_wp2_with fail
          go_quiet (fail)
          have hb3 : Below wr.heap.size wr (wr.drewN nq) := below_drewN (Below.refl _ _) _
          have B3 := Lib.hid (BI.out.trans (hb3.mono BI.out.size))
          rcases hvn with rfl | ⟨g, rfl⟩
          · have hnil : O = [] := by
              rcases HAO.out with h | ⟨b, off, h, _⟩
              · exact h
              · cases h
            have HNil := Lib.hid hnil
            have hk0' : j = 0 := by have := HLk.out; rw [hnil] at this; simp at this; omega
            clear hnil
            subst hk0'
            have hc0 : cO = 0 := by
              rcases OI.out.blk with ⟨_, h⟩ | ⟨g, cap, rest, h, _⟩
              · cases h; rfl
              · cases h
            subst hc0
            have O2 := Lib.hid (OI.out.below hb3)
            have A2 := Lib.hid (HAO.out.below hb3)
            have X2 := Lib.hid ((hb3.block B (Nat.lt_of_lt_of_le hBlt BI.out.size)).trans XI.out)
            have BW2 := Lib.hid (BI2.out.trans (hb3.mono BI2.out.size))
            have hBw : B < wr.heap.size := Nat.lt_of_lt_of_le hBlt BI.out.size
            have hBw2 := Nat.lt_of_lt_of_le hBw hb3.size
            clear hb3 hBw B3
            generalize wr.drewN nq = w2 at *
            have HK := Lib.hid (fun (W : World) (hW : Below w2.heap.size w2 W) => Hp.box ((hW.block B hBw2).trans X2.out))
            have Hd1 := Lib.hid (show 0 = (O.drop 0).length by have := HLk.out; rw [List.length_drop]; omega)
            have Hd2 := Lib.hid (show ([] ++ O.take 0 ++ [(x1, x2, x3, x4)]).length ≤ 1000000 by rw [List.nil_append, List.length_append, List.length_take, HLk.out, List.length_singleton]; omega)
            have Hd3 := Lib.hid (show (O.drop 0).length ≤ 1000000 by rw [List.length_drop, HLk.out]; omega)
            have Ht1 := Lib.hid (show ([] ++ O.take 0).length ≤ 1000000 by rw [List.nil_append, List.length_take, HLk.out]; omega)
            have Ht2 := Lib.hid (show 0 = (O.take 0).length by rw [List.length_take, HLk.out]; omega)
            have Ht3 := Lib.hid (show (O.take 0).length ≤ 1000000 by rw [List.length_take, HLk.out]; omega)
            have Hone := Lib.hid (show [(x1, x2, x3, x4)].length ≤ 1000000 by simp)
            have Hc := Lib.hid (show O.length ≤ 0 by rw [HLk.out]; exact hcap)
            have HS2 := Lib.hid (HSk.out.trans HE.out)
            obtain ⟨x1c, x2c, x3c, x4c⟩ := Hp.box X2.out
            
            have hi3 : (0 : Int) ≤ 0 := by omega
            
            go_wp2_with fail
            go_region_held3 (fun w' => w'.cell? ⟨B, 0, none⟩ = some (.int .i64 x1) ∧ w'.cell? ⟨B, 1, none⟩ = some (.int .i64 x2) ∧ w'.cell? ⟨B, 2, none⟩ = some (.int .u8 x3) ∧ w'.cell? ⟨B, 3, none⟩ = some (.int .i64 x4))
              (first | (with_reducible exact HK.out _ ec) | (with_reducible exact HK.out _ eb) | (with_reducible exact HK.out _ ea) | (with_reducible exact HK.out _ (ea.alloc ea.size _)) | (with_reducible exact HK.out _ (Below.refl _ w2).drew) | (go_keep; done))
              (first
                | (refine Hp.step rfl _ _ rfl ([] ++ O.take 0 ++ [(x1, x2, x3, x4)]) (O.drop 0) vb _ _ _ w2.heap.size rfl rfl hob (Or.inl (by rw [HNil.out]; rfl)) Hd1.out Hd2.out Hd3.out eb.size ?_; intro vc wc3 hoc hgc; have ec := hp_grown_own eb hob hgc eb.size)
                | (refine Hp.step rfl _ _ rfl ([] ++ O.take 0) [(x1, x2, x3, x4)] va _ _ _ w2.heap.size rfl rfl hoa hB rfl Ht1.out Hone.out ea.size ?_; intro vb wb hob hgb; have eb := hp_grown_own ea hoa hgb ea.size)
                | (refine Hp.step rfl _ _ rfl ([] ++ O.take 0) [(x1, x2, x3, x4)] va _ _ _ w2.heap.size rfl rfl (hoa.below (hp_box wa _)) (Hp.one_new wa (x1, x2, x3, x4)) rfl Ht1.out Hone.out (ea.alloc ea.size _).size ?_; intro vb wb hob hgb; have eb := hp_grown_own (ea.alloc ea.size _) (hoa.below (hp_box wa _)) hgb (ea.alloc ea.size _).size)
                | (refine Hp.step rfl _ _ rfl [] (O.take 0) (.slice (some ⟨w2.heap.size, 0, none⟩) 0 0) _ _ _ w2.heap.size rfl rfl (Hp.a1 w2) ((A2.out.take 0).below (Hp.a2 w2 (.cells #[] 31))) Ht2.out (Nat.zero_le _) Ht3.out (Hp.a2 w2 (.cells #[] 31)).size ?_; intro va wa hoa hga; have ea := hp_grown_own (Hp.a2 w2 (.cells #[] 31)) (Hp.a1 w2) hga (Hp.a2 w2 (.cells #[] 31)).size)
                | (refine Hp.step rfl _ _ rfl [] (O.take 0) (.slice (some ⟨w2.heap.size, 0, none⟩) 0 0) _ _ _ w2.heap.size rfl rfl (Hp.b1 w2 (.cells #[.int .i64 x1, .int .i64 x2, .int .u8 x3, .int .i64 x4] 31)) ((A2.out.take 0).below (Hp.b2 w2 (.cells #[] 31) (.cells #[.int .i64 x1, .int .i64 x2, .int .u8 x3, .int .i64 x4] 31))) Ht2.out (Nat.zero_le _) Ht3.out (Hp.b2 w2 (.cells #[] 31) (.cells #[.int .i64 x1, .int .i64 x2, .int .u8 x3, .int .i64 x4] 31)).size ?_; intro va wa hoa hga; have ea := hp_grown_own (Hp.b2 w2 (.cells #[] 31) (.cells #[.int .i64 x1, .int .i64 x2, .int .u8 x3, .int .i64 x4] 31)) (Hp.b1 w2 (.cells #[.int .i64 x1, .int .i64 x2, .int .u8 x3, .int .i64 x4] 31)) hga (Hp.b2 w2 (.cells #[] 31) (.cells #[.int .i64 x1, .int .i64 x2, .int .u8 x3, .int .i64 x4] 31)).size; have hB := (Hp.b3 w2 (.cells #[] 31) (x1, x2, x3, x4)).grownBy hga (fun b off h => by cases h; simp [Value.ownBlock]))
                | (refine Hp.step rfl _ _ rfl [] (O.take 0) (.slice (some ⟨w2.heap.size + 1, 0, none⟩) 0 0) _ _ _ w2.heap.size rfl rfl (Hp.c1 w2 (.cells #[.int .i64 x1, .int .i64 x2, .int .u8 x3, .int .i64 x4] 31)) ((A2.out.take 0).below (Hp.b2 w2 (.cells #[.int .i64 x1, .int .i64 x2, .int .u8 x3, .int .i64 x4] 31) (.cells #[] 31))) Ht2.out (Nat.zero_le _) Ht3.out (Hp.b2 w2 (.cells #[.int .i64 x1, .int .i64 x2, .int .u8 x3, .int .i64 x4] 31) (.cells #[] 31)).size ?_; intro va wa hoa hga; have ea := hp_grown_own (Hp.b2 w2 (.cells #[.int .i64 x1, .int .i64 x2, .int .u8 x3, .int .i64 x4] 31) (.cells #[] 31)) (Hp.c1 w2 (.cells #[.int .i64 x1, .int .i64 x2, .int .u8 x3, .int .i64 x4] 31)) hga (Hp.b2 w2 (.cells #[.int .i64 x1, .int .i64 x2, .int .u8 x3, .int .i64 x4] 31) (.cells #[] 31)).size; have hB := (Hp.c3 w2 (.cells #[] 31) (x1, x2, x3, x4)).grownBy hga (fun b off h => by cases h; simp [Value.ownBlock])))
            all_goals
              go_wp2_with fail
              exact ⟨⟨0 + 1, by omega, by go_num, by rw [HS2.out]; exact hoc.mono BW2.out.size, BW2.out.trans (ec.mono BW2.out.size)⟩, by simp [RowKit.intOf]; omega⟩
          · have O2 := Lib.hid (OI.out.below hb3)
            have A2 := Lib.hid (HAO.out.below hb3)
            have X2 := Lib.hid ((hb3.block B (Nat.lt_of_lt_of_le hBlt BI.out.size)).trans XI.out)
            have BW2 := Lib.hid (BI2.out.trans (hb3.mono BI2.out.size))
            have hBw : B < wr.heap.size := Nat.lt_of_lt_of_le hBlt BI.out.size
            have hBw2 := Nat.lt_of_lt_of_le hBw hb3.size
            clear hb3 hBw B3
            generalize wr.drewN nq = w2 at *
            have HK := Lib.hid (fun (W : World) (hW : Below w2.heap.size w2 W) => Hp.box ((hW.block B hBw2).trans X2.out))
            have Hd1 := Lib.hid (show 0 = (O.drop j).length by have := HLk.out; rw [List.length_drop]; omega)
            have Hd2 := Lib.hid (show ([] ++ O.take j ++ [(x1, x2, x3, x4)]).length ≤ 1000000 by rw [List.nil_append, List.length_append, List.length_take, HLk.out, List.length_singleton]; omega)
            have Hd3 := Lib.hid (show (O.drop j).length ≤ 1000000 by rw [List.length_drop, HLk.out]; omega)
            have Ht1 := Lib.hid (show ([] ++ O.take j).length ≤ 1000000 by rw [List.nil_append, List.length_take, HLk.out]; omega)
            have Ht2 := Lib.hid (show j = (O.take j).length by rw [List.length_take, HLk.out]; omega)
            have Ht3 := Lib.hid (show (O.take j).length ≤ 1000000 by rw [List.length_take, HLk.out]; omega)
            have Hone := Lib.hid (show [(x1, x2, x3, x4)].length ≤ 1000000 by simp)
            have Hc := Lib.hid (show O.length ≤ cO by rw [HLk.out]; exact hcap)
            have HS2 := Lib.hid (HSk.out.trans HE.out)
            obtain ⟨x1c, x2c, x3c, x4c⟩ := Hp.box X2.out
            have hi2 : (j : Int) ≤ (cO : Int) := by omega
            have hi3 : (j : Int) ≤ (cO : Int) := by omega
            have hi4 : (j : Int) ≤ (j : Int) := by omega
            go_wp2_with fail
            go_region_held3 (fun w' => w'.cell? ⟨B, 0, none⟩ = some (.int .i64 x1) ∧ w'.cell? ⟨B, 1, none⟩ = some (.int .i64 x2) ∧ w'.cell? ⟨B, 2, none⟩ = some (.int .u8 x3) ∧ w'.cell? ⟨B, 3, none⟩ = some (.int .i64 x4))
              (first | (with_reducible exact HK.out _ ec) | (with_reducible exact HK.out _ eb) | (with_reducible exact HK.out _ ea) | (with_reducible exact HK.out _ (ea.alloc ea.size _)) | (with_reducible exact HK.out _ (Below.refl _ w2).drew) | (go_keep; done))
              (first
                | (refine Hp.step rfl _ _ rfl ([] ++ O.take j ++ [(x1, x2, x3, x4)]) (O.drop j) vb _ _ _ w2.heap.size rfl rfl hob ((A2.out.dropIf (c := cO) j Hc.out).below eb) Hd1.out Hd2.out Hd3.out eb.size ?_; intro vc wc3 hoc hgc; have ec := hp_grown_own eb hob hgc eb.size)
                | (refine Hp.step rfl _ _ rfl ([] ++ O.take j) [(x1, x2, x3, x4)] va _ _ _ w2.heap.size rfl rfl hoa hB rfl Ht1.out Hone.out ea.size ?_; intro vb wb hob hgb; have eb := hp_grown_own ea hoa hgb ea.size)
                | (refine Hp.step rfl _ _ rfl ([] ++ O.take j) [(x1, x2, x3, x4)] va _ _ _ w2.heap.size rfl rfl (hoa.below (hp_box wa _)) (Hp.one_new wa (x1, x2, x3, x4)) rfl Ht1.out Hone.out (ea.alloc ea.size _).size ?_; intro vb wb hob hgb; have eb := hp_grown_own (ea.alloc ea.size _) (hoa.below (hp_box wa _)) hgb (ea.alloc ea.size _).size)
                | (refine Hp.step rfl _ _ rfl [] (O.take j) (.slice (some ⟨w2.heap.size, 0, none⟩) 0 0) _ _ _ w2.heap.size rfl rfl (Hp.a1 w2) ((A2.out.take j).below (Hp.a2 w2 (.cells #[] 31))) Ht2.out (Nat.zero_le _) Ht3.out (Hp.a2 w2 (.cells #[] 31)).size ?_; intro va wa hoa hga; have ea := hp_grown_own (Hp.a2 w2 (.cells #[] 31)) (Hp.a1 w2) hga (Hp.a2 w2 (.cells #[] 31)).size)
                | (refine Hp.step rfl _ _ rfl [] (O.take j) (.slice (some ⟨w2.heap.size, 0, none⟩) 0 0) _ _ _ w2.heap.size rfl rfl (Hp.b1 w2 (.cells #[.int .i64 x1, .int .i64 x2, .int .u8 x3, .int .i64 x4] 31)) ((A2.out.take j).below (Hp.b2 w2 (.cells #[] 31) (.cells #[.int .i64 x1, .int .i64 x2, .int .u8 x3, .int .i64 x4] 31))) Ht2.out (Nat.zero_le _) Ht3.out (Hp.b2 w2 (.cells #[] 31) (.cells #[.int .i64 x1, .int .i64 x2, .int .u8 x3, .int .i64 x4] 31)).size ?_; intro va wa hoa hga; have ea := hp_grown_own (Hp.b2 w2 (.cells #[] 31) (.cells #[.int .i64 x1, .int .i64 x2, .int .u8 x3, .int .i64 x4] 31)) (Hp.b1 w2 (.cells #[.int .i64 x1, .int .i64 x2, .int .u8 x3, .int .i64 x4] 31)) hga (Hp.b2 w2 (.cells #[] 31) (.cells #[.int .i64 x1, .int .i64 x2, .int .u8 x3, .int .i64 x4] 31)).size; have hB := (Hp.b3 w2 (.cells #[] 31) (x1, x2, x3, x4)).grownBy hga (fun b off h => by cases h; simp [Value.ownBlock]))
                | (refine Hp.step rfl _ _ rfl [] (O.take j) (.slice (some ⟨w2.heap.size + 1, 0, none⟩) 0 0) _ _ _ w2.heap.size rfl rfl (Hp.c1 w2 (.cells #[.int .i64 x1, .int .i64 x2, .int .u8 x3, .int .i64 x4] 31)) ((A2.out.take j).below (Hp.b2 w2 (.cells #[.int .i64 x1, .int .i64 x2, .int .u8 x3, .int .i64 x4] 31) (.cells #[] 31))) Ht2.out (Nat.zero_le _) Ht3.out (Hp.b2 w2 (.cells #[.int .i64 x1, .int .i64 x2, .int .u8 x3, .int .i64 x4] 31) (.cells #[] 31)).size ?_; intro va wa hoa hga; have ea := hp_grown_own (Hp.b2 w2 (.cells #[.int .i64 x1, .int .i64 x2, .int .u8 x3, .int .i64 x4] 31) (.cells #[] 31)) (Hp.c1 w2 (.cells #[.int .i64 x1, .int .i64 x2, .int .u8 x3, .int .i64 x4] 31)) hga (Hp.b2 w2 (.cells #[.int .i64 x1, .int .i64 x2, .int .u8 x3, .int .i64 x4] 31) (.cells #[] 31)).size; have hB := (Hp.c3 w2 (.cells #[] 31) (x1, x2, x3, x4)).grownBy hga (fun b off h => by cases h; simp [Value.ownBlock])))
            all_goals
              go_wp2_with fail
              exact ⟨⟨j + 1, by omega, by go_num, by rw [HS2.out]; exact hoc.mono BW2.out.size, BW2.out.trans (ec.mono BW2.out.size)⟩, by simp [RowKit.intOf]; omega⟩
    · obtain rfl : k = n := by omega
      have E := Lib.hid (show S k = R by rw [Hn.out]; exact HSa.out)
      go_wp2_with fail
      go_ret
      exact ⟨_, rfl, by rw [← E.out]; exact OW.out, BW.out⟩
end Go.Proofs.Ytaaodbljdpchhaa
