/-
  The walk of wire.getList at texts: the list that bytes begin with, or why there is none, in new memory. Condition: the bytes are at most 2^48.
-/
import Derived.Test.YtdhiekhinimohaaDoorGet
namespace Go.Proofs.YtdhiekhinimohaaDoor
open Go.RowKit

theorem infoE_texts : (Tryd.prog.info? 9).map (fun i => (i.zero, i.size, i.bytes)) = some (some (.string ⟨#[]⟩), 1, 16) := by kernel_rfl
set_option maxHeartbeats 2000000 in
/-- A list of texts is got of the bytes that s begins with. -/
theorem getList_texts (s : ByteArray) (w : World) (hs : s.size ≤ 281474976710656) :
    Calls Tryd.prog 38 #[.string s, .func (Fn.func 39) #[] #[]] w fun e w' =>
      ∃ v, e = .returned (.tuple #[v, .string (Wp.B (Wp.getList Wp.getT s.data.toList).2.1), .int .i64 (Wp.getList Wp.getT s.data.toList).2.2]) ∧ w'.ownsRow w.heap.size 9 1 v (Wp.getList Wp.getT s.data.toList).1.length ((Wp.getList Wp.getT s.data.toList).1.map Wp.mkT) ∧ Below w.heap.size w w' := by
  have hcl := fun w => cutLength_any s 1024 w hs (by omega)
  obtain ⟨⟨m, r, er⟩, hg⟩ : ∃ g, Wp.gl s 1024 = g := ⟨_, rfl⟩
  have hg' : Wp.cutLen s.data.toList 1024 = (m, r, er) := hg
  rw [hg] at hcl
  have hbd := fun (h : er = 0) => Wp.gl_bounds s 1024 m r (by rw [hg, h])
  obtain ⟨G, hG⟩ : ∃ G, G = Wp.getList Wp.getT s.data.toList := ⟨_, rfl⟩
  have hG2 : G = if er ≠ 0 then ([], [], er) else Wp.getAll Wp.getT m.toNat r := by rw [hG]; unfold Wp.getList; rw [hg']
  rw [← hG]
  clear hG hg hg'
  simp only [] at hcl
  by_cases he : er = 0
  · obtain ⟨hn0, hn1, hr⟩ := hbd he
    subst he
    clear hbd
    obtain ⟨n, rfl⟩ := Int.eq_ofNat_of_zero_le hn0
    rw [if_neg (by simp), Int.toNat_natCast] at hG2
    have HG := Lib.hid hG2
    clear hG2
    obtain ⟨i0, hi, hz0, hz1, hz2⟩ := info_parts infoE_texts
    go_enter Tryd.func38, Tryd.ntmps38
    go_wp2_with fail
    refine (hcl _).mono ?_
    rintro e w1 ⟨rfl, hb⟩
    go_wp2_with fail
    go_loopw [8, 9, 10, 11, 22] (fun t8 _ t10 _ t22 wr => ∃ (k : Nat) (acc : List ByteArray) (r' : List UInt8), k ≤ n ∧ t22 = .int .i64 k ∧ t8 = .string (Wp.B r') ∧ r'.length ≤ s.size ∧ acc.length = k ∧ wr.ownsRow w.heap.size 9 1 t10 acc.length (acc.map Wp.mkT) ∧ Wp.fin acc (Wp.getAll Wp.getT (n - k) r') = G ∧ Below w.heap.size w wr) (fun _ _ _ _ t _ => n - (intOf t).toNat)
    case atStart => exact ⟨0, [], r, Nat.zero_le _, rfl, rfl, hr, rfl, World.ownsRow_nil _ _ _ _, by rw [HG.out, Nat.sub_zero, Wp.fin_nil], hb⟩
    case round =>
      obtain ⟨k, acc, r', hk, rfl, rfl, hr', hacc, hown, hfin, hB⟩ := hrel
      have Hacc := Lib.hid hacc
      have Hown := Lib.hid hown
      have Hfin := Lib.hid hfin
      clear hacc hown hfin
      by_cases hlt : k < n
      · have hcall := fun w => elem_texts r' w (by omega)
        obtain ⟨⟨x, r2, e2⟩, hg2⟩ : ∃ g, Wp.getT r' = g := ⟨_, rfl⟩
        have hr2 := rest_texts r' x r2 e2 hg2
        rw [hg2] at hcall
        simp only [Wp.mkT] at hcall
        by_cases he2 : e2 = 0
        · subst he2
          have hstep := Wp.fin_step Wp.getT acc (n - (k + 1)) r' r2 x hg2
          rw [show n - (k + 1) + 1 = n - k by omega, Hfin.out] at hstep
          have Hstep := Lib.hid hstep
          clear hstep hg2
          go_wp2_with fail
          refine (hcall _).mono ?_
          rintro e w3 ⟨rfl, hb3⟩
          have Hown3 := Lib.hid (ownsRow_below Hown.out hb3)
          have hB3 := hB.trans (hb3.mono hB.size)
          go_wp2_with (at_builtin; refine wpList_append_own _ rfl _ _ 31 rfl w.heap.size 9 i0 _ 1 16 Tryd.underlying31 hi hz0 hz1 hz2 rfl (by decide) _ _ _ rfl (Hown3.out.alloc _) ⟨w3.heap.size, 0, none⟩ 1 1 [Wp.mkT x] rfl rfl ?c1 ?c2 ?c3 ?c4 ?c5 ?_)
          case c1 => exact cell_one_new _ _ _
          case c2 => simp [Wp.mkT, Value.oneCell']
          case c3 => have := Hacc.out; unfold maxLen; omega
          case c4 => have := Hacc.out; omega
          case c5 => have := hB3.size; simp; omega
          intro v' w4 hown4 hgrow4 _
          have hB4 := below_grown (hB3.alloc hB3.size _) (Hown3.out.alloc _) (Nat.le_refl _) hgrow4
          have Hown4 := Lib.hid hown4
          clear hown4 hgrow4
          go_wp2_with fail
          refine ⟨⟨k + 1, acc ++ [x], r2, by omega, by go_num, rfl, by omega, by rw [List.length_append, Hacc.out]; rfl, ?_, Hstep.out, hB4⟩, by simp [intOf]; omega⟩
          have := Hown4.out
          rw [List.length_append, List.map_append]
          exact this
        · have hbad := Wp.fin_bad Wp.getT acc (n - (k + 1)) r' r2 x e2 hg2 he2
          rw [show n - (k + 1) + 1 = n - k by omega, Hfin.out] at hbad
          have hb1 : (e2 != 0) = true := by rw [bne_iff_ne]; exact he2
          have Hbad := Lib.hid hbad
          clear hbad hg2 he2
          go_wp2_with fail
          refine (hcall _).mono ?_
          rintro e w3 ⟨rfl, hb3⟩
          go_wp2_with fail
          go_ret3
          refine ⟨.slice none 0 0, ?_, ?_, hB.trans (hb3.mono hB.size)⟩
          · rw [Hbad.out]; rfl
          · rw [Hbad.out]; exact World.ownsRow_nil _ _ _ _
      · obtain rfl : k = n := by omega
        have hfin := Hfin.out
        rw [Nat.sub_self] at hfin
        have hG3 : G = (acc, r', 0) := by rw [← hfin]; simp [Wp.fin, Wp.getAll]
        have HG3 := Lib.hid hG3
        clear hG3 hfin
        go_wp2_with fail
        refine (clone_any _ _ (by rw [Wp.B_size]; omega)).mono ?_
        rintro e w3 ⟨rfl, hb3⟩
        go_wp2_with fail
        go_ret3
        refine ⟨u10, ?_, ?_, hB.trans (hb3.mono hB.size)⟩
        · rw [HG3.out]; rfl
        · rw [HG3.out]; exact ownsRow_below Hown.out hb3
  · have hb1 : (er != 0) = true := by rw [bne_iff_ne]; exact he
    rw [if_pos he] at hG2
    have HG := Lib.hid hG2
    clear hG2 he hbd
    go_enter Tryd.func38, Tryd.ntmps38
    go_wp2_with fail
    refine (hcl _).mono ?_
    rintro e w1 ⟨rfl, hb⟩
    go_wp2_with fail
    go_ret3
    refine ⟨.slice none 0 0, ?_, ?_, hb⟩
    · rw [HG.out]; rfl
    · rw [HG.out]; exact World.ownsRow_nil _ _ _ _
end Go.Proofs.YtdhiekhinimohaaDoor
