/-
  The walk of due.Count. Condition: the list is of a size that a machine holds.
-/
import Derived.Test.YtaaodbljdpchhaaDuReady
import Derived.Shelf.Abstract
namespace Go.Proofs.Ytaaodbljdpchhaa
open Go.RowKit Go.Shelf
attribute [local go_sem] Oper.semAt_some

theorem Du.Kp.set {n₀ x : Nat} (W : World) (i : Nat) (v : Value) : Du.Kp n₀ x W (W.setCell ⟨x, i, none⟩ v) := by
  have hg := Below.setCell (Below.refl x W) (p := ⟨x, i, none⟩) (Nat.le_refl _) v
  exact ⟨hg.size, fun k _ hk => by
    simp only [World.setCell, Array.getElem?_modify]
    rw [if_neg (Ne.symm hk)]⟩
theorem Du.soL_le {l : List (Int × Int × Int × Int)} : (Hp.soL l).length ≤ 4096 := by
  by_cases h : Hp.Ok l
  · rw [show Hp.soL l = Hp.srt l from if_pos h, Hp.srt_len]; exact h.1
  · rw [show Hp.soL l = [] from if_neg h]; simp
set_option maxRecDepth 100000 in
set_option maxHeartbeats 4000000 in
theorem due_Count (l : List (Int × Int × Int × Int)) (now : Int) (p : Option Addr) (c : Nat) (w : World) (hA : Hp.At w p l) (hn : l.length ≤ 140737488351232) :
    Calls Try.prog 30 #[.slice p l.length c, .int .i64 now] w fun e w' => e = .returned (.tuple #[.int .i64 ((Du.due (Hp.soL l) now).length : Int), .int .i64 (Hp.chk l)]) ∧ Below w.heap.size w w' := by
  have CS := Lib.hid (hp_Sorted l p c w hA hn)
  have HL := Lib.hid (@Du.soL_le l)
  generalize Hp.soL l = S at *
  generalize Hp.chk l = z at *
  clear hA hn
  generalize l.length = n at *
  refine (callsIn_wide (n := 3)).1 ?_
  refine callsIn_of_wp_marks Try.func30 rfl trivial ?_ rfl
  simp only [Try.ntmps30, List.size_toArray, List.length_cons, List.length_nil, Nat.reduceAdd, Nat.reduceSub, Array.replicate_succ, Array.replicate_zero, List.push_toArray, List.append_toArray, List.nil_append, List.cons_append]
  gi_wp2_with fail
  refine ⟨trivial, (callsIn_wide.2 CS.out).mono ?_⟩
  rintro e w1 ⟨v, rfl, hO, hb⟩
  obtain ⟨p1, c1, rfl, hA⟩ := hO.at
  have A1 := Lib.hid hA
  have B1 := Lib.hid hb
  clear hO hA hb
  gi_wp2_with fail
  refine ⟨trivial, (callsIn_wide.2 (du_ready _ _ _ _ _)).mono ?_⟩
  rintro e w' ⟨rfl, rfl⟩
  gi_wp2_with fail
  have q0 : (((w1.alloc (.cells #[.int .i64 0] 3)).alloc (.cells #[.slice p1 S.length c1] 22)).alloc (.cells #[.int .i64 now] 2)).heap[w1.heap.size]? = some (.cells #[.int .i64 0] 3 (0, 0)) := by
    rw [hp_past _ _ _ (by simp; omega), hp_past _ _ _ (by simp), hp_new]
  have q1 : (((w1.alloc (.cells #[.int .i64 0] 3)).alloc (.cells #[.slice p1 S.length c1] 22)).alloc (.cells #[.int .i64 now] 2)).heap[w1.heap.size + 1]? = some (.cells #[.slice p1 S.length c1] 22 (0, 0)) := by
    rw [hp_past _ _ _ (by simp)]
    simpa using hp_new (w1.alloc (.cells #[.int .i64 0] 3)) (.cells #[.slice p1 S.length c1] 22)
  have q2 : (((w1.alloc (.cells #[.int .i64 0] 3)).alloc (.cells #[.slice p1 S.length c1] 22)).alloc (.cells #[.int .i64 now] 2)).heap[w1.heap.size + 1 + 1]? = some (.cells #[.int .i64 now] 2 (0, 0)) := by
    simpa using hp_new ((w1.alloc (.cells #[.int .i64 0] 3)).alloc (.cells #[.slice p1 S.length c1] 22)) (.cells #[.int .i64 now] 2)
  have hB0 : Below w1.heap.size w1 (((w1.alloc (.cells #[.int .i64 0] 3)).alloc (.cells #[.slice p1 S.length c1] 22)).alloc (.cells #[.int .i64 now] 2)) := (((Below.refl _ w1).alloc (Nat.le_refl _) _).alloc (by simp) _).alloc (by simp; omega) _
  have hsz : (((w1.alloc (.cells #[.int .i64 0] 3)).alloc (.cells #[.slice p1 S.length c1] 22)).alloc (.cells #[.int .i64 now] 2)).heap.size = w1.heap.size + 3 := by simp
  obtain ⟨W0, hW0⟩ : ∃ W0, (((w1.alloc (.cells #[.int .i64 0] 3)).alloc (.cells #[.slice p1 S.length c1] 22)).alloc (.cells #[.int .i64 now] 2)) = W0 := ⟨_, rfl⟩
  rw [hW0] at q0 q1 q2 hB0 hsz ⊢
  clear hW0
  have hz1 := B1.out.size
  have hlow : ∀ b off, p1 = some ⟨b, off, none⟩ → S ≠ [] → b < w1.heap.size + 3 ∧ b ≠ w1.heap.size := by
    intro b off hp hne
    obtain ⟨b', o', hp', hx⟩ := A1.out.get 0 (List.length_pos_iff.2 hne)
    rw [hp] at hp'
    cases hp'
    have := hx.lt
    omega
  obtain ⟨x, hx⟩ : ∃ x, x = w1.heap.size := ⟨_, rfl⟩
  rw [← hx] at q0 q1 q2 hsz hlow ⊢
  refine wpIn_rangeFunc_ownH rfl (by omega) (gf := 69) (lb := #[.pointer (some ⟨x + 1, 0, none⟩), .pointer (some ⟨x + 1 + 1, 0, none⟩)]) rfl trivial (enters_of Try.func69 (by kernel_rfl) rfl)
    (du_stops Fence.wide 2 trivial rfl (by omega) (x + 1) (x + 1 + 1) (x + 3) x p1 c1 S now HL.out hlow W0 (by omega) (by rw [Lib.cell_of_heap q1]; rfl) (by rw [Lib.cell_of_heap q2]; rfl) (by omega) (by omega) (A1.out.below hB0)) Du.Kp.trans (Du.Kp.put (by omega)) (Below.refl _ _) (fun _ => rfl)
    (fun pre W => (W.heap[x]? = some (.cells #[.int .i64 (pre.length : Int)] 3 (0, 0)) ∧ x + 3 ≤ W.heap.size) ∧ Below x w1 W)
    (fun _ _ _ => False)
    (OwnFrom.and (Own.from (fun s A B row hs hg hr => ⟨(grownBy_keeps_cells hg hr hs.1 rfl).trans hs.1, Nat.le_trans hs.2 hg.size⟩) _) (ownFrom_below (by omega) (by omega)))
    (fun c => fun _ _ _ _ h _ _ => h)
    ⟨⟨q0, by omega⟩, by rw [hx]; exact hB0⟩
    (fun y a' W => a' = { tmps := #[.slice p n c, .int .i64 now, undef, undef, .int .i64 0, .int .i64 0, .slice p1 S.length c1, .int .i64 z, .pointer (some ⟨x, 0, none⟩), .tuple #[.slice p1 S.length c1, .int .i64 z], .slice p n c, .tuple #[.slice p1 S.length c1, .int .i64 z], .slice p1 S.length c1, .int .i64 z, .slice p1 S.length c1, .int .i64 now, .func (.func 69) #[] #[.pointer (some ⟨x + 1, 0, none⟩), .pointer (some ⟨x + 1 + 1, 0, none⟩)], .agg #[.int .i64 y.1, .int .i64 y.2.1, .int .u8 y.2.2.1, .int .i64 y.2.2.2], undef, undef, undef, undef], defers := [] })
    (fun y a' _ X Y row hs hg hr => hs)
    ?assign ?body ?done ?stop
  case assign =>
    rintro lo pre y W K hI hK
    gi_wp2
    exact hK _ _ (KeepsFrom.refl _ _) (Du.Kp.refl _ _ _) hI (by simp)
  case body =>
    rintro lo pre y a' W hl ⟨r, hr⟩ ⟨⟨r0, r1⟩, hB⟩ rfl hlt
    clear hx
    have k0 : W.cell? ⟨x, 0, none⟩ = some (.int .i64 (pre.length : Int)) := by rw [Lib.cell_of_heap r0]; rfl
    have k1 : W.frozen? ⟨x, 0, none⟩ = false := by simp [World.frozen?, r0]
    have hpl : (pre.length : Int) ≤ 4096 := by have := HL.out; omega
    gi_wp2
    exact ⟨(KeepsOthers.setCell _ _ _).from _, Du.Kp.set _ _ _, ⟨by rw [Lib.heap_setCell_same (i := 0) r0 _]; simp, by simpa using r1⟩, hB.setCell (p := ⟨x, 0, none⟩) (by simp) _⟩
  case done =>
    rintro D ys W hD rfl ⟨⟨r0, r1⟩, hB⟩ hK
    have HX := Lib.hid hx
    clear hx
    have k0 : W.cell? ⟨x, 0, none⟩ = some (.int .i64 ((Du.due S now).length : Int)) := by rw [Lib.cell_of_heap r0]; rfl
    gi_wp2
    refine ⟨by simp, .inl ⟨_, _, rfl, run_takeDeferred hK, ?_⟩⟩
    refine ⟨.tuple #[.int .i64 ((Du.due S now).length : Int), .int .i64 z], ?_, rfl, (B1.out.trans ((by rw [HX.out] at hB; exact hB : Below w1.heap.size w1 W).mono hz1)).trans (belowK_b (w := w) (Nat.le_refl _) W D _ _ (by have := HX.out; omega) hK rfl rfl)⟩
    simp [results, Try.f30, go_sem]
  case stop => intro _ _ _ _ _ _ h; exact h.elim
end Go.Proofs.Ytaaodbljdpchhaa
