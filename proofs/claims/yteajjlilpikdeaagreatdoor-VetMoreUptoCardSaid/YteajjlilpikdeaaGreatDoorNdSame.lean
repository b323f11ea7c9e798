
/-
  The walk of the document's comparison of two lists of nodes (bellmanref11.Same), where they are one. Condition: lists are of a size that a machine holds.
-/
import Derived.Test.YteajjlilpikdeaaGreatDoorNdR
import Derived.Test.YteajjlilpikdeaaGreatDoorSameT
namespace Go.Proofs.YteajjlilpikdeaaGreatDoor
open Go.RowKit

def Nd.SameC (m : Nat) : Prop := ∀ (l : List Nd.N) (p1 p2 : Option Addr) (c1 c2 : Nat) (w : World), Nd.cntL l ≤ m → l.length ≤ 140737488351232 → Nd.Row w p1 l → Nd.Row w p2 l →
    Calls Tryz.prog 16 #[.slice p1 l.length c1, .slice p2 l.length c2] w fun e w' => e = .returned (.bool true) ∧ Below w.heap.size w w'
theorem Nd.keep1 {w w' : World} {g : Nat} {o : Obj} (h : w.heap[g]? = some o) (hb : Below w.heap.size w w') : w'.heap[g]? = some o := (hb.block g (Array.getElem?_eq_some_iff.1 h).1).trans h
theorem Nd.cnt_mem {x : Nd.N} : ∀ {l : List Nd.N}, x ∈ l → x.cnt ≤ Nd.cntL l
  | [], h => by simp at h
  | y :: l, h => by
    rw [Nd.cntL_cons]
    rcases List.mem_cons.1 h with rfl | h
    · omega
    · have := Nd.cnt_mem h
      omega
set_option maxRecDepth 100000 in
set_option maxHeartbeats 8000000 in
theorem same_step (m : Nat) (ih : ∀ g, g < m → Nd.SameC g) : Nd.SameC m := by
  intro l p1 p2 c1 c2 w hm hl h1 h2
  have Hih := Lib.hid ih
  have H1 := Lib.hid h1
  have H2 := Lib.hid h2
  have Hm := Lib.hid hm
  obtain ⟨n, hn⟩ : ∃ n, n = l.length := ⟨_, rfl⟩
  rw [← hn] at hl ⊢
  have HN := Lib.hid hn
  clear ih h1 h2 hm hn
  have hq : ((n : Int) != (n : Int)) = false := by simp
  go_enter Tryz.func16, Tryz.ntmps16
  go_wp2_with fail
  go_loopw [5, 6, 7, 15] (fun _ _ _ t wr => ∃ k : Nat, k ≤ n ∧ t = .int .i64 k ∧ Hid (Below w.heap.size w wr)) (fun _ _ _ t _ => n - (intOf t).toNat)
  case atStart => exact ⟨0, Nat.zero_le _, rfl, Lib.hid (Below.refl _ _)⟩
  case round =>
    obtain ⟨k, hk, rfl, HB⟩ := hrel
    by_cases hlt : k < n
    · have hkl : k < l.length := by rw [← HN.out]; exact hlt
      obtain ⟨b1, o1, pp1, cp1, pk1, ck1, pe1, ce1, rfl, ⟨e0, e1, e2, e3, e4⟩, ⟨-, -, f3, f4, f5, -, -, -, -⟩, hp1, hk1, he1⟩ := (H1.out.below HB.out).get k hkl
      obtain ⟨b2, o2, pp2, cp2, pk2, ck2, pe2, ce2, rfl, ⟨d0, d1, d2, d3, d4⟩, -, hp2, hk2, he2⟩ := (H2.out.below HB.out).get k hkl
      have hcn := Nd.cnt_mem (List.getElem_mem hkl)
      rw [Nd.N.cnt_eq] at hcn
      have hm1 := Hm.out
      generalize l[k] = x at *
      have CT := Lib.hid (fun W (h : Below wr.heap.size wr W) => same_texts pp1 pp2 cp1 cp2 x.path W (by omega) (hp1.below h) (hp2.below h))
      have CK := Lib.hid (fun W (h : Below wr.heap.size wr W) => Hih.out (Nd.cntL x.kids) (by omega) x.kids pk1 pk2 ck1 ck2 W (Nat.le_refl _) f4 (hk1.below h) (hk2.below h))
      have CE := Lib.hid (fun W (h : Below wr.heap.size wr W) => Hih.out (Nd.cntL x.els) (by omega) x.els pe1 pe2 ce1 ce2 W (Nat.le_refl _) f5 (he1.below h) (he2.below h))
      have g1 := World.block_lt_of_cell? wr _ e0
      have g2 := World.block_lt_of_cell? wr _ d0
      clear hp1 hk1 he1 hp2 hk2 he2 hm1 hcn f3 f4 f5
      generalize x.path.length = np at *
      generalize x.kids.length = nk at *
      generalize x.els.length = ne at *
      generalize x.kind = kd at *
      generalize x.text = tx at *
      have q1 : ((kd : Int) != (kd : Int)) = false := by simp
      have q2 : (tx.toList != tx.toList) = false := by simp
      have HKp : Hid (∀ w' : World, Below wr.heap.size wr w' → (fun w' => w'.cell? ⟨b1, o1 + k * 5, none⟩ = some (.int .u8 (kd : Nat)) ∧ w'.cell? ⟨b1, o1 + k * 5 + 1, none⟩ = some (.string tx) ∧ w'.cell? ⟨b1, o1 + k * 5 + 2, none⟩ = some (.slice pp1 np cp1) ∧ w'.cell? ⟨b1, o1 + k * 5 + 3, none⟩ = some (.slice pk1 nk ck1) ∧ w'.cell? ⟨b1, o1 + k * 5 + 4, none⟩ = some (.slice pe1 ne ce1) ∧ w'.cell? ⟨b2, o2 + k * 5, none⟩ = some (.int .u8 (kd : Nat)) ∧ w'.cell? ⟨b2, o2 + k * 5 + 1, none⟩ = some (.string tx) ∧ w'.cell? ⟨b2, o2 + k * 5 + 2, none⟩ = some (.slice pp2 np cp2) ∧ w'.cell? ⟨b2, o2 + k * 5 + 3, none⟩ = some (.slice pk2 nk ck2) ∧ w'.cell? ⟨b2, o2 + k * 5 + 4, none⟩ = some (.slice pe2 ne ce2)) w') := Lib.hid (fun w' h => ⟨(h.cell (World.block_lt_of_cell? wr _ e0)).trans e0, (h.cell (World.block_lt_of_cell? wr _ e1)).trans e1, (h.cell (World.block_lt_of_cell? wr _ e2)).trans e2, (h.cell (World.block_lt_of_cell? wr _ e3)).trans e3, (h.cell (World.block_lt_of_cell? wr _ e4)).trans e4, (h.cell (World.block_lt_of_cell? wr _ d0)).trans d0, (h.cell (World.block_lt_of_cell? wr _ d1)).trans d1, (h.cell (World.block_lt_of_cell? wr _ d2)).trans d2, (h.cell (World.block_lt_of_cell? wr _ d3)).trans d3, (h.cell (World.block_lt_of_cell? wr _ d4)).trans d4⟩)
      go_wp2_with fail
      go_region_held3 (fun w' => w'.cell? ⟨b1, o1 + k * 5, none⟩ = some (.int .u8 (kd : Nat)) ∧ w'.cell? ⟨b1, o1 + k * 5 + 1, none⟩ = some (.string tx) ∧ w'.cell? ⟨b1, o1 + k * 5 + 2, none⟩ = some (.slice pp1 np cp1) ∧ w'.cell? ⟨b1, o1 + k * 5 + 3, none⟩ = some (.slice pk1 nk ck1) ∧ w'.cell? ⟨b1, o1 + k * 5 + 4, none⟩ = some (.slice pe1 ne ce1) ∧ w'.cell? ⟨b2, o2 + k * 5, none⟩ = some (.int .u8 (kd : Nat)) ∧ w'.cell? ⟨b2, o2 + k * 5 + 1, none⟩ = some (.string tx) ∧ w'.cell? ⟨b2, o2 + k * 5 + 2, none⟩ = some (.slice pp2 np cp2) ∧ w'.cell? ⟨b2, o2 + k * 5 + 3, none⟩ = some (.slice pk2 nk ck2) ∧ w'.cell? ⟨b2, o2 + k * 5 + 4, none⟩ = some (.slice pe2 ne ce2))
        (first | (with_reducible exact HKp.out _ (Below.refl _ wr).drew) | (with_reducible exact HKp.out _ (((Below.refl wr.heap.size wr).alloc (Nat.le_refl _) _).drew)) | (exact HKp.out _ ((((Below.refl wr.heap.size wr).alloc (Nat.le_refl _) _).alloc (by rw [World.size_alloc]; omega) _).drew)) | (go_keep; done))
        (first | fail)
      focus
        obtain ⟨bx6, hbe1⟩ : ∃ bx6, bx6 = wr.heap.size := ⟨_, rfl⟩
        obtain ⟨bx7, hbe2⟩ : ∃ bx7, bx7 = wr.heap.size + 1 := ⟨_, rfl⟩
        have HX6 := Lib.hid (show (((wr.alloc (.cells #[.int .u8 (kd : Nat), .string tx, .slice pp1 np cp1, .slice pk1 nk ck1, .slice pe1 ne ce1] 44)).alloc (.cells #[.int .u8 (kd : Nat), .string tx, .slice pp2 np cp2, .slice pk2 nk ck2, .slice pe2 ne ce2] 44)).drew).heap[bx6]? = some (.cells #[.int .u8 (kd : Nat), .string tx, .slice pp1 np cp1, .slice pk1 nk ck1, .slice pe1 ne ce1] 44) by rw [hbe1]; exact (Vl.past (wr.alloc (.cells #[.int .u8 (kd : Nat), .string tx, .slice pp1 np cp1, .slice pk1 nk ck1, .slice pe1 ne ce1] 44)) (.cells #[.int .u8 (kd : Nat), .string tx, .slice pp2 np cp2, .slice pk2 nk ck2, .slice pe2 ne ce2] 44) wr.heap.size (by rw [World.size_alloc]; omega)).trans (Vl.new wr (.cells #[.int .u8 (kd : Nat), .string tx, .slice pp1 np cp1, .slice pk1 nk ck1, .slice pe1 ne ce1] 44)))
        have HX7 := Lib.hid (show (((wr.alloc (.cells #[.int .u8 (kd : Nat), .string tx, .slice pp1 np cp1, .slice pk1 nk ck1, .slice pe1 ne ce1] 44)).alloc (.cells #[.int .u8 (kd : Nat), .string tx, .slice pp2 np cp2, .slice pk2 nk ck2, .slice pe2 ne ce2] 44)).drew).heap[bx7]? = some (.cells #[.int .u8 (kd : Nat), .string tx, .slice pp2 np cp2, .slice pk2 nk ck2, .slice pe2 ne ce2] 44) by rw [hbe2]; exact Vl.newAt (wr.alloc (.cells #[.int .u8 (kd : Nat), .string tx, .slice pp1 np cp1, .slice pk1 nk ck1, .slice pe1 ne ce1] 44)) (.cells #[.int .u8 (kd : Nat), .string tx, .slice pp2 np cp2, .slice pk2 nk ck2, .slice pe2 ne ce2] 44) (wr.heap.size + 1) (by rw [World.size_alloc]))
        have HBl := Lib.hid (show Below wr.heap.size wr (((wr.alloc (.cells #[.int .u8 (kd : Nat), .string tx, .slice pp1 np cp1, .slice pk1 nk ck1, .slice pe1 ne ce1] 44)).alloc (.cells #[.int .u8 (kd : Nat), .string tx, .slice pp2 np cp2, .slice pk2 nk ck2, .slice pe2 ne ce2] 44)).drew) from (((Below.refl wr.heap.size wr).alloc (Nat.le_refl _) _).alloc (by rw [World.size_alloc]; omega) _).drew)
        rw [← hbe2, ← hbe1]
        clear hbe1 hbe2
        generalize ((wr.alloc (.cells #[.int .u8 (kd : Nat), .string tx, .slice pp1 np cp1, .slice pk1 nk ck1, .slice pe1 ne ce1] 44)).alloc (.cells #[.int .u8 (kd : Nat), .string tx, .slice pp2 np cp2, .slice pk2 nk ck2, .slice pe2 ne ce2] 44)).drew = W5 at *
      rotate_left 1
      focus
        obtain ⟨bx7, hbe1⟩ : ∃ bx7, bx7 = wr.heap.size := ⟨_, rfl⟩
        obtain ⟨bx6, hbe2⟩ : ∃ bx6, bx6 = wr.heap.size + 1 := ⟨_, rfl⟩
        have HX7 := Lib.hid (show (((wr.alloc (.cells #[.int .u8 (kd : Nat), .string tx, .slice pp2 np cp2, .slice pk2 nk ck2, .slice pe2 ne ce2] 44)).alloc (.cells #[.int .u8 (kd : Nat), .string tx, .slice pp1 np cp1, .slice pk1 nk ck1, .slice pe1 ne ce1] 44)).drew).heap[bx7]? = some (.cells #[.int .u8 (kd : Nat), .string tx, .slice pp2 np cp2, .slice pk2 nk ck2, .slice pe2 ne ce2] 44) by rw [hbe1]; exact (Vl.past (wr.alloc (.cells #[.int .u8 (kd : Nat), .string tx, .slice pp2 np cp2, .slice pk2 nk ck2, .slice pe2 ne ce2] 44)) (.cells #[.int .u8 (kd : Nat), .string tx, .slice pp1 np cp1, .slice pk1 nk ck1, .slice pe1 ne ce1] 44) wr.heap.size (by rw [World.size_alloc]; omega)).trans (Vl.new wr (.cells #[.int .u8 (kd : Nat), .string tx, .slice pp2 np cp2, .slice pk2 nk ck2, .slice pe2 ne ce2] 44)))
        have HX6 := Lib.hid (show (((wr.alloc (.cells #[.int .u8 (kd : Nat), .string tx, .slice pp2 np cp2, .slice pk2 nk ck2, .slice pe2 ne ce2] 44)).alloc (.cells #[.int .u8 (kd : Nat), .string tx, .slice pp1 np cp1, .slice pk1 nk ck1, .slice pe1 ne ce1] 44)).drew).heap[bx6]? = some (.cells #[.int .u8 (kd : Nat), .string tx, .slice pp1 np cp1, .slice pk1 nk ck1, .slice pe1 ne ce1] 44) by rw [hbe2]; exact Vl.newAt (wr.alloc (.cells #[.int .u8 (kd : Nat), .string tx, .slice pp2 np cp2, .slice pk2 nk ck2, .slice pe2 ne ce2] 44)) (.cells #[.int .u8 (kd : Nat), .string tx, .slice pp1 np cp1, .slice pk1 nk ck1, .slice pe1 ne ce1] 44) (wr.heap.size + 1) (by rw [World.size_alloc]))
        have HBl := Lib.hid (show Below wr.heap.size wr (((wr.alloc (.cells #[.int .u8 (kd : Nat), .string tx, .slice pp2 np cp2, .slice pk2 nk ck2, .slice pe2 ne ce2] 44)).alloc (.cells #[.int .u8 (kd : Nat), .string tx, .slice pp1 np cp1, .slice pk1 nk ck1, .slice pe1 ne ce1] 44)).drew) from (((Below.refl wr.heap.size wr).alloc (Nat.le_refl _) _).alloc (by rw [World.size_alloc]; omega) _).drew)
        rw [← hbe2, ← hbe1]
        clear hbe1 hbe2
        generalize ((wr.alloc (.cells #[.int .u8 (kd : Nat), .string tx, .slice pp2 np cp2, .slice pk2 nk ck2, .slice pe2 ne ce2] 44)).alloc (.cells #[.int .u8 (kd : Nat), .string tx, .slice pp1 np cp1, .slice pk1 nk ck1, .slice pe1 ne ce1] 44)).drew = W5 at *
      rotate_left 1
      all_goals
        clear HKp e0 e1 e2 e3 e4 d0 d1 d2 d3 d4 g1 g2
        obtain ⟨x0, x1, x2, x3, x4⟩ := Vl.five_of HX6.out
        obtain ⟨y0, y1, y2, y3, y4⟩ := Vl.five_of HX7.out
        go_wp2_with fail
        refine (CT.out _ HBl.out).mono ?_
        rintro e w6 ⟨rfl, hb⟩
        have HX6 := Lib.hid (Nd.keep1 HX6.out hb)
        have HX7 := Lib.hid (Nd.keep1 HX7.out hb)
        have HBl := Lib.hid (HBl.out.trans (hb.mono HBl.out.size))
        clear hb x0 x1 x2 x3 x4 y0 y1 y2 y3 y4
        obtain ⟨x0, x1, x2, x3, x4⟩ := Vl.five_of HX6.out
        obtain ⟨y0, y1, y2, y3, y4⟩ := Vl.five_of HX7.out
        go_wp2_with fail
        refine (CK.out _ HBl.out).mono ?_
        rintro e w7 ⟨rfl, hb⟩
        have HX6 := Lib.hid (Nd.keep1 HX6.out hb)
        have HX7 := Lib.hid (Nd.keep1 HX7.out hb)
        have HBl := Lib.hid (HBl.out.trans (hb.mono HBl.out.size))
        clear hb x0 x1 x2 x3 x4 y0 y1 y2 y3 y4
        obtain ⟨x0, x1, x2, x3, x4⟩ := Vl.five_of HX6.out
        obtain ⟨y0, y1, y2, y3, y4⟩ := Vl.five_of HX7.out
        go_wp2_with fail
        refine (CE.out _ HBl.out).mono ?_
        rintro e w8 ⟨rfl, hb⟩
        have HX6 := Lib.hid (Nd.keep1 HX6.out hb)
        have HX7 := Lib.hid (Nd.keep1 HX7.out hb)
        have HBl := Lib.hid (HBl.out.trans (hb.mono HBl.out.size))
        clear hb x0 x1 x2 x3 x4 y0 y1 y2 y3 y4
        obtain ⟨x0, x1, x2, x3, x4⟩ := Vl.five_of HX6.out
        obtain ⟨y0, y1, y2, y3, y4⟩ := Vl.five_of HX7.out
        have HB9 := Lib.hid (HB.out.trans (HBl.out.mono HB.out.size))
        go_wp2_with fail
        exact ⟨⟨k + 1, by omega, by go_num, HB9⟩, by simp [intOf]; omega⟩
    · obtain rfl : k = n := by omega
      go_wp2_with fail
      go_ret
      exact ⟨rfl, HB.out⟩
theorem ndSame_any (l : List Nd.N) (p1 p2 : Option Addr) (c1 c2 : Nat) (w : World) (hl : l.length ≤ 140737488351232) (h1 : Nd.Row w p1 l) (h2 : Nd.Row w p2 l) :
    Calls Tryz.prog 16 #[.slice p1 l.length c1, .slice p2 l.length c2] w fun e w' => e = .returned (.bool true) ∧ Below w.heap.size w w' :=
  (Nat.strongRecOn (Nd.cntL l) same_step : Nd.SameC (Nd.cntL l)) l p1 p2 c1 c2 w (Nat.le_refl _) hl h1 h2
end Go.Proofs.YteajjlilpikdeaaGreatDoor
