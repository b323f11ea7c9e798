/-
  The law ValuePaths: a path finds what its rest finds in what its beginning finds. Conditions: the library's table of powers of ten reads as it is laid; a value's texts and lists are of a size that a machine holds; the two lists of names are of at most 1048576 names.
-/
import Derived.Test.YtcpebkhpocdeoaaDoorPathsAt
namespace Go.Proofs.YtcpebkhpocdeoaaDoor
open Go.RowKit

theorem Vl.tyTexts : Ow.Ty 24 9 (.string ⟨#[]⟩) := ⟨Tryd.underlying24, by obtain ⟨i, h1, h2, h3, h4⟩ : ∃ i, Tryd.prog.info? 9 = some i ∧ i.zero = some (.string ⟨#[]⟩) ∧ i.size = 1 ∧ i.bytes = 16 := info_parts (by kernel_rfl); exact ⟨i, h1, h2, h3, by omega⟩, rfl⟩
/-- A block of another type is not a row's. -/
theorem Ow.apart {w : World} {base q : Nat} {e t : TypeId} {size : Nat} {v : Value} {n : Nat} {xs : List Value} {cs : Array Value} {fr : Nat × Nat} (hO : w.ownsRow base e size v n xs) (h : w.heap[q]? = some (.cells cs t fr)) (hne : t ≠ e) : some q ≠ v.ownBlock := by
  intro heq
  rcases hO.2 with ⟨rfl, _⟩ | ⟨g, cap, cur, rfl, hg, hc, _⟩
  · simp [Value.ownBlock] at heq
  · simp [Value.ownBlock] at heq
    subst heq
    rw [hc] at h
    cases h
    exact hne rfl
theorem Ow.kept {w w' : World} {base q : Nat} {e t : TypeId} {size : Nat} {v : Value} {n : Nat} {xs : List Value} {cs : Array Value} {fr : Nat × Nat} (hO : w.ownsRow base e size v n xs) (hg : w.grownBy w' v.ownBlock) (h : w.heap[q]? = some (.cells cs t fr)) (hne : t ≠ e) : w'.heap[q]? = some (.cells cs t fr) :=
  (hg.block q (Array.getElem?_eq_some_iff.1 h).1 (Ow.apart hO h hne)).trans h
/-- A value that a call hands back, on blocks of its own. -/
def Vl.RO (x : Vl.V) (rest : List Value) (w : World) (e : Ending) (w' : World) : Prop := ∃ (k : Nat) (t : ByteArray) (i : Int) (pi : Option Addr) (ni ci : Nat) (pn : Option Addr) (nn cn : Nat), e = .returned (.tuple (List.toArray (.agg #[.int .u8 k, .string t, .int .i64 i, .slice pi ni ci, .slice pn nn cn] :: rest))) ∧ (∃ d, Vl.Off d w.heap.size w' none (.agg #[.int .u8 k, .string t, .int .i64 i, .slice pi ni ci, .slice pn nn cn]) x) ∧ Below w.heap.size w w'
theorem Vl.find_ofO {V U : Vl.V} {c : Int} {v : Value} {l : List ByteArray} {u : Value} {base : Nat} {W : World} (hl : l.length ≤ 140737488351232) (hv : Vl.AtE W v V) (hO : W.ownsRow base 9 1 u l.length (l.map Wp.mkT)) (h : Vl.findR V l = (U, c)) :
    Calls Tryd.prog 8 #[v, u] W (Vl.RO U [.int .i64 c] W) := by
  obtain ⟨d, hv⟩ := hv
  obtain ⟨p, cap, rfl, hp⟩ := owns_at hO
  refine (vlFind_off d V v W hv.succ p cap l hl hp).mono ?_
  rintro q W' ⟨u, rfl, h1, h2⟩
  rw [h] at h1 ⊢
  obtain ⟨k, t, i, pi, ni, ci, pn, nn, cn, rfl⟩ := h1.at.shape
  exact ⟨_, _, _, _, _, _, _, _, _, rfl, ⟨_, h1⟩, h2⟩
/-- What stands behind the store. -/
theorem Vl.late {d B : Nat} {w0 w5 : World} {x : Vl.V} {k : Nat} {t : ByteArray} {i : Int} {pi pn : Option Addr} {ni ci nn cn : Nat} (hb : Below w0.heap.size w0 w5) (hO : Vl.Off d B w5 none (.agg #[.int .u8 k, .string t, .int .i64 i, .slice pi ni ci, .slice pn nn cn]) x) :
    Below w0.heap.size w0 (w5.alloc (.cells #[.int .u8 k, .string t, .int .i64 i, .slice pi ni ci, .slice pn nn cn] 26)) ∧ (w5.alloc (.cells #[.int .u8 k, .string t, .int .i64 i, .slice pi ni ci, .slice pn nn cn] 26)).heap[w5.heap.size]? = some (.cells #[.int .u8 k, .string t, .int .i64 i, .slice pi ni ci, .slice pn nn cn] 26 (0, 0)) ∧
      Vl.AtE (w5.alloc (.cells #[.int .u8 k, .string t, .int .i64 i, .slice pi ni ci, .slice pn nn cn] 26)) (.agg #[.int .u8 k, .string t, .int .i64 i, .slice pi ni ci, .slice pn nn cn]) x :=
  ⟨hb.alloc hb.size _, Vl.new _ _, d, hO.at.below ((Below.refl w5.heap.size w5).alloc (Nat.le_refl _) _)⟩
theorem Vl.early {d B q : Nat} {w0 w5 : World} {x : Vl.V} {k : Nat} {t : ByteArray} {i : Int} {pi pn : Option Addr} {ni ci nn cn : Nat} {a b c e f : Value} (hb : Below w0.heap.size w0 w5) (hO : Vl.Off d B w5 none (.agg #[.int .u8 k, .string t, .int .i64 i, .slice pi ni ci, .slice pn nn cn]) x) (hx : w5.heap[q]? = some (.cells #[a, b, c, e, f] 26 (0, 0))) (h0 : w0.heap.size ≤ q) (hq : q < B) :
    Below w0.heap.size w0 ((((((w5).setCell ⟨q, 0, none⟩ (.int .u8 k)).setCell ⟨q, 1, none⟩ (.string t)).setCell ⟨q, 2, none⟩ (.int .i64 i)).setCell ⟨q, 3, none⟩ (.slice pi ni ci)).setCell ⟨q, 4, none⟩ (.slice pn nn cn)) ∧ ((((((w5).setCell ⟨q, 0, none⟩ (.int .u8 k)).setCell ⟨q, 1, none⟩ (.string t)).setCell ⟨q, 2, none⟩ (.int .i64 i)).setCell ⟨q, 3, none⟩ (.slice pi ni ci)).setCell ⟨q, 4, none⟩ (.slice pn nn cn)).heap[q]? = some (.cells #[.int .u8 k, .string t, .int .i64 i, .slice pi ni ci, .slice pn nn cn] 26 (0, 0)) ∧
      Vl.AtE ((((((w5).setCell ⟨q, 0, none⟩ (.int .u8 k)).setCell ⟨q, 1, none⟩ (.string t)).setCell ⟨q, 2, none⟩ (.int .i64 i)).setCell ⟨q, 3, none⟩ (.slice pi ni ci)).setCell ⟨q, 4, none⟩ (.slice pn nn cn)) (.agg #[.int .u8 k, .string t, .int .i64 i, .slice pi ni ci, .slice pn nn cn]) x :=
  ⟨below_grownBy hb (Vl.set5_grown _ _ _ _ _ _ _) h0 hb.size, Vl.set5 hx _ _ _ _ _, d, hO _ (fun j h1 _ _ => Vl.set5_rest _ _ _ _ _ _ _ j (by omega))⟩

set_option maxRecDepth 100000 in
set_option maxHeartbeats 2000000 in
theorem valuePaths_law (V : Vl.V) (v : Value) (pa : Option Addr) (ca : Nat) (la : List ByteArray) (pb : Option Addr) (cb : Nat) (lb : List ByteArray) (w : World) (hA : Vl.AtE w v V) (hpa : Wp.At Wp.mkT w pa la) (hpb : Wp.At Wp.mkT w pb lb) (hla : la.length ≤ 1048576) (hlb : lb.length ≤ 1048576) (hT : Vl.Tab w) :
    Calls Tryd.prog 7 #[v, .slice pa la.length ca, .slice pb lb.length cb] w fun e w' => e = .returned (.bool true) ∧ Below w.heap.size w w' := by
  obtain ⟨k1, t1, i1, pi1, ni1, ci1, pn1, nn1, cn1, rfl⟩ := hA.shape
  have HL := Lib.hid (fun W (h : Below w.heap.size w W) => lives09_any W (fun W2 h2 => hT.below (h.trans (h2.mono h.size))))
  have hB0 := (Below.refl w.heap.size w).alloc (Nat.le_refl _) (.cells #[.int .u8 k1, .string t1, .int .i64 i1, .slice pi1 ni1 ci1, .slice pn1 nn1 cn1] 26)
  have HB0 := Lib.hid hB0
  have HV0 := Lib.hid (Vl.new w (.cells #[.int .u8 k1, .string t1, .int .i64 i1, .slice pi1 ni1 ci1, .slice pn1 nn1 cn1] 26))
  have HA0 := Lib.hid (hA.below hB0)
  have HPa0 := Lib.hid (hpa.below hB0)
  have HPb0 := Lib.hid (hpb.below hB0)
  obtain ⟨⟨U1, c1⟩, h1⟩ : ∃ T, Vl.findR V la = T := ⟨_, rfl⟩
  obtain ⟨⟨U2, c2⟩, h2⟩ : ∃ T, Vl.findR V ([] ++ la ++ lb) = T := ⟨_, rfl⟩
  have hP : (c1 ≠ 0 ∧ c2 = c1) ∨ (c1 = 0 ∧ Vl.findR U1 lb = (U2, c2)) := by
    have h := Vl.findR_append V la lb
    rw [List.nil_append] at h2
    rw [h1, h2] at h
    by_cases hc : c1 = 0
    · right
      rw [if_pos hc] at h
      exact ⟨hc, h.symm⟩
    · left
      rw [if_neg hc] at h
      exact ⟨hc, (Prod.mk.inj h).2⟩
  have HP := Lib.hid hP
  have H1 := Lib.hid h1
  have H2 := Lib.hid h2
  have HLa : Hid (la.length ≤ 3000000) := Lib.hid (by omega)
  have HLb : Hid (lb.length ≤ 3000000) := Lib.hid (by omega)
  have HLe : Hid (([] ++ la ++ lb).length ≤ 140737488351232) := Lib.hid (by simp; omega)
  clear hA hpa hpb hT hB0 h1 h2 hP hla hlb
  go_enter Tryd.func7, Tryd.ntmps7
  go_wp2_with fail
  refine (HL.out _ HB0.out).mono ?_
  rintro e w1 ⟨rfl, hb⟩
  have HB1 := Lib.hid (HB0.out.trans (hb.mono HB0.out.size))
  have HV1 := Lib.hid (Vl.keepBox HV0.out hb)
  have HA1 := Lib.hid (HA0.out.below hb)
  have HPa1 := Lib.hid (HPa0.out.below hb)
  have HPb1 := Lib.hid (HPb0.out.below hb)
  clear hb HB0 HV0 HA0 HPa0 HPb0 HL
  obtain ⟨m0, m1, m2, m3, m4⟩ := Vl.five_of HV1.out
  have HC := Lib.hid (Vl.find_ofE (cap := ca) (Nat.le_trans HLa.out (by omega)) HA1.out HPa1.out H1.out)
  go_wp2_with fail
  refine HC.out.mono ?_
  rintro e w2 ⟨k2, t2, i2, pi2, ni2, ci2, pn2, nn2, cn2, rfl, hA2, hb2⟩
  have hby := (Below.refl w2.heap.size w2).alloc (Nat.le_refl _) (.cells #[.int .u8 k2, .string t2, .int .i64 i2, .slice pi2 ni2 ci2, .slice pn2 nn2 cn2] 26)
  have h2y := hb2.trans (hby.mono hb2.size)
  have HB2 := Lib.hid (HB1.out.trans (h2y.mono HB1.out.size))
  have HV2 := Lib.hid (Vl.keepBox HV1.out h2y)
  have HA2 := Lib.hid (HA1.out.below h2y)
  have HPa2 := Lib.hid (HPa1.out.below h2y)
  have HPb2 := Lib.hid (HPb1.out.below h2y)
  have HX2 := Lib.hid (Vl.new w2 (.cells #[.int .u8 k2, .string t2, .int .i64 i2, .slice pi2 ni2 ci2, .slice pn2 nn2 cn2] 26))
  have HAx2 := Lib.hid (hA2.below hby)
  clear hA2 hb2 hby h2y HC m0 m1 m2 m3 m4 HB1 HV1 HA1 HPa1 HPb1 H1
  go_upto_region 4 with fail
  generalize (w2.alloc (.cells #[.int .u8 k2, .string t2, .int .i64 i2, .slice pi2 ni2 ci2, .slice pn2 nn2 cn2] 26)) = W2 at *
  generalize w2.heap.size = bx at *
  have HFc := Lib.hid (fun (W : World) (u : Value) (h : Below W2.heap.size W2 W) (hO : W.ownsRow W2.heap.size 9 1 u ([] ++ la ++ lb).length (([] ++ la ++ lb).map Wp.mkT)) => Vl.find_ofO HLe.out (HA2.out.below h) hO H2.out)
  obtain ⟨m0, m1, m2, m3, m4⟩ := Vl.five_of HV2.out
  have hvz : w.heap.size < W2.heap.size := (Array.getElem?_eq_some_iff.1 HV2.out).1
  have HKp : Hid (∀ w' : World, Below W2.heap.size W2 w' → (fun w' => w'.cell? ⟨w.heap.size, 0, none⟩ = some (.int .u8 k1) ∧ w'.cell? ⟨w.heap.size, 1, none⟩ = some (.string t1) ∧ w'.cell? ⟨w.heap.size, 2, none⟩ = some (.int .i64 i1) ∧ w'.cell? ⟨w.heap.size, 3, none⟩ = some (.slice pi1 ni1 ci1) ∧ w'.cell? ⟨w.heap.size, 4, none⟩ = some (.slice pn1 nn1 cn1)) w') := Lib.hid (fun w' h => ⟨(h.cell (p := ⟨w.heap.size, 0, none⟩) hvz).trans m0, (h.cell (p := ⟨w.heap.size, 1, none⟩) hvz).trans m1, (h.cell (p := ⟨w.heap.size, 2, none⟩) hvz).trans m2, (h.cell (p := ⟨w.heap.size, 3, none⟩) hvz).trans m3, (h.cell (p := ⟨w.heap.size, 4, none⟩) hvz).trans m4⟩)
  have HKq : Hid (∀ (w' : World) (q : Nat) (a b c d e : Value), Below W2.heap.size W2 w' → w.heap.size < q → (fun w' => w'.cell? ⟨w.heap.size, 0, none⟩ = some (.int .u8 k1) ∧ w'.cell? ⟨w.heap.size, 1, none⟩ = some (.string t1) ∧ w'.cell? ⟨w.heap.size, 2, none⟩ = some (.int .i64 i1) ∧ w'.cell? ⟨w.heap.size, 3, none⟩ = some (.slice pi1 ni1 ci1) ∧ w'.cell? ⟨w.heap.size, 4, none⟩ = some (.slice pn1 nn1 cn1)) (((((w'.setCell ⟨q, 0, none⟩ a).setCell ⟨q, 1, none⟩ b).setCell ⟨q, 2, none⟩ c).setCell ⟨q, 3, none⟩ d).setCell ⟨q, 4, none⟩ e)) := Lib.hid (fun w' q a b c d e h hq => by
    obtain ⟨o0, o1, o2, o3, o4⟩ := HKp.out w' h
    exact ⟨(World.cell?_of_block (a := ⟨w.heap.size, 0, none⟩) (Vl.set5_rest w' q a b c d e w.heap.size (by omega))).trans o0, (World.cell?_of_block (a := ⟨w.heap.size, 1, none⟩) (Vl.set5_rest w' q a b c d e w.heap.size (by omega))).trans o1, (World.cell?_of_block (a := ⟨w.heap.size, 2, none⟩) (Vl.set5_rest w' q a b c d e w.heap.size (by omega))).trans o2, (World.cell?_of_block (a := ⟨w.heap.size, 3, none⟩) (Vl.set5_rest w' q a b c d e w.heap.size (by omega))).trans o3, (World.cell?_of_block (a := ⟨w.heap.size, 4, none⟩) (Vl.set5_rest w' q a b c d e w.heap.size (by omega))).trans o4⟩)
  have nc0 : ∀ W : World, (W.alloc (.cells #[.int .u8 0, .string ⟨#[]⟩, .int .i64 0, .slice none 0 0, .slice none 0 0] 26)).cell? ⟨W.heap.size, 0, none⟩ = some (.int .u8 0) := fun W => (Vl.five_of (Vl.new W (.cells #[.int .u8 0, .string ⟨#[]⟩, .int .i64 0, .slice none 0 0, .slice none 0 0] 26))).1
  have nf0 : ∀ W : World, (W.alloc (.cells #[.int .u8 0, .string ⟨#[]⟩, .int .i64 0, .slice none 0 0, .slice none 0 0] 26)).frozen? ⟨W.heap.size, 0, none⟩ = false := fun W => (Vl.fiveF_of (Vl.new W (.cells #[.int .u8 0, .string ⟨#[]⟩, .int .i64 0, .slice none 0 0, .slice none 0 0] 26))).1
  have nc1 : ∀ W : World, (W.alloc (.cells #[.int .u8 0, .string ⟨#[]⟩, .int .i64 0, .slice none 0 0, .slice none 0 0] 26)).cell? ⟨W.heap.size, 1, none⟩ = some (.string ⟨#[]⟩) := fun W => (Vl.five_of (Vl.new W (.cells #[.int .u8 0, .string ⟨#[]⟩, .int .i64 0, .slice none 0 0, .slice none 0 0] 26))).2.1
  have nf1 : ∀ W : World, (W.alloc (.cells #[.int .u8 0, .string ⟨#[]⟩, .int .i64 0, .slice none 0 0, .slice none 0 0] 26)).frozen? ⟨W.heap.size, 1, none⟩ = false := fun W => (Vl.fiveF_of (Vl.new W (.cells #[.int .u8 0, .string ⟨#[]⟩, .int .i64 0, .slice none 0 0, .slice none 0 0] 26))).2.1
  have nc2 : ∀ W : World, (W.alloc (.cells #[.int .u8 0, .string ⟨#[]⟩, .int .i64 0, .slice none 0 0, .slice none 0 0] 26)).cell? ⟨W.heap.size, 2, none⟩ = some (.int .i64 0) := fun W => (Vl.five_of (Vl.new W (.cells #[.int .u8 0, .string ⟨#[]⟩, .int .i64 0, .slice none 0 0, .slice none 0 0] 26))).2.2.1
  have nf2 : ∀ W : World, (W.alloc (.cells #[.int .u8 0, .string ⟨#[]⟩, .int .i64 0, .slice none 0 0, .slice none 0 0] 26)).frozen? ⟨W.heap.size, 2, none⟩ = false := fun W => (Vl.fiveF_of (Vl.new W (.cells #[.int .u8 0, .string ⟨#[]⟩, .int .i64 0, .slice none 0 0, .slice none 0 0] 26))).2.2.1
  have nc3 : ∀ W : World, (W.alloc (.cells #[.int .u8 0, .string ⟨#[]⟩, .int .i64 0, .slice none 0 0, .slice none 0 0] 26)).cell? ⟨W.heap.size, 3, none⟩ = some (.slice none 0 0) := fun W => (Vl.five_of (Vl.new W (.cells #[.int .u8 0, .string ⟨#[]⟩, .int .i64 0, .slice none 0 0, .slice none 0 0] 26))).2.2.2.1
  have nf3 : ∀ W : World, (W.alloc (.cells #[.int .u8 0, .string ⟨#[]⟩, .int .i64 0, .slice none 0 0, .slice none 0 0] 26)).frozen? ⟨W.heap.size, 3, none⟩ = false := fun W => (Vl.fiveF_of (Vl.new W (.cells #[.int .u8 0, .string ⟨#[]⟩, .int .i64 0, .slice none 0 0, .slice none 0 0] 26))).2.2.2.1
  have nc4 : ∀ W : World, (W.alloc (.cells #[.int .u8 0, .string ⟨#[]⟩, .int .i64 0, .slice none 0 0, .slice none 0 0] 26)).cell? ⟨W.heap.size, 4, none⟩ = some (.slice none 0 0) := fun W => (Vl.five_of (Vl.new W (.cells #[.int .u8 0, .string ⟨#[]⟩, .int .i64 0, .slice none 0 0, .slice none 0 0] 26))).2.2.2.2
  have nf4 : ∀ W : World, (W.alloc (.cells #[.int .u8 0, .string ⟨#[]⟩, .int .i64 0, .slice none 0 0, .slice none 0 0] 26)).frozen? ⟨W.heap.size, 4, none⟩ = false := fun W => (Vl.fiveF_of (Vl.new W (.cells #[.int .u8 0, .string ⟨#[]⟩, .int .i64 0, .slice none 0 0, .slice none 0 0] 26))).2.2.2.2
  clear H2 HA2
  go_region_held3 (fun w' => w'.cell? ⟨w.heap.size, 0, none⟩ = some (.int .u8 k1) ∧ w'.cell? ⟨w.heap.size, 1, none⟩ = some (.string t1) ∧ w'.cell? ⟨w.heap.size, 2, none⟩ = some (.int .i64 i1) ∧ w'.cell? ⟨w.heap.size, 3, none⟩ = some (.slice pi1 ni1 ci1) ∧ w'.cell? ⟨w.heap.size, 4, none⟩ = some (.slice pn1 nn1 cn1))
    (first | (with_reducible exact HKp.out _ eC) | (with_reducible exact HKp.out _ (eC.alloc eC.size _)) | (with_reducible exact HKp.out _ eB) | (with_reducible exact HKp.out _ (eB.alloc eB.size _)) | (with_reducible exact HKp.out _ eA) | (with_reducible exact HKp.out _ (eA.alloc eA.size _)) | (with_reducible exact HKp.out _ (Below.refl _ W2).drew) | (with_reducible exact HKp.out _ ((Below.refl _ W2).drew.alloc (Nat.le_refl _) _)) | (with_reducible exact HKp.out _ (((Below.refl _ W2).drew.alloc (Nat.le_refl _) _).alloc (by rw [World.size_alloc]; exact Nat.le_succ _) _)) | (with_reducible exact HKp.out _ (Ow.a2 W2 _)) | (with_reducible exact HKp.out _ (Ow.b2 W2 _ _)) | (with_reducible exact HKq.out _ _ _ _ _ _ _ eC (Nat.lt_of_lt_of_le hvz hqL)) | (go_keep; done))
    (first
      | (refine Ow.step (mk := Wp.mkT) rfl _ _ _ rfl (fun _ => rfl) Vl.tyTexts [] la (.slice (some ⟨W2.heap.size, 0, none⟩) 0 0) _ _ _ W2.heap.size rfl rfl (Ow.a1 W2 9) (HPa2.out.below (Ow.a2 W2 (.cells #[] 9))) rfl (by simp) HLa.out (Ow.a2 W2 (.cells #[] 9)).size ?_; intro va wa hoa hga; have eA := Ow.grown (Ow.a2 W2 (.cells #[] 9)) (Ow.a1 W2 9) hga (Ow.a2 W2 (.cells #[] 9)).size)
      | (refine Ow.step (mk := Wp.mkT) rfl _ _ _ rfl (fun _ => rfl) Vl.tyTexts [] la (.slice (some ⟨W2.heap.size, 0, none⟩) 0 0) _ _ _ W2.heap.size rfl rfl (Ow.b1 W2 9 (.cells #[.int .u8 0, .string ⟨#[]⟩, .int .i64 0, .slice none 0 0, .slice none 0 0] 26)) (HPa2.out.below (Ow.b2 W2 (.cells #[] 9) (.cells #[.int .u8 0, .string ⟨#[]⟩, .int .i64 0, .slice none 0 0, .slice none 0 0] 26))) rfl (by simp) HLa.out (Ow.b2 W2 (.cells #[] 9) (.cells #[.int .u8 0, .string ⟨#[]⟩, .int .i64 0, .slice none 0 0, .slice none 0 0] 26)).size ?_; intro va wa hoa hga; have eA := Ow.grown (Ow.b2 W2 (.cells #[] 9) (.cells #[.int .u8 0, .string ⟨#[]⟩, .int .i64 0, .slice none 0 0, .slice none 0 0] 26)) (Ow.b1 W2 9 (.cells #[.int .u8 0, .string ⟨#[]⟩, .int .i64 0, .slice none 0 0, .slice none 0 0] 26)) hga (Ow.b2 W2 (.cells #[] 9) (.cells #[.int .u8 0, .string ⟨#[]⟩, .int .i64 0, .slice none 0 0, .slice none 0 0] 26)).size; have hxA := Ow.kept (Ow.b1 W2 9 (.cells #[.int .u8 0, .string ⟨#[]⟩, .int .i64 0, .slice none 0 0, .slice none 0 0] 26)) hga (Vl.newAt (W2.alloc (.cells #[] 9)) (.cells #[.int .u8 0, .string ⟨#[]⟩, .int .i64 0, .slice none 0 0, .slice none 0 0] 26) (W2.heap.size + 1) (by rw [World.size_alloc])) (by decide); have hqL : W2.heap.size ≤ W2.heap.size + 1 := Nat.le_succ _)
      | (refine Ow.step (mk := Wp.mkT) rfl _ _ _ rfl (fun _ => rfl) Vl.tyTexts [] la (.slice (some ⟨W2.heap.size + 1, 0, none⟩) 0 0) _ _ _ W2.heap.size rfl rfl (Ow.c1 W2 9 (.cells #[.int .u8 0, .string ⟨#[]⟩, .int .i64 0, .slice none 0 0, .slice none 0 0] 26)) (HPa2.out.below (Ow.b2 W2 (.cells #[.int .u8 0, .string ⟨#[]⟩, .int .i64 0, .slice none 0 0, .slice none 0 0] 26) (.cells #[] 9))) rfl (by simp) HLa.out (Ow.b2 W2 (.cells #[.int .u8 0, .string ⟨#[]⟩, .int .i64 0, .slice none 0 0, .slice none 0 0] 26) (.cells #[] 9)).size ?_; intro va wa hoa hga; have eA := Ow.grown (Ow.b2 W2 (.cells #[.int .u8 0, .string ⟨#[]⟩, .int .i64 0, .slice none 0 0, .slice none 0 0] 26) (.cells #[] 9)) (Ow.c1 W2 9 (.cells #[.int .u8 0, .string ⟨#[]⟩, .int .i64 0, .slice none 0 0, .slice none 0 0] 26)) hga (Ow.b2 W2 (.cells #[.int .u8 0, .string ⟨#[]⟩, .int .i64 0, .slice none 0 0, .slice none 0 0] 26) (.cells #[] 9)).size; have hxA := Ow.kept (Ow.c1 W2 9 (.cells #[.int .u8 0, .string ⟨#[]⟩, .int .i64 0, .slice none 0 0, .slice none 0 0] 26)) hga (show ((W2.alloc (.cells #[.int .u8 0, .string ⟨#[]⟩, .int .i64 0, .slice none 0 0, .slice none 0 0] 26)).alloc (.cells #[] 9)).heap[W2.heap.size]? = _ from (Vl.past _ _ _ (by rw [World.size_alloc]; omega)).trans (Vl.new W2 (.cells #[.int .u8 0, .string ⟨#[]⟩, .int .i64 0, .slice none 0 0, .slice none 0 0] 26))) (by decide); have hqL : W2.heap.size ≤ W2.heap.size := Nat.le_refl _)
      | (refine Ow.step (mk := Wp.mkT) rfl _ _ _ rfl (fun _ => rfl) Vl.tyTexts ([] ++ la) lb va _ _ _ W2.heap.size rfl rfl hoa (HPb2.out.below eA) rfl HLa.out HLb.out eA.size ?_; intro vb wb hob hgb; have eB := Ow.grown eA hoa hgb eA.size; first | (have hxB := Ow.kept hoa hgb hxA (by decide)) | skip)
      | (refine Ow.step (mk := Wp.mkT) rfl _ _ _ rfl (fun _ => rfl) Vl.tyTexts ([] ++ la) lb va _ _ _ W2.heap.size rfl rfl (hoa.alloc _) (HPb2.out.below (eA.alloc eA.size (.cells #[.int .u8 0, .string ⟨#[]⟩, .int .i64 0, .slice none 0 0, .slice none 0 0] 26))) rfl HLa.out HLb.out (eA.alloc eA.size (.cells #[.int .u8 0, .string ⟨#[]⟩, .int .i64 0, .slice none 0 0, .slice none 0 0] 26)).size ?_; intro vb wb hob hgb; have eB := Ow.grown (eA.alloc eA.size (.cells #[.int .u8 0, .string ⟨#[]⟩, .int .i64 0, .slice none 0 0, .slice none 0 0] 26)) (hoa.alloc _) hgb (eA.alloc eA.size (.cells #[.int .u8 0, .string ⟨#[]⟩, .int .i64 0, .slice none 0 0, .slice none 0 0] 26)).size; have hxB := Ow.kept (hoa.alloc _) hgb (Vl.new wa (.cells #[.int .u8 0, .string ⟨#[]⟩, .int .i64 0, .slice none 0 0, .slice none 0 0] 26)) (by decide); have hqL : W2.heap.size ≤ wa.heap.size := eA.size)
      | (go_at_call 8; (with_reducible refine (HFc.out wb _ eB hob).mono ?_); rintro e w5 ⟨k5, t5, i5, pi5, ni5, ci5, pn5, nn5, cn5, rfl, ⟨d5, hO5⟩, hb5⟩; have eC : Below W2.heap.size W2 w5 := eB.trans (hb5.mono eB.size); first | (have hxC := Vl.keepBox hxB hb5; have hqC := (Array.getElem?_eq_some_iff.1 hxB).1; obtain ⟨y0, y1, y2, y3, y4⟩ := Vl.five_of hxC; obtain ⟨z0, z1, z2, z3, z4⟩ := Vl.fiveF_of hxC) | skip)
      | (go_at_call 8; (with_reducible refine (HFc.out (wb.alloc (.cells #[.int .u8 0, .string ⟨#[]⟩, .int .i64 0, .slice none 0 0, .slice none 0 0] 26)) _ (eB.alloc eB.size (.cells #[.int .u8 0, .string ⟨#[]⟩, .int .i64 0, .slice none 0 0, .slice none 0 0] 26)) (hob.alloc _)).mono ?_); rintro e w5 ⟨k5, t5, i5, pi5, ni5, ci5, pn5, nn5, cn5, rfl, ⟨d5, hO5⟩, hb5⟩; have eC : Below W2.heap.size W2 w5 := (eB.alloc eB.size (.cells #[.int .u8 0, .string ⟨#[]⟩, .int .i64 0, .slice none 0 0, .slice none 0 0] 26)).trans (hb5.mono (eB.alloc eB.size (.cells #[.int .u8 0, .string ⟨#[]⟩, .int .i64 0, .slice none 0 0, .slice none 0 0] 26)).size); have hxC := Vl.keepBox (Vl.new wb (.cells #[.int .u8 0, .string ⟨#[]⟩, .int .i64 0, .slice none 0 0, .slice none 0 0] 26)) hb5; have hqL : W2.heap.size ≤ wb.heap.size := eB.size; have hqC : wb.heap.size < (wb.alloc (.cells #[.int .u8 0, .string ⟨#[]⟩, .int .i64 0, .slice none 0 0, .slice none 0 0] 26)).heap.size := (by rw [World.size_alloc]; omega); obtain ⟨y0, y1, y2, y3, y4⟩ := Vl.five_of hxC; obtain ⟨z0, z1, z2, z3, z4⟩ := Vl.fiveF_of hxC))
  · obtain ⟨hbF, hxF, hAF⟩ := Vl.late eC hO5
    have HB6 := Lib.hid (HB2.out.trans (hbF.mono HB2.out.size))
    have HX6 := Lib.hid (Vl.keepBox HX2.out hbF)
    have HAx6 := Lib.hid (HAx2.out.below hbF)
    have HPb6 := Lib.hid (HPb2.out.below hbF)
    have HY6 := Lib.hid hxF
    have HAy6 := Lib.hid hAF
    clear hbF hxF hAF HKp HKq HFc nc0 nc1 nc2 nc3 nc4 nf0 nf1 nf2 nf3 nf4  eA eB eC hO5 hb5 hob hgb hoa hga HB2 HV2 HX2 HAx2 HPa2 HPb2 m0 m1 m2 m3 m4 hvz
    generalize (w5.alloc (.cells #[.int .u8 k5, .string t5, .int .i64 i5, .slice pi5 ni5 ci5, .slice pn5 nn5 cn5] 26)) = W6 at *
    generalize w5.heap.size = bz at *
    rcases HP.out with ⟨hc, hcc⟩ | ⟨hc, h3⟩
    · subst hcc
      have hcb : (c2 != 0) = true := by rw [bne_iff_ne]; exact hc
      have hce : (c2 == c2) = true := by simp
      clear HP hc
      go_wp2_with fail
      go_ret
      exact ⟨rfl, HB6.out⟩
    · subst hc
      have HC := Lib.hid (Vl.find_ofE (cap := cb) (Nat.le_trans HLb.out (by omega)) HAx6.out HPb6.out h3)
      have hce : (c2 == c2) = true := by simp
      obtain ⟨r0, r1, r2, r3, r4⟩ := Vl.five_of HX6.out
      clear HP h3
      go_wp2_with fail
      refine HC.out.mono ?_
      rintro e w7 ⟨k6, t6, i6, pi6, ni6, ci6, pn6, nn6, cn6, rfl, hA7, hb7⟩
      have hby := (Below.refl w7.heap.size w7).alloc (Nat.le_refl _) (.cells #[.int .u8 k6, .string t6, .int .i64 i6, .slice pi6 ni6 ci6, .slice pn6 nn6 cn6] 26)
      have h7y := hb7.trans (hby.mono hb7.size)
      have HB7 := Lib.hid (HB6.out.trans (h7y.mono HB6.out.size))
      obtain ⟨y0, y1, y2, y3, y4⟩ := Vl.five_of (Vl.keepBox HY6.out h7y)
      obtain ⟨u0, u1, u2, u3, u4⟩ := Vl.five_of (Vl.new w7 (.cells #[.int .u8 k6, .string t6, .int .i64 i6, .slice pi6 ni6 ci6, .slice pn6 nn6 cn6] 26))
      have HSm := Lib.hid (Vl.same_ofE (HAy6.out.below h7y) (hA7.below hby))
      clear hA7 hb7 hby h7y HC r0 r1 r2 r3 r4 HB6 HX6 HAx6 HPb6 HY6 HAy6
      go_wp2_with fail
      refine HSm.out.mono ?_
      rintro e w8 ⟨rfl, hb8⟩
      have HB8 := Lib.hid (HB7.out.trans (hb8.mono HB7.out.size))
      clear hb8
      go_wp2_with fail
      go_ret
      exact ⟨rfl, HB8.out⟩
  · obtain ⟨hbF, hxF, hAF⟩ := Vl.early eC hO5 hxC hqL hqC
    have HB6 := Lib.hid (HB2.out.trans (hbF.mono HB2.out.size))
    have HX6 := Lib.hid (Vl.keepBox HX2.out hbF)
    have HAx6 := Lib.hid (HAx2.out.below hbF)
    have HPb6 := Lib.hid (HPb2.out.below hbF)
    have HY6 := Lib.hid hxF
    have HAy6 := Lib.hid hAF
    clear hbF hxF hAF HKp HKq HFc nc0 nc1 nc2 nc3 nc4 nf0 nf1 nf2 nf3 nf4 hxC hqL hqC y0 y1 y2 y3 y4 z0 z1 z2 z3 z4 eA eB eC hO5 hb5 hob hgb hoa hga HB2 HV2 HX2 HAx2 HPa2 HPb2 m0 m1 m2 m3 m4 hvz
    generalize (((((w5.setCell ⟨wb.heap.size, 0, none⟩ (.int .u8 k5)).setCell ⟨wb.heap.size, 1, none⟩ (.string t5)).setCell ⟨wb.heap.size, 2, none⟩ (.int .i64 i5)).setCell ⟨wb.heap.size, 3, none⟩ (.slice pi5 ni5 ci5)).setCell ⟨wb.heap.size, 4, none⟩ (.slice pn5 nn5 cn5)) = W6 at *
    generalize wb.heap.size = bz at *
    rcases HP.out with ⟨hc, hcc⟩ | ⟨hc, h3⟩
    · subst hcc
      have hcb : (c2 != 0) = true := by rw [bne_iff_ne]; exact hc
      have hce : (c2 == c2) = true := by simp
      clear HP hc
      go_wp2_with fail
      go_ret
      exact ⟨rfl, HB6.out⟩
    · subst hc
      have HC := Lib.hid (Vl.find_ofE (cap := cb) (Nat.le_trans HLb.out (by omega)) HAx6.out HPb6.out h3)
      have hce : (c2 == c2) = true := by simp
      obtain ⟨r0, r1, r2, r3, r4⟩ := Vl.five_of HX6.out
      clear HP h3
      go_wp2_with fail
      refine HC.out.mono ?_
      rintro e w7 ⟨k6, t6, i6, pi6, ni6, ci6, pn6, nn6, cn6, rfl, hA7, hb7⟩
      have hby := (Below.refl w7.heap.size w7).alloc (Nat.le_refl _) (.cells #[.int .u8 k6, .string t6, .int .i64 i6, .slice pi6 ni6 ci6, .slice pn6 nn6 cn6] 26)
      have h7y := hb7.trans (hby.mono hb7.size)
      have HB7 := Lib.hid (HB6.out.trans (h7y.mono HB6.out.size))
      obtain ⟨y0, y1, y2, y3, y4⟩ := Vl.five_of (Vl.keepBox HY6.out h7y)
      obtain ⟨u0, u1, u2, u3, u4⟩ := Vl.five_of (Vl.new w7 (.cells #[.int .u8 k6, .string t6, .int .i64 i6, .slice pi6 ni6 ci6, .slice pn6 nn6 cn6] 26))
      have HSm := Lib.hid (Vl.same_ofE (HAy6.out.below h7y) (hA7.below hby))
      clear hA7 hb7 hby h7y HC r0 r1 r2 r3 r4 HB6 HX6 HAx6 HPb6 HY6 HAy6
      go_wp2_with fail
      refine HSm.out.mono ?_
      rintro e w8 ⟨rfl, hb8⟩
      have HB8 := Lib.hid (HB7.out.trans (hb8.mono HB7.out.size))
      clear hb8
      go_wp2_with fail
      go_ret
      exact ⟨rfl, HB8.out⟩
  · obtain ⟨hbF, hxF, hAF⟩ := Vl.early eC hO5 hxC hqL hqC
    have HB6 := Lib.hid (HB2.out.trans (hbF.mono HB2.out.size))
    have HX6 := Lib.hid (Vl.keepBox HX2.out hbF)
    have HAx6 := Lib.hid (HAx2.out.below hbF)
    have HPb6 := Lib.hid (HPb2.out.below hbF)
    have HY6 := Lib.hid hxF
    have HAy6 := Lib.hid hAF
    clear hbF hxF hAF HKp HKq HFc nc0 nc1 nc2 nc3 nc4 nf0 nf1 nf2 nf3 nf4 hxB hxC hqL hqC y0 y1 y2 y3 y4 z0 z1 z2 z3 z4 eA eB eC hO5 hb5 hob hgb hoa hga HB2 HV2 HX2 HAx2 HPa2 HPb2 m0 m1 m2 m3 m4 hvz
    generalize (((((w5.setCell ⟨wa.heap.size, 0, none⟩ (.int .u8 k5)).setCell ⟨wa.heap.size, 1, none⟩ (.string t5)).setCell ⟨wa.heap.size, 2, none⟩ (.int .i64 i5)).setCell ⟨wa.heap.size, 3, none⟩ (.slice pi5 ni5 ci5)).setCell ⟨wa.heap.size, 4, none⟩ (.slice pn5 nn5 cn5)) = W6 at *
    generalize wa.heap.size = bz at *
    rcases HP.out with ⟨hc, hcc⟩ | ⟨hc, h3⟩
    · subst hcc
      have hcb : (c2 != 0) = true := by rw [bne_iff_ne]; exact hc
      have hce : (c2 == c2) = true := by simp
      clear HP hc
      go_wp2_with fail
      go_ret
      exact ⟨rfl, HB6.out⟩
    · subst hc
      have HC := Lib.hid (Vl.find_ofE (cap := cb) (Nat.le_trans HLb.out (by omega)) HAx6.out HPb6.out h3)
      have hce : (c2 == c2) = true := by simp
      obtain ⟨r0, r1, r2, r3, r4⟩ := Vl.five_of HX6.out
      clear HP h3
      go_wp2_with fail
      refine HC.out.mono ?_
      rintro e w7 ⟨k6, t6, i6, pi6, ni6, ci6, pn6, nn6, cn6, rfl, hA7, hb7⟩
      have hby := (Below.refl w7.heap.size w7).alloc (Nat.le_refl _) (.cells #[.int .u8 k6, .string t6, .int .i64 i6, .slice pi6 ni6 ci6, .slice pn6 nn6 cn6] 26)
      have h7y := hb7.trans (hby.mono hb7.size)
      have HB7 := Lib.hid (HB6.out.trans (h7y.mono HB6.out.size))
      obtain ⟨y0, y1, y2, y3, y4⟩ := Vl.five_of (Vl.keepBox HY6.out h7y)
      obtain ⟨u0, u1, u2, u3, u4⟩ := Vl.five_of (Vl.new w7 (.cells #[.int .u8 k6, .string t6, .int .i64 i6, .slice pi6 ni6 ci6, .slice pn6 nn6 cn6] 26))
      have HSm := Lib.hid (Vl.same_ofE (HAy6.out.below h7y) (hA7.below hby))
      clear hA7 hb7 hby h7y HC r0 r1 r2 r3 r4 HB6 HX6 HAx6 HPb6 HY6 HAy6
      go_wp2_with fail
      refine HSm.out.mono ?_
      rintro e w8 ⟨rfl, hb8⟩
      have HB8 := Lib.hid (HB7.out.trans (hb8.mono HB7.out.size))
      clear hb8
      go_wp2_with fail
      go_ret
      exact ⟨rfl, HB8.out⟩
  · obtain ⟨hbF, hxF, hAF⟩ := Vl.early eC hO5 hxC hqL hqC
    have HB6 := Lib.hid (HB2.out.trans (hbF.mono HB2.out.size))
    have HX6 := Lib.hid (Vl.keepBox HX2.out hbF)
    have HAx6 := Lib.hid (HAx2.out.below hbF)
    have HPb6 := Lib.hid (HPb2.out.below hbF)
    have HY6 := Lib.hid hxF
    have HAy6 := Lib.hid hAF
    clear hbF hxF hAF HKp HKq HFc nc0 nc1 nc2 nc3 nc4 nf0 nf1 nf2 nf3 nf4 hxA hxB hxC hqL hqC y0 y1 y2 y3 y4 z0 z1 z2 z3 z4 eA eB eC hO5 hb5 hob hgb hoa hga HB2 HV2 HX2 HAx2 HPa2 HPb2 m0 m1 m2 m3 m4 hvz
    generalize (((((w5.setCell ⟨W2.heap.size + 1, 0, none⟩ (.int .u8 k5)).setCell ⟨W2.heap.size + 1, 1, none⟩ (.string t5)).setCell ⟨W2.heap.size + 1, 2, none⟩ (.int .i64 i5)).setCell ⟨W2.heap.size + 1, 3, none⟩ (.slice pi5 ni5 ci5)).setCell ⟨W2.heap.size + 1, 4, none⟩ (.slice pn5 nn5 cn5)) = W6 at *
    generalize W2.heap.size + 1 = bz at *
    rcases HP.out with ⟨hc, hcc⟩ | ⟨hc, h3⟩
    · subst hcc
      have hcb : (c2 != 0) = true := by rw [bne_iff_ne]; exact hc
      have hce : (c2 == c2) = true := by simp
      clear HP hc
      go_wp2_with fail
      go_ret
      exact ⟨rfl, HB6.out⟩
    · subst hc
      have HC := Lib.hid (Vl.find_ofE (cap := cb) (Nat.le_trans HLb.out (by omega)) HAx6.out HPb6.out h3)
      have hce : (c2 == c2) = true := by simp
      obtain ⟨r0, r1, r2, r3, r4⟩ := Vl.five_of HX6.out
      clear HP h3
      go_wp2_with fail
      refine HC.out.mono ?_
      rintro e w7 ⟨k6, t6, i6, pi6, ni6, ci6, pn6, nn6, cn6, rfl, hA7, hb7⟩
      have hby := (Below.refl w7.heap.size w7).alloc (Nat.le_refl _) (.cells #[.int .u8 k6, .string t6, .int .i64 i6, .slice pi6 ni6 ci6, .slice pn6 nn6 cn6] 26)
      have h7y := hb7.trans (hby.mono hb7.size)
      have HB7 := Lib.hid (HB6.out.trans (h7y.mono HB6.out.size))
      obtain ⟨y0, y1, y2, y3, y4⟩ := Vl.five_of (Vl.keepBox HY6.out h7y)
      obtain ⟨u0, u1, u2, u3, u4⟩ := Vl.five_of (Vl.new w7 (.cells #[.int .u8 k6, .string t6, .int .i64 i6, .slice pi6 ni6 ci6, .slice pn6 nn6 cn6] 26))
      have HSm := Lib.hid (Vl.same_ofE (HAy6.out.below h7y) (hA7.below hby))
      clear hA7 hb7 hby h7y HC r0 r1 r2 r3 r4 HB6 HX6 HAx6 HPb6 HY6 HAy6
      go_wp2_with fail
      refine HSm.out.mono ?_
      rintro e w8 ⟨rfl, hb8⟩
      have HB8 := Lib.hid (HB7.out.trans (hb8.mono HB7.out.size))
      clear hb8
      go_wp2_with fail
      go_ret
      exact ⟨rfl, HB8.out⟩
  · obtain ⟨hbF, hxF, hAF⟩ := Vl.early eC hO5 hxC hqL hqC
    have HB6 := Lib.hid (HB2.out.trans (hbF.mono HB2.out.size))
    have HX6 := Lib.hid (Vl.keepBox HX2.out hbF)
    have HAx6 := Lib.hid (HAx2.out.below hbF)
    have HPb6 := Lib.hid (HPb2.out.below hbF)
    have HY6 := Lib.hid hxF
    have HAy6 := Lib.hid hAF
    clear hbF hxF hAF HKp HKq HFc nc0 nc1 nc2 nc3 nc4 nf0 nf1 nf2 nf3 nf4 hxA hxB hxC hqL hqC y0 y1 y2 y3 y4 z0 z1 z2 z3 z4 eA eB eC hO5 hb5 hob hgb hoa hga HB2 HV2 HX2 HAx2 HPa2 HPb2 m0 m1 m2 m3 m4 hvz
    generalize (((((w5.setCell ⟨W2.heap.size, 0, none⟩ (.int .u8 k5)).setCell ⟨W2.heap.size, 1, none⟩ (.string t5)).setCell ⟨W2.heap.size, 2, none⟩ (.int .i64 i5)).setCell ⟨W2.heap.size, 3, none⟩ (.slice pi5 ni5 ci5)).setCell ⟨W2.heap.size, 4, none⟩ (.slice pn5 nn5 cn5)) = W6 at *
    generalize W2.heap.size = bz at *
    rcases HP.out with ⟨hc, hcc⟩ | ⟨hc, h3⟩
    · subst hcc
      have hcb : (c2 != 0) = true := by rw [bne_iff_ne]; exact hc
      have hce : (c2 == c2) = true := by simp
      clear HP hc
      go_wp2_with fail
      go_ret
      exact ⟨rfl, HB6.out⟩
    · subst hc
      have HC := Lib.hid (Vl.find_ofE (cap := cb) (Nat.le_trans HLb.out (by omega)) HAx6.out HPb6.out h3)
      have hce : (c2 == c2) = true := by simp
      obtain ⟨r0, r1, r2, r3, r4⟩ := Vl.five_of HX6.out
      clear HP h3
      go_wp2_with fail
      refine HC.out.mono ?_
      rintro e w7 ⟨k6, t6, i6, pi6, ni6, ci6, pn6, nn6, cn6, rfl, hA7, hb7⟩
      have hby := (Below.refl w7.heap.size w7).alloc (Nat.le_refl _) (.cells #[.int .u8 k6, .string t6, .int .i64 i6, .slice pi6 ni6 ci6, .slice pn6 nn6 cn6] 26)
      have h7y := hb7.trans (hby.mono hb7.size)
      have HB7 := Lib.hid (HB6.out.trans (h7y.mono HB6.out.size))
      obtain ⟨y0, y1, y2, y3, y4⟩ := Vl.five_of (Vl.keepBox HY6.out h7y)
      obtain ⟨u0, u1, u2, u3, u4⟩ := Vl.five_of (Vl.new w7 (.cells #[.int .u8 k6, .string t6, .int .i64 i6, .slice pi6 ni6 ci6, .slice pn6 nn6 cn6] 26))
      have HSm := Lib.hid (Vl.same_ofE (HAy6.out.below h7y) (hA7.below hby))
      clear hA7 hb7 hby h7y HC r0 r1 r2 r3 r4 HB6 HX6 HAx6 HPb6 HY6 HAy6
      go_wp2_with fail
      refine HSm.out.mono ?_
      rintro e w8 ⟨rfl, hb8⟩
      have HB8 := Lib.hid (HB7.out.trans (hb8.mono HB7.out.size))
      clear hb8
      go_wp2_with fail
      go_ret
      exact ⟨rfl, HB8.out⟩
end Go.Proofs.YtcpebkhpocdeoaaDoor
