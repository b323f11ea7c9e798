/-
  The walk of slices.BinarySearch at texts. Condition: the texts ahead of a place are below what is looked for, and those from it on are not.
  What is put into a map by a name, as plain data; where a name's place is. No condition but those that the theorems state.
  The document's answer for vet is the code's: how many, how deep, how long, whether this is lost, the roots. Conditions: those that the theorems state.
-/
import Derived.Test.YteiccjakaabfnaaGreatDoorZ39
import Derived.Deep.LoopGhost
import Derived.Deep.Draws
import Derived.LoopTactic
import Derived.Test.YteiccjakaabfnaaGreatDoorZ43
import Derived.Test.YteiccjakaabfnaaGreatDoorZ38
namespace Go.Proofs.YteiccjakaabfnaaGreatDoor
open Go.RowKit

def Vl.hasAt (l : List ByteArray) (k : Nat) (s : ByteArray) : Bool := match l[k]? with
  | some x => decide (x = s)
  | none => false
theorem vlCmpNaN_any (x : ByteArray) (w : World) : Calls Tryz.prog 216 #[.string x] w fun e w' => e = .returned (.bool false) ∧ w' = w := by
  go_enter Tryz.func216, Tryz.ntmps216
  go_wp2
  go_ret
  exact ⟨by simp, rfl⟩
theorem vlIsNaN_any (x : ByteArray) (w : World) : Calls Tryz.prog 198 #[.string x] w fun e w' => e = .returned (.bool false) ∧ w' = w := by
  go_enter Tryz.func198, Tryz.ntmps198
  go_wp2
  go_ret
  exact ⟨by simp, rfl⟩
theorem vlLess_any (x y : ByteArray) (w : World) : Calls Tryz.prog 150 #[.string x, .string y] w fun e w' => e = .returned (.bool (Op.bytesLess x.toList y.toList)) ∧ w' = w := by
  go_enter Tryz.func150, Tryz.ntmps150
  go_wp2_with (go_at_call 216; refine (vlCmpNaN_any _ _).mono ?_; rintro e w' ⟨rfl, rfl⟩)
  go_ret
  exact ⟨rfl, rfl⟩
set_option maxRecDepth 100000 in
set_option maxHeartbeats 1000000 in
theorem vlSearch_any (p : Option Addr) (c : Nat) (l : List ByteArray) (s : ByteArray) (k : Nat) (w : World) (hm : l.length ≤ 100000) (hk : k ≤ l.length) (hs : ∀ t (h : t < l.length), Vl.ltB l[t] s = decide (t < k)) (hA : Wp.At Wp.mkT w p l) :
    Calls Tryz.prog 127 #[.slice p l.length c, .string s] w fun e w' => e = .returned (.tuple #[.int .i64 k, .bool (Vl.hasAt l k s)]) ∧ Below w.heap.size w w' := by
  have HA := Lib.hid hA
  have HS := Lib.hid hs
  obtain ⟨n, hn⟩ : ∃ n, n = l.length := ⟨_, rfl⟩
  have HN := Lib.hid hn
  rw [← hn] at hm hk ⊢
  obtain ⟨r, hr⟩ : ∃ r, r = Vl.hasAt l k s := ⟨_, rfl⟩
  have HR := Lib.hid hr
  rw [← hr]
  have mixed : Tryz.prog.follows Departure.mixedOrders = true := by kernel_rfl
  clear hA hs hn hr
  go_enter Tryz.func127, Tryz.ntmps127
  go_wp2_with fail
  go_loopg [7, 8] n (fun g s7 s8 wr => ∃ lo hi q : Nat, s7 = .int .i64 lo ∧ s8 = .int .i64 hi ∧ lo ≤ k ∧ k ≤ hi ∧ hi ≤ n ∧ hi - lo ≤ g ∧ wr = w.drewN q)
  case atStart => exact ⟨0, n, 0, rfl, rfl, Nat.zero_le _, hk, Nat.le_refl _, by omega, rfl⟩
  case round =>
    obtain ⟨lo, hi, q, rfl, rfl, hlk, hkh, hin, hg, rfl⟩ := hrel
    by_cases hlt : lo < hi
    · have hml : (lo + hi) / 2 < l.length := by rw [← HN.out]; omega
      obtain ⟨b, off, rfl, cm⟩ := HA.out.get ((lo + hi) / 2) hml
      rw [show Wp.mkT l[(lo + hi) / 2] = Value.string l[(lo + hi) / 2] from rfl] at cm
      have hyx : Op.bytesLess l[(lo + hi) / 2].toList s.toList = decide ((lo + hi) / 2 < k) := HS.out _ hml
      clear HS
      generalize l[(lo + hi) / 2] = y at *
      clear hml
      obtain ⟨g', rfl⟩ : ∃ g', gk = g' + 1 := ⟨gk - 1, by omega⟩
      by_cases hmk : (lo + hi) / 2 < k
      · rw [decide_eq_true hmk] at hyx
        go_wp2_with (go_at_call 150; refine (vlLess_any _ _ _).mono ?_; rintro e w' ⟨rfl, rfl⟩)
        go_roundg (hi - ((lo + hi) / 2 + 1))
        case measure => omega
        case rel => exact ⟨(lo + hi) / 2 + 1, hi, _, by rw [show ((lo : Int) + (hi : Int)) / 2 + 1 = (((lo + hi) / 2 + 1 : Nat) : Int) by omega], rfl, by omega, hkh, hin, Nat.le_refl _, rfl⟩
      · rw [decide_eq_false hmk] at hyx
        go_wp2_with (go_at_call 150; refine (vlLess_any _ _ _).mono ?_; rintro e w' ⟨rfl, rfl⟩)
        go_roundg ((lo + hi) / 2 - lo)
        case measure => omega
        case rel => exact ⟨lo, (lo + hi) / 2, _, rfl, by rw [show ((lo : Int) + (hi : Int)) / 2 = (((lo + hi) / 2 : Nat) : Int) by omega], hlk, by omega, by omega, Nat.le_refl _, rfl⟩
    · obtain rfl : hi = k := by omega
      obtain rfl : lo = hi := by omega
      have hB : ∀ m, Below w.heap.size w (w.drewN m) := fun m => ⟨rfl, rfl, rfl, Nat.le_refl _, fun _ _ => rfl⟩
      by_cases hn : lo < n
      · have hml : lo < l.length := by rw [← HN.out]; omega
        obtain ⟨b, off, rfl, cl⟩ := HA.out.get lo hml
        rw [show Wp.mkT l[lo] = Value.string l[lo] from rfl] at cl
        have hr2 : r = decide (l[lo] = s) := by
          rw [HR.out]
          unfold Vl.hasAt
          rw [List.getElem?_eq_getElem hml]
        have HRr := Lib.hid hr2
        clear HS hr2 HR
        generalize l[lo] = y at *
        clear hml
        by_cases hyx : y = s
        · have hrt := HRr.out
          rw [decide_eq_true hyx] at hrt
          subst hyx
          subst hrt
          go_wp2_with (go_at_call 198; refine (vlIsNaN_any _ _).mono ?_; rintro e w' ⟨rfl, rfl⟩)
          go_ret2
          exact ⟨rfl, hB _⟩
        · have hrt := HRr.out
          rw [decide_eq_false hyx] at hrt
          subst hrt
          have hne : (y.toList == s.toList) = false := by rw [Vl.ba_eq, decide_eq_false hyx]
          clear HRr
          go_wp2_with (go_at_call 198; refine (vlIsNaN_any _ _).mono ?_; rintro e w' ⟨rfl, rfl⟩)
          all_goals
            (go_ret2
             exact ⟨rfl, hB _⟩)
      · have hrt : r = false := by
          rw [HR.out]
          unfold Vl.hasAt
          rw [List.getElem?_eq_none (by rw [← HN.out]; omega)]
        subst hrt
        go_wp2_with fail
        go_ret2
        exact ⟨rfl, hB _⟩
end Go.Proofs.YteiccjakaabfnaaGreatDoor
namespace Go.Proofs.YteiccjakaabfnaaGreatDoor.Vl

theorem bl_trans : ∀ {a b c : List UInt8}, Op.bytesLess a b = true → Op.bytesLess b c = true → Op.bytesLess a c = true
  | _, [], _, h, _ => by cases ‹List UInt8› <;> simp [Op.bytesLess] at h
  | [], _ :: _, [], _, h => by simp [Op.bytesLess] at h
  | [], _ :: _, _ :: _, _, _ => by simp [Op.bytesLess]
  | _ :: _, _ :: _, [], _, h => by simp [Op.bytesLess] at h
  | x :: a, y :: b, z :: c, h1, h2 => by
    simp only [Op.bytesLess, Bool.or_eq_true, Bool.and_eq_true, decide_eq_true_eq, beq_iff_eq] at h1 h2 ⊢
    rcases h1 with h1 | ⟨rfl, h1⟩
    · rcases h2 with h2 | ⟨rfl, h2⟩
      · exact Or.inl (UInt8.lt_trans h1 h2)
      · exact Or.inl h1
    · rcases h2 with h2 | ⟨rfl, h2⟩
      · exact Or.inl h2
      · exact Or.inr ⟨rfl, bl_trans h1 h2⟩
theorem bl_total : ∀ (a b : List UInt8), Op.bytesLess a b = true ∨ a = b ∨ Op.bytesLess b a = true
  | [], [] => Or.inr (Or.inl rfl)
  | [], _ :: _ => Or.inl (by simp [Op.bytesLess])
  | _ :: _, [] => Or.inr (Or.inr (by simp [Op.bytesLess]))
  | x :: a, y :: b => by
    have ih := bl_total a b
    simp only [Op.bytesLess]
    by_cases hxy : x < y
    · exact Or.inl (by simp [hxy])
    · by_cases hyx : y < x
      · exact Or.inr (Or.inr (by simp [hyx]))
      · have hx : x = y := UInt8.le_antisymm (UInt8.not_lt.1 hyx) (UInt8.not_lt.1 hxy)
        subst hx
        rcases ih with h | h | h
        · exact Or.inl (by simp [h])
        · exact Or.inr (Or.inl (by rw [h]))
        · exact Or.inr (Or.inr (by simp [h]))
theorem bl_irrefl : ∀ (a : List UInt8), Op.bytesLess a a = false
  | [] => by simp [Op.bytesLess]
  | x :: a => by simp [Op.bytesLess, bl_irrefl a]
theorem ba_ext {a b : ByteArray} (h : a.toList = b.toList) : a = b := by
  rw [Lib.toList_data, Lib.toList_data] at h
  cases a; cases b
  congr 1
  exact Array.toList_inj.1 h
theorem upB_lt {a x : ByteArray} (h : upB a x = true) : ltB a x = true := by
  unfold upB at h
  simp only [Bool.not_eq_true', Bool.or_eq_false_iff, beq_eq_false_iff_ne] at h
  rcases bl_total a.toList x.toList with h1 | h1 | h1
  · exact h1
  · exact absurd h1.symm h.2
  · rw [h.1] at h1; cases h1
theorem rise_all : ∀ {a : ByteArray} {l : List ByteArray}, rise a l = true → ∀ x ∈ l, ltB a x = true
  | _, [], _, _, h => by simp at h
  | a, y :: l, h, x, hx => by
    rw [rise, Bool.and_eq_true, Bool.and_eq_true] at h
    have h1 := upB_lt h.1.2
    rcases List.mem_cons.1 hx with rfl | hx
    · exact h1
    · exact bl_trans h1 (rise_all h.2 x hx)
/-- A name's place. -/
def posN (s : ByteArray) : List ByteArray → Nat
  | [] => 0
  | n :: l => if ltB n s then posN s l + 1 else 0
theorem posN_le (s : ByteArray) : ∀ l, posN s l ≤ l.length
  | [] => Nat.le_refl _
  | n :: l => by
    have := posN_le s l
    rw [posN]
    split
    · simp; exact this
    · simp
theorem posN_spec (s : ByteArray) : ∀ {a : ByteArray} {l : List ByteArray}, rise a l = true → ∀ t (h : t < l.length), ltB l[t] s = decide (t < posN s l)
  | _, [], _, _, h => by simp at h
  | a, n :: l, hr, t, h => by
    have hr2 := hr
    rw [rise, Bool.and_eq_true, Bool.and_eq_true] at hr2
    rw [posN]
    cases hn : ltB n s with
    | true =>
      rw [if_pos rfl]
      cases t with
      | zero => simp [hn]
      | succ t =>
        have := posN_spec s hr2.2 t (by simpa using h)
        simp only [List.getElem_cons_succ, this]
        exact decide_eq_decide.2 (by omega)
    | false =>
      rw [if_neg (by simp), decide_eq_false (Nat.not_lt_zero _)]
      cases t with
      | zero => exact hn
      | succ t =>
        cases hl : ltB (n :: l)[t + 1] s with
        | false => rfl
        | true =>
          have htl : t < l.length := by simpa using h
          have h1 := rise_all hr2.2 _ (List.getElem_mem htl)
          have hl2 : ltB (l[t]'htl) s = true := by simpa using hl
          have h2 := bl_trans h1 hl2
          have h3 : ltB n s = true := h2
          rw [hn] at h3
          cases h3
/-- A map with a value by a name. -/
def withV (v : V) (s : ByteArray) (x : V) : V := if hasAt v.names (posN s v.names) s then .mk v.kind v.text v.num (v.items.set (posN s v.names) x) v.names
  else .mk v.kind v.text v.num (v.items.take (posN s v.names) ++ x :: v.items.drop (posN s v.names)) (v.names.take (posN s v.names) ++ s :: v.names.drop (posN s v.names))
/-- What With tells. -/
def withR (v : V) (s : ByteArray) (x : V) : V × Int := if !good v then (zero, 2) else if !good x then (zero, 2) else if v.kind ≠ 5 then (zero, 2) else if !named s then (zero, 13) else if !good (withV v s x) then (zero, 11) else (withV v s x, 0)
theorem hasAt_eq {l : List ByteArray} {k : Nat} {s : ByteArray} (h : hasAt l k s = true) : ∃ hk : k < l.length, l[k] = s := by
  unfold hasAt at h
  cases hl : l[k]? with
  | none => rw [hl] at h; cases h
  | some x =>
    rw [hl] at h
    obtain ⟨hk, he⟩ := List.getElem?_eq_some_iff.1 hl
    exact ⟨hk, he.trans (of_decide_eq_true h)⟩
theorem okMap {l : Nat} {v : V} (h : okV l v = true) (hk : v.kind = 5) : namesOk v.names = true ∧ v.names.length = v.items.length ∧ v.text.size = 0 ∧ v.num = 0 := by
  cases l with
  | zero => cases h
  | succ l =>
    cases v with
    | mk k t n is ns =>
      rw [okV, Bool.and_eq_true] at h
      have hle := h.1
      change k = 5 at hk
      subst hk
      change leafC 5 t n is.length ns = true at hle
      unfold leafC at hle
      simp only [Bool.and_eq_true, decide_eq_true_eq] at hle
      exact ⟨hle.2, hle.1.2, hle.1.1.1, hle.1.1.2⟩
theorem goodMap {v : V} (h : good v = true) (hk : v.kind = 5) : namesOk v.names = true ∧ v.names.length = v.items.length ∧ v.text.size = 0 ∧ v.num = 0 := by
  unfold good at h
  rw [Bool.and_eq_true] at h
  exact okMap h.1 hk
end Go.Proofs.YteiccjakaabfnaaGreatDoor.Vl
namespace Go.Proofs.YteiccjakaabfnaaGreatDoor

mutual
theorem Rv.plen_N (a : Nat) (i : Bool) : ∀ n : Nd.N, Vt.plen (Vt.visN a i n) = Rv.plN n
  | .mk k t p kids els => by
    rw [Vt.visN, Rv.plN, ← Rv.plen_L (a + 1) (i || k == 5) kids, ← Rv.plen_L (a + 1) i els, Nat.add_assoc, ← Vt.plen_append]
    unfold Vt.plen
    rw [List.map_cons, List.sum_cons]
    rfl
theorem Rv.plen_L (a : Nat) (i : Bool) : ∀ l : List Nd.N, Vt.plen (Vt.visL a i l) = Rv.plL l
  | [] => by rw [Vt.visL, Rv.plL]; rfl
  | n :: l => by rw [Vt.visL, Rv.plL, Vt.plen_append, Rv.plen_N a i n, Rv.plen_L a i l]
end
mutual
theorem Rv.dep_N (a : Nat) (i : Bool) : ∀ n : Nd.N, max a (Vt.dep (Vt.visN (a + 1) i n)) = a + Rv.dpN n
  | .mk k t p kids els => by
    have h1 := Rv.dep_L (a + 1) (i || k == 5) kids
    have h2 := Rv.dep_L (a + 1) i els
    rw [Vt.visN, Rv.dpN, Vt.dep_cons, Vt.dep_append]
    dsimp only
    omega
theorem Rv.dep_L (a : Nat) (i : Bool) : ∀ l : List Nd.N, max a (Vt.dep (Vt.visL (a + 1) i l)) = a + Rv.dpL l
  | [] => by rw [Vt.visL, Rv.dpL]; show max a 0 = a + 0; omega
  | n :: l => by
    have h1 := Rv.dep_N a i n
    have h2 := Rv.dep_L a i l
    rw [Vt.visL, Rv.dpL, Vt.dep_append]
    omega
end
theorem Rv.dep (l : List Nd.N) : Vt.dep (Vt.visL 1 false l) = Rv.dpL l := by
  have := Rv.dep_L 0 false l
  rw [Nat.zero_add, Nat.zero_add] at this
  omega
/-- How deep, how long right nodes are. -/
theorem Rv.dp_le : ∀ (d : Nat) (l : List Nd.N), Nd.okL d l = true → Rv.dpL l ≤ d
  | 0, l, h => by
    rw [Nd.okL, List.isEmpty_iff] at h
    subst h
    rw [Rv.dpL]; exact Nat.le_refl _
  | d + 1, l, h => by
    have ih := Rv.dp_le d
    rw [Nd.okL] at h
    induction l with
    | nil => rw [Rv.dpL]; exact Nat.zero_le _
    | cons x l ihl =>
      rw [List.all_cons, Bool.and_eq_true] at h
      have h2 := h.1
      rw [Bool.and_eq_true, Bool.and_eq_true] at h2
      have h3 := ih _ h2.2.1
      have h4 := ih _ h2.2.2
      have h5 := ihl h.2
      rw [Rv.dpL, Rv.dpN_eq]
      omega
theorem Rv.pl_le (B : Nat) : ∀ (d : Nat) (l : List Nd.N), Nd.okL d l = true → (∀ t ∈ Nd.toksL l, t.text.size ≤ B) → Rv.plL l ≤ B * Nd.cntL l
  | 0, l, h, _ => by
    rw [Nd.okL, List.isEmpty_iff] at h
    subst h
    rw [Rv.plL]; exact Nat.zero_le _
  | d + 1, l, h, hs => by
    have ih := Rv.pl_le B d
    rw [Nd.okL] at h
    induction l with
    | nil => rw [Rv.plL]; exact Nat.zero_le _
    | cons x l ihl =>
      rw [List.all_cons, Bool.and_eq_true] at h
      have h2 := h.1
      rw [Bool.and_eq_true, Bool.and_eq_true] at h2
      rw [Nd.toksL_cons] at hs
      have hx : ∀ t ∈ x.toks, t.text.size ≤ B := fun t ht => hs t (List.mem_append_left _ ht)
      rw [Nd.N.toks_eq] at hx
      have h0 : x.text.size ≤ B := hx ⟨x.kind, x.text, x.path⟩ (List.mem_cons_self ..)
      have hk : Rv.plL x.kids ≤ B * Nd.cntL x.kids ∧ Rv.plL x.els ≤ B * Nd.cntL x.els := by
        cases ho : Nd.opens x.kind with
        | true =>
          rw [if_pos ho] at hx
          refine ⟨ih _ h2.2.1 fun t ht => hx t (List.mem_cons_of_mem _ (List.mem_append_left _ ht)), ih _ h2.2.2 fun t ht => hx t (List.mem_cons_of_mem _ (List.mem_append_right _ (List.mem_append_left _ ?_)))⟩
          have hne : x.els.isEmpty = false := by
            cases he : x.els with
            | nil => rw [he, Nd.toksL_nil] at ht; cases ht
            | cons => rfl
          rw [hne]
          exact List.mem_cons_of_mem _ ht
        | false =>
          obtain ⟨e1, e2⟩ := Tg.closed h2.1 ho
          rw [List.length_eq_zero_iff.1 e1, List.length_eq_zero_iff.1 e2]
          have : Rv.plL [] = 0 := by rw [Rv.plL]
          omega
      have h5 := ihl h.2 (fun t ht => hs t (List.mem_append_right _ ht))
      rw [Rv.plL, Rv.plN_eq, Nd.cntL_cons, Nd.N.cnt_eq, Nat.mul_add, Nat.mul_add, Nat.mul_add, Nat.mul_one]
      omega
/-- Whether this is lost. -/
theorem Rv.lost : ∀ (d : Nat) (l : List Nd.N) (a : Nat), Nd.okL d l = true → (Vt.visL a false l).any Vt.astray = Rv.loL l
  | 0, l, a, h => by
    rw [Nd.okL, List.isEmpty_iff] at h
    subst h
    rw [Vt.visL_nil, Rv.loL]; rfl
  | d + 1, l, a, h => by
    have ih := Rv.lost d
    rw [Nd.okL] at h
    induction l with
    | nil => rw [Vt.visL_nil, Rv.loL]; rfl
    | cons x l ihl =>
      rw [List.all_cons, Bool.and_eq_true] at h
      have h2 := h.1
      rw [Bool.and_eq_true, Bool.and_eq_true] at h2
      rw [Vt.visL_cons, List.any_append, ihl h.2, Rv.loL, Vt.visN_eq, List.any_cons, List.any_append, Rv.loN_eq]
      congr 1
      have e0 : Vt.astray ⟨x, a, false⟩ = ((Vt.rt x.path).toList == [116, 104, 105, 115]) := by unfold Vt.astray; simp
      rw [e0]
      congr 1
      rw [ih x.els (a + 1) h2.2.2]
      by_cases h5 : x.kind = 5
      · have e5 : (x.kind != 5) = false := by rw [h5]; rfl
        have hz : x.els = [] := by
          have := h2.1
          rw [h5] at this
          exact List.length_eq_zero_iff.1 (of_decide_eq_true this)
        rw [e5, hz, Bool.false_and, show Rv.loL [] = false by rw [Rv.loL], Bool.or_false, List.any_eq_false]
        intro p hp
        have e6 : (false || x.kind == 5) = true := by rw [h5]; rfl
        rw [e6] at hp
        have := Vt.visL_ie (a + 1) x.kids p hp
        unfold Vt.astray
        rw [this]
        simp
      · have e5 : (x.kind != 5) = true := by rw [bne_iff_ne]; exact h5
        have e6 : (false || x.kind == 5) = false := by simp [h5]
        rw [e5, e6, Bool.true_and, ih x.kids (a + 1) h2.2.1]
/- The roots: both rise, and have the same members. -/
theorem Rv.lt_trans {a b c : ByteArray} (h : Vl.ltB a b = true) (k : Vl.ltB b c = true) : Vl.ltB a c = true := Vl.bl_trans h k
theorem Rv.lt_irrefl (a : ByteArray) : Vl.ltB a a = false := Vl.bl_irrefl _
theorem Rv.eq_of {a b : ByteArray} (h : a.toList = b.toList) : a = b := by
  rw [Lib.toList_data, Lib.toList_data] at h
  rw [← Wp.B_of a, ← Wp.B_of b, h]
theorem Rv.lt_total (a b : ByteArray) : Vl.ltB a b = true ∨ a = b ∨ Vl.ltB b a = true := by
  rcases Vl.bl_total a.toList b.toList with h | h | h
  · exact Or.inl h
  · exact Or.inr (Or.inl (Rv.eq_of h))
  · exact Or.inr (Or.inr h)
def Rv.Up (l : List ByteArray) : Prop := l.Pairwise fun a b => Vl.ltB a b = true
theorem Rv.mem_ins (x s : ByteArray) : ∀ l : List ByteArray, x ∈ Rv.ins l s ↔ x ∈ l ∨ x = s
  | [] => by rw [Rv.ins]; simp
  | a :: l => by
    rw [Rv.ins]
    split
    · rw [List.mem_cons, Rv.mem_ins x s l, List.mem_cons, or_assoc]
    · split
      · rename_i e
        subst e
        rw [List.mem_cons]
        constructor
        · exact Or.inl
        · rintro (h | h)
          · exact h
          · exact Or.inl h
      · rw [List.mem_cons]
        exact Or.comm
theorem Rv.up_ins (s : ByteArray) : ∀ l : List ByteArray, Rv.Up l → Rv.Up (Rv.ins l s)
  | [], _ => by rw [Rv.ins]; exact List.pairwise_singleton _ _
  | a :: l, h => by
    obtain ⟨h1, h2⟩ := List.pairwise_cons.1 h
    rw [Rv.ins]
    split
    · rename_i hlt
      refine List.pairwise_cons.2 ⟨fun z hz => ?_, Rv.up_ins s l h2⟩
      rcases (Rv.mem_ins z s l).1 hz with hz | rfl
      · exact h1 z hz
      · exact hlt
    · rename_i hlt
      split
      · exact h
      · rename_i hne
        have hsa : Vl.ltB s a = true := by
          rcases Rv.lt_total s a with h | h | h
          · exact h
          · exact absurd h.symm hne
          · exact absurd h hlt
        refine List.pairwise_cons.2 ⟨fun z hz => ?_, h⟩
        rcases List.mem_cons.1 hz with rfl | hz
        · exact hsa
        · exact Rv.lt_trans hsa (h1 z hz)
theorem Rv.same : ∀ a b : List ByteArray, Rv.Up a → Rv.Up b → (∀ x, x ∈ a ↔ x ∈ b) → a = b
  | [], [], _, _, _ => rfl
  | [], y :: b, _, _, h => absurd ((h y).2 (List.mem_cons_self ..)) (by simp)
  | x :: a, [], _, _, h => absurd ((h x).1 (List.mem_cons_self ..)) (by simp)
  | x :: a, y :: b, ha, hb, h => by
    obtain ⟨a1, a2⟩ := List.pairwise_cons.1 ha
    obtain ⟨b1, b2⟩ := List.pairwise_cons.1 hb
    have e : x = y := by
      rcases List.mem_cons.1 ((h x).1 (List.mem_cons_self ..)) with e | hx
      · exact e
      · rcases List.mem_cons.1 ((h y).2 (List.mem_cons_self ..)) with e | hy
        · exact e.symm
        · have := Rv.lt_trans (a1 y hy) (b1 x hx)
          rw [Rv.lt_irrefl] at this
          cases this
    subst e
    congr 1
    refine Rv.same a b a2 b2 fun z => ⟨fun hz => ?_, fun hz => ?_⟩
    · rcases List.mem_cons.1 ((h z).1 (List.mem_cons_of_mem _ hz)) with e | hz2
      · subst e
        have := a1 z hz
        rw [Rv.lt_irrefl] at this
        cases this
      · exact hz2
    · rcases List.mem_cons.1 ((h z).2 (List.mem_cons_of_mem _ hz)) with e | hz2
      · subst e
        have := b1 z hz
        rw [Rv.lt_irrefl] at this
        cases this
      · exact hz2
theorem Rv.up_stp (R p : List ByteArray) (h : Rv.Up R) : Rv.Up (Rv.stp R p) := by
  cases p with
  | nil => exact h
  | cons a r =>
    rw [Rv.stp]
    split
    · exact h
    · exact Rv.up_ins a R h
mutual
theorem Rv.up_N (R : List ByteArray) (h : Rv.Up R) : ∀ n : Nd.N, Rv.Up (Rv.rtN R n)
  | .mk _ _ p kids els => by
    rw [Rv.rtN]
    exact Rv.up_L _ (Rv.up_L _ (Rv.up_stp R p h) kids) els
theorem Rv.up_L (R : List ByteArray) (h : Rv.Up R) : ∀ l : List Nd.N, Rv.Up (Rv.rtL R l)
  | [] => by rw [Rv.rtL]; exact h
  | n :: l => by rw [Rv.rtL]; exact Rv.up_L _ (Rv.up_N R h n) l
end
/-- What a path brings. -/
def Rv.brings (x : ByteArray) (p : List ByteArray) : Prop := ∃ r, p = x :: r ∧ (x.toList == [116, 104, 105, 115]) = false
theorem Rv.mem_stp (x : ByteArray) (R p : List ByteArray) : x ∈ Rv.stp R p ↔ x ∈ R ∨ Rv.brings x p := by
  cases p with
  | nil =>
    rw [Rv.stp]
    constructor
    · exact Or.inl
    · rintro (h | ⟨r, h, _⟩)
      · exact h
      · cases h
  | cons a r =>
    rw [Rv.stp]
    split
    · rename_i ht
      constructor
      · exact Or.inl
      · rintro (h | ⟨r', h, h2⟩)
        · exact h
        · cases h
          rw [ht] at h2
          cases h2
    · rename_i ht
      rw [Rv.mem_ins]
      constructor
      · rintro (h | h)
        · exact Or.inl h
        · subst h
          exact Or.inr ⟨r, rfl, by simpa using ht⟩
      · rintro (h | ⟨r', h, _⟩)
        · exact Or.inl h
        · cases h
          exact Or.inr rfl
mutual
theorem Rv.mem_N (x : ByteArray) (a : Nat) (i : Bool) (R : List ByteArray) : ∀ n : Nd.N, x ∈ Rv.rtN R n ↔ x ∈ R ∨ ∃ p ∈ Vt.visN a i n, Rv.brings x p.node.path
  | .mk k t p kids els => by
    rw [Rv.rtN, Rv.mem_L x (a + 1) i _ els, Rv.mem_L x (a + 1) (i || k == 5) _ kids, Rv.mem_stp, Vt.visN]
    constructor
    · rintro (((h | h) | ⟨q, hq, h⟩) | ⟨q, hq, h⟩)
      · exact Or.inl h
      · exact Or.inr ⟨_, List.mem_cons_self .., h⟩
      · exact Or.inr ⟨q, List.mem_cons_of_mem _ (List.mem_append_left _ hq), h⟩
      · exact Or.inr ⟨q, List.mem_cons_of_mem _ (List.mem_append_right _ hq), h⟩
    · rintro (h | ⟨q, hq, h⟩)
      · exact Or.inl (Or.inl (Or.inl h))
      · rcases List.mem_cons.1 hq with rfl | hq
        · exact Or.inl (Or.inl (Or.inr h))
        · rcases List.mem_append.1 hq with hq | hq
          · exact Or.inl (Or.inr ⟨q, hq, h⟩)
          · exact Or.inr ⟨q, hq, h⟩
theorem Rv.mem_L (x : ByteArray) (a : Nat) (i : Bool) (R : List ByteArray) : ∀ l : List Nd.N, x ∈ Rv.rtL R l ↔ x ∈ R ∨ ∃ p ∈ Vt.visL a i l, Rv.brings x p.node.path
  | [] => by
    rw [Rv.rtL, Vt.visL]
    simp
  | n :: l => by
    rw [Rv.rtL, Rv.mem_L x a i _ l, Rv.mem_N x a i R n, Vt.visL]
    constructor
    · rintro ((h | ⟨q, hq, h⟩) | ⟨q, hq, h⟩)
      · exact Or.inl h
      · exact Or.inr ⟨q, List.mem_append_left _ hq, h⟩
      · exact Or.inr ⟨q, List.mem_append_right _ hq, h⟩
    · rintro (h | ⟨q, hq, h⟩)
      · exact Or.inl (Or.inl h)
      · rcases List.mem_append.1 hq with hq | hq
        · exact Or.inl (Or.inr ⟨q, hq, h⟩)
        · exact Or.inr ⟨q, hq, h⟩
end
/- Bytes in their order. -/
theorem Rv.bl_iff : ∀ a b : List UInt8, Op.bytesLess a b = true ↔ a < b
  | _, [] => by cases ‹List UInt8› <;> simp [Op.bytesLess]
  | [], _ :: _ => by simp [Op.bytesLess]
  | x :: a, y :: b => by
    rw [List.cons_lt_cons_iff, ← Rv.bl_iff a b]
    simp [Op.bytesLess]
theorem Rv.le_iff (a b : List UInt8) : decide (a ≤ b) = !Op.bytesLess b a := by
  have h := Rv.bl_iff b a
  cases hb : Op.bytesLess b a with
  | true =>
    rw [hb] at h
    rw [Bool.not_true, decide_eq_false_iff_not]
    exact fun hle => hle (h.1 rfl)
  | false =>
    rw [Bool.not_false, decide_eq_true_eq]
    intro hlt
    rw [h.2 hlt] at hb
    cases hb
theorem Rv.le_trans {a b c : List UInt8} (h1 : Op.bytesLess b a = false) (h2 : Op.bytesLess c b = false) : Op.bytesLess c a = false := by
  rw [Bool.eq_false_iff]
  intro h
  rcases Vl.bl_total a b with k | k | k
  · rw [Vl.bl_trans h k] at h2; cases h2
  · subst k; rw [h] at h2; cases h2
  · rw [k] at h1; cases h1
theorem Rv.lt_of {a b c : List UInt8} (h1 : Op.bytesLess b a = false) (h2 : Op.bytesLess b c = true) : Op.bytesLess a c = true := by
  rcases Vl.bl_total a b with k | k | k
  · exact Vl.bl_trans k h2
  · subst k; exact h2
  · rw [k] at h1; cases h1
theorem Rv.sorted (l : List (List UInt8)) : (l.mergeSort fun x y => decide (x ≤ y)).Pairwise fun a b => Op.bytesLess b a = false := by
  have h := List.pairwise_mergeSort (le := fun x y => decide (x ≤ y)) (fun a b c h1 h2 => by
    rw [Rv.le_iff, Bool.not_eq_true'] at h1 h2 ⊢
    exact Rv.le_trans h1 h2) (fun a b => by
    rw [Rv.le_iff, Rv.le_iff]
    cases h1 : Op.bytesLess b a with
    | false => rfl
    | true =>
      cases h2 : Op.bytesLess a b with
      | false => rfl
      | true =>
        have := Vl.bl_trans h1 h2
        rw [Vl.bl_irrefl] at this
        cases this) l
  refine h.imp fun {a b} h => ?_
  rw [Rv.le_iff, Bool.not_eq_true'] at h
  exact h
theorem Rv.compact_up (zs : List (List UInt8)) (h : zs.Pairwise fun a b => Op.bytesLess b a = false) : (Lib.compact zs).Pairwise fun a b => Op.bytesLess a b = true := by
  have hg : ∀ i j, i < j → j < zs.length → Op.bytesLess zs.toArray[j]! zs.toArray[i]! = false := fun i j hij hj => by
    have := List.pairwise_iff_getElem.1 h i j (by omega) hj hij
    simpa [hj, (show i < zs.length by omega)] using this
  have key : ∀ m, m ≤ zs.length → (Lib.compactUpTo zs.toArray m).Pairwise (fun a b => Op.bytesLess a b = true) ∧ ∀ y ∈ Lib.compactUpTo zs.toArray m, ∃ j, j < m ∧ y = zs.toArray[j]! := by
    intro m
    induction m with
    | zero => intro _; unfold Lib.compactUpTo; simp
    | succ m ih =>
      intro hm
      obtain ⟨i1, i2⟩ := ih (by omega)
      rw [Lib.compactUpTo_succ]
      by_cases hk : Lib.keeps zs.toArray m = true
      · rw [if_pos hk]
        refine ⟨List.pairwise_append.2 ⟨i1, List.pairwise_singleton _ _, fun a ha b hb => ?_⟩, fun y hy => ?_⟩
        · obtain rfl := List.mem_singleton.1 hb
          obtain ⟨j, hj, rfl⟩ := i2 a ha
          have hkk : m = 0 ∨ zs.toArray[m]! ≠ zs.toArray[m - 1]! := of_decide_eq_true hk
          have hne : zs.toArray[m]! ≠ zs.toArray[m - 1]! := hkk.resolve_left (by omega)
          have h1 := hg (m - 1) m (by omega) (by omega)
          have h2 : Op.bytesLess zs.toArray[m - 1]! zs.toArray[m]! = true := by
            rcases Vl.bl_total zs.toArray[m - 1]! zs.toArray[m]! with k | k | k
            · exact k
            · exact absurd k.symm hne
            · rw [k] at h1; cases h1
          by_cases e : j = m - 1
          · rw [e]; exact h2
          · exact Rv.lt_of (hg j (m - 1) (by omega) (by omega)) h2
        · rcases List.mem_append.1 hy with hy | hy
          · obtain ⟨j, hj, e⟩ := i2 y hy
            exact ⟨j, by omega, e⟩
          · exact ⟨m, by omega, List.mem_singleton.1 hy⟩
      · rw [if_neg hk, List.append_nil]
        exact ⟨i1, fun y hy => by obtain ⟨j, hj, e⟩ := i2 y hy; exact ⟨j, by omega, e⟩⟩
  exact (key _ (Nat.le_refl _)).1
theorem Rv.roots_up (l : List Nd.N) : Rv.Up (Vt.rootsR l) := by
  unfold Vt.rootsR
  split
  · unfold Rv.Up
    rw [List.pairwise_map]
    have h : (Lib.compact (Vt.sortedL (Vt.namesP (Vt.visL 1 false l)))).Pairwise fun a b => Op.bytesLess a b = true := Rv.compact_up _ (Rv.sorted _)
    refine h.imp fun {a b} h => ?_
    show Op.bytesLess (Wp.B a).toList (Wp.B b).toList = true
    rw [Lib.toList_data, Lib.toList_data]
    exact h
  · exact List.Pairwise.nil
theorem Rv.path_head {t : Sc.T} (h : Sc.okT t = true) {a : ByteArray} {r : List ByteArray} (hp : t.path = a :: r) : a.toList ≠ [] := by
  have hk : Sc.pathOk (t.path.map (·.data.toList)) = true := by
    have hz : t.path.length ≠ 0 := by rw [hp]; simp
    unfold Sc.okT at h
    split at h
    · simp only [Bool.and_eq_true, decide_eq_true_eq] at h; exact absurd h.2 hz
    · rw [Bool.and_eq_true] at h; exact h.2
    · rw [Bool.and_eq_true] at h; exact h.2
    · rw [Bool.and_eq_true] at h; exact h.2
    · simp only [Bool.and_eq_true, decide_eq_true_eq] at h; exact absurd h.2 hz
    · simp only [Bool.and_eq_true, decide_eq_true_eq] at h; exact absurd h.2 hz
    · cases h
  obtain ⟨h1, h2, h3, _⟩ := Sc.pathOk_facts hk
  have := (Sc.nameL_ne (h3 a (by rw [hp]; exact List.mem_cons_self ..))).1
  rw [Lib.toList_data]
  exact this
theorem Rv.roots {l : List Nd.N} (hg : Nd.good l = true) : Vt.rootsR l = Rv.rtL [] l := by
  refine Rv.same _ _ (Rv.roots_up l) (Rv.up_L [] List.Pairwise.nil l) fun x => ?_
  rw [Vt.mem_roots hg, Rv.mem_L x 1 false]
  have hg2 := hg
  unfold Nd.good Nd.shapedP at hg2
  rw [Bool.and_eq_true, Bool.and_eq_true] at hg2
  constructor
  · rintro ⟨p, hp, h1, h2⟩
    refine Or.inr ⟨p, hp, ?_⟩
    unfold Vt.isRoot at h2
    rw [Bool.and_eq_true, Bool.not_eq_true', Bool.not_eq_true'] at h2
    cases hq : p.node.path with
    | nil =>
      rw [hq] at h1
      rw [← h1, show (Vt.rt []) = ByteArray.empty from rfl, Lib.toList_data] at h2
      exact absurd h2.1 (by decide)
    | cons a r =>
      rw [hq] at h1
      obtain rfl : a = x := h1
      exact ⟨r, rfl, h2.2⟩
  · rintro (h | ⟨p, hp, r, h1, h2⟩)
    · cases h
    · refine ⟨p, hp, by rw [h1]; rfl, ?_⟩
      obtain ⟨t, ht, e⟩ := Tg.vis_tok 8 l 1 false hg2.1.1 p hp
      have hne := Rv.path_head (Nd.all_of hg2.2 t ht) (e.trans h1)
      unfold Vt.isRoot
      rw [h2, Bool.not_false, Bool.and_true, Bool.not_eq_true', beq_eq_false_iff_ne]
      exact hne
end Go.Proofs.YteiccjakaabfnaaGreatDoor
