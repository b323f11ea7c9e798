
/-
  A value's bytes, as plain data. No condition.
-/
import Derived.Test.YtckcbdnlligndaaDoorVlPlain
import Derived.Test.YtckcbdnlligndaaDoorPlX
namespace Go.Proofs.YtckcbdnlligndaaDoor.Vl

mutual
/-- A value's bytes. -/
def V.enc : V → List UInt8
  | .mk k t n items names => UInt8.ofNat k :: (if k = 1 then Wp.textB t.data.toList else if k = 2 ∨ k = 3 then Wp.numB n else if k = 4 then Wp.numB (items.length : Int) ++ encL false items names else if k = 5 then Wp.numB (items.length : Int) ++ encL true items names else [])
/-- Those of items, with names ahead or without. -/
def encL : Bool → List V → List ByteArray → List UInt8
  | _, [], _ => []
  | b, x :: l, names => (if b then Wp.textB (names.headD ⟨#[]⟩).data.toList else []) ++ (x.enc ++ encL b l names.tail)
end
theorem V.enc_eq (x : V) : x.enc = UInt8.ofNat x.kind :: (if x.kind = 1 then Wp.textB x.text.data.toList else if x.kind = 2 ∨ x.kind = 3 then Wp.numB x.num else if x.kind = 4 then Wp.numB (x.items.length : Int) ++ encL false x.items x.names else if x.kind = 5 then Wp.numB (x.items.length : Int) ++ encL true x.items x.names else []) := by
  cases x
  rw [V.enc]
  rfl
theorem encL_nil (b : Bool) (names : List ByteArray) : encL b [] names = [] := by rw [encL]
theorem encL_cons (b : Bool) (x : V) (l : List V) (names : List ByteArray) : encL b (x :: l) names = (if b then Wp.textB (names.headD ⟨#[]⟩).data.toList else []) ++ (x.enc ++ encL b l names.tail) := by rw [encL]
theorem encL_take (b : Bool) : ∀ (l : List V) (names : List ByteArray) (k : Nat) (h : k < l.length), (b = true → names.length = l.length) →
    encL b (l.take (k + 1)) names = encL b (l.take k) names ++ ((if b then Wp.textB (names.getD k ⟨#[]⟩).data.toList else []) ++ l[k].enc)
  | x :: l, names, 0, _, _ => by
    rw [List.take_succ_cons, List.take_zero, List.take_zero, encL_cons, encL_nil, encL_nil, List.append_nil, List.nil_append]
    cases names <;> rfl
  | x :: l, names, k + 1, h, hn => by
    rw [List.take_succ_cons, List.take_succ_cons, encL_cons, encL_cons, encL_take b l names.tail k (by simpa using h) (fun hb => by rw [List.length_tail, hn hb]; rfl)]
    cases names with
    | nil => simp
    | cons a t => simp
end Go.Proofs.YtckcbdnlligndaaDoor.Vl
