/-
  Plain mathematics: up to the next switch the offset stays; a switch is a time. No condition but those that the theorems state.
-/
import Derived.Test.YtpaleljnkejdgaaGreatDoorZonNext
namespace Go.Proofs.YtpaleljnkejdgaaGreatDoor.Wp

theorem IsNext.steady {z : Zn} (hz : ZnOk z) (hs : z.save ≠ 0) {t n u : Int} (h : IsNext z t n) (h1 : t ≤ u) (h2 : u < n) : ofs z u = ofs z t := by
  obtain ⟨k, y, a, b, rfl, c⟩ := h
  have key : ∀ k' y', z.V k' y' = true → z.T k' y' ≤ u → z.T k' y' ≤ t := fun k' y' hv hl => by
    by_cases q : t < z.T k' y'
    · have := c k' y' hv q; omega
    · omega
  have up : ∀ o, Off z t o → Off z u o := fun o ho => by
    rcases ho with ⟨k', y', p, q, r, s⟩ | ⟨p, q⟩
    · exact Or.inl ⟨k', y', p, by omega, r, fun k2 y2 hv hl => s k2 y2 hv (key k2 y2 hv hl)⟩
    · exact Or.inr ⟨fun k2 y2 hv hl => p k2 y2 hv (key k2 y2 hv hl), q⟩
  have dn : ∀ o, Off z u o → Off z t o := fun o ho => by
    rcases ho with ⟨k', y', p, q, r, s⟩ | ⟨p, q⟩
    · exact Or.inl ⟨k', y', p, key k' y' p q, r, fun k2 y2 hv hl => s k2 y2 hv (by omega)⟩
    · exact Or.inr ⟨fun k2 y2 hv hl => p k2 y2 hv (by omega), q⟩
  by_cases e : ∃ o, Off z t o
  · obtain ⟨o, ho⟩ := e
    rw [← ofs_eq hz hs ho, ← ofs_eq hz hs (up o ho)]
  · unfold ofs
    rw [dif_neg (fun q => e (q.2.imp dn)), dif_neg (fun q => e q.2)]
theorem IsNext.after {z : Zn} {t n : Int} (h : IsNext z t n) : t < n := by obtain ⟨k, y, _, b, rfl, _⟩ := h; exact b
theorem IsNext.isT {z : Zn} {t n : Int} (h : IsNext z t n) : isT n = true := by obtain ⟨k, y, a, _, rfl, _⟩ := h; exact (swV_iff.1 a).2
end Go.Proofs.YtpaleljnkejdgaaGreatDoor.Wp
