/-
  Plain mathematics of one zone in one year: its switches, what its clocks tell beside them, and which moments have no time or two. No condition but those that the theorems state.
-/
import Derived.Test.YtpaleljnkejdgaaDoorZonTimesAll
namespace Go.Proofs.YtpaleljnkejdgaaDoor

/-- A summer from March to October. -/
def Bz : Wp.Zn := ⟨60, 60, ⟨3, 5, 0, 120⟩, ⟨10, 5, 0, 180⟩⟩
theorem Bz.row : Bz = Zt.zn 2 := rfl
theorem Bz.ok : Wp.ZnOk Bz := ⟨⟨by decide, by decide, by decide, by decide⟩, Or.inr ⟨by decide, ⟨by decide, by decide, by decide, by decide, by decide, by decide, by decide, by decide⟩, ⟨by decide, by decide, by decide, by decide, by decide, by decide, by decide, by decide⟩, by decide, by decide⟩⟩
theorem Bz.saves : Bz.save ≠ 0 := by decide
theorem Bz.raw : Wp.Zn.rawTo Bz 2026 3 = [(1743296400, 120), (1761440400, 60), (1774746000, 120), (1792890000, 60), (1806195600, 120), (1824944400, 60)] := by decide +kernel
theorem Bz.turns : Wp.Turns Bz 2026 [(1743296400, 120), (1761440400, 60), (1774746000, 120), (1792890000, 60), (1806195600, 120), (1824944400, 60)] := ⟨by rw [Bz.raw], by decide⟩
theorem Bz.year {t : Int} (h1 : 1767225600 ≤ t) (h2 : t < 1798761600) : Wp.YearOf t 2026 := by
  have e1 : Wp.bg 2026 = 739616 := by decide +kernel
  have e2 : Wp.bg 2027 = 739981 := by decide +kernel
  refine ⟨by decide, by decide, ?_, ?_⟩
  · rw [e1]; omega
  · show _ < Wp.bg (2026 + 1) * 86400
    rw [show (2026 : Int) + 1 = 2027 by decide, e2]; omega
theorem Bz.ofs {t : Int} (h1 : 1767225600 ≤ t) (h2 : t < 1798761600) : Wp.ofs Bz t = Wp.lastUp [(1743296400, 120), (1761440400, 60), (1774746000, 120), (1792890000, 60), (1806195600, 120), (1824944400, 60)] t 60 :=
  (Wp.ofs_eq Bz.ok Bz.saves (Bz.turns.off Bz.ok Bz.saves (Bz.year h1 h2))).symm
theorem Bz.ofs1 : Wp.ofs Bz 1774745999 = 60 := (Bz.ofs (by decide) (by decide)).trans (by decide)
theorem Bz.ofs2 : Wp.ofs Bz 1774746000 = 120 := (Bz.ofs (by decide) (by decide)).trans (by decide)
theorem Bz.chk : Wp.chkR Bz = 0 := Wp.chkR_ok Bz.ok
theorem Bz.chk2 {t : Int} (h : Wp.isT t = true) : Wp.chk2R Bz t = 0 := Wp.chk2R_mk Bz.ok h
theorem Bz.offR1 : Wp.offR Bz 1774745999 = (60, 0) := (if_pos (Bz.chk2 (by decide))).trans (by rw [Bz.ofs1])
theorem Bz.offR2 : Wp.offR Bz 1774746000 = (120, 0) := (if_pos (Bz.chk2 (by decide))).trans (by rw [Bz.ofs2])
theorem Bz.isOf : Wp.IsOf 1774753200 ⟨2026, 3, 29, 3, 0, 0, 0⟩ := ⟨by decide +kernel, by decide +kernel, by decide +kernel⟩
theorem Bz.locR : Wp.locR Bz 1774746000 = (⟨2026, 3, 29, 3, 0, 0, 0⟩, 0) := by
  rw [show Wp.locR Bz 1774746000 = Wp.ofR (1774746000 + Wp.ofs Bz 1774746000 * 60) from if_pos (Bz.chk2 (by decide)), Bz.ofs2]
  exact Wp.ofR_eq Bz.isOf
theorem Bz.next : Wp.IsNext Bz 1774745999 1774746000 := Bz.turns.next Bz.ok Bz.saves (Bz.year (by decide) (by decide)) 2 (by decide) (by decide) (by decide)
theorem Bz.two : Cv.two (Bz.base + Bz.save) Bz.base = [120, 60] := by decide
theorem Bz.gap : Wp.timesR Bz ⟨2026, 3, 29, 2, 30, 0, 0⟩ = ([], 0) := by
  have e : Wp.timeD ⟨2026, 3, 29, 2, 30, 0, 0⟩ = 1774751400 := by decide +kernel
  have o1 : Wp.ofs Bz 1774744200 = 60 := (Bz.ofs (by decide) (by decide)).trans (by decide)
  have o2 : Wp.ofs Bz 1774747800 = 120 := (Bz.ofs (by decide) (by decide)).trans (by decide)
  rw [show Wp.timesR Bz ⟨2026, 3, 29, 2, 30, 0, 0⟩ = (Wp.timesL Bz (Wp.timeD ⟨2026, 3, 29, 2, 30, 0, 0⟩), 0) from (if_pos Bz.chk).trans (if_pos (by decide +kernel)), e]
  unfold Wp.timesL
  rw [Bz.two]
  simp [Wp.timeOne, o1, o2]
theorem Bz.both : Wp.timesR Bz ⟨2026, 10, 25, 2, 30, 0, 0⟩ = ([1792888200, 1792891800], 0) := by
  have e : Wp.timeD ⟨2026, 10, 25, 2, 30, 0, 0⟩ = 1792895400 := by decide +kernel
  have o1 : Wp.ofs Bz 1792888200 = 120 := (Bz.ofs (by decide) (by decide)).trans (by decide)
  have o2 : Wp.ofs Bz 1792891800 = 60 := (Bz.ofs (by decide) (by decide)).trans (by decide)
  have t1 : Wp.isT 1792888200 = true := by decide
  have t2 : Wp.isT 1792891800 = true := by decide
  rw [show Wp.timesR Bz ⟨2026, 10, 25, 2, 30, 0, 0⟩ = (Wp.timesL Bz (Wp.timeD ⟨2026, 10, 25, 2, 30, 0, 0⟩), 0) from (if_pos Bz.chk).trans (if_pos (by decide +kernel)), e]
  unfold Wp.timesL
  rw [Bz.two]
  simp [Wp.timeOne, o1, o2, t1, t2]
/-- A zone without a summer, five minutes ahead. -/
def Fz : Wp.Zn := ⟨5, 0, ⟨0, 0, 0, 0⟩, ⟨0, 0, 0, 0⟩⟩
theorem Fz.ok : Wp.ZnOk Fz := ⟨⟨by decide, by decide, by decide, by decide⟩, Or.inl ⟨rfl, rfl, rfl⟩⟩
theorem Fz.chk2 : Wp.chk2R Fz 0 = 0 := Wp.chk2R_mk Fz.ok (by decide)
theorem Bz.at_ : Zt.At ⟨#[69, 117, 114, 111, 112, 101, 47, 66, 101, 114, 108, 105, 110]⟩ Bz 0 := Or.inl ⟨2, by decide, rfl, fun j hj => by
  have h : j = 0 ∨ j = 1 := by omega
  rcases h with rfl | rfl
  · decide
  · decide, rfl, rfl⟩
theorem Bz.at_none : Zt.At ⟨#[69, 117, 114, 111, 112, 101, 47, 78, 111, 119, 104, 101, 114, 101]⟩ Wp.Zn.zero 13 := Or.inr ⟨fun j hj => by
  have h : j = 0 ∨ j = 1 ∨ j = 2 ∨ j = 3 ∨ j = 4 ∨ j = 5 ∨ j = 6 ∨ j = 7 := by omega
  rcases h with rfl | rfl | rfl | rfl | rfl | rfl | rfl | rfl <;> decide, rfl, rfl⟩
end Go.Proofs.YtpaleljnkejdgaaDoor
