/- What is said of an interval without ranges, and of one whose day is free. -/
import Derived.Test.YtcnilidckicccaaDoorIvi
namespace Go.Proofs.YtcnilidckicccaaDoor.Rng
open Go.RowKit
open Go.Proofs.YtcnilidckicccaaDoor.Cal (dv dc ml Mon Rgl Dt DtR dn)

abbrev bare (z : Int) : Iv := ⟨z, [], [], [], [], [], [], none, 0, none, 0, none, 0, none, 0, none, 0, none, 0⟩
theorem hv_bare {i : Iv} {t y m d : Int} (g : GoodI i) (h : Cal.Has t i.z) (hd : Dt ((t + i.z * 60) / 86400) y m d) : hv (bare i.z) t = true := by
  have g0 : GoodI (bare i.z) := ⟨g.z0, g.z1, by simp [gks], by simp [gks], by simp [gks], by simp [gks], by simp [gks], (show fr [] by decide)⟩
  rw [hv_of g0 h hd]
  simp [sayI, li, ld]
theorem hv_free {i : Iv} {t y m d : Int} (hd : Dt ((t + i.z * 60) / 86400) y m d) (h : dn y m d ∈ i.l6) : hv i t = false := by
  unfold hv
  rw [decide_eq_false_iff_not]
  rintro ⟨_, _, y', m', d', h2, hs⟩
  obtain ⟨rfl, rfl, rfl⟩ := hd.one h2
  simp [sayI, h] at hs
theorem bare_has (w : World) (z : Int) : Has w (bare z) := ⟨.inl rfl, .inl rfl, .inl rfl, .inl rfl, .inl rfl, .inl rfl⟩
theorem bare_sml (z : Int) : Sml (bare z) := ⟨by simp, by simp, by simp, by simp, by simp, by simp⟩
end Go.Proofs.YtcnilidckicccaaDoor.Rng
