/- What AddBits of the model comes to. -/
import Derived.Test.YteblbcbfaomdmaaDoorAdd1
namespace Go.Proofs.YteblbcbfaomdmaaDoor.Bts
open Go.RowKit Go.Proofs.YteblbcbfaomdmaaDoor.Byt

/-- What AddBits answers: its bytes and its size. -/
def addR (zs : List Int) (s v m : Int) : List Int × Int :=
  if good zs s = true ∧ 0 ≤ m ∧ m ≤ 64 ∧ s + m ≤ 80000 then (addL zs s.toNat (IntKind.u64.wrap v) m.toNat m.toNat, s + m) else ([], 0)
theorem addR_in (zs : List Int) (s m : Nat) (v : Int) (hg : good zs s = true) (h1 : m ≤ 64) (h2 : s + m ≤ 80000) : addR zs s v m = (addL zs s (IntKind.u64.wrap v) m m, ((s + m : Nat) : Int)) := by
  unfold addR; rw [if_pos ⟨hg, by omega, by omega, by omega⟩, Int.toNat_natCast, Int.toNat_natCast]; rfl
theorem addR_out (zs : List Int) (s v m : Int) (h : ¬ (good zs s = true ∧ 0 ≤ m ∧ m ≤ 64 ∧ s + m ≤ 80000)) : addR zs s v m = ([], 0) := by unfold addR; rw [if_neg h]

theorem G_of_good (zs : List Int) (s : Nat) (h : good zs s = true) (h255 : ∀ j, 0 ≤ zs.getD j 0 ∧ zs.getD j 0 ≤ 255) : G zs s := by
  unfold good at h
  rw [decide_eq_true_iff] at h
  obtain ⟨h1, h2, h3, h4⟩ := h
  refine ⟨by omega, ?_, ?_⟩
  · intro z hz
    obtain ⟨j, hj, rfl⟩ := List.getElem_of_mem hz
    simpa [hj] using h255 j
  · intro h8
    rcases h4 with h4 | h4
    · omega
    · rw [show s / 8 = zs.length - 1 from by omega]
      rw [show ((s : Int) % 8).toNat = s % 8 from by omega] at h4
      exact h4

theorem cells_of_has {w : World} {ad : Addr} {zs : List Int} (h : Has w (some ad) zs) : ∀ j u, (zs.map (Value.int .u8))[j]? = some u → w.cell? (ad.add j) = some u := by
  intro j u hu
  rcases h with h | ⟨b, off, h1, h2, h3⟩
  · subst h; simp at hu
  · simp only [Option.some.injEq] at h1
    subst h1
    have hj : j < zs.length := by
      by_cases hj : j < zs.length
      · exact hj
      · rw [List.getElem?_eq_none (by simpa using hj)] at hu; simp at hu
    rw [List.getElem?_map, List.getElem?_eq_getElem hj] at hu
    simp at hu
    have := h3 j hj
    simp [hj, hu] at this
    by_cases hj0 : j = 0
    · subst hj0; simpa [Addr.add] using this
    · simpa [Addr.add, hj0] using this
theorem one_all (zs : List Int) : ∀ u ∈ zs.map (Value.int .u8), u.oneCell' = true := by
  intro u hu
  obtain ⟨z, _, rfl⟩ := List.mem_map.1 hu
  rfl

theorem own_slice {w : World} {base n : Nat} {v : Value} {xs : List Value} (h : w.ownsRow base 5 1 v n xs) : ∃ a cap, v = .slice a n cap := by
  rcases h.2 with ⟨h1, h2⟩ | ⟨g, cap, cur, h1, _⟩
  · exact ⟨none, 0, by rw [h1, h2]⟩
  · exact ⟨_, _, h1⟩

end Go.Proofs.YteblbcbfaomdmaaDoor.Bts
