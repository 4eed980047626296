/- The walk of FnDedup. -/
import Derived.Test.YtfmijboakipooaaDdh
namespace Go.Proofs.Ytfmijboakipooaa.Smp.Dfn
open Go.RowKit Go.Proofs.Ytfmijboakipooaa.Cur Go.Proofs.Ytfmijboakipooaa.Smp

theorem zO {w : World} {b b' : Nat} {v v' : Value} {L : List Sm} (hb : L.length ≤ 1048576) (h : Own w b v L) (h' : Own w b' v' L) :
    Calls Try.prog 10 #[v, v'] w fun e w' => e = .returned (.bool true) ∧ Below w.heap.size w w' := by
  obtain ⟨a, c, rfl⟩ := own_form h
  obtain ⟨a', c', rfl⟩ := own_form h'
  exact f10 a a' c c' L w hb h.has.2 h'.has.2
theorem goodO {w : World} {b : Nat} {v : Value} {L : List Sm} (hb : L.length ≤ 1048576) (h : Own w b v L) :
    Calls Try.prog 8 #[v] w fun e w' => e = .returned (.bool (goodS L)) ∧ Below w.heap.size w w' := by
  obtain ⟨a, c, rfl⟩ := own_form h
  exact f8 a c L w hb h.has.2
theorem dedO {w : World} {b b' : Nat} {v v' : Value} {L L' : List Sm} (gap : Int) (hb : L.length ≤ 1048576) (hb' : L'.length ≤ 1048576) (h : Own w b v L) (h' : Own w b' v' L') :
    Calls Try.prog 13 #[v, v', .int .i64 gap] w fun e w' => ∃ u, e = .returned u ∧ Own w' w.heap.size u (dedA L L' gap) ∧ Below w.heap.size w w' := by
  obtain ⟨a, c, rfl⟩ := own_form h
  obtain ⟨a', c', rfl⟩ := own_form h'
  exact f13 a a' c c' L L' gap w hb hb' h.has.2 h'.has.2 (cap_own h).1 (cap_own h').1 (cap_own h).2 (cap_own h').2
theorem cutO {w : World} {b : Nat} {v : Value} {L : List Sm} (x y : Int) (hb : L.length ≤ 1048576) (h : Own w b v L) :
    Calls Try.prog 11 #[v, .int .i64 x, .int .i64 y] w fun e w' => ∃ u, e = .returned u ∧ Own w' w.heap.size u (cutA L x y) ∧ Below w.heap.size w w' := by
  obtain ⟨a, c, rfl⟩ := own_form h
  exact f11 a c L x y w hb h.has.2 (cap_own h).1
theorem cutS {w : World} {b : Nat} {v : Value} {L : List Sm} (x y : Int) (hb : L.length ≤ 1048576) (h : Own w b v L) :
    Calls Try.prog 14 #[v, .int .i64 x, .int .i64 y] w fun e w' => ∃ u, e = .returned u ∧ Own w' w.heap.size u (cutA L x y) ∧ Below w.heap.size w w' := by
  obtain ⟨a, c, rfl⟩ := own_form h
  exact f14 a c L x y w hb h.has.2
theorem mrgO {w : World} {b b' : Nat} {v v' : Value} {L L' : List Sm} (hb : L.length ≤ 1048576) (hb' : L'.length ≤ 1048576) (h : Own w b v L) (h' : Own w b' v' L') :
    Calls Try.prog 15 #[v, v'] w fun e w' => ∃ u, e = .returned u ∧ Own w' w.heap.size u (mrg L L') ∧ Below w.heap.size w w' := by
  obtain ⟨a, c, rfl⟩ := own_form h
  obtain ⟨a', c', rfl⟩ := own_form h'
  have HC := hid (f38 a a' c c' L L' w hb hb' h.has.2 h'.has.2)
  clear h h'
  go_enter Try.func15, Try.ntmps15
  go_wp2_with fail
  refine HC.out.mono ?_
  rintro e w1 ⟨u, rfl, ho, hb1⟩
  go_wp2
  go_ret
  exact ⟨_, rfl, ho, hb1⟩
theorem one_at {w : World} {b : Nat} {v : Value} {s : Sm} (h : Own w b v [s]) : ∃ g c, v = .slice (some ⟨g, 0, none⟩) 1 c ∧ g < w.heap.size ∧ w.cell? ⟨g, 0, none⟩ = some (.int .i64 s.1) ∧ w.cell? ⟨g, 1, none⟩ = some (.int .i64 s.2) := by
  rcases h.cases with ⟨h1, _⟩ | ⟨g, c, rfl⟩
  · cases h1
  · obtain ⟨b', off, h1, h2, h3, h4⟩ := has_first h.has.2 (by simp)
    simp only [Option.some.injEq, Addr.mk.injEq, and_true] at h1
    obtain ⟨rfl, rfl⟩ := h1
    exact ⟨g, c, rfl, h2, h3, h4⟩
/-- A cut at one time is empty or one sample. -/
theorem cut_at {L : List Sm} (h : SP L) (t : Int) : cut L t t = [] ∨ ∃ v, cut L t t = [(t, v)] := by
  by_cases hs : ∃ s ∈ L, s.1 = t
  · obtain ⟨s, hs, rfl⟩ := hs
    exact .inr ⟨s.2, cut_one h hs⟩
  · exact .inl (cut_none (fun q hq e => hs ⟨q, hq, e⟩))
theorem cutA_between {xs ys : List Sm} {t u : Int} (hx : SP xs) (hy : SP ys) (h : ∀ q, q ∈ xs ∨ q ∈ ys → ¬ (t < q.1 ∧ q.1 < u)) : cutA (mrg xs ys) (t + 1) (u - 1) = [] := by
  unfold cutA
  split
  · exact mrg_between hx hy h
  · rfl
end Go.Proofs.Ytfmijboakipooaa.Smp.Dfn
