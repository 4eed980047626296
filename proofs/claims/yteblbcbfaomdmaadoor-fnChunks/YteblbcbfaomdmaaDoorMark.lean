/- markBits and heldBits, of bits whose data may be none. -/
import Derived.Test.YteblbcbfaomdmaaDoorAdd4
namespace Go.Proofs.YteblbcbfaomdmaaDoor.Bts
open Go.RowKit Go.Proofs.YteblbcbfaomdmaaDoor.Byt

theorem f51n (k : Int) (w : World) : Calls Tryd.prog 51 #[.slice none 0 0, .int .i64 k] w fun e w' => e = .returned (.int .i64 k) ∧ w' = w := by
  go_enter Tryd.func51, Tryd.ntmps51
  go_wp2
  go_rounds 1
  go_ret
  exact ⟨rfl, rfl⟩
theorem f52n (k : Int) (w : World) : Calls Tryd.prog 52 #[.slice none 0 0, .int .i64 k] w fun e w' => e = .returned (.int .i64 k) ∧ w' = w := by
  go_enter Tryd.func52, Tryd.ntmps52
  go_wp2
  go_rounds 1
  go_ret
  exact ⟨rfl, rfl⟩

theorem f25 (a : Option Addr) (n c base : Nat) (s : Int) (xs : List Int) (w : World) (hb : n ≤ 1048576) (hown : w.ownsRow base 5 1 (.slice a n c) n (xs.map (Value.int .u8))) :
    Calls Tryd.prog 25 #[.agg #[.slice a n c, .int .i64 s], .int .i64 1] w fun e w' => e = .returned (.int .i64 (1 + n)) ∧
      w'.ownsRow base 5 1 (.slice a n c) n ((marks 1 n).map (Value.int .u8)) ∧ w.grownBy w' (Value.slice a n c).ownBlock := by
  rcases hown.2 with ⟨h1, h2⟩ | ⟨g, cap, cur, h1, h2, h3⟩
  · simp only [Value.slice.injEq] at h1
    obtain ⟨rfl, rfl, rfl⟩ := h1
    have HO := hid hown
    clear hown
    go_enter Tryd.func25, Tryd.ntmps25
    go_wp2_with fail
    refine (f51n _ _).mono ?_
    rintro e w1 ⟨rfl, rfl⟩
    go_wp2
    go_ret
    exact ⟨rfl, World.ownsRow_nil _ _ _ _, World.grownBy_alloc _ _ _⟩
  · simp only [Value.slice.injEq, true_and] at h1
    obtain ⟨rfl, rfl⟩ := h1
    have HO := hid hown
    clear hown h3
    go_enter Tryd.func25, Tryd.ntmps25
    go_wp2_with fail
    refine (f51 g n c base 1 xs _ (by decide) (by decide) (by omega) (HO.out.alloc _)).mono ?_
    rintro e w1 ⟨rfl, ho1, hg1⟩
    go_wp2
    go_ret
    exact ⟨rfl, ho1, Byt.grownBy_trans (World.grownBy_alloc _ _ _) hg1⟩

theorem f26 (a : Option Addr) (n c : Nat) (s : Int) (w : World) (hb : n ≤ 1048576) (hnil : (a = none ∧ n = 0 ∧ c = 0) ∨ ∃ g, a = some ⟨g, 0, none⟩) (hr : Has w a (marks 1 n)) :
    Calls Tryd.prog 26 #[.agg #[.slice a n c, .int .i64 s], .int .i64 1] w fun e w' => e = .returned (.int .i64 (1 + n)) ∧ Below w.heap.size w w' := by
  rcases hnil with ⟨rfl, rfl, rfl⟩ | ⟨g, rfl⟩
  · clear hr
    go_enter Tryd.func26, Tryd.ntmps26
    go_wp2_with fail
    refine (f52n _ _).mono ?_
    rintro e w1 ⟨rfl, rfl⟩
    go_wp2
    go_ret
    exact ⟨rfl, (Below.refl _ _).alloc (Nat.le_refl _) _⟩
  · go_enter Tryd.func26, Tryd.ntmps26
    go_wp2_with fail
    refine (f52 g n c 1 _ (by decide) (by decide) (by omega) (has_alloc hr _)).mono ?_
    rintro e w1 ⟨rfl, q, rfl⟩
    go_wp2
    go_ret
    exact ⟨rfl, below_drewN ((Below.refl _ _).alloc (Nat.le_refl _) _) q⟩
end Go.Proofs.YteblbcbfaomdmaaDoor.Bts
