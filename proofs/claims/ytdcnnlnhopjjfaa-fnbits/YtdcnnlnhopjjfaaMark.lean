/- markBits and heldBits, of bits whose data may be none. -/
import Derived.Test.YtdcnnlnhopjjfaaAdd4
namespace Go.Proofs.Ytdcnnlnhopjjfaa.Bts
open Go.RowKit Go.Proofs.Ytdcnnlnhopjjfaa.Byt

theorem f35n (k : Int) (w : World) : Calls Try.prog 35 #[.slice none 0 0, .int .i64 k] w fun e w' => e = .returned (.int .i64 k) ∧ w' = w := by
  go_enter Try.func35, Try.ntmps35
  go_wp2
  go_rounds 1
  go_ret
  exact ⟨rfl, rfl⟩
theorem f36n (k : Int) (w : World) : Calls Try.prog 36 #[.slice none 0 0, .int .i64 k] w fun e w' => e = .returned (.int .i64 k) ∧ w' = w := by
  go_enter Try.func36, Try.ntmps36
  go_wp2
  go_rounds 1
  go_ret
  exact ⟨rfl, rfl⟩

theorem f29 (a : Option Addr) (n c base : Nat) (s : Int) (xs : List Int) (w : World) (hb : n ≤ 1048576) (hown : w.ownsRow base 5 1 (.slice a n c) n (xs.map (Value.int .u8))) :
    Calls Try.prog 29 #[.agg #[.slice a n c, .int .i64 s], .int .i64 1] w fun e w' => e = .returned (.int .i64 (1 + n)) ∧
      w'.ownsRow base 5 1 (.slice a n c) n ((marks 1 n).map (Value.int .u8)) ∧ w.grownBy w' (Value.slice a n c).ownBlock := by
  rcases hown.2 with ⟨h1, h2⟩ | ⟨g, cap, cur, h1, h2, h3⟩
  · simp only [Value.slice.injEq] at h1
    obtain ⟨rfl, rfl, rfl⟩ := h1
    have HO := hid hown
    clear hown
    go_enter Try.func29, Try.ntmps29
    go_wp2_with fail
    refine (f35n _ _).mono ?_
    rintro e w1 ⟨rfl, rfl⟩
    go_wp2
    go_ret
    exact ⟨rfl, World.ownsRow_nil _ _ _ _, World.grownBy_alloc _ _ _⟩
  · simp only [Value.slice.injEq, true_and] at h1
    obtain ⟨rfl, rfl⟩ := h1
    have HO := hid hown
    clear hown h3
    go_enter Try.func29, Try.ntmps29
    go_wp2_with fail
    refine (f35 g n c base 1 xs _ (by decide) (by decide) (by omega) (HO.out.alloc _)).mono ?_
    rintro e w1 ⟨rfl, ho1, hg1⟩
    go_wp2
    go_ret
    exact ⟨rfl, ho1, Byt.grownBy_trans (World.grownBy_alloc _ _ _) hg1⟩

theorem f30 (a : Option Addr) (n c : Nat) (s : Int) (w : World) (hb : n ≤ 1048576) (hnil : (a = none ∧ n = 0 ∧ c = 0) ∨ ∃ g, a = some ⟨g, 0, none⟩) (hr : Has w a (marks 1 n)) :
    Calls Try.prog 30 #[.agg #[.slice a n c, .int .i64 s], .int .i64 1] w fun e w' => e = .returned (.int .i64 (1 + n)) ∧ Below w.heap.size w w' := by
  rcases hnil with ⟨rfl, rfl, rfl⟩ | ⟨g, rfl⟩
  · clear hr
    go_enter Try.func30, Try.ntmps30
    go_wp2_with fail
    refine (f36n _ _).mono ?_
    rintro e w1 ⟨rfl, rfl⟩
    go_wp2
    go_ret
    exact ⟨rfl, (Below.refl _ _).alloc (Nat.le_refl _) _⟩
  · go_enter Try.func30, Try.ntmps30
    go_wp2_with fail
    refine (f36 g n c 1 _ (by decide) (by decide) (by omega) (has_alloc hr _)).mono ?_
    rintro e w1 ⟨rfl, q, rfl⟩
    go_wp2
    go_ret
    exact ⟨rfl, below_drewN ((Below.refl _ _).alloc (Nat.le_refl _) _) q⟩
end Go.Proofs.Ytdcnnlnhopjjfaa.Bts
