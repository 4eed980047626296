/- The walk of FnExactPutVar: it returns true and writes nothing that was there. -/
import Derived.Test.YtdcnnlnhopjjfaaPut
import Derived.WalkSmall
namespace Go.Proofs.Ytdcnnlnhopjjfaa.Put
open Go.RowKit Go.Proofs.Ytdcnnlnhopjjfaa.Byt

/-- A row of the call's own that isn't empty: where it begins. -/
theorem own_shape {w : World} {base n : Nat} {v : Value} {xs : List Value} (h : w.ownsRow base 5 1 v n xs) (hn : 1 ≤ n) :
    ∃ g cap, v = .slice (some ⟨g, 0, none⟩) n cap ∧ base ≤ g ∧ g < w.heap.size ∧ n ≤ cap := by
  rcases h.2 with ⟨_, h0⟩ | ⟨g, cap, cur, h1, h2, h3, h4, _⟩
  · omega
  · refine ⟨g, cap, h1, h2, ?_, h4⟩
    have := h.lt g (by rw [h1]; rfl)
    exact this.2

theorem Has.other {w w' : World} {b g : Nat} {zs : List Int} (h : Has w (some ⟨b, 0, none⟩) zs) (hg : w.grownBy w' (some g)) (hne : b ≠ g) : Has w' (some ⟨b, 0, none⟩) zs := by
  rcases h with h | ⟨b', off, h1, h2, h3⟩
  · exact .inl h
  · simp only [Option.some.injEq, Addr.mk.injEq, and_true] at h1
    obtain ⟨rfl, rfl⟩ := h1
    exact .inr ⟨b, 0, rfl, Nat.lt_of_lt_of_le h2 hg.size, fun i hi => hg.cell (h3 i hi) (by simpa using hne)⟩

theorem grown_undrew {w w' : World} {r : Option Nat} {q : Nat} (h : (w.drewN q).grownBy w' r) : w.grownBy w' r := ⟨h.os, h.tape, h.output, h.size, h.block⟩
theorem below_undrew {w w' : World} {B q : Nat} (h : Below B (w.drewN q) w') : Below B w w' := ⟨h.os, h.tape, h.output, h.size, h.block⟩

set_option maxHeartbeats 1000000 in
theorem walk (a0 : Int) (w : World) :
    Calls Try.prog 10 #[.int .i64 a0] w fun e w' => e = .returned (.bool true) ∧ Below w.heap.size w w' := by
  obtain ⟨n1, n10⟩ := put_len a0
  obtain ⟨n, hn⟩ : ∃ n, n = (put a0).length := ⟨_, rfl⟩
  obtain ⟨zs, hzs⟩ : ∃ zs, zs = put a0 := ⟨_, rfl⟩
  have HN : Hid (zs.length = n) := by rw [hzs, hn]; rfl
  have HZ : Hid (zs = put a0) := hzs
  rw [← hn] at n1 n10
  have h33 := fun w => f33 a0 w
  have h21 := fun w => f21 a0 w
  rw [← hn, ← hzs] at h33 h21
  have H33 := hid h33
  have H21 := hid h21
  clear hn hzs h33 h21
  have hb : n ≤ 140737488351232 := by omega
  have hd : (((1 : Int) + (n : Int)) != (1 : Int) + (n : Int)) = false := by simp
  go_enter Try.func10, Try.ntmps10
  go_wp2_with fail
  refine (H33.out _).mono ?_
  rintro e w1 ⟨v, rfl, ho1, hb1⟩
  obtain ⟨g1, c1, rfl, hg1, hg1', -⟩ := own_shape ho1 n1
  have hA1 := Has.own ho1
  clear ho1
  go_wp2_with fail
  refine (H21.out _).mono ?_
  rintro e w2 ⟨v, rfl, ho2, hb2⟩
  obtain ⟨g2, c2, rfl, hg2, hg2', -⟩ := own_shape ho2 n1
  have hA2 := hA1.below hb2
  have hB2 := Has.own ho2
  clear hA1
  go_wp2_with fail
  refine (f34 _ _ _ _ _ _ zs _ HN.out rfl hb hB2 hA2).mono ?_
  rintro e w3 ⟨rfl, q3, rfl⟩
  go_wp2_with fail
  refine (f35 g2 n c2 w1.heap.size 1 zs _ (by decide) (by decide) hb (by exact ho2)).mono ?_
  rintro e w4 ⟨rfl, ho4, hg4⟩
  replace hg4 := grown_undrew hg4
  have hA4 := Has.other (w := w2) (w' := w4) hA2 hg4 (by omega)
  have hB4 := Has.own ho4
  clear hA2 hB2 ho2 ho4
  go_wp2_with fail
  refine (f36 g2 n c2 1 _ (by decide) (by decide) hb hB4).mono ?_
  rintro e w5 ⟨rfl, q5, rfl⟩
  go_wp2_with fail
  refine (H21.out _).mono ?_
  rintro e w6 ⟨v, rfl, ho6, hb6⟩
  replace hb6 := below_undrew hb6
  obtain ⟨g6, c6, rfl, hg6, hg6', -⟩ := own_shape ho6 n1
  have hA6 := Has.below (w := w4) hA4 hb6
  have hB6 := Has.below (w := w4) hB4 hb6
  have hC6 := Has.own ho6
  clear hA4 hB4 ho6
  go_wp2_with fail
  refine (f34 _ _ _ _ _ _ zs _ HN.out rfl hb hC6 hA6).mono ?_
  rintro e w7 ⟨rfl, q7, rfl⟩
  go_wp2_with fail
  refine (f36 g2 n c2 1 _ (by decide) (by decide) hb (by exact hB6)).mono ?_
  rintro e w8 ⟨rfl, q8, rfl⟩
  go_wp2
  go_ret
  have hbel4 : Below w.heap.size w w4 := ((hb1.trans (hb2.mono hb1.size)).grown hg4 (Nat.le_trans hb1.size hb2.size) (by intro k hk; cases hk; omega))
  exact ⟨rfl, below_drewN (hbel4.trans (hb6.mono (by exact hbel4.size))) (q7 + q8)⟩
end Go.Proofs.Ytdcnnlnhopjjfaa.Put
