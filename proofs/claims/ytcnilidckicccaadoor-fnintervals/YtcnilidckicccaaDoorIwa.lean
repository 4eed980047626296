/- Ranges that are drawn. -/
import Derived.Test.YtcnilidckicccaaDoorUfc
import Derived.Test.YtcnilidckicccaaDoorIvb
import Derived.Maps.AppendAt
import Derived.OwnWalk
namespace Go.Proofs.YtcnilidckicccaaDoor.Cur
open Go.RowKit
open Go.Proofs.YtcnilidckicccaaDoor.Cal (hid)
open Go.Proofs.YtcnilidckicccaaDoor.Rng (Sm e0 HasS Fit flat In64)

theorem infoR : (Tryd.prog.info? 55).map (fun i => (i.zero, i.size, i.bytes)) = some (some (.agg #[.int .i64 0, .int .i64 0]), 2, 16) := by kernel_rfl
theorem info3 : (Tryd.prog.info? 3).map (fun i => (i.zero, i.size, i.bytes)) = some (some (.int .i64 0), 1, 8) := by kernel_rfl
theorem two_new (w : World) (x y : Value) (t : TypeId) : ∀ j u, [x, y][j]? = some u → (w.alloc (.cells #[x, y] t)).cell? ((⟨w.heap.size, 0, none⟩ : Addr).add j) = some u := by
  intro j u hj
  have h := heap_alloc_new w (.cells #[x, y] t)
  match j, hj with
  | 0, hj => simp at hj; subst hj; exact (Cal.cell_at h 0)
  | 1, hj => simp at hj; subst hj; exact (Cal.cell_at h 1)
theorem own_form {w : World} {base e size n : Nat} {v : Value} {xs : List Value} (h : w.ownsRow base e size v n xs) : ∃ a c, v = .slice a n c := by
  rcases h.2 with ⟨h1, h2⟩ | ⟨g, cap, cur, h1, _⟩
  · subst h2; exact ⟨none, 0, h1⟩
  · exact ⟨_, _, h1⟩
theorem flat_snoc (l : List Sm) (p : Sm) : flat (l ++ [p]) = flat l ++ [.int .i64 p.1, .int .i64 p.2] := by simp [flat]
theorem own_kept {w w' : World} {base e size n r : Nat} {v : Value} {xs : List Value} (h : w.ownsRow base e size v n xs) (hg : w.grownBy w' (some r)) (hr : r < base) : w'.ownsRow base e size v n xs :=
  h.kept hg (by
    cases hv : v.ownBlock with
    | none => exact .inl rfl
    | some k => have := (h.lt k hv).1; exact .inr (by simp; omega))
/-- A row of ranges of the call's own. -/
def RowR (K X : Nat) (w : World) (v : Value) : Prop := ∃ (a : Option Addr) (n c : Nat) (l : List Sm), v = .slice a n c ∧ n ≤ K ∧ l.length = n ∧ w.ownsRow X 55 2 (.slice a n c) n (flat l) ∧ ∀ p ∈ l, In64 p.1 ∧ In64 p.2
/-- A row of ints of the call's own. -/
def RowI (K X : Nat) (w : World) (v : Value) : Prop := ∃ (a : Option Addr) (n c : Nat) (l : List Int), v = .slice a n c ∧ n ≤ K ∧ l.length = n ∧ w.ownsRow X 3 1 (.slice a n c) n (l.map (Value.int .i64)) ∧ ∀ x ∈ l, In64 x
theorem RowR.nil (K X : Nat) (w : World) : RowR K X w (.slice none 0 0) := ⟨none, 0, 0, [], rfl, by omega, rfl, World.ownsRow_nil _ _ _ _, by simp⟩
theorem RowI.nil (K X : Nat) (w : World) : RowI K X w (.slice none 0 0) := ⟨none, 0, 0, [], rfl, by omega, rfl, World.ownsRow_nil _ _ _ _, by simp⟩
set_option maxHeartbeats 4000000 in
theorem f39 (B0 R n c lim : Nat) (a : Option Addr) (lo hi : Int) (w : World) (h : Cu B0 R a n c lim w) (hl : lim ≤ 4503599627300000) (hn : n ≤ 1048576) (hlo : -10000 ≤ lo) (hhi : hi ≤ 100000) (hle : lo ≤ hi) :
    Calls Tryd.prog 39 #[.pointer (some ⟨R, 0, none⟩), .int .i64 lo, .int .i64 hi] w fun e w' => ∃ v, e = .returned v ∧ RowR 2 w.heap.size w' v ∧ Cu B0 R a n c (lim + 100) w' ∧ w.grownBy w' (some R) := by
  have HC := hid h
  have hR := cuLt h
  obtain ⟨i0, hi', hz0, hz1, hz2⟩ := info_parts infoR
  clear h
  go_enter Tryd.func39, Tryd.ntmps39
  go_wp2_with fail
  refine (f18 B0 R n c lim a 2 w HC.out (by omega) hn (by omega) (by omega)).mono ?_
  rintro e w1 ⟨b, rfl, hc1, hg1⟩
  have HC1 := hid hc1
  have HG1 := hid hg1
  have hs1 := hg1.size
  clear hc1 hg1 HC
  cases b
  rotate_left
  · go_wp2
    go_ret
    exact ⟨_, rfl, RowR.nil _ _ _, HC1.out.mono (by omega), HG1.out⟩
  go_wp2_with fail
  refine (f38 B0 R n c _ a 2 w1 HC1.out (by omega) hn (by omega) (by omega)).mono ?_
  rintro e w2 ⟨x, rfl, x0, x1, hc2, hg2⟩
  have HC2 := hid hc2
  have HG2 := hid (grownBy_trans HG1.out hg2)
  have hs2 := hg2.size
  have hx2 : x ≤ 1 := by omega
  clear hc2 hg2 HC1 HG1 x1
  go_wp2
  go_loopw [7, 8] (fun s7 s8 wr => ∃ (m k : Nat) (ao : Option Addr) (co : Nat) (l : List Sm) (lm : Nat), s7 = .slice ao k co ∧ s8 = .int .i64 (m : Int) ∧ m + k ≤ 2 ∧ l.length = k ∧ lm + 10 * m ≤ lim + 60 ∧ Hid (wr.ownsRow w.heap.size 55 2 (.slice ao k co) k (flat l)) ∧ Hid (∀ p ∈ l, In64 p.1 ∧ In64 p.2) ∧ Hid (Cu B0 R a n c lm wr) ∧ Hid (w.grownBy wr (some R))) (fun _ s8 _ => (intOf s8).toNat)
  case atStart => exact ⟨(1 + x).toNat, 0, none, 0, [], lim + 2 + 2, rfl, by congr 1; omega, by omega, rfl, by omega, World.ownsRow_nil _ _ _ _, by unfold Hid; simp, HC2, HG2⟩
  case round =>
    clear HC2 HG2
    obtain ⟨m, k, ao, co, l, lm, rfl, rfl, hmk, hlk, hlm, HO, HF, HC, HG⟩ := hrel
    have hsr := HG.out.size
    by_cases hm : 0 < m
    rotate_left
    · obtain rfl : m = 0 := by omega
      go_wp2
      go_ret
      exact ⟨_, rfl, ⟨ao, k, co, l, rfl, by omega, hlk, HO.out, HF.out⟩, HC.out.mono (by omega), HG.out⟩
    · have hm' : (m : Int) > 0 := by omega
      go_wp2_with fail
      refine (f38 B0 R n c lm a _ wr HC.out (by omega) hn (by omega) (by omega)).mono ?_
      rintro e w3 ⟨y, rfl, y0, y1, hc3, hg3⟩
      have HC3 := hid hc3
      have HG3 := hid (grownBy_trans HG.out hg3)
      have HO3 := hid (own_kept HO.out hg3 hR)
      have hs3 := hg3.size
      have hy1 : lo + y ≤ hi := by omega
      clear hc3 hg3 y1
      go_wp2_with fail
      refine (f38 B0 R n c _ a _ w3 HC3.out (by omega) hn (by omega) (by omega)).mono ?_
      rintro e w4 ⟨z, rfl, z0, z1, hc4, hg4⟩
      have HC4 := hid hc4
      have HG4 := hid (grownBy_trans HG3.out hg4)
      have HO4 := hid (own_kept HO3.out hg4 hR)
      have hs4 := hg4.size
      have hz1' : lo + y + z ≤ hi := by omega
      have HOW : Hid ((w4.alloc (.cells #[.int .i64 (lo + y), .int .i64 (lo + y + z)] 55)).ownsRow w.heap.size 55 2 (.slice ao k co) k (flat l)) := HO4.out.alloc _
      clear hc4 hg4 z1
      go_wp2_with (at_builtin; refine wpList_append_own_at _ rfl (.tmp 27) (.tmp 38) 23 rfl w.heap.size 55 i0 (.agg #[.int .i64 0, .int .i64 0]) 2 16 Tryd.underlying23 hi' hz0 hz1 hz2 rfl (by decide) _ _ _ rfl HOW.out ⟨w4.heap.size, 0, none⟩ 1 1 [.int .i64 (lo + y), .int .i64 (lo + y + z)] rfl rfl ?d1 ?d2 ?d3 ?d4 ?d5 ?_)
      case d1 => exact two_new _ _ _ _
      case d2 => intro u hu; simp at hu; rcases hu with rfl | rfl <;> rfl
      case d3 => unfold maxLen; omega
      case d4 => omega
      case d5 => simp; omega
      intro v3 w5 hown3 hgr3 _ _
      obtain ⟨a3, c3, rfl⟩ := own_form hown3
      have hro : ∀ g, (Value.slice ao k co).ownBlock = some g → w.heap.size ≤ g := fun g e => (HO4.out.lt g e).1
      have HG5 : Hid (w.grownBy w5 (some R)) := grown_new (grown_alloc HG4.out _) hgr3 hro
      have HC5 : Hid (Cu B0 R a n c (lm + 2 + 2) w5) := cuKept (cuKept HC4.out (row := none) (grown_alloc (World.grownBy.refl _ _) _) (by intro g hg; cases hg)) hgr3 (fun g e => by have := hro g e; omega)
      have HO5 : Hid (w5.ownsRow w.heap.size 55 2 (.slice a3 (k + 1) c3) (k + 1) (flat (l ++ [(lo + y, lo + y + z)]))) := by
        unfold Hid; rw [flat_snoc]; exact hown3
      have HF5 : Hid (∀ p ∈ l ++ [(lo + y, lo + y + z)], In64 p.1 ∧ In64 p.2) := by
        intro p hp
        rcases List.mem_append.1 hp with h | h
        · exact HF.out p h
        · simp at h; subst h; exact ⟨⟨by simp only; omega, by simp only; omega⟩, ⟨by simp only; omega, by simp only; omega⟩⟩
      obtain ⟨m', rfl⟩ : ∃ m', m = m' + 1 := ⟨m - 1, by omega⟩
      clear hown3 hgr3 hro
      go_wp2
      go_roundw
      case rel => exact ⟨m', k + 1, a3, c3, l ++ [(lo + y, lo + y + z)], lm + 2 + 2, rfl, by first | rfl | (congr 1; omega), by omega, by simp [hlk], by omega, HO5, HF5, HC5, HG5⟩
      case measure => first | (simp [intOf]; done) | (simp [intOf]; omega)
end Go.Proofs.YtcnilidckicccaaDoor.Cur
