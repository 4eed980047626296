/- A pattern as the program reads it: rows of rows of rows of tests, and what each step makes of them. -/
import Derived.Test.YtpobpanmkdjkjaaPd
import Derived.Test.YtpobpanmkdjkjaaPaj
import Derived.Maps.AppendAt
namespace Go.Proofs.Ytpobpanmkdjkjaa.Pat
open Go.RowKit

theorem f52w (w : World) : Calls Try.prog 52 #[] w fun e w' => e = .returned (.func (.func 70) #[] #[]) ∧ w' = w := by
  go_enter Try.func52, Try.ntmps52
  go_wp2
  go_ret
  exact ⟨rfl, rfl⟩
theorem f54w (z : Int) (w : World) : Calls Try.prog 54 #[.int .u8 z] w fun e w' => e = .returned (.func (.func 72) #[] #[.pointer (some ⟨w.heap.size, 0, none⟩)]) ∧ w' = w.alloc (.cells #[.int .u8 z] 5) := by
  go_enter Try.func54, Try.ntmps54
  go_wp2
  go_ret
  exact ⟨rfl, rfl⟩
theorem own_zero {w : World} {B e size n : Nat} {v : Value} {xs : List Value} (h : w.ownsRow B e size v n xs) : w.ownsRow 0 e size v n xs := by
  refine ⟨h.1, ?_⟩
  rcases h.2 with h1 | ⟨g, cap, cur, h1, _, h3⟩
  · exact .inl h1
  · exact .inr ⟨g, cap, cur, h1, Nat.zero_le _, h3⟩
theorem own_lt {w : World} {B e size n g : Nat} {v : Value} {xs : List Value} (h : w.ownsRow B e size v n xs) (hg : v.ownBlock = some g) : g < w.heap.size := (h.lt g hg).2

/-- The rows while a pattern is read: the alternatives that are done, the last one's runs that are done, its last run. -/
structure Bd (B : Nat) (w0 w : World) (S : Blk) (fin : List (List (List Int))) (rs : List (List Int)) (r : List Int) (g1 n1 c1 : Nat) (x1 : List Value) (g2 n2 c2 : Nat) (x2 : List Value) (v3 : Value) (x3 : List Value) : Prop where
  o1 : w.ownsRow B 79 1 (.slice (some ⟨g1, 0, none⟩) n1 c1) n1 x1
  o2 : w.ownsRow B 96 1 (.slice (some ⟨g2, 0, none⟩) n2 c2) n2 x2
  o3 : w.ownsRow B 82 1 v3 r.length x3
  n1e : n1 = fin.length + 1
  n2e : n2 = rs.length + 1
  l1 : x1[fin.length]? = some (.slice (some ⟨g2, 0, none⟩) n2 c2)
  l2 : x2[rs.length]? = some v3
  f1 : ∀ (i : Nat) (a : List (List Int)), fin[i]? = some a → ∃ u, x1[i]? = some u ∧ AltW S w u a
  f2 : ∀ (i : Nat) (q : List Int), rs[i]? = some q → ∃ u, x2[i]? = some u ∧ RunW S w u q
  f3 : ∀ (i : Nat) (x : Int), r[i]? = some x → ∃ u, x3[i]? = some u ∧ ItW S w u x
  s1 : ¬ S g1
  s2 : ¬ S g2
  s3 : ∀ g, v3.ownBlock = some g → ¬ S g
  sz : ∀ k, S k → k < w.heap.size
  bel : Below B w0 w

section
variable {B : Nat} {w0 w w' : World} {S S' : Blk} {fin : List (List (List Int))} {rs : List (List Int)} {r : List Int} {g1 n1 c1 : Nat} {x1 : List Value} {g2 n2 c2 : Nat} {x2 : List Value} {v3 : Value} {x3 : List Value}
theorem Bd.size (h : Bd B w0 w S fin rs r g1 n1 c1 x1 g2 n2 c2 x2 v3 x3) : B ≤ w.heap.size := Nat.le_of_lt (Nat.lt_of_le_of_lt (h.o1.lt g1 rfl).1 (h.o1.lt g1 rfl).2)
theorem Bd.g12 (h : Bd B w0 w S fin rs r g1 n1 c1 x1 g2 n2 c2 x2 v3 x3) : g1 ≠ g2 := by
  rcases own_apart h.o1 h.o2 (by decide) with h1 | h1
  · cases h1
  · exact fun e => h1 (by rw [e]; rfl)
theorem Bd.g13 (h : Bd B w0 w S fin rs r g1 n1 c1 x1 g2 n2 c2 x2 v3 x3) : v3.ownBlock ≠ some g1 := by
  rcases own_apart h.o1 h.o3 (by decide) with h1 | h1
  · cases h1
  · exact fun e => h1 e.symm
theorem Bd.g23 (h : Bd B w0 w S fin rs r g1 n1 c1 x1 g2 n2 c2 x2 v3 x3) : v3.ownBlock ≠ some g2 := by
  rcases own_apart h.o2 h.o3 (by decide) with h1 | h1
  · cases h1
  · exact fun e => h1 e.symm
/-- In a world where all blocks are as they were; S may have grown by new ones. -/
theorem Bd.step (h : Bd B w0 w S fin rs r g1 n1 c1 x1 g2 n2 c2 x2 v3 x3) (hb : Below w.heap.size w w') (hS : ∀ k, S k → S' k) (hn : ∀ k, S' k → S k ∨ w.heap.size ≤ k) (hz : ∀ k, S' k → k < w'.heap.size) : Bd B w0 w' S' fin rs r g1 n1 c1 x1 g2 n2 c2 x2 v3 x3 := by
  have ha : Agree S w w' := Agree.below h.sz hb
  have hno : ∀ g, g < w.heap.size → ¬ S g → ¬ S' g := fun g hg hs hs' => by rcases hn g hs' with h1 | h1; exact hs h1; omega
  refine ⟨own_agree h.o1 (fun g hg => hb.block g (own_lt h.o1 hg)), own_agree h.o2 (fun g hg => hb.block g (own_lt h.o2 hg)), own_agree h.o3 (fun g hg => hb.block g (own_lt h.o3 hg)), h.n1e, h.n2e, h.l1, h.l2, ?_, ?_, ?_, hno g1 (own_lt h.o1 rfl) h.s1, hno g2 (own_lt h.o2 rfl) h.s2, fun g hg => hno g (own_lt h.o3 hg) (h.s3 g hg), hz, h.bel.trans (hb.mono h.size)⟩
  · intro i a hi; obtain ⟨u, hu, hx⟩ := h.f1 i a hi; exact ⟨u, hu, (hx.agree ha).mono hS⟩
  · intro i a hi; obtain ⟨u, hu, hx⟩ := h.f2 i a hi; exact ⟨u, hu, (hx.agree ha).mono hS⟩
  · intro i a hi; obtain ⟨u, hu, hx⟩ := h.f3 i a hi; exact ⟨u, hu, (hx.agree ha).mono hS⟩
theorem Bd.drew (h : Bd B w0 w S fin rs r g1 n1 c1 x1 g2 n2 c2 x2 v3 x3) : Bd B w0 w.drew S fin rs r g1 n1 c1 x1 g2 n2 c2 x2 v3 x3 :=
  h.step (Below.refl _ _).drew (fun _ h => h) (fun _ h => .inl h) h.sz

/-- What add leaves. -/
structure Added (B : Nat) (w w' : World) (g2 n2 c2 : Nat) (x2 : List Value) (v3 : Value) (n3 : Nat) (x3 : List Value) (u v3' : Value) : Prop where
  run : w'.ownsRow B 82 1 v3' (n3 + 1) (x3 ++ [u])
  alt : w'.ownsRow B 96 1 (.slice (some ⟨g2, 0, none⟩) n2 c2) n2 (x2.set (n2 - 1) v3')
  own : v3'.ownBlock = v3.ownBlock ∨ ∃ k, v3'.ownBlock = some k ∧ w.heap.size ≤ k
  keep : ∀ k, k < w.heap.size → k ≠ g2 → v3.ownBlock ≠ some k → w'.heap[k]? = w.heap[k]?
  bel : Below B w w'
theorem Bd.add {u v3' : Value} {x : Int} (h : Bd B w0 w S fin rs r g1 n1 c1 x1 g2 n2 c2 x2 v3 x3) (hu : ItW S w u x) (hA : Added B w w' g2 n2 c2 x2 v3 r.length x3 u v3') : Bd B w0 w' S fin rs (r ++ [x]) g1 n1 c1 x1 g2 n2 c2 (x2.set (n2 - 1) v3') v3' (x3 ++ [u]) := by
  have hsz := hA.bel.size
  have ha : Agree S w w' := fun k hk => hA.keep k (h.sz k hk) (fun e => h.s2 (e ▸ hk)) (fun e => h.s3 k e hk)
  have hl2 : x2.length = n2 := by have := h.o2.1; omega
  have hl3 : x3.length = r.length := by have := h.o3.1; omega
  have hx2 : n2 - 1 = rs.length := by have := h.n2e; omega
  refine ⟨own_agree h.o1 (fun g hg => ?_), hA.alt, by rw [List.length_append]; exact hA.run, h.n1e, h.n2e, h.l1, ?_, ?_, ?_, ?_, h.s1, h.s2, ?_, fun k hk => ?_, h.bel.trans hA.bel⟩
  · obtain rfl : g1 = g := Option.some.inj hg
    exact hA.keep g1 (own_lt h.o1 rfl) h.g12 h.g13
  · rw [hx2, List.getElem?_set_self (show rs.length < x2.length by have := h.n2e; omega)]
  · intro i a hi; obtain ⟨u, hu, hx⟩ := h.f1 i a hi; exact ⟨u, hu, hx.agree ha⟩
  · intro i a hi
    have hlt := (List.getElem?_eq_some_iff.1 hi).1
    obtain ⟨u, hu, hx⟩ := h.f2 i a hi
    exact ⟨u, by rw [List.getElem?_set_ne (by omega)]; exact hu, hx.agree ha⟩
  · intro i y hi
    by_cases hlt : i < r.length
    · rw [List.getElem?_append_left hlt] at hi
      obtain ⟨u', hu', hx⟩ := h.f3 i y hi
      exact ⟨u', by rw [List.getElem?_append_left (show i < x3.length by omega)]; exact hu', hx.agree ha⟩
    · have hlt2 := (List.getElem?_eq_some_iff.1 hi).1
      simp at hlt2
      obtain rfl : i = r.length := by omega
      simp at hi
      subst hi
      refine ⟨u, ?_, hu.agree ha⟩
      rw [List.getElem?_append_right (show x3.length ≤ r.length by omega), hl3]; simp
  · intro g hg hs
    rcases hA.own with h1 | ⟨k, h1, h2⟩
    · exact h.s3 g (h1 ▸ hg) hs
    · rw [h1] at hg
      have := h.sz g hs
      have : k = g := Option.some.inj hg
      omega
  · have := h.sz k hk; omega
end

set_option maxHeartbeats 2000000 in
set_option maxRecDepth 100000 in
theorem f51w (B g2 n2 c2 n3 : Nat) (v3 : Value) (x2 x3 : List Value) (fid : FuncId) (ts us : Array Value) (w : World) (o2 : w.ownsRow B 96 1 (.slice (some ⟨g2, 0, none⟩) n2 c2) n2 x2) (o3 : w.ownsRow B 82 1 v3 n3 x3) (hp : 1 ≤ n2) (hl : x2[n2 - 1]? = some v3) (hB : B ≤ w.heap.size) (hn2 : n2 ≤ 1000) (hn3 : n3 ≤ 1000) :
    Calls Try.prog 51 #[.slice (some ⟨g2, 0, none⟩) n2 c2, .func (.func fid) ts us] w fun e w' => e = .returned (.tuple #[]) ∧ ∃ v3', Added B w w' g2 n2 c2 x2 v3 n3 x3 (.func (.func fid) ts us) v3' := by
  obtain ⟨i0, i1, i2, i3, i4⟩ := info_parts info86
  obtain ⟨k, rfl⟩ : ∃ k, n2 = k + 1 := ⟨n2 - 1, by omega⟩
  rw [Nat.add_sub_cancel] at hl
  obtain ⟨a3, c3, rfl⟩ := own_form o3
  have HL := hid hl
  have HO := hid o2
  have HRn := hid o3
  have hl2 : x2.length = k + 1 := by have := o2.1; omega
  have c0 : w.cell? ⟨g2, k, none⟩ = some (.slice a3 n3 c3) := (HO.out.cellAt k (by omega)).trans HL.out
  have HL2 := hid hl2
  clear o2 o3 hl hl2
  go_enter Try.func51, Try.ntmps51
  go_wp2_with (at_builtin; refine wpList_append_own_at _ rfl (.tmp 13) (.tmp 15) 96 rfl B 82 i0 .nilFunc 1 8 Try.underlying96 i1 i2 i3 i4 rfl (by decide) _ _ _ rfl (HRn.out.alloc _) ⟨w.heap.size, 0, none⟩ 1 1 [.func (.func fid) ts us] rfl rfl ?d1 ?d2 ?d3 ?d4 ?d5 ?_)
  case d1 => exact one_row _ _ _
  case d2 => intro u hu; simp at hu; subst hu; rfl
  case d3 => unfold maxLen; omega
  case d4 => omega
  case d5 => simp; omega
  intro v3 w3 hown3 hgr3 _ hat
  obtain ⟨a4, c4, rfl⟩ := own_form hown3
  have HR3 := hid hown3
  have HO3 := hid ((HO.out.alloc (.cells #[.func (.func fid) ts us] 82)).kept hgr3 (own_apart HO.out HRn.out (by decide)))
  have HX3 := hid (((Below.refl B w).alloc hB (.cells #[.func (.func fid) ts us] 82)).grown hgr3 (by simp; omega) (fun j hj => (HRn.out.lt j hj).1))
  have HK3 : Hid (∀ k, k < w.heap.size → (Value.slice a3 n3 c3).ownBlock ≠ some k → w3.heap[k]? = w.heap[k]?) := fun k hk hne => (hgr3.block k (by simp; omega) (fun e => hne e.symm)).trans (Below.heap_alloc w _ k hk)
  have HAt : Hid ((Value.slice a4 (n3 + 1) c4).ownBlock = (Value.slice a3 n3 c3).ownBlock ∨ ∃ k, (Value.slice a4 (n3 + 1) c4).ownBlock = some k ∧ w.heap.size ≤ k) := by
    rcases hat with h | h
    · exact .inl h
    · exact .inr ⟨_, h, by simp⟩
  have fz := HO3.out.frozenAt k
  have c3' : w3.cell? ⟨g2, k, none⟩ = some (.slice a3 n3 c3) := (HO3.out.cellAt k (by omega)).trans HL.out
  have HS := hid (HO3.out.stored k (.slice a4 (n3 + 1) c4))
  have HBg := hid (HO.out.lt g2 rfl).1
  clear hown3 hgr3 hat
  go_wp2
  refine bodyPost_end (v := .tuple #[]) (by simp [results, Try.results51]) rfl ⟨rfl, .slice a4 (n3 + 1) c4, ⟨HR3.out.kept HS.out.2 (own_apart HR3.out HO3.out (by decide)), HS.out.1, HAt.out, fun j hj h1 h2 => ?_, HX3.out.setCell HBg.out _⟩⟩
  exact (HS.out.2.block j (Nat.lt_of_lt_of_le hj HX3.out.size) (fun e => h1 (Option.some.inj e))).trans (HK3.out j hj h2)
end Go.Proofs.Ytpobpanmkdjkjaa.Pat
