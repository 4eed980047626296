/- A pattern as the program reads it: rows of rows of rows of tests, and what each step makes of them. -/
import Derived.Test.YthcogkoleiejgaaGreatRPB
import Derived.Test.YthcogkoleiejgaaGreatRPaj
import Derived.Maps.AppendAt
namespace Go.Proofs.YthcogkoleiejgaaGreat.Pat
open Go.RowKit

theorem f94w (w : World) : Calls Tryz.prog 94 #[] w fun e w' => e = .returned (.func (.func 98) #[] #[]) ∧ w' = w := by
  go_enter Tryz.func94, Tryz.ntmps94
  go_wp2
  go_ret
  exact ⟨rfl, rfl⟩
theorem f96w (z : Int) (w : World) : Calls Tryz.prog 96 #[.int .u8 z] w fun e w' => e = .returned (.func (.func 100) #[] #[.pointer (some ⟨w.heap.size, 0, none⟩)]) ∧ w' = w.alloc (.cells #[.int .u8 z] 5) := by
  go_enter Tryz.func96, Tryz.ntmps96
  go_wp2
  go_ret
  exact ⟨rfl, rfl⟩
theorem own_zero {w : World} {B e size n : Nat} {v : Value} {xs : List Value} (h : w.ownsRow B e size v n xs) : w.ownsRow 0 e size v n xs := by
  refine ⟨h.1, ?_⟩
  rcases h.2 with h1 | ⟨g, cap, cur, h1, _, h3⟩
  · exact .inl h1
  · exact .inr ⟨g, cap, cur, h1, Nat.zero_le _, h3⟩
theorem own_lt {w : World} {B e size n g : Nat} {v : Value} {xs : List Value} (h : w.ownsRow B e size v n xs) (hg : v.ownBlock = some g) : g < w.heap.size := (h.lt g hg).2

/-- The rows while a pattern is read: the alternatives that are done, the last one's runs that are done, its last run. -/
structure Bd (B : Nat) (w0 w : World) (S : Blk) (fin : List (List (List Int))) (rs : List (List Int)) (r : List Int) (g1 n1 c1 : Nat) (x1 : List Value) (g2 n2 c2 : Nat) (x2 : List Value) (v3 : Value) (x3 : List Value) : Prop where
  o1 : w.ownsRow B 123 1 (.slice (some ⟨g1, 0, none⟩) n1 c1) n1 x1
  o2 : w.ownsRow B 131 1 (.slice (some ⟨g2, 0, none⟩) n2 c2) n2 x2
  o3 : w.ownsRow B 125 1 v3 r.length x3
  n1e : n1 = fin.length + 1
  n2e : n2 = rs.length + 1
  l1 : x1[fin.length]? = some (.slice (some ⟨g2, 0, none⟩) n2 c2)
  l2 : x2[rs.length]? = some v3
  f1 : ∀ (i : Nat) (a : List (List Int)), fin[i]? = some a → ∃ u, x1[i]? = some u ∧ AltW S w u a
  f2 : ∀ (i : Nat) (q : List Int), rs[i]? = some q → ∃ u, x2[i]? = some u ∧ RunW S w u q
  f3 : ∀ (i : Nat) (x : Int), r[i]? = some x → ∃ u, x3[i]? = some u ∧ ItW S w u x
  s1 : ¬ S g1
  s2 : ¬ S g2
  s3 : ∀ g, v3.ownBlock = some g → ¬ S g
  sz : ∀ k, S k → k < w.heap.size
  bel : Below B w0 w

section
variable {B : Nat} {w0 w w' : World} {S S' : Blk} {fin : List (List (List Int))} {rs : List (List Int)} {r : List Int} {g1 n1 c1 : Nat} {x1 : List Value} {g2 n2 c2 : Nat} {x2 : List Value} {v3 : Value} {x3 : List Value}
theorem Bd.size (h : Bd B w0 w S fin rs r g1 n1 c1 x1 g2 n2 c2 x2 v3 x3) : B ≤ w.heap.size := Nat.le_of_lt (Nat.lt_of_le_of_lt (h.o1.lt g1 rfl).1 (h.o1.lt g1 rfl).2)
theorem Bd.g12 (h : Bd B w0 w S fin rs r g1 n1 c1 x1 g2 n2 c2 x2 v3 x3) : g1 ≠ g2 := by
  rcases own_apart h.o1 h.o2 (by decide) with h1 | h1
  · cases h1
  · exact fun e => h1 (by rw [e]; rfl)
theorem Bd.g13 (h : Bd B w0 w S fin rs r g1 n1 c1 x1 g2 n2 c2 x2 v3 x3) : v3.ownBlock ≠ some g1 := by
  rcases own_apart h.o1 h.o3 (by decide) with h1 | h1
  · cases h1
  · exact fun e => h1 e.symm
theorem Bd.g23 (h : Bd B w0 w S fin rs r g1 n1 c1 x1 g2 n2 c2 x2 v3 x3) : v3.ownBlock ≠ some g2 := by
  rcases own_apart h.o2 h.o3 (by decide) with h1 | h1
  · cases h1
  · exact fun e => h1 e.symm
/-- In a world where all blocks are as they were; S may have grown by new ones. -/
theorem Bd.step (h : Bd B w0 w S fin rs r g1 n1 c1 x1 g2 n2 c2 x2 v3 x3) (hb : Below w.heap.size w w') (hS : ∀ k, S k → S' k) (hn : ∀ k, S' k → S k ∨ w.heap.size ≤ k) (hz : ∀ k, S' k → k < w'.heap.size) : Bd B w0 w' S' fin rs r g1 n1 c1 x1 g2 n2 c2 x2 v3 x3 := by
  have ha : Agree S w w' := Agree.below h.sz hb
  have hno : ∀ g, g < w.heap.size → ¬ S g → ¬ S' g := fun g hg hs hs' => by rcases hn g hs' with h1 | h1; exact hs h1; omega
  refine ⟨own_agree h.o1 (fun g hg => hb.block g (own_lt h.o1 hg)), own_agree h.o2 (fun g hg => hb.block g (own_lt h.o2 hg)), own_agree h.o3 (fun g hg => hb.block g (own_lt h.o3 hg)), h.n1e, h.n2e, h.l1, h.l2, ?_, ?_, ?_, hno g1 (own_lt h.o1 rfl) h.s1, hno g2 (own_lt h.o2 rfl) h.s2, fun g hg => hno g (own_lt h.o3 hg) (h.s3 g hg), hz, h.bel.trans (hb.mono h.size)⟩
  · intro i a hi; obtain ⟨u, hu, hx⟩ := h.f1 i a hi; exact ⟨u, hu, (hx.agree ha).mono hS⟩
  · intro i a hi; obtain ⟨u, hu, hx⟩ := h.f2 i a hi; exact ⟨u, hu, (hx.agree ha).mono hS⟩
  · intro i a hi; obtain ⟨u, hu, hx⟩ := h.f3 i a hi; exact ⟨u, hu, (hx.agree ha).mono hS⟩
theorem Bd.drew (h : Bd B w0 w S fin rs r g1 n1 c1 x1 g2 n2 c2 x2 v3 x3) : Bd B w0 w.drew S fin rs r g1 n1 c1 x1 g2 n2 c2 x2 v3 x3 :=
  h.step (Below.refl _ _).drew (fun _ h => h) (fun _ h => .inl h) h.sz

/-- What add leaves. -/
structure Added (B : Nat) (w w' : World) (g2 n2 c2 : Nat) (x2 : List Value) (v3 : Value) (n3 : Nat) (x3 : List Value) (u v3' : Value) : Prop where
  run : w'.ownsRow B 125 1 v3' (n3 + 1) (x3 ++ [u])
  alt : w'.ownsRow B 131 1 (.slice (some ⟨g2, 0, none⟩) n2 c2) n2 (x2.set (n2 - 1) v3')
  own : v3'.ownBlock = v3.ownBlock ∨ ∃ k, v3'.ownBlock = some k ∧ w.heap.size ≤ k
  keep : ∀ k, k < w.heap.size → k ≠ g2 → v3.ownBlock ≠ some k → w'.heap[k]? = w.heap[k]?
  bel : Below B w w'
theorem Bd.add {u v3' : Value} {x : Int} (h : Bd B w0 w S fin rs r g1 n1 c1 x1 g2 n2 c2 x2 v3 x3) (hu : ItW S w u x) (hA : Added B w w' g2 n2 c2 x2 v3 r.length x3 u v3') : Bd B w0 w' S fin rs (r ++ [x]) g1 n1 c1 x1 g2 n2 c2 (x2.set (n2 - 1) v3') v3' (x3 ++ [u]) := by
  have hsz := hA.bel.size
  have ha : Agree S w w' := fun k hk => hA.keep k (h.sz k hk) (fun e => h.s2 (e ▸ hk)) (fun e => h.s3 k e hk)
  have hl2 : x2.length = n2 := by have := h.o2.1; omega
  have hl3 : x3.length = r.length := by have := h.o3.1; omega
  have hx2 : n2 - 1 = rs.length := by have := h.n2e; omega
  refine ⟨own_agree h.o1 (fun g hg => ?_), hA.alt, by rw [List.length_append]; exact hA.run, h.n1e, h.n2e, h.l1, ?_, ?_, ?_, ?_, h.s1, h.s2, ?_, fun k hk => ?_, h.bel.trans hA.bel⟩
  · obtain rfl : g1 = g := Option.some.inj hg
    exact hA.keep g1 (own_lt h.o1 rfl) h.g12 h.g13
  · rw [hx2, List.getElem?_set_self (show rs.length < x2.length by have := h.n2e; omega)]
  · intro i a hi; obtain ⟨u, hu, hx⟩ := h.f1 i a hi; exact ⟨u, hu, hx.agree ha⟩
  · intro i a hi
    have hlt := (List.getElem?_eq_some_iff.1 hi).1
    obtain ⟨u, hu, hx⟩ := h.f2 i a hi
    exact ⟨u, by rw [List.getElem?_set_ne (by omega)]; exact hu, hx.agree ha⟩
  · intro i y hi
    by_cases hlt : i < r.length
    · rw [List.getElem?_append_left hlt] at hi
      obtain ⟨u', hu', hx⟩ := h.f3 i y hi
      exact ⟨u', by rw [List.getElem?_append_left (show i < x3.length by omega)]; exact hu', hx.agree ha⟩
    · have hlt2 := (List.getElem?_eq_some_iff.1 hi).1
      simp at hlt2
      obtain rfl : i = r.length := by omega
      simp at hi
      subst hi
      refine ⟨u, ?_, hu.agree ha⟩
      rw [List.getElem?_append_right (show x3.length ≤ r.length by omega), hl3]; simp
  · intro g hg hs
    rcases hA.own with h1 | ⟨k, h1, h2⟩
    · exact h.s3 g (h1 ▸ hg) hs
    · rw [h1] at hg
      have := h.sz g hs
      have : k = g := Option.some.inj hg
      omega
  · have := h.sz k hk; omega
end

set_option maxHeartbeats 2000000 in
set_option maxRecDepth 100000 in
theorem f93w (B g2 n2 c2 n3 : Nat) (v3 : Value) (x2 x3 : List Value) (fid : FuncId) (ts us : Array Value) (w : World) (o2 : w.ownsRow B 131 1 (.slice (some ⟨g2, 0, none⟩) n2 c2) n2 x2) (o3 : w.ownsRow B 125 1 v3 n3 x3) (hp : 1 ≤ n2) (hl : x2[n2 - 1]? = some v3) (hB : B ≤ w.heap.size) (hn2 : n2 ≤ 1000) (hn3 : n3 ≤ 1000) :
    Calls Tryz.prog 93 #[.slice (some ⟨g2, 0, none⟩) n2 c2, .func (.func fid) ts us] w fun e w' => e = .returned (.tuple #[]) ∧ ∃ v3', Added B w w' g2 n2 c2 x2 v3 n3 x3 (.func (.func fid) ts us) v3' := by
  obtain ⟨i0, i1, i2, i3, i4⟩ := info_parts info86
  obtain ⟨k, rfl⟩ : ∃ k, n2 = k + 1 := ⟨n2 - 1, by omega⟩
  rw [Nat.add_sub_cancel] at hl
  obtain ⟨a3, c3, rfl⟩ := own_form o3
  have HL := hid hl
  have HO := hid o2
  have HRn := hid o3
  have hl2 : x2.length = k + 1 := by have := o2.1; omega
  have c0 : w.cell? ⟨g2, k, none⟩ = some (.slice a3 n3 c3) := (HO.out.cellAt k (by omega)).trans HL.out
  have HL2 := hid hl2
  clear o2 o3 hl hl2
  go_enter Tryz.func93, Tryz.ntmps93
  go_wp2_with (at_builtin; refine wpList_append_own_at _ rfl (.tmp 13) (.tmp 15) 131 rfl B 125 i0 .nilFunc 1 8 Tryz.underlying131 i1 i2 i3 i4 rfl (by decide) _ _ _ rfl (HRn.out.alloc _) ⟨w.heap.size, 0, none⟩ 1 1 [.func (.func fid) ts us] rfl rfl ?d1 ?d2 ?d3 ?d4 ?d5 ?_)
  case d1 => exact one_row _ _ _
  case d2 => intro u hu; simp at hu; subst hu; rfl
  case d3 => unfold maxLen; omega
  case d4 => omega
  case d5 => simp; omega
  intro v3 w3 hown3 hgr3 _ hat
  obtain ⟨a4, c4, rfl⟩ := own_form hown3
  have HR3 := hid hown3
  have HO3 := hid ((HO.out.alloc (.cells #[.func (.func fid) ts us] 125)).kept hgr3 (own_apart HO.out HRn.out (by decide)))
  have HX3 := hid (((Below.refl B w).alloc hB (.cells #[.func (.func fid) ts us] 125)).grown hgr3 (by simp; omega) (fun j hj => (HRn.out.lt j hj).1))
  have HK3 : Hid (∀ k, k < w.heap.size → (Value.slice a3 n3 c3).ownBlock ≠ some k → w3.heap[k]? = w.heap[k]?) := fun k hk hne => (hgr3.block k (by simp; omega) (fun e => hne e.symm)).trans (Below.heap_alloc w _ k hk)
  have HAt : Hid ((Value.slice a4 (n3 + 1) c4).ownBlock = (Value.slice a3 n3 c3).ownBlock ∨ ∃ k, (Value.slice a4 (n3 + 1) c4).ownBlock = some k ∧ w.heap.size ≤ k) := by
    rcases hat with h | h
    · exact .inl h
    · exact .inr ⟨_, h, by simp⟩
  have fz := HO3.out.frozenAt k
  have c3' : w3.cell? ⟨g2, k, none⟩ = some (.slice a3 n3 c3) := (HO3.out.cellAt k (by omega)).trans HL.out
  have HS := hid (HO3.out.stored k (.slice a4 (n3 + 1) c4))
  have HBg := hid (HO.out.lt g2 rfl).1
  clear hown3 hgr3 hat
  go_wp2
  refine bodyPost_end (v := .tuple #[]) (by simp [results, Tryz.results93]) rfl ⟨rfl, .slice a4 (n3 + 1) c4, ⟨HR3.out.kept HS.out.2 (own_apart HR3.out HO3.out (by decide)), HS.out.1, HAt.out, fun j hj h1 h2 => ?_, HX3.out.setCell HBg.out _⟩⟩
  exact (HS.out.2.block j (Nat.lt_of_lt_of_le hj HX3.out.size) (fun e => h1 (Option.some.inj e))).trans (HK3.out j hj h2)
end Go.Proofs.YthcogkoleiejgaaGreat.Pat
/- A pattern as the program reads it: a run ends, an alternative ends; the whole state. -/
namespace Go.Proofs.YthcogkoleiejgaaGreat.Pat
open Go.RowKit

section
variable {B : Nat} {w0 w w3 : World} {S : Blk} {fin : List (List (List Int))} {rs : List (List Int)} {r : List Int} {g1 n1 c1 : Nat} {x1 : List Value} {g2 n2 c2 : Nat} {x2 : List Value} {v3 : Value} {x3 : List Value} {g4 c4 : Nat}
theorem Bd.star {o : Obj} (h : Bd B w0 w S fin rs r g1 n1 c1 x1 g2 n2 c2 x2 v3 x3) (hown : w3.ownsRow B 131 1 (.slice (some ⟨g4, 0, none⟩) (n2 + 1) c4) (n2 + 1) (x2 ++ [.slice none 0 0])) (hgr : (w.alloc o).grownBy w3 (some g2)) (hat : g4 = g2 ∨ w.heap.size ≤ g4) :
    Bd B w0 (w3.setCell ⟨g1, n1 - 1, none⟩ (.slice (some ⟨g4, 0, none⟩) (n2 + 1) c4)) (fun k => S k ∨ v3.ownBlock = some k) fin (rs ++ [r]) [] g1 n1 c1 (x1.set (n1 - 1) (.slice (some ⟨g4, 0, none⟩) (n2 + 1) c4)) g4 (n2 + 1) c4 (x2 ++ [.slice none 0 0]) (.slice none 0 0) [] := by
  have hl1 : x1.length = n1 := by have := h.o1.1; omega
  have hl2 : x2.length = n2 := by have := h.o2.1; omega
  have hn1 := h.n1e
  have hn2 := h.n2e
  have hx1 : n1 - 1 = fin.length := by omega
  have O1 : w3.ownsRow B 123 1 (.slice (some ⟨g1, 0, none⟩) n1 c1) n1 x1 := (h.o1.alloc o).kept hgr (own_apart h.o1 h.o2 (by decide))
  have hst := O1.stored (n1 - 1) (.slice (some ⟨g4, 0, none⟩) (n2 + 1) c4)
  have hsz3 : w.heap.size ≤ w3.heap.size := by have := hgr.size; simp at this; omega
  have keep : ∀ k, k < w.heap.size → k ≠ g2 → k ≠ g1 → (w3.setCell ⟨g1, n1 - 1, none⟩ (.slice (some ⟨g4, 0, none⟩) (n2 + 1) c4)).heap[k]? = w.heap[k]? := fun k hk h1 h2 =>
    (hst.2.block k (by omega) (fun e => h2 (Option.some.inj e))).trans ((hgr.block k (by simp; omega) (fun e => h1 (Option.some.inj e))).trans (Below.heap_alloc w o k hk))
  have ha : Agree S w (w3.setCell ⟨g1, n1 - 1, none⟩ (.slice (some ⟨g4, 0, none⟩) (n2 + 1) c4)) := fun k hk => keep k (h.sz k hk) (fun e => h.s2 (e ▸ hk)) (fun e => h.s1 (e ▸ hk))
  have h3 : ∀ g, v3.ownBlock = some g → (w3.setCell ⟨g1, n1 - 1, none⟩ (.slice (some ⟨g4, 0, none⟩) (n2 + 1) c4)).heap[g]? = w.heap[g]? := fun g hg => keep g (own_lt h.o3 hg) (fun e => h.g23 (e ▸ hg)) (fun e => h.g13 (e ▸ hg))
  have hsz : w3.heap.size ≤ (w3.setCell ⟨g1, n1 - 1, none⟩ (.slice (some ⟨g4, 0, none⟩) (n2 + 1) c4)).heap.size := hst.2.size
  refine ⟨hst.1, hown.kept hst.2 (own_apart hown O1 (by decide)), World.ownsRow_nil _ _ _ _, h.n1e, by simp; omega, ?_, ?_, ?_, ?_, ?_, ?_, ?_, ?_, ?_, ?_⟩
  · rw [← hx1, List.getElem?_set_self (show n1 - 1 < x1.length by omega)]
  · rw [List.getElem?_append_right (show x2.length ≤ (rs ++ [r]).length by simp; omega)]
    have : (rs ++ [r]).length - x2.length = 0 := by simp; omega
    rw [this]; rfl
  · intro i a hi
    have hlt := (List.getElem?_eq_some_iff.1 hi).1
    obtain ⟨u, hu, hx⟩ := h.f1 i a hi
    exact ⟨u, by rw [List.getElem?_set_ne (show n1 - 1 ≠ i by omega)]; exact hu, (hx.agree ha).mono (fun k hk => .inl hk)⟩
  · intro i q hi
    by_cases hlt : i < rs.length
    · rw [List.getElem?_append_left hlt] at hi
      obtain ⟨u, hu, hx⟩ := h.f2 i q hi
      exact ⟨u, by rw [List.getElem?_append_left (show i < x2.length by omega)]; exact hu, (hx.agree ha).mono (fun k hk => .inl hk)⟩
    · have hlt2 := (List.getElem?_eq_some_iff.1 hi).1
      simp at hlt2
      obtain rfl : i = rs.length := by omega
      simp at hi
      subst hi
      refine ⟨v3, by rw [List.getElem?_append_left (show rs.length < x2.length by omega)]; exact h.l2, x3, own_zero (own_agree h.o3 h3), fun g hg => .inr hg, fun i x hi => ?_⟩
      obtain ⟨u, hu, hx⟩ := h.f3 i x hi
      exact ⟨u, hu, (hx.agree ha).mono (fun k hk => .inl hk)⟩
  · intro i x hi; simp at hi
  · rintro (hs | hs)
    · exact h.s1 hs
    · exact h.g13 hs
  · rintro (hs | hs)
    · rcases hat with rfl | h4
      · exact h.s2 hs
      · have := h.sz _ hs; omega
    · rcases hat with rfl | h4
      · exact h.g23 hs
      · have := own_lt h.o3 hs; omega
  · intro g hg; cases hg
  · rintro k (hk | hk)
    · have := h.sz k hk; omega
    · have := own_lt h.o3 hk; omega
  · exact ((h.bel.alloc h.size o).grown hgr (by have := h.size; simp; omega) (fun j hj => (h.o2.lt j hj).1)).setCell (h.o1.lt g1 rfl).1 _

theorem Bd.bar (h : Bd B w0 w S fin rs r g1 n1 c1 x1 g2 n2 c2 x2 v3 x3) (hown : w3.ownsRow B 123 1 (.slice (some ⟨g4, 0, none⟩) (n1 + 1) c4) (n1 + 1) (x1 ++ [.slice (some ⟨w.heap.size, 0, none⟩) 1 1])) (hgr : ((w.alloc (.cells #[.slice none 0 0] 131)).alloc (.cells #[.slice (some ⟨w.heap.size, 0, none⟩) 1 1] 123)).grownBy w3 (some g1)) (hat : g4 = g1 ∨ w.heap.size + 2 ≤ g4) :
    Bd B w0 w3 (fun k => S k ∨ k = g2 ∨ v3.ownBlock = some k) (fin ++ [rs ++ [r]]) [] [] g4 (n1 + 1) c4 (x1 ++ [.slice (some ⟨w.heap.size, 0, none⟩) 1 1]) w.heap.size 1 1 [.slice none 0 0] (.slice none 0 0) [] := by
  have hl1 : x1.length = n1 := by have := h.o1.1; omega
  have hn1 := h.n1e
  have hn2 := h.n2e
  have hB := h.size
  have hsz3 : w.heap.size + 2 ≤ w3.heap.size := by have := hgr.size; simp at this; omega
  have N1 := (own_new w (.slice none 0 0) 131 B hB).alloc (.cells #[.slice (some ⟨w.heap.size, 0, none⟩) 1 1] 123)
  have O1' := (h.o1.alloc (.cells #[.slice none 0 0] 131)).alloc (.cells #[.slice (some ⟨w.heap.size, 0, none⟩) 1 1] 123)
  have keep : ∀ k, k < w.heap.size → k ≠ g1 → w3.heap[k]? = w.heap[k]? := fun k hk h1 =>
    (hgr.block k (by simp; omega) (fun e => h1 (Option.some.inj e))).trans ((Below.heap_alloc _ _ k (by simp; omega)).trans (Below.heap_alloc w _ k hk))
  have ha : Agree S w w3 := fun k hk => keep k (h.sz k hk) (fun e => h.s1 (e ▸ hk))
  have hlt1 : g1 < w.heap.size := own_lt h.o1 rfl
  have hlt2 : g2 < w.heap.size := own_lt h.o2 rfl
  refine ⟨hown, N1.kept hgr (own_apart N1 O1' (by decide)), World.ownsRow_nil _ _ _ _, by simp; omega, rfl, ?_, rfl, ?_, ?_, ?_, ?_, ?_, ?_, ?_, ?_⟩
  · rw [List.getElem?_append_right (show x1.length ≤ (fin ++ [rs ++ [r]]).length by simp; omega)]
    have : (fin ++ [rs ++ [r]]).length - x1.length = 0 := by simp; omega
    rw [this]; rfl
  · intro i a hi
    by_cases hlt : i < fin.length
    · rw [List.getElem?_append_left hlt] at hi
      obtain ⟨u, hu, hx⟩ := h.f1 i a hi
      exact ⟨u, by rw [List.getElem?_append_left (show i < x1.length by omega)]; exact hu, (hx.agree ha).mono (fun k hk => .inl hk)⟩
    · have hlt2' := (List.getElem?_eq_some_iff.1 hi).1
      simp at hlt2'
      obtain rfl : i = fin.length := by omega
      simp at hi
      subst hi
      have e1 : (rs ++ [r]).length = n2 := by simp; omega
      refine ⟨.slice (some ⟨g2, 0, none⟩) n2 c2, by rw [List.getElem?_append_left (show fin.length < x1.length by omega)]; exact h.l1, x2, by rw [e1]; exact own_zero (own_agree h.o2 (fun g hg => keep g (own_lt h.o2 hg) (fun e => h.g12 (e ▸ (Option.some.inj hg).symm)))), fun g hg => .inr (.inl (Option.some.inj hg).symm), fun i q hi => ?_⟩
      by_cases hlt : i < rs.length
      · rw [List.getElem?_append_left hlt] at hi
        obtain ⟨u, hu, hx⟩ := h.f2 i q hi
        exact ⟨u, hu, (hx.agree ha).mono (fun k hk => .inl hk)⟩
      · have hlt3 := (List.getElem?_eq_some_iff.1 hi).1
        simp at hlt3
        obtain rfl : i = rs.length := by omega
        simp at hi
        subst hi
        refine ⟨v3, h.l2, x3, own_zero (own_agree h.o3 (fun g hg => keep g (own_lt h.o3 hg) (fun e => h.g13 (e ▸ hg)))), fun g hg => .inr (.inr hg), fun i x hi => ?_⟩
        obtain ⟨u, hu, hx⟩ := h.f3 i x hi
        exact ⟨u, hu, (hx.agree ha).mono (fun k hk => .inl hk)⟩
  · intro i q hi; simp at hi
  · intro i q hi; simp at hi
  · rintro (hs | hs | hs)
    · rcases hat with rfl | h4
      · exact h.s1 hs
      · have := h.sz _ hs; omega
    · rcases hat with rfl | h4
      · exact h.g12 hs
      · omega
    · rcases hat with rfl | h4
      · exact h.g13 hs
      · have := own_lt h.o3 hs; omega
  · rintro (hs | hs | hs)
    · have := h.sz _ hs; omega
    · omega
    · have := own_lt h.o3 hs; omega
  · intro g hg; cases hg
  · rintro k (hk | hk | hk)
    · have := h.sz k hk; omega
    · omega
    · have := own_lt h.o3 hk; omega
  · exact ((h.bel.alloc hB (.cells #[.slice none 0 0] 131)).alloc (by simp; omega) (.cells #[.slice (some ⟨w.heap.size, 0, none⟩) 1 1] 123)).grown hgr (by simp; omega) (fun j hj => (h.o1.lt j hj).1)
end
theorem Bd.start (w : World) : Bd w.heap.size w ((w.alloc (.cells #[.slice none 0 0] 131)).alloc (.cells #[.slice (some ⟨w.heap.size, 0, none⟩) 1 1] 123)) (fun _ => False) [] [] [] (w.heap.size + 1) 1 1 [.slice (some ⟨w.heap.size, 0, none⟩) 1 1] w.heap.size 1 1 [.slice none 0 0] (.slice none 0 0) [] := by
  have h := own_new (w.alloc (.cells #[.slice none 0 0] 131)) (.slice (some ⟨w.heap.size, 0, none⟩) 1 1) 123 w.heap.size (by simp)
  simp only [World.size_alloc] at h
  exact ⟨h, (own_new w (.slice none 0 0) 131 w.heap.size (Nat.le_refl _)).alloc _, World.ownsRow_nil _ _ _ _, rfl, rfl, rfl, rfl, (fun i a hi => by simp at hi), (fun i a hi => by simp at hi), (fun i a hi => by simp at hi), id, id, (fun g hg => by cases hg), (fun k hk => False.elim hk), ((Below.refl w.heap.size w).alloc (Nat.le_refl _) _).alloc (by simp) _⟩

def Okr (i : Nat) (a : List (List Int)) : Prop := a ≠ [] ∧ a.length ≤ i + 1 ∧ ∀ q ∈ a, Run q ∧ q.length ≤ i
def OkA (i : Nat) (f : List (List (List Int))) : Prop := f.length ≤ i ∧ ∀ a ∈ f, Okr i a
theorem Okr.mono {i j : Nat} {a : List (List Int)} (h : Okr i a) (hj : i ≤ j) : Okr j a := ⟨h.1, by have := h.2.1; omega, fun q hq => ⟨(h.2.2 q hq).1, by have := (h.2.2 q hq).2; omega⟩⟩
theorem OkA.mono {i j : Nat} {f : List (List (List Int))} (h : OkA i f) (hj : i ≤ j) : OkA j f := ⟨by have := h.1; omega, fun a ha => (h.2 a ha).mono hj⟩
theorem Okr.add {i j : Nat} {rs : List (List Int)} {r : List Int} {x : Int} (h : Okr i (rs ++ [r])) (hx : x ≠ -1) (hj : i + 1 ≤ j) : Okr j (rs ++ [r ++ [x]]) := by
  refine ⟨by simp, by have := h.2.1; simp at this ⊢; omega, fun q hq => ?_⟩
  rcases List.mem_append.1 hq with h1 | h1
  · have := h.2.2 q (by simp [h1]); exact ⟨this.1, by omega⟩
  · simp at h1; subst h1
    have := h.2.2 r (by simp)
    refine ⟨fun y hy => ?_, by simp; omega⟩
    rcases List.mem_append.1 hy with h2 | h2
    · exact this.1 y h2
    · simp at h2; rw [h2]; exact hx
theorem Okr.star {i j : Nat} {a : List (List Int)} (h : Okr i a) (hj : i + 1 ≤ j) : Okr j (a ++ [[]]) := by
  refine ⟨by simp, by have := h.2.1; simp; omega, fun q hq => ?_⟩
  rcases List.mem_append.1 hq with h1 | h1
  · have := h.2.2 q h1; exact ⟨this.1, by omega⟩
  · simp at h1; subst h1; exact ⟨fun y hy => by simp at hy, by simp⟩
theorem OkA.bar {i j : Nat} {f : List (List (List Int))} {a : List (List Int)} (h : OkA i f) (ha : Okr i a) (hj : i + 1 ≤ j) : OkA j (f ++ [a]) := by
  refine ⟨by have := h.1; simp; omega, fun b hb => ?_⟩
  rcases List.mem_append.1 hb with h1 | h1
  · exact (h.2 b h1).mono (by omega)
  · simp at h1; subst h1; exact ha.mono (by omega)
theorem Okr.nil (i : Nat) : Okr i [[]] := ⟨by simp, by simp, fun q hq => by simp at hq; subst hq; exact ⟨fun y hy => by simp at hy, by simp⟩⟩
/-- What has been read up to i, and the rows that hold it. -/
def St (p : ByteArray) (B : Nat) (w0 w : World) (i g1 n1 c1 : Nat) : Prop :=
  ∃ (S : Blk) (fin : List (List (List Int))) (rs : List (List Int)) (r : List Int) (x1 : List Value) (g2 n2 c2 : Nat) (x2 : List Value) (v3 : Value) (x3 : List Value),
    Bd B w0 w S fin rs r g1 n1 c1 x1 g2 n2 c2 x2 v3 x3 ∧ At p i (fin.map itemsOf) (itemsOf (rs ++ [r])) ∧ OkA i fin ∧ Okr i (rs ++ [r])
theorem St.start (p : ByteArray) (w : World) : St p w.heap.size w ((w.alloc (.cells #[.slice none 0 0] 131)).alloc (.cells #[.slice (some ⟨w.heap.size, 0, none⟩) 1 1] 123)) 0 (w.heap.size + 1) 1 1 :=
  ⟨_, [], [], [], _, _, _, _, _, _, _, Bd.start w, At.zero p, ⟨by simp, by simp⟩, Okr.nil 0⟩
end Go.Proofs.YthcogkoleiejgaaGreat.Pat
