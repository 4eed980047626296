/- What the model's l2Alternatives comes to: rows of numbers, one for each alternative. -/
import Derived.Test.YtpobpanmkdjkjaaPj
namespace Go.Proofs.Ytpobpanmkdjkjaa.Pat
open Go.RowKit

def ints (a : List Int) : List Value := a.map fun z => .int .i64 z
theorem ints_snoc (a : List Int) (z : Int) : ints (a ++ [z]) = ints a ++ [.int .i64 z] := by simp [ints]
/-- A row of numbers; it is one of S. -/
def IntW (S : Blk) (w : World) (v : Value) (a : List Int) : Prop := w.ownsRow 0 3 1 v a.length (ints a) ∧ ∀ g, v.ownBlock = some g → S g
theorem IntW.agree {S : Blk} {w w' : World} {v : Value} {a : List Int} (h : IntW S w v a) (ha : Agree S w w') : IntW S w' v a := ⟨own_agree h.1 (fun g hg => ha g (h.2 g hg)), h.2⟩
theorem IntW.mono {S S' : Blk} {w : World} {v : Value} {a : List Int} (h : IntW S w v a) (hs : ∀ k, S k → S' k) : IntW S' w v a := ⟨h.1, fun g hg => hs g (h.2 g hg)⟩
/-- The rows while the model reads a pattern. -/
structure Sd (B : Nat) (w0 w : World) (S : Blk) (fin : List (List Int)) (cur : List Int) (v1 : Value) (x1 : List Value) (v2 : Value) : Prop where
  o1 : w.ownsRow B 77 1 v1 fin.length x1
  o2 : w.ownsRow B 3 1 v2 cur.length (ints cur)
  f1 : ∀ (i : Nat) (a : List Int), fin[i]? = some a → ∃ u, x1[i]? = some u ∧ IntW S w u a
  s2 : ∀ g, v2.ownBlock = some g → ¬ S g
  s3 : ∀ k, S k → ∃ cs, w.heap[k]? = some (.cells cs 3)
  hB : B ≤ w.heap.size
  bel : Below B w0 w
theorem lt_heap {w : World} {k : Nat} {o : Obj} (h : w.heap[k]? = some o) : k < w.heap.size := (Array.getElem?_eq_some_iff.1 h).1
section
variable {B : Nat} {w0 w w3 : World} {S : Blk} {fin : List (List Int)} {cur : List Int} {v1 : Value} {x1 : List Value} {v2 : Value}
theorem Sd.apart (h : Sd B w0 w S fin cur v1 x1 v2) : v1.ownBlock = none ∨ v1.ownBlock ≠ v2.ownBlock := own_apart h.o1 h.o2 (by decide)
theorem Sd.add {z : Int} {v' : Value} {o : Obj} (h : Sd B w0 w S fin cur v1 x1 v2) (hown : w3.ownsRow B 3 1 v' (cur ++ [z]).length (ints (cur ++ [z]))) (hgr : (w.alloc o).grownBy w3 v2.ownBlock) (hat : v'.ownBlock = v2.ownBlock ∨ ∃ k, v'.ownBlock = some k ∧ w.heap.size ≤ k) : Sd B w0 w3 S fin (cur ++ [z]) v1 x1 v' := by
  have keep : ∀ k, k < w.heap.size → v2.ownBlock ≠ some k → w3.heap[k]? = w.heap[k]? := fun k hk h1 => (hgr.block k (by simp; omega) (fun e => h1 e.symm)).trans (Below.heap_alloc w o k hk)
  have hS : ∀ k, S k → k < w.heap.size := fun k hk => by obtain ⟨cs, hc⟩ := h.s3 k hk; exact lt_heap hc
  have ha : Agree S w w3 := fun k hk => keep k (hS k hk) (fun e => h.s2 k e hk)
  refine ⟨(h.o1.alloc o).kept hgr h.apart, hown, ?_, ?_, ?_, by have := h.hB; have := hgr.size; simp at this; omega, (h.bel.alloc h.hB o).grown hgr (by have := h.hB; simp; omega) (fun j hj => (h.o2.lt j hj).1)⟩
  · intro i a hi; obtain ⟨u, hu, hx⟩ := h.f1 i a hi; exact ⟨u, hu, hx.agree ha⟩
  · intro g hg hs
    rcases hat with h1 | ⟨k, h1, h2⟩
    · exact h.s2 g (h1 ▸ hg) hs
    · rw [h1] at hg
      have := hS g hs
      have : k = g := Option.some.inj hg
      omega
  · intro k hk; obtain ⟨cs, hc⟩ := h.s3 k hk; exact ⟨cs, (ha k hk).trans hc⟩
theorem Sd.bar {v' : Value} {o : Obj} (h : Sd B w0 w S fin cur v1 x1 v2) (hown : w3.ownsRow B 77 1 v' (fin.length + 1) (x1 ++ [v2])) (hgr : (w.alloc o).grownBy w3 v1.ownBlock) : Sd B w0 w3 (fun k => S k ∨ v2.ownBlock = some k) (fin ++ [cur]) [] v' (x1 ++ [v2]) (.slice none 0 0) := by
  have hl1 : x1.length = fin.length := by have := h.o1.1; omega
  have ne1 : ∀ k cs, w.heap[k]? = some (.cells cs 3) → v1.ownBlock ≠ some k := by
    intro k cs hc e
    rcases h.o1.2 with ⟨h1, _⟩ | ⟨g, cap, cur', h1, _, h3, _⟩
    · rw [h1] at e; cases e
    · rw [h1] at e
      obtain rfl : g = k := Option.some.inj e
      rw [hc] at h3
      simp at h3
  have keep : ∀ k, k < w.heap.size → v1.ownBlock ≠ some k → w3.heap[k]? = w.heap[k]? := fun k hk h1 => (hgr.block k (by simp; omega) (fun e => h1 e.symm)).trans (Below.heap_alloc w o k hk)
  have ha : Agree S w w3 := fun k hk => by obtain ⟨cs, hc⟩ := h.s3 k hk; exact keep k (lt_heap hc) (ne1 k cs hc)
  have h2c : ∀ g, v2.ownBlock = some g → ∃ cs, w.heap[g]? = some (.cells cs 3) := by
    intro g hg
    rcases h.o2.2 with ⟨h1, _⟩ | ⟨g', cap, cur', h1, _, h3, _⟩
    · rw [h1] at hg; cases hg
    · rw [h1] at hg
      obtain rfl : g' = g := Option.some.inj hg
      exact ⟨_, h3⟩
  have h2a : ∀ g, v2.ownBlock = some g → w3.heap[g]? = w.heap[g]? := fun g hg => by obtain ⟨cs, hc⟩ := h2c g hg; exact keep g (lt_heap hc) (ne1 g cs hc)
  refine ⟨by simpa using hown, World.ownsRow_nil _ _ _ _, ?_, (fun g hg => by cases hg), ?_, (by have := h.hB; have := hgr.size; simp at this; omega), (h.bel.alloc h.hB o).grown hgr (by have := h.hB; simp; omega) (fun j hj => (h.o1.lt j hj).1)⟩
  · intro i a hi
    by_cases hlt : i < fin.length
    · rw [List.getElem?_append_left hlt] at hi
      obtain ⟨u, hu, hx⟩ := h.f1 i a hi
      exact ⟨u, by rw [List.getElem?_append_left (show i < x1.length by omega)]; exact hu, (hx.agree ha).mono (fun k hk => .inl hk)⟩
    · have hlt2 := (List.getElem?_eq_some_iff.1 hi).1
      simp at hlt2
      obtain rfl : i = fin.length := by omega
      simp at hi
      subst hi
      refine ⟨v2, ?_, own_zero (own_agree h.o2 h2a), fun g hg => .inr hg⟩
      rw [List.getElem?_append_right (show x1.length ≤ fin.length by omega), hl1]; simp
  · rintro k (hk | hk)
    · obtain ⟨cs, hc⟩ := h.s3 k hk; exact ⟨cs, (ha k hk).trans hc⟩
    · obtain ⟨cs, hc⟩ := h2c k hk; exact ⟨cs, (h2a k hk).trans hc⟩
end
theorem at_or {a a' : Option Addr} {n n' m' c c' N : Nat} (h : (Value.slice a' n' c').ownBlock = (Value.slice a n c).ownBlock ∨ (Value.slice a' n' c').ownBlock = some (N + 1)) : (Value.slice a' m' c').ownBlock = (Value.slice a n c).ownBlock ∨ ∃ k, (Value.slice a' m' c').ownBlock = some k ∧ N ≤ k := by
  have e : (Value.slice a' m' c').ownBlock = (Value.slice a' n' c').ownBlock := by cases a' <;> rfl
  rw [e]
  rcases h with h | h
  · exact .inl h
  · exact .inr ⟨_, h, by omega⟩
/-- What l2Alternatives leaves. -/
def AltR (p : ByteArray) (w : World) (e : Ending) (w' : World) : Prop :=
  Below w.heap.size w w' ∧ ((patB p = false ∧ e = .returned (.tuple #[.slice none 0 0, .bool false])) ∨ ∃ (S : Blk) (A : List (List Int)) (a : Option Addr) (c : Nat) (x1 : List Value), patB p = true ∧ A = altsF p.data.toList [] ∧ e = .returned (.tuple #[.slice a A.length c, .bool true]) ∧ w'.ownsRow w.heap.size 77 1 (.slice a A.length c) A.length x1 ∧ (∀ (i : Nat) (z : List Int), A[i]? = some z → ∃ u, x1[i]? = some u ∧ IntW S w' u z) ∧ (∀ k, S k → k < w'.heap.size) ∧ A.length ≤ 101 ∧ ∀ z ∈ A, z.length ≤ 100)

set_option maxHeartbeats 8000000 in
set_option maxRecDepth 100000 in
theorem f29w (s : ByteArray) (w : World) (hs : s.size ≤ maxLen) : Calls Try.prog 29 #[.string s] w (AltR s w) := by
  obtain ⟨i0, i1, i2, i3, i4⟩ := info_parts info3
  obtain ⟨j0, j1, j2, j3, j4⟩ := info_parts info83
  have hs' := hs
  unfold maxLen at hs'
  by_cases h100 : 100 < s.size
  · go_enter Try.func29, Try.ntmps29
    go_wp2
    go_ret2
    exact ⟨Below.refl _ _, .inl ⟨pat_long h100, rfl⟩⟩
  by_cases hpr : printL s.data.toList = true
  · have HPO := hid (fun (b : Bool) => pat_ok (s := s) (b := b) (by omega) hpr)
    go_enter Try.func29, Try.ntmps29
    go_wp2_with (go_at_call 49; refine (f49 s _ hs).mono ?_; rintro e w' ⟨rfl, hw'⟩; have hw2 := hw'.symm; clear hw'; subst hw2)
    go_loopw [4, 5, 6] (fun so sn si wr => ∃ (i : Nat) (fin : List (List Int)) (cur : List Int) (S : Blk) (x1 : List Value) (a1 a2 : Option Addr) (c1 c2 : Nat), i ≤ s.size ∧ si = .int .i64 i ∧ so = .slice a1 fin.length c1 ∧ sn = .slice a2 cur.length c2 ∧ Hid (From s i) ∧ Hid (At s i fin cur) ∧ Hid (fin.length ≤ i ∧ ∀ z ∈ fin, z.length ≤ i) ∧ cur.length ≤ i ∧ Hid (Sd w.heap.size w wr S fin cur (.slice a1 fin.length c1) x1 (.slice a2 cur.length c2))) (fun _ _ si _ => s.size - (intOf si).toNat)
    case atStart => exact ⟨0, [], [], fun _ => False, [], none, none, 0, 0, Nat.zero_le _, rfl, rfl, rfl, From.zero s, At.zero s, ⟨by simp, by simp⟩, by simp, ⟨World.ownsRow_nil _ _ _ _, World.ownsRow_nil _ _ _ _, (fun i a hi => by simp at hi), (fun g hg => by cases hg), (fun k hk => False.elim hk), Nat.le_refl _, Below.refl _ _⟩⟩
    case round =>
      obtain ⟨i, fin, cur, S, x1, a1, a2, c1, c2, hi, rfl, rfl, rfl, hfr, hat0, HFL, hcl, HS⟩ := hrel
      have hfl := HFL.out.1
      by_cases hlt : i < s.size
      · have HFM : Hid (∀ j, i ≤ j → fin.length ≤ j ∧ ∀ z ∈ fin, z.length ≤ j) := fun j hj => ⟨by omega, fun z hz => Nat.le_trans (HFL.out.2 z hz) hj⟩
        by_cases e1 : (s[i].toNat : Int) = 124
        · have e1' : ((s[i].toNat : Int) == 124) = true := by simp [e1]
          have HFR := hid (hfr.out.plain hlt (by omega))
          have HAT := hid (hat0.out.bar hlt e1)
          clear e1
          go_wp2_with (at_builtin; refine wpList_append_own _ rfl (.tmp 33) (.tmp 35) 54 rfl w.heap.size 77 j0 (.slice none 0 0) 1 24 Try.underlying54 j1 j2 j3 j4 rfl (by decide) _ _ _ rfl (HS.out.o1.alloc _) ⟨wr.heap.size, 0, none⟩ 1 1 [.slice a2 cur.length c2] rfl rfl ?d1 ?d2 ?d3 ?d4 ?d5 ?_)
          case d1 => exact one_row _ _ _
          case d2 => intro u hu; simp at hu; subst hu; rfl
          case d3 => unfold maxLen; omega
          case d4 => omega
          case d5 => have := HS.out.bel.size; simp; omega
          intro v3 w3 hown3 hgr3 _
          obtain ⟨a3, c3, rfl⟩ := own_form hown3
          have HS3 := hid (HS.out.bar hown3 hgr3)
          have HF3 : Hid ((fin ++ [cur]).length ≤ i + 1 ∧ ∀ z ∈ fin ++ [cur], z.length ≤ i + 1) := by
            refine ⟨by simp; omega, fun z hz => ?_⟩
            rcases List.mem_append.1 hz with h | h
            · have := HFL.out.2 z h; omega
            · simp at h; subst h; omega
          have HS4 : Hid (Sd w.heap.size w w3 (fun k => S k ∨ (Value.slice a2 cur.length c2).ownBlock = some k) (fin ++ [cur]) [] (.slice a3 (fin ++ [cur]).length c3) (x1 ++ [.slice a2 cur.length c2]) (.slice none 0 0)) := by simpa using HS3
          clear hown3 hgr3
          go_wp2
          go_roundw
          case rel => exact ⟨i + 1, fin ++ [cur], [], _, _, a3, none, c3, 0, by omega, by go_num, by simp, rfl, HFR.out, HAT.out, HF3, by simp, HS4⟩
          case measure => simp [intOf]; omega
        have e1' : ((s[i].toNat : Int) == 124) = false := by simp [e1]
        by_cases e2 : (s[i].toNat : Int) = 42
        · have e2' : ((s[i].toNat : Int) == 42) = true := by simp [e2]
          have HFR := hid (hfr.out.plain hlt (by omega))
          have HAT := hid (hat0.out.star hlt e2)
          clear e1 e2
          go_wp2_with (at_builtin; refine wpList_append_own_at _ rfl (.tmp 39) (.tmp 40) 77 rfl w.heap.size 3 i0 (.int .i64 0) 1 8 Try.underlying77 i1 i2 i3 i4 rfl (by decide) _ _ _ rfl (HS.out.o2.alloc _) ⟨wr.heap.size, 0, none⟩ 1 1 [.int .i64 (-1)] rfl rfl ?d1 ?d2 ?d3 ?d4 ?d5 ?_)
          case d1 => exact one_row _ _ _
          case d2 => intro u hu; simp at hu; subst hu; rfl
          case d3 => unfold maxLen; omega
          case d4 => omega
          case d5 => have := HS.out.bel.size; simp; omega
          intro v3 w3 hown3 hgr3 _ hat
          obtain ⟨a3, c3, rfl⟩ := own_form hown3
          have HS3 : Hid (Sd w.heap.size w w3 S fin (cur ++ [-1]) (.slice a1 fin.length c1) x1 (.slice a3 (cur ++ [-1]).length c3)) := by
            refine HS.out.add ?_ hgr3 (at_or hat)
            rw [ints_snoc, List.length_append]
            exact hown3
          clear hown3 hgr3 hat
          go_wp2
          go_roundw
          case rel => exact ⟨i + 1, fin, cur ++ [-1], S, x1, a1, a3, c1, c3, by omega, by go_num, rfl, by simp, HFR.out, HAT.out, HFM.out _ (by omega), by simp; omega, HS3⟩
          case measure => simp [intOf]; omega
        have e2' : ((s[i].toNat : Int) == 42) = false := by simp [e2]
        by_cases e3 : (s[i].toNat : Int) = 63
        · have e3' : ((s[i].toNat : Int) == 63) = true := by simp [e3]
          have HFR := hid (hfr.out.plain hlt (by omega))
          have HAT := hid (hat0.out.any hlt e3)
          clear e1 e2 e3
          go_wp2_with (at_builtin; refine wpList_append_own_at _ rfl (.tmp 44) (.tmp 45) 77 rfl w.heap.size 3 i0 (.int .i64 0) 1 8 Try.underlying77 i1 i2 i3 i4 rfl (by decide) _ _ _ rfl (HS.out.o2.alloc _) ⟨wr.heap.size, 0, none⟩ 1 1 [.int .i64 (-2)] rfl rfl ?d1 ?d2 ?d3 ?d4 ?d5 ?_)
          case d1 => exact one_row _ _ _
          case d2 => intro u hu; simp at hu; subst hu; rfl
          case d3 => unfold maxLen; omega
          case d4 => omega
          case d5 => have := HS.out.bel.size; simp; omega
          intro v3 w3 hown3 hgr3 _ hat
          obtain ⟨a3, c3, rfl⟩ := own_form hown3
          have HS3 : Hid (Sd w.heap.size w w3 S fin (cur ++ [-2]) (.slice a1 fin.length c1) x1 (.slice a3 (cur ++ [-2]).length c3)) := by
            refine HS.out.add ?_ hgr3 (at_or hat)
            rw [ints_snoc, List.length_append]
            exact hown3
          clear hown3 hgr3 hat
          go_wp2
          go_roundw
          case rel => exact ⟨i + 1, fin, cur ++ [-2], S, x1, a1, a3, c1, c3, by omega, by go_num, rfl, by simp, HFR.out, HAT.out, HFM.out _ (by omega), by simp; omega, HS3⟩
          case measure => simp [intOf]; omega
        have e3' : ((s[i].toNat : Int) == 63) = false := by simp [e3]
        by_cases e4 : (s[i].toNat : Int) = 92
        · have e4' : ((s[i].toNat : Int) == 92) = true := by simp [e4]
          have HE4 := hid e4
          clear e1 e2 e3 e4
          by_cases hl2 : i + 1 < s.size
          · by_cases hsg : sgB (s[i + 1].toNat : Int) = true
            · have HFR := hid (hfr.out.sign hlt HE4.out hl2 hsg)
              have HAT := hid (hat0.out.esc hlt HE4.out hl2)
              have hne : ((i : Int) + 1 == (s.size : Int)) = false := by simp; omega
              have hz : (s[i + 1].toNat : Int) = 42 ∨ (s[i + 1].toNat : Int) = 63 ∨ (s[i + 1].toNat : Int) = 124 ∨ (s[i + 1].toNat : Int) = 92 := by unfold sgB at hsg; exact of_decide_eq_true hsg
              have hq : ((s[i + 1].toNat : Int) != 42) = false ∨ (((s[i + 1].toNat : Int) != 42) = true ∧ ((s[i + 1].toNat : Int) != 63) = false) ∨ (((s[i + 1].toNat : Int) != 42) = true ∧ ((s[i + 1].toNat : Int) != 63) = true ∧ ((s[i + 1].toNat : Int) != 124) = false) ∨ (((s[i + 1].toNat : Int) != 42) = true ∧ ((s[i + 1].toNat : Int) != 63) = true ∧ ((s[i + 1].toNat : Int) != 124) = true ∧ ((s[i + 1].toNat : Int) != 92) = false) := by
                rcases hz with hz | hz | hz | hz <;> rw [hz] <;> decide
              clear hsg hz
              rcases hq with q1 | ⟨q1, q2⟩ | ⟨q1, q2, q3⟩ | ⟨q1, q2, q3, q4⟩
              all_goals
                go_wp2_with (at_builtin; refine wpList_append_own_at _ rfl (.tmp 79) (.tmp 84) 77 rfl w.heap.size 3 i0 (.int .i64 0) 1 8 Try.underlying77 i1 i2 i3 i4 rfl (by decide) _ _ _ rfl (HS.out.o2.alloc _) ⟨wr.heap.size, 0, none⟩ 1 1 [.int .i64 (wrap64 (s[i + 1].toNat : Int))] rfl rfl ?d1 ?d2 ?d3 ?d4 ?d5 ?_)
                case d1 => exact one_row _ _ _
                case d2 => intro u hu; simp at hu; subst hu; rfl
                case d3 => unfold maxLen; omega
                case d4 => omega
                case d5 => have := HS.out.bel.size; simp; omega
                intro v3 w3 hown3 hgr3 _ hat
                obtain ⟨a3, c3, rfl⟩ := own_form hown3
                have HS3 : Hid (Sd w.heap.size w w3 S fin (cur ++ [(s[i + 1].toNat : Int)]) (.slice a1 fin.length c1) x1 (.slice a3 (cur ++ [(s[i + 1].toNat : Int)]).length c3)) := by
                  refine HS.out.add ?_ hgr3 (at_or hat)
                  rw [ints_snoc, List.length_append, ← byte64]
                  exact hown3
                clear hown3 hgr3 hat
                go_wp2
                go_roundw
                case rel => exact ⟨i + 1 + 1, fin, cur ++ [(s[i + 1].toNat : Int)], S, x1, a1, a3, c1, c3, by omega, by go_num, rfl, by simp, HFR.out, HAT.out, HFM.out _ (by omega), by simp; omega, HS3⟩
                case measure => simp [intOf]; omega
            · have hsg' : sgB (s[i + 1].toNat : Int) = false := by simpa using hsg
              have HP := hid (HPO.out false (hfr.out.bad hlt HE4.out hl2 hsg'))
              have hne : ((i : Int) + 1 == (s.size : Int)) = false := by simp; omega
              have hz : ¬ ((s[i + 1].toNat : Int) = 42 ∨ (s[i + 1].toNat : Int) = 63 ∨ (s[i + 1].toNat : Int) = 124 ∨ (s[i + 1].toNat : Int) = 92) := by unfold sgB at hsg'; exact of_decide_eq_false hsg'
              have q1 : ((s[i + 1].toNat : Int) != 42) = true := by simp only [bne_iff_ne, ne_eq]; omega
              have q2 : ((s[i + 1].toNat : Int) != 63) = true := by simp only [bne_iff_ne, ne_eq]; omega
              have q3 : ((s[i + 1].toNat : Int) != 124) = true := by simp only [bne_iff_ne, ne_eq]; omega
              have q4 : ((s[i + 1].toNat : Int) != 92) = true := by simp only [bne_iff_ne, ne_eq]; omega
              clear hz hsg hsg'
              go_wp2
              go_ret2
              exact ⟨HS.out.bel, .inl ⟨HP.out, rfl⟩⟩
          · have hl3 : i + 1 = s.size := by omega
            have HP := hid (HPO.out false (hfr.out.last hlt HE4.out hl3))
            have hne : ((i : Int) + 1 == (s.size : Int)) = true := by simp; omega
            clear hl3
            go_wp2
            go_ret2
            exact ⟨HS.out.bel, .inl ⟨HP.out, rfl⟩⟩
        have e4' : ((s[i].toNat : Int) == 92) = false := by simp [e4]
        have HFR := hid (hfr.out.plain hlt e4)
        have HAT := hid (hat0.out.plain hlt e1 e2 e3 e4)
        clear e1 e2 e3 e4
        go_wp2_with (at_builtin; refine wpList_append_own_at _ rfl (.tmp 24) (.tmp 29) 77 rfl w.heap.size 3 i0 (.int .i64 0) 1 8 Try.underlying77 i1 i2 i3 i4 rfl (by decide) _ _ _ rfl (HS.out.o2.alloc _) ⟨wr.heap.size, 0, none⟩ 1 1 [.int .i64 (wrap64 (s[i].toNat : Int))] rfl rfl ?d1 ?d2 ?d3 ?d4 ?d5 ?_)
        case d1 => exact one_row _ _ _
        case d2 => intro u hu; simp at hu; subst hu; rfl
        case d3 => unfold maxLen; omega
        case d4 => omega
        case d5 => have := HS.out.bel.size; simp; omega
        intro v3 w3 hown3 hgr3 _ hat
        obtain ⟨a3, c3, rfl⟩ := own_form hown3
        have HS3 : Hid (Sd w.heap.size w w3 S fin (cur ++ [(s[i].toNat : Int)]) (.slice a1 fin.length c1) x1 (.slice a3 (cur ++ [(s[i].toNat : Int)]).length c3)) := by
          refine HS.out.add ?_ hgr3 (at_or hat)
          rw [ints_snoc, List.length_append, ← byte64]
          exact hown3
        clear hown3 hgr3 hat
        go_wp2
        go_roundw
        case rel => exact ⟨i + 1, fin, cur ++ [(s[i].toNat : Int)], S, x1, a1, a3, c1, c3, by omega, by go_num, rfl, by simp, HFR.out, HAT.out, HFM.out _ (by omega), by simp; omega, HS3⟩
        case measure => simp [intOf]; omega
      · have HP := hid (HPO.out true (hfr.out.done (by omega)))
        have HD := hid (hat0.out.done (by omega))
        go_wp2_with (at_builtin; refine wpList_append_own _ rfl (.tmp 86) (.tmp 88) 54 rfl w.heap.size 77 j0 (.slice none 0 0) 1 24 Try.underlying54 j1 j2 j3 j4 rfl (by decide) _ _ _ rfl (HS.out.o1.alloc _) ⟨wr.heap.size, 0, none⟩ 1 1 [.slice a2 cur.length c2] rfl rfl ?d1 ?d2 ?d3 ?d4 ?d5 ?_)
        case d1 => exact one_row _ _ _
        case d2 => intro u hu; simp at hu; subst hu; rfl
        case d3 => unfold maxLen; omega
        case d4 => omega
        case d5 => have := HS.out.bel.size; simp; omega
        intro v3 w3 hown3 hgr3 _
        obtain ⟨a3, c3, rfl⟩ := own_form hown3
        have HS3 := hid (HS.out.bar hown3 hgr3)
        have HR3 : Hid (AltR s w (.returned (.tuple #[.slice a3 (fin.length + 1) c3, .bool true])) w3) := by
          refine ⟨HS3.out.bel, .inr ⟨_, fin ++ [cur], a3, c3, _, HP.out, HD.out.symm, by simp, by simpa using HS3.out.o1, HS3.out.f1, fun k hk => by obtain ⟨cs, hc⟩ := HS3.out.s3 k hk; exact lt_heap hc, by simp; omega, fun z hz => ?_⟩⟩
          rcases List.mem_append.1 hz with h | h
          · have := HFL.out.2 z h; omega
          · simp at h; subst h; omega
        clear hown3 hgr3
        go_wp2
        go_ret2
        exact HR3.out
  · have hpr' : printL s.data.toList = false := by simpa using hpr
    clear hpr
    go_enter Try.func29, Try.ntmps29
    go_wp2_with (go_at_call 49; refine (f49 s _ hs).mono ?_; rintro e w' ⟨rfl, hw'⟩; have hw2 := hw'.symm; clear hw'; subst hw2)
    go_ret2
    exact ⟨Below.refl _ _, .inl ⟨pat_unprinted hpr', rfl⟩⟩
end Go.Proofs.Ytpobpanmkdjkjaa.Pat
