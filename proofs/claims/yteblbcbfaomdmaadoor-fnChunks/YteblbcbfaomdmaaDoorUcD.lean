import Derived.Test.YteblbcbfaomdmaaDoorUcC
import Derived.Deep.CutRange
/- Plain: what the reader has read is what was packed, and only that. -/
namespace Go.Proofs.YteblbcbfaomdmaaDoor.Chk
open Go.RowKit Go.Proofs.YteblbcbfaomdmaaDoor.Bts
open Go.Proofs.YteblbcbfaomdmaaDoor.Smp hiding hid ret_int below_drewN

noncomputable def packN (n : Nat) (ls : List Sm) : Nat → Ck
  | 0 => ⟨bAdd ([], 0) (n : Int) 8, 0, 0, 0, none⟩
  | k + 1 => if k = 0 then firstC (packN n ls k) (ls.getD k e0) else nextC (packN n ls k) (ls.getD k e0)
theorem packN_eq (ls : List Sm) : ∀ k, packK ls k = packN ls.length ls k := by
  intro k
  induction k with
  | zero => rfl
  | succ k ih => rw [packK, packN, ih]
theorem packN_app (n : Nat) (ls xs : List Sm) : ∀ k, k ≤ ls.length → packN n (ls ++ xs) k = packN n ls k := by
  intro k
  induction k with
  | zero => intro _; rfl
  | succ k ih =>
    intro hk
    have e : (ls ++ xs).getD k e0 = ls.getD k e0 := by
      rw [List.getD_eq_getElem?_getD, List.getD_eq_getElem?_getD, List.getElem?_append_left (by omega)]
    rw [packN, packN, ih (by omega), e]
theorem packN_last {n : Nat} {ls : List Sm} (hg : GoodP ls) : ∀ k, k < ls.length → (packN n ls (k + 1)).t = (ls.getD k e0).1 ∧ 0 ≤ (packN n ls (k + 1)).step ∧ (packN n ls (k + 1)).step ≤ 1000000000000 := by
  intro k
  induction k with
  | zero => intro _; exact ⟨rfl, (show (0 : Int) ≤ 0 by omega), (show (0 : Int) ≤ 1000000000000 by omega)⟩
  | succ k ih =>
    intro hk
    obtain ⟨h1, h3, h4⟩ := ih (by omega)
    have e : packN n ls (k + 1 + 1) = nextC (packN n ls (k + 1)) (ls.getD (k + 1) e0) := by rw [packN, if_neg (by omega)]
    rw [e]
    have g1 := hg.2 (k + 1) hk
    have g0 := (hg.2 k (by omega)).1
    have g2 := g1.2 (by omega)
    rw [Nat.add_sub_cancel] at g2
    have g3 := g1.1
    unfold TimeP at g0 g3
    refine ⟨rfl, ?_, ?_⟩
    · show 0 ≤ (ls.getD (k + 1) e0).1 - (packN n ls (k + 1)).t; rw [h1]; omega
    · show (ls.getD (k + 1) e0).1 - (packN n ls (k + 1)).t ≤ _; rw [h1]; omega
theorem good_pre {ls xs : List Sm} (h : GoodP (ls ++ xs)) : GoodP ls := by
  have e : ∀ k, k < ls.length → (ls ++ xs).getD k e0 = ls.getD k e0 := fun k hk => by
    rw [List.getD_eq_getElem?_getD, List.getD_eq_getElem?_getD, List.getElem?_append_left hk]
  refine ⟨by have := h.1; simp at this; omega, fun k hk => ?_⟩
  have := h.2 k (by simp; omega)
  unfold OkAt at this ⊢
  rw [e k hk] at this
  refine ⟨this.1, fun h0 => ?_⟩
  have h2 := this.2 h0
  rw [e (k - 1) (by omega)] at h2
  exact h2
theorem getD_snoc (ls : List Sm) (p : Sm) : (ls ++ [p]).getD ls.length e0 = p := by
  rw [List.getD_eq_getElem?_getD, List.getElem?_append_right (Nat.le_refl _), Nat.sub_self]; rfl
/-- Values fit a word. -/
def Vfit (l : List Sm) : Prop := ∀ k, k < l.length → -9223372036854775808 ≤ (l.getD k e0).2 ∧ (l.getD k e0).2 ≤ 9223372036854775807
theorem vfit_snoc {l : List Sm} {p : Sm} (h : Vfit l) (h0 : -9223372036854775808 ≤ p.2) (h1 : p.2 ≤ 9223372036854775807) : Vfit (l ++ [p]) := by
  intro k hk
  by_cases e : k < l.length
  · have := h k e
    rw [List.getD_eq_getElem?_getD, List.getElem?_append_left e, ← List.getD_eq_getElem?_getD]; exact this
  · have : k = l.length := by simp at hk; omega
    subst this
    rw [getD_snoc]; exact ⟨h0, h1⟩
theorem firstP_v (zs : List Int) (S : Rs) : -9223372036854775808 ≤ (firstP zs S).v ∧ (firstP zs S).v ≤ 9223372036854775807 := by
  show -9223372036854775808 ≤ wrap64 _ ∧ wrap64 _ ≤ 9223372036854775807
  simp only [wrap64]; omega
theorem nextP_v (zs : List Int) (S : Rs) : -9223372036854775808 ≤ (nextP zs S).v ∧ (nextP zs S).v ≤ 9223372036854775807 := xor_in64 _ _
theorem step_only {q : Bt} {M i : Nat} {pre : List Sm} {S S' : Rs} (hi : i = pre.length) (hS : S' = if i = 0 then firstP q.1 S else nextP q.1 S) (hst : GoodP pre → Stn q (packN M pre i) S) (hb : S'.br = false) (hg : GoodP (pre ++ [(S'.t, S'.v)])) : Stn q (packN M (pre ++ [(S'.t, S'.v)]) (i + 1)) S' := by
  have hp := good_pre hg
  have hs := hst hp
  have e1 : packN M (pre ++ [(S'.t, S'.v)]) i = packN M pre i := packN_app M pre _ i (by omega)
  have e2 : (pre ++ [(S'.t, S'.v)]).getD i e0 = (S'.t, S'.v) := by rw [hi]; exact getD_snoc _ _
  have hT : Tm S'.t := by
    have := (hg.2 i (by simp; omega)).1
    rw [e2] at this; exact this
  rw [packN, e1, e2]
  by_cases h0 : i = 0
  · rw [if_pos h0]
    rw [if_pos h0] at hS
    subst hS
    exact first_only hs hb
  · rw [if_neg h0]
    rw [if_neg h0] at hS
    subst hS
    obtain ⟨k, rfl⟩ : ∃ k, i = k + 1 := ⟨i - 1, by omega⟩
    obtain ⟨l1, l2, l3⟩ := packN_last (n := M) hp k (by omega)
    have ht : Tm (packN M pre (k + 1)).t := by rw [l1]; exact (hp.2 k (by omega)).1
    exact next_only hs ht ⟨l2, l3⟩ hb hT
theorem smp_only {q : Bt} {M : Nat} : ∀ f i pre S, i = pre.length → i + f = M → (GoodP pre → Stn q (packN M pre i) S) → Vfit pre → (smp q.1 f i pre S).2.br = false → GoodP (smp q.1 f i pre S).1 →
    (smp q.1 f i pre S).1.length = M ∧ Vfit (smp q.1 f i pre S).1 ∧ Stn q (packN M (smp q.1 f i pre S).1 M) (smp q.1 f i pre S).2 := by
  intro f
  induction f with
  | zero =>
    intro i pre S hi hM hst hv hb hg
    have e : smp q.1 0 i pre S = (pre, S) := rfl
    rw [e] at hb hg ⊢
    obtain rfl : i = M := by omega
    exact ⟨hi.symm, hv, hst hg⟩
  | succ f ih =>
    intro i pre S hi hM hst hv hb hg
    obtain ⟨S', hS⟩ : ∃ S', S' = if i = 0 then firstP q.1 S else nextP q.1 S := ⟨_, rfl⟩
    have hst' := smp_step q.1 (M := i + (f + 1)) (i := i) (by omega) (r := smp q.1 (f + 1) i pre S) (by rw [show i + (f + 1) - i = f + 1 by omega]) hS
    rw [show i + (f + 1) - (i + 1) = f by omega] at hst'
    cases hbr : S'.br with
    | true => rw [hst'.1 hbr] at hb; exact absurd (hbr.symm.trans hb) (by decide)
    | false =>
      have e := hst'.2 hbr
      rw [e] at hb hg ⊢
      have hvv : -9223372036854775808 ≤ S'.v ∧ S'.v ≤ 9223372036854775807 := by
        rw [hS]; split
        · exact firstP_v _ _
        · exact nextP_v _ _
      exact ih (i + 1) (pre ++ [(S'.t, S'.v)]) S' (by simp [hi]) (by omega) (fun h => step_only hi hS hst hbr h) (vfit_snoc hv hvv.1 hvv.2) hb hg
theorem ext_packsN (ls : List Sm) (q : Bt) (hq : (packK ls ls.length).b = q) (hl : ls.length ≤ 120) (k : Nat) (hk : k ≤ ls.length) : Ext (packN ls.length ls k).b q := by
  rw [← packN_eq, ← hq]
  exact ext_packs ls k ls.length hk hl
theorem smp_back {q : Bt} {ls : List Sm} (hg : GoodP ls) (hl : ls.length ≤ 120) (hv : Vfit ls) (hq : (packK ls ls.length).b = q) : ∀ f i S, i + f = ls.length → Stn q (packN ls.length ls i) S →
    (smp q.1 f i (ls.take i) S).1 = ls ∧ Stn q (packN ls.length ls ls.length) (smp q.1 f i (ls.take i) S).2 := by
  intro f
  induction f with
  | zero =>
    intro i S hi hst
    obtain rfl : i = ls.length := by omega
    have e : smp q.1 0 ls.length (ls.take ls.length) S = (ls.take ls.length, S) := rfl
    rw [e]
    exact ⟨by simp, hst⟩
  | succ f ih =>
    intro i S hi hst
    obtain ⟨S', hS⟩ : ∃ S', S' = if i = 0 then firstP q.1 S else nextP q.1 S := ⟨_, rfl⟩
    have hst' := smp_step q.1 (M := i + (f + 1)) (i := i) (by omega) (r := smp q.1 (f + 1) i (ls.take i) S) (by rw [show i + (f + 1) - i = f + 1 by omega]) hS
    rw [show i + (f + 1) - (i + 1) = f by omega] at hst'
    have hext := ext_packsN ls q hq hl (i + 1) (by omega)
    rw [packN] at hext
    have hti := (hg.2 i (by omega)).1
    have hvi := hv i (by omega)
    have key : S'.br = false ∧ S'.t = (ls.getD i e0).1 ∧ S'.v = (ls.getD i e0).2 := by
      by_cases h0 : i = 0
      · rw [if_pos h0] at hS hext
        subst hS
        exact first_back hst hti hvi.1 hvi.2 hext
      · rw [if_neg h0] at hS hext
        subst hS
        obtain ⟨k, rfl⟩ : ∃ k, i = k + 1 := ⟨i - 1, by omega⟩
        obtain ⟨l1, l2, l3⟩ := packN_last (n := ls.length) hg k (by omega)
        have ht : Tm (packN ls.length ls (k + 1)).t := by rw [l1]; exact (hg.2 k (by omega)).1
        exact next_back hst ht ⟨l2, l3⟩ hti hvi.1 hvi.2 hext
    obtain ⟨b1, b2, b3⟩ := key
    have hlt : i < ls.length := by omega
    have ep : ls.take i ++ [(S'.t, S'.v)] = ls.take (i + 1) := by
      have e : ls.getD i e0 = ls[i] := by simp [hlt]
      rw [b2, b3, List.take_succ_eq_append_getElem hlt, e]
    have e := hst'.2 b1
    rw [e, ep]
    refine ih (i + 1) S' (by omega) ?_
    have hso := step_only (q := q) (M := ls.length) (i := i) (pre := ls.take i) (S := S) (S' := S') (by simp; omega) hS
      (fun _ => by
        have := packN_app ls.length (ls.take i) (ls.drop i) i (by simp; omega)
        rw [List.take_append_drop] at this
        rw [← this]; exact hst) b1
      (by rw [ep]; have := hg; rw [← List.take_append_drop (i + 1) ls] at this; exact good_pre this)
    rw [ep] at hso
    have := packN_app ls.length (ls.take (i + 1)) (ls.drop (i + 1)) (i + 1) (by simp; omega)
    rw [List.take_append_drop] at this
    rw [this]; exact hso
/-- The bits are the chunk of l. -/
def Is (q : Bt) (l : List Sm) : Prop := GoodP l ∧ l.length ≤ 120 ∧ Vfit l ∧ (packK l l.length).b = q
theorem pos0 (q : Bt) : Pos q ([], 0) (rs0 q.2) := ⟨G_nil, ⟨Nat.zero_le _, fun i hi => by simp at hi⟩, rfl, by show 0 + q.2 = q.2; omega⟩
theorem read_only {q : Bt} (hq : GB q) (h : okP (readP q.1 q.2)) : Is q (readP q.1 q.2).1 := by
  obtain ⟨h1, h2, h3, h4⟩ := h
  obtain ⟨M, hM, hM2⟩ := take8 q.1 (rs0 q.2)
  have hbr : (takeP q.1 (rs0 q.2) 8).2.br = false := by
    by_cases h8 : 8 ≤ q.2
    · rw [takeP_in (S := rs0 q.2) h8]; rfl
    · exfalso
      have e : takeP q.1 (rs0 q.2) 8 = (0, (rs0 q.2).brk) := takeP_out (S := rs0 q.2) h8
      unfold readP at h1
      rw [e] at h1
      have : smp q.1 (0 : Int).toNat 0 [] (rs0 q.2).brk = ([], (rs0 q.2).brk) := rfl
      rw [this] at h1
      exact absurd h1 (by simp [Rs.brk])
  obtain ⟨_, hp⟩ := take_only (pos0 q) hbr
  rw [hM] at hp
  have hst : Stn q (packN M [] 0) (takeP q.1 (rs0 q.2) 8).2 := ⟨hp, hbr, by rw [takeP_t]; rfl, by rw [takeP_v]; rfl, by rw [takeP_step]; rfl, .inl ⟨rfl, by rw [takeP_fa]; rfl, by rw [takeP_fm]; rfl⟩⟩
  have hr : readP q.1 q.2 = smp q.1 M 0 [] (takeP q.1 (rs0 q.2) 8).2 := by unfold readP; rw [hM, Int.toNat_natCast]
  rw [hr] at h1 h2 h3 h4 ⊢
  obtain ⟨l1, l2, l3⟩ := smp_only (q := q) (M := M) M 0 [] _ rfl (by omega) (fun _ => hst) (fun k hk => by simp at hk) h1 h4
  refine ⟨h4, h3, l2, ?_⟩
  rw [packN_eq, l1]
  refine ext_eq l3.pos.gb hq l3.pos.ext ?_
  have a := l3.pos.pos
  have b := l3.pos.left
  omega
theorem read_back {q : Bt} {l : List Sm} (h : Is q l) : okP (readP q.1 q.2) ∧ (readP q.1 q.2).1 = l := by
  obtain ⟨hg, hl, hv, hp⟩ := h
  have hext : Ext (bAdd ([], 0) (l.length : Int) 8) q := by
    have := ext_packsN l q hp hl 0 (Nat.zero_le _)
    exact this
  obtain ⟨t1, t2, t3⟩ := take_back (pos0 q) rfl hext
  have e8 : (2 : Int) ^ 8 = 256 := by decide
  have hM : (takeP q.1 (rs0 q.2) 8).1 = (l.length : Int) := by rw [t1, e8]; omega
  have hst : Stn q (packN l.length l 0) (takeP q.1 (rs0 q.2) 8).2 := ⟨t3, t2, by rw [takeP_t]; rfl, by rw [takeP_v]; rfl, by rw [takeP_step]; rfl, .inl ⟨rfl, by rw [takeP_fa]; rfl, by rw [takeP_fm]; rfl⟩⟩
  have hr : readP q.1 q.2 = smp q.1 l.length 0 (l.take 0) (takeP q.1 (rs0 q.2) 8).2 := by unfold readP; rw [hM, Int.toNat_natCast]; rfl
  obtain ⟨s1, s2⟩ := smp_back hg hl hv hp l.length 0 _ (by omega) hst
  rw [hr]
  refine ⟨⟨s2.br, ?_, ?_, ?_⟩, s1⟩
  · have a := s2.pos.pos
    have b := s2.pos.left
    rw [← packN_eq, hp] at a
    omega
  · rw [s1]; exact hl
  · rw [s1]; exact hg
end Go.Proofs.YteblbcbfaomdmaaDoor.Chk
/- The model's reader of bits: take, ones, bend. -/
namespace Go.Proofs.YteblbcbfaomdmaaDoor.Chk
open Go.RowKit Go.Proofs.YteblbcbfaomdmaaDoor.Bts
open Go.Proofs.YteblbcbfaomdmaaDoor.Smp hiding hid ret_int below_drewN

abbrev Mp := Nat × Bool
structure Lr (w : World) (R : Nat) (a : Option Addr) (n c s : Nat) (zs : List Int) (P : Mp) : Prop where
  box : w.heap[R]? = some (.cells #[.slice a n c, .int .i64 (s : Int), .int .i64 (P.1 : Int), .bool P.2] 96 (0, 0))
  dat : Dat w R a zs
theorem Lr.grown {w w' : World} {R : Nat} {a : Option Addr} {n c s : Nat} {zs : List Int} {P P' : Mp} (h : Lr w R a n c s zs P) (hg : w.grownBy w' (some R)) (hb : w'.heap[R]? = some (.cells #[.slice a n c, .int .i64 (s : Int), .int .i64 (P'.1 : Int), .bool P'.2] 96 (0, 0))) : Lr w' R a n c s zs P' := ⟨hb, h.dat.grown hg⟩
def takeM (zs : List Int) (s : Nat) (P : Mp) (m : Nat) : Int × Mp := ((takeOf zs s P.1 m).1, (P.1 + m, P.2 && (takeOf zs s P.1 m).2))
def onesM (zs : List Int) (s : Nat) : Nat → Mp → Nat × Mp
  | 0, P => (0, P)
  | f + 1, P => if (takeM zs s P 1).1 = 1 then ((onesM zs s f (takeM zs s P 1).2).1 + 1, (onesM zs s f (takeM zs s P 1).2).2) else (0, (takeM zs s P 1).2)
theorem onesM_le (zs : List Int) (s : Nat) : ∀ f P, (onesM zs s f P).1 ≤ f ∧ (onesM zs s f P).2.1 ≤ P.1 + f := by
  intro f
  induction f with
  | zero => intro P; exact ⟨Nat.le_refl _, Nat.le_refl _⟩
  | succ f ih =>
    intro P
    have := ih (takeM zs s P 1).2
    unfold onesM
    split
    · refine ⟨Nat.succ_le_succ this.1, ?_⟩
      have h2 := this.2
      have e : (takeM zs s P 1).2.1 = P.1 + 1 := rfl
      rw [e] at h2
      show (onesM zs s f (takeM zs s P 1).2).2.1 ≤ _
      omega
    · exact ⟨Nat.zero_le _, by show P.1 + 1 ≤ _; omega⟩
/-- What a class's bend is read as. -/
def bendK (zs : List Int) (s : Nat) : Nat → Mp → Int × Mp
  | 0, Q => (0, Q)
  | 1, Q => ((takeM zs s Q 7).1 - 63, (takeM zs s Q 7).2)
  | 2, Q => ((takeM zs s Q 9).1 - 255, (takeM zs s Q 9).2)
  | 3, Q => ((takeM zs s Q 12).1 - 2047, (takeM zs s Q 12).2)
  | _, Q => takeM zs s Q 64
def bendM (zs : List Int) (s : Nat) (P : Mp) : Int × Mp := bendK zs s (onesM zs s 4 P).1 (onesM zs s 4 P).2
theorem takeM_bd (zs : List Int) (s : Nat) (P : Mp) (m : Nat) (hm : m ≤ 63) : 0 ≤ (takeM zs s P m).1 ∧ (takeM zs s P m).1 < 2 ^ m := by
  show 0 ≤ (takeOf zs s P.1 m).1 ∧ (takeOf zs s P.1 m).1 < 2 ^ m
  unfold takeOf
  split
  · rw [Int.toNat_natCast, Int.toNat_natCast]
    have h0 := tk_lo zs P.1 m
    have h1 := tk_hi zs P.1 m
    have h2 := p64 m (by omega)
    show 0 ≤ wrap64 (tk zs P.1 m) ∧ wrap64 (tk zs P.1 m) < 2 ^ m
    generalize tk zs P.1 m = x at *
    generalize (2 : Int) ^ m = y at *
    simp only [wrap64]; omega
  · exact ⟨Int.le_refl _, Int.pow_pos (by decide)⟩
theorem takeM_in64 (zs : List Int) (s : Nat) (P : Mp) (m : Nat) : -9223372036854775808 ≤ (takeM zs s P m).1 ∧ (takeM zs s P m).1 ≤ 9223372036854775807 := by
  show -9223372036854775808 ≤ (takeOf zs s P.1 m).1 ∧ (takeOf zs s P.1 m).1 ≤ 9223372036854775807
  unfold takeOf
  split
  · simp only [wrap64]; omega
  · exact ⟨by decide, by decide⟩
/-- What stays the same. -/
structure Mk0 (n s : Nat) (zs : List Int) : Prop where
  dk : Dk n zs
  s0 : s ≤ 80000
  s8 : s ≤ 8 * n
theorem has_dat {w : World} {R : Nat} {a : Option Addr} {zs : List Int} (h : Dat w R a zs) : Byt.Has w a zs := by
  rcases h with h | ⟨b, off, h1, h2, _, h4⟩
  · exact .inl h
  · exact .inr ⟨b, off, h1, h2, h4⟩
abbrev S96 (R : Nat) (a : Option Addr) (n c : Nat) (s p : Int) (w' : World) : Prop := w'.cell? ⟨R, 0, none⟩ = some (.slice a n c) ∧ w'.cell? ⟨R, 1, none⟩ = some (.int .i64 s) ∧ w'.cell? ⟨R, 2, none⟩ = some (.int .i64 p)

set_option maxRecDepth 100000 in
set_option maxHeartbeats 4000000 in
theorem f70 {w : World} {R : Nat} {a : Option Addr} {n c s : Nat} {zs : List Int} {P : Mp} (m : Nat) (hk : Mk0 n s zs) (h : Lr w R a n c s zs P) (hm : m ≤ 64) (hp : P.1 ≤ 1000000) :
    Calls Tryd.prog 70 #[.pointer (some ⟨R, 0, none⟩), .int .i64 m] w fun e w' => e = .returned (.int .i64 (takeM zs s P m).1) ∧ Lr w' R a n c s zs (takeM zs s P m).2 ∧ w.grownBy w' (some R) := by
  obtain ⟨p, ok⟩ := P
  have HD := hid h
  have hs0 := hk.s0
  have hs8 := hk.s8
  have HK := hid hk
  have HS : Hid (S96 R a n c (s : Int) (p : Int) w) := ⟨cell_at h.box 0, cell_at h.box 1, cell_at h.box 2⟩
  have hT := fun (W : World) (hr : Byt.Has W a zs) => f83 a n c (s : Int) (p : Int) (m : Int) zs W HK.out.dk.len HK.out.dk.le hr HK.out.dk.byte (by omega) (by omega) (by omega) (by simp only at hp; omega) (by simp only at hp; omega) (by omega) (by omega)
  obtain ⟨x, b, hxb⟩ : ∃ x b, takeOf zs s p m = (x, b) := ⟨_, _, rfl⟩
  rw [hxb] at hT
  have HE : Hid (takeM zs s (p, ok) m = (x, (p + m, ok && b))) := by unfold Hid takeM; rw [hxb]
  have HT := hid hT
  simp only at hp
  clear h hk hT hxb
  go_enter Tryd.func70, Tryd.ntmps70
  go_wp2_with fail
  go_region_held3 (fun w' => S96 R a n c (s : Int) (p : Int) w') (first | exact HS.out | assumption) (first | (go_at_call 83; refine (HT.out (World.drew _) (has_dat (HD.out.dat.grown (w' := World.drew _) ⟨rfl, rfl, rfl, Nat.le_refl _, fun _ _ _ => rfl⟩))).mono ?_; rintro e w1 ⟨rfl, hb1⟩; have hx1 := box_below (w := World.drew _) HD.out.box hb1; have hs1 : S96 R a n c (s : Int) (p : Int) w1 := ⟨cell_at hx1 0, cell_at hx1 1, cell_at hx1 2⟩))
  have HG1 := hid (grown_heap (w := w) (grown_bel (r := some R) hb1) rfl rfl rfl rfl)
  have c2 : w1.cell? ⟨R, 2, none⟩ = some (.int .i64 (p : Int)) := cell_at hx1 2
  have c3 : w1.cell? ⟨R, 3, none⟩ = some (.bool ok) := cell_at hx1 3
  have f2 := froz_at hx1 2
  have f3 := froz_at hx1 3
  have HX1 := hid hx1
  have HX2 := hid (set_cell (o := 3) (x := .bool (ok && b)) hx1)
  have HX3 := hid (set_cell (o := 2) (x := .int .i64 ((p : Int) + (m : Int))) HX2.out)
  have HG3 := hid (grown_set (o := 2) (grown_set (o := 3) HG1.out (.bool (ok && b))) (.int .i64 ((p : Int) + (m : Int))))
  have d2 : (w1.setCell ⟨R, 3, none⟩ (.bool (ok && b))).cell? ⟨R, 2, none⟩ = some (.int .i64 (p : Int)) := cell_at HX2.out 2
  clear hb1 hx1 hs1
  cases ok with
  | true =>
    simp only [Bool.true_and] at HX2 HX3 HG3 d2 HE
    go_wp2
    go_ret
    rw [HE.out]
    exact ⟨rfl, HD.out.grown HG3.out (by simpa using HX3.out), HG3.out⟩
  | false =>
    simp only [Bool.false_and] at HX2 HX3 HG3 d2 HE
    go_wp2
    go_ret
    rw [HE.out]
    exact ⟨rfl, HD.out.grown HG3.out (by simpa using HX3.out), HG3.out⟩
end Go.Proofs.YteblbcbfaomdmaaDoor.Chk
/- The model's reader of bits: ones, bend. -/
namespace Go.Proofs.YteblbcbfaomdmaaDoor.Chk
open Go.RowKit Go.Proofs.YteblbcbfaomdmaaDoor.Bts
open Go.Proofs.YteblbcbfaomdmaaDoor.Smp hiding hid ret_int below_drewN

theorem onesM_step {zs : List Int} {s M k : Nat} {r : Nat × Mp} {P : Mp} (hk : k < M) (h : r = (k + (onesM zs s (M - k) P).1, (onesM zs s (M - k) P).2)) :
    ((takeM zs s P 1).1 = 1 → r = (k + 1 + (onesM zs s (M - (k + 1)) (takeM zs s P 1).2).1, (onesM zs s (M - (k + 1)) (takeM zs s P 1).2).2)) ∧ (¬ (takeM zs s P 1).1 = 1 → r = (k, (takeM zs s P 1).2)) := by
  obtain ⟨f, hf⟩ : ∃ f, M - k = f + 1 := ⟨M - k - 1, by omega⟩
  rw [hf] at h
  rw [show M - (k + 1) = f by omega]
  constructor
  · intro h1
    rw [h, onesM, if_pos h1]
    exact Prod.ext (by show k + (_ + 1) = k + 1 + _; omega) rfl
  · intro h1
    rw [h, onesM, if_neg h1]; rfl
set_option maxHeartbeats 4000000 in
theorem f72 {w : World} {R : Nat} {a : Option Addr} {n c s : Nat} {zs : List Int} {P : Mp} (M : Nat) (hk : Mk0 n s zs) (h : Lr w R a n c s zs P) (hM : M ≤ 4) (hp : P.1 ≤ 900000) :
    Calls Tryd.prog 72 #[.pointer (some ⟨R, 0, none⟩), .int .i64 M] w fun e w' => e = .returned (.int .i64 ((onesM zs s M P).1 : Nat)) ∧ Lr w' R a n c s zs (onesM zs s M P).2 ∧ w.grownBy w' (some R) := by
  have HK := hid hk
  have HD := hid h
  obtain ⟨r, hr⟩ : ∃ r, r = onesM zs s M P := ⟨_, rfl⟩
  rw [← hr]
  have HR := hid hr
  clear hk h hr
  go_enter Tryd.func72, Tryd.ntmps72
  go_wp2
  go_loopw [5] (fun so wr => ∃ (k : Nat) (P' : Mp), k ≤ M ∧ so = .int .i64 k ∧ r = (k + (onesM zs s (M - k) P').1, (onesM zs s (M - k) P').2) ∧ P'.1 ≤ P.1 + k ∧ Lr wr R a n c s zs P' ∧ w.grownBy wr (some R)) (fun so _ => M - (intOf so).toNat)
  case atStart => exact ⟨0, P, Nat.zero_le _, rfl, by rw [HR.out]; exact Prod.ext (by show _ = 0 + _; rw [Nat.zero_add]; rfl) rfl, Nat.le_refl _, HD.out, grown_rfl _ _⟩
  case round =>
    obtain ⟨k, P', hk, rfl, hon, hpp, hlr, hgr⟩ := hrel
    have HO := hid hon
    have HL := hid hlr
    have HG := hid hgr
    clear hon hlr hgr
    by_cases hlt : k < M
    · have HST := hid (onesM_step hlt HO.out)
      go_wp2_with fail
      refine (f70 1 HK.out HL.out (by omega) (by omega)).mono ?_
      rintro e w1 ⟨rfl, hl1, hg1⟩
      have HL1 := hid hl1
      have HG1 := hid (grown_tr HG.out hg1)
      clear hl1 hg1 HL HG HO
      by_cases h1 : (takeM zs s P' 1).1 = 1
      · have HO := hid (HST.out.1 h1)
        have h1' : ((takeM zs s P' 1).1 == 1) = true := by rw [h1]; rfl
        clear h1
        go_wp2
        go_roundw
        case rel => exact ⟨k + 1, (takeM zs s P' 1).2, by omega, by go_num, HO.out, by show P'.1 + 1 ≤ _; omega, HL1.out, HG1.out⟩
        case measure => simp [intOf]; omega
      · have HO := hid (HST.out.2 h1)
        have h1' : ((takeM zs s P' 1).1 == 1) = false := by simpa using h1
        clear h1
        go_wp2
        go_ret
        rw [HO.out]
        exact ⟨rfl, HL1.out, HG1.out⟩
    · go_wp2
      go_ret
      have e : k = M := by omega
      subst e
      have e2 := HO.out
      rw [Nat.sub_self] at e2
      rw [e2]
      exact ⟨rfl, HL.out, HG.out⟩
theorem bendM_of {zs : List Int} {s : Nat} {P Q : Mp} {k : Nat} (h : onesM zs s 4 P = (k, Q)) : bendM zs s P = bendK zs s k Q := by
  unfold bendM
  rw [h]
set_option maxHeartbeats 4000000 in
theorem f71 {w : World} {R : Nat} {a : Option Addr} {n c s : Nat} {zs : List Int} {P : Mp} (hk : Mk0 n s zs) (h : Lr w R a n c s zs P) (hp : P.1 ≤ 900000) :
    Calls Tryd.prog 71 #[.pointer (some ⟨R, 0, none⟩)] w fun e w' => e = .returned (.int .i64 (bendM zs s P).1) ∧ Lr w' R a n c s zs (bendM zs s P).2 ∧ w.grownBy w' (some R) := by
  have HK := hid hk
  have hO := f72 4 hk h (by omega) hp
  have hle := onesM_le zs s 4 P
  obtain ⟨k, Q, hkQ⟩ : ∃ k Q, onesM zs s 4 P = (k, Q) := ⟨_, _, rfl⟩
  have hB := bendM_of hkQ
  rw [hkQ] at hO hle
  have HO := hid hO
  simp only at hle
  obtain ⟨hk4, hQ⟩ := hle
  have HB := hid hB
  clear hO hB hk h hkQ
  go_enter Tryd.func71, Tryd.ntmps71
  go_wp2_with fail
  refine HO.out.mono ?_
  rintro e w1 ⟨rfl, hl1, hg1⟩
  have HL := hid hl1
  have HG := hid hg1
  clear hl1 hg1
  match k, hk4, HB with
  | 0, _, HB =>
    go_wp2
    go_ret
    rw [HB.out]
    exact ⟨rfl, HL.out, HG.out⟩
  | 1, _, HB =>
    have hb := takeM_bd zs s Q 7 (by omega)
    have h0 := hb.1
    have h1 : (takeM zs s Q 7).1 < 128 := hb.2
    clear hb
    go_wp2_with fail
    refine (f70 7 HK.out HL.out (by omega) (by omega)).mono ?_
    rintro e w2 ⟨rfl, hl2, hg2⟩
    go_wp2
    go_ret
    rw [HB.out]
    exact ⟨rfl, hl2, grown_tr HG.out hg2⟩
  | 2, _, HB =>
    have hb := takeM_bd zs s Q 9 (by omega)
    have h0 := hb.1
    have h1 : (takeM zs s Q 9).1 < 512 := hb.2
    clear hb
    go_wp2_with fail
    refine (f70 9 HK.out HL.out (by omega) (by omega)).mono ?_
    rintro e w2 ⟨rfl, hl2, hg2⟩
    go_wp2
    go_ret
    rw [HB.out]
    exact ⟨rfl, hl2, grown_tr HG.out hg2⟩
  | 3, _, HB =>
    have hb := takeM_bd zs s Q 12 (by omega)
    have h0 := hb.1
    have h1 : (takeM zs s Q 12).1 < 4096 := hb.2
    clear hb
    go_wp2_with fail
    refine (f70 12 HK.out HL.out (by omega) (by omega)).mono ?_
    rintro e w2 ⟨rfl, hl2, hg2⟩
    go_wp2
    go_ret
    rw [HB.out]
    exact ⟨rfl, hl2, grown_tr HG.out hg2⟩
  | 4, _, HB =>
    go_wp2_with fail
    refine (f70 64 HK.out HL.out (by omega) (by omega)).mono ?_
    rintro e w2 ⟨rfl, hl2, hg2⟩
    go_wp2
    go_ret
    rw [HB.out]
    exact ⟨rfl, hl2, grown_tr HG.out hg2⟩

/-! ### the model reads what the program reads, where that is not broken -/
theorem take_agree {zs : List Int} {s : Nat} {S : Rs} {m : Nat} (hm : m ≤ 64) (hs : S.pos + S.left = s) (hb : (takeP zs S m).2.br = false) : takeM zs s (S.pos, true) m = (wrap64 (takeP zs S m).1, ((takeP zs S m).2.pos, true)) := by
  by_cases hl : m ≤ S.left
  · rw [takeP_in hl]
    unfold takeM
    rw [take_in zs s S.pos m hm (by omega)]
    rfl
  · rw [takeP_out hl] at hb; exact absurd hb (by simp [Rs.brk])
theorem small64 {x : Int} (h0 : 0 ≤ x) (h1 : x < 9223372036854775808) : wrap64 x = x := by simp only [wrap64]; omega
theorem ones_agree {zs : List Int} {s : Nat} : ∀ f S, S.pos + S.left = s → (onesP zs f S).2.br = false → onesM zs s f (S.pos, true) = ((onesP zs f S).1, ((onesP zs f S).2.pos, true)) := by
  intro f
  induction f with
  | zero => intro S hs hb; rfl
  | succ f ih =>
    intro S hs hb
    have hb1 : (takeP zs S 1).2.br = false := by
      unfold onesP at hb
      split at hb
      · exact onesP_br _ _ _ hb
      · exact hb
    have hag := take_agree (m := 1) (by omega) hs hb1
    have hbd := takeP_bd zs S 1
    have e1 : (2 : Int) ^ 1 = 2 := rfl
    rw [small64 hbd.1 (by omega)] at hag
    unfold onesP at hb ⊢
    unfold onesM
    rw [hag]
    split at hb
    · rename_i h1
      rw [if_pos h1, if_pos h1]
      dsimp only
      rw [ih (takeP zs S 1).2 (by rw [takeP_sum]; exact hs) hb]
    · rename_i h1
      rw [if_neg h1, if_neg h1]
theorem bend_agree {zs : List Int} {s : Nat} {S : Rs} (hs : S.pos + S.left = s) (hb : (bendP zs S).2.br = false) : bendM zs s (S.pos, true) = ((bendP zs S).1, ((bendP zs S).2.pos, true)) := by
  unfold bendP at hb ⊢
  dsimp only at hb ⊢
  split at hb
  · rename_i he
    rw [if_pos he]
    have hb' : (takeP zs (onesP zs 4 S).2 (cls (onesP zs 4 S).1).2.2.2.toNat).2.br = false := hb
    have hb1 := takeP_br hb'
    have hag := ones_agree 4 S hs hb1
    have hk := onesP_le zs 4 S
    have hsum := (onesP_keep zs 4 S).2.2.2.2.2
    rw [bendM_of hag]
    unfold bendV bendS
    generalize hO : onesP zs 4 S = O at *
    obtain ⟨k, T⟩ := O
    have hT : T.pos + T.left = s := by simp only at hsum; omega
    simp only at hk hb' ⊢
    match k, hk, hb' with
    | 0, _, hb' =>
      have e : takeP zs T (cls 0).2.2.2.toNat = (0, { T with pos := T.pos + 0, left := T.left - 0 }) := takeP_in (S := T) (m := 0) (Nat.zero_le _)
      rw [e]
      show ((0 : Int), T.pos, true) = (wrap64 (0 + wrap64 0), T.pos, true)
      exact Prod.ext (by simp only [wrap64]; omega) rfl
    | 1, _, hb' =>
      have hag := take_agree (zs := zs) (m := 7) (by omega) hT hb'
      have hbd := takeP_bd zs T 7
      have e1 : (2 : Int) ^ 7 = 128 := by decide
      show ((takeM zs s (T.pos, true) 7).1 - 63, (takeM zs s (T.pos, true) 7).2) = (wrap64 (-63 + wrap64 (takeP zs T 7).1), (takeP zs T 7).2.pos, true)
      rw [hag]
      exact Prod.ext (by simp only [wrap64]; omega) rfl
    | 2, _, hb' =>
      have hag := take_agree (zs := zs) (m := 9) (by omega) hT hb'
      have hbd := takeP_bd zs T 9
      have e1 : (2 : Int) ^ 9 = 512 := by decide
      show ((takeM zs s (T.pos, true) 9).1 - 255, (takeM zs s (T.pos, true) 9).2) = (wrap64 (-255 + wrap64 (takeP zs T 9).1), (takeP zs T 9).2.pos, true)
      rw [hag]
      exact Prod.ext (by simp only [wrap64]; omega) rfl
    | 3, _, hb' =>
      have hag := take_agree (zs := zs) (m := 12) (by omega) hT hb'
      have hbd := takeP_bd zs T 12
      have e1 : (2 : Int) ^ 12 = 4096 := by decide
      show ((takeM zs s (T.pos, true) 12).1 - 2047, (takeM zs s (T.pos, true) 12).2) = (wrap64 (-2047 + wrap64 (takeP zs T 12).1), (takeP zs T 12).2.pos, true)
      rw [hag]
      exact Prod.ext (by simp only [wrap64]; omega) rfl
    | 4, _, hb' =>
      have hag := take_agree (zs := zs) (m := 64) (by omega) hT hb'
      show takeM zs s (T.pos, true) 64 = (wrap64 (0 + wrap64 (takeP zs T 64).1), (takeP zs T 64).2.pos, true)
      rw [hag]
      exact Prod.ext (by simp only [wrap64]; omega) rfl
  · exact absurd hb (by simp [Rs.brk])
/-- A turn by how many ones stand ahead of it. -/
noncomputable def turnK (zs : List Int) : Nat → Rs → Int × Rs
  | 0, T => (0, T)
  | 1, T => oldT zs T
  | _, T => newT zs (takeP zs (takeP zs T 6).2 6).2 (takeP zs T 6).1.toNat ((takeP zs (takeP zs T 6).2 6).1.toNat + 1)
theorem turn_form (zs : List Int) (S : Rs) : turnP zs S = turnK zs (onesP zs 2 S).1 (onesP zs 2 S).2 := by
  unfold turnP
  by_cases hx : (takeP zs S 1).1 = 0
  · have h1 : ¬ (takeP zs S 1).1 = 1 := by omega
    have e : onesP zs 2 S = (0, (takeP zs S 1).2) := by rw [onesP, if_neg h1]
    rw [if_pos hx, e]; rfl
  · have h1 := bit_cases hx
    rw [if_neg hx]
    dsimp only
    by_cases hy : (takeP zs (takeP zs S 1).2 1).1 = 1
    · have e : onesP zs 2 S = (2, (takeP zs (takeP zs S 1).2 1).2) := by rw [onesP, if_pos h1, onesP, if_pos hy]; rfl
      rw [if_pos hy, e]; rfl
    · have e : onesP zs 2 S = (1, (takeP zs (takeP zs S 1).2 1).2) := by rw [onesP, if_pos h1, onesP, if_neg hy]
      rw [if_neg hy, e]; rfl
end Go.Proofs.YteblbcbfaomdmaaDoor.Chk
/- Plain: what the model reads of a chunk, a sample at a time. -/
namespace Go.Proofs.YteblbcbfaomdmaaDoor.Chk
open Go.RowKit Go.Proofs.YteblbcbfaomdmaaDoor.Bts
open Go.Proofs.YteblbcbfaomdmaaDoor.Smp hiding hid ret_int below_drewN

theorem wrap_mul (x y : Int) : wrap64 (wrap64 x * y) = wrap64 (x * y) := by
  have h : wrap64 x = x - 18446744073709551616 * ((x + 9223372036854775808) / 18446744073709551616) := by simp only [wrap64]; omega
  rw [h, Int.sub_mul, Int.mul_assoc]
  generalize (x + 9223372036854775808) / 18446744073709551616 * y = z
  generalize x * y = u
  simp only [wrap64]; omega
theorem FR.of {f : Fm} {S T : Rs} (h : FR f S) (h1 : T.fa = S.fa) (h2 : T.fm = S.fm) : FR f T := by unfold FR; rw [h1, h2]; exact h
/-- The old frame. -/
theorem sw1 {zs : List Int} {s : Nat} {T : Rs} {f : Fm} (hT : T.pos + T.left = s) (hf : FR f T) (hb : (oldT zs T).2.br = false) :
    ∃ l t, f = some (l, t) ∧ 64 - l - t = T.fm ∧ (takeM zs s (T.pos, true) (64 - l - t)).2 = ((oldT zs T).2.pos, true) ∧ wrap64 ((takeM zs s (T.pos, true) (64 - l - t)).1 * 2 ^ t) = wrap64 (oldT zs T).1 ∧ FR f (oldT zs T).2 := by
  have hbt : (takeP zs T T.fm).2.br = false := by
    unfold oldT at hb
    dsimp only at hb
    split at hb
    · simp [Rs.brk] at hb
    · exact hb
  have hnz : ¬ (takeP zs T T.fm).1 * 2 ^ (64 - T.fa - T.fm) = 0 := by
    intro e
    unfold oldT at hb
    dsimp only at hb
    rw [if_pos e] at hb
    simp [Rs.brk] at hb
  have e : oldT zs T = ((takeP zs T T.fm).1 * 2 ^ (64 - T.fa - T.fm), (takeP zs T T.fm).2) := by
    unfold oldT; dsimp only; rw [if_neg hnz]
  rcases hf with ⟨rfl, e1, e2⟩ | ⟨k, rfl, hk, hk1⟩
  · exfalso
    have hbd := takeP_bd zs T T.fm
    rw [e2] at hbd hnz
    have : (2 : Int) ^ 0 = 1 := rfl
    exact hnz (by rw [show (takeP zs T 0).1 = 0 by omega]; simp)
  · have hm : 64 - T.fa - k = T.fm := by omega
    have hag := take_agree (zs := zs) (s := s) (S := T) (m := T.fm) (by omega) hT hbt
    refine ⟨T.fa, k, rfl, hm, ?_, ?_, ?_⟩
    · rw [hm, hag, e]
    · rw [hm, hag, e]
      show wrap64 (wrap64 _ * 2 ^ k) = wrap64 (_ * 2 ^ (64 - T.fa - T.fm))
      rw [wrap_mul, show 64 - T.fa - T.fm = k by omega]
    · rw [e]
      exact FR.of (.inr ⟨k, rfl, hk, hk1⟩) (takeP_fa _ _ _) (takeP_fm _ _ _)
/-- A new frame. -/
theorem sw2 {zs : List Int} {s : Nat} {T : Rs} (hT : T.pos + T.left = s) (hb : (turnK zs 2 T).2.br = false) :
    ∃ A m : Nat, A ≤ 63 ∧ 1 ≤ m ∧ m ≤ 64 ∧ A + m ≤ 64 ∧ ∃ P1 P2 : Nat, takeM zs s (T.pos, true) 6 = ((A : Int), (P1, true)) ∧ takeM zs s (P1, true) 6 = ((m : Int) - 1, (P2, true)) ∧ (takeM zs s (P2, true) m).2 = ((turnK zs 2 T).2.pos, true) ∧
      wrap64 ((takeM zs s (P2, true) m).1 * 2 ^ (64 - A - m)) = wrap64 (turnK zs 2 T).1 ∧ FR (some (A, 64 - A - m)) (turnK zs 2 T).2 := by
  obtain ⟨A, hA, hA63⟩ := take6 zs T
  obtain ⟨B, hB, hB63⟩ := take6 zs (takeP zs T 6).2
  have eK : turnK zs 2 T = newT zs (takeP zs (takeP zs T 6).2 6).2 A (B + 1) := by
    show newT zs _ _ _ = _
    rw [hA, hB]; rfl
  rw [eK] at hb ⊢
  have b2 : (takeP zs (takeP zs T 6).2 6).2.br = false := (newT_keep zs _ A (B + 1)).2 hb
  have b1 := takeP_br b2
  have a1 := take_agree (zs := zs) (s := s) (S := T) (m := 6) (by omega) hT b1
  have a2 := take_agree (zs := zs) (s := s) (S := (takeP zs T 6).2) (m := 6) (by omega) (by rw [takeP_sum]; exact hT) b2
  rw [hA, small64 (by omega) (by omega)] at a1
  rw [hB, small64 (by omega) (by omega)] at a2
  have hT2 : (takeP zs (takeP zs T 6).2 6).2.pos + (takeP zs (takeP zs T 6).2 6).2.left = s := by rw [takeP_sum, takeP_sum]; exact hT
  generalize hV : (takeP zs (takeP zs T 6).2 6).2 = V at *
  have hs : ¬ 64 < A + (B + 1) := by
    intro h
    unfold newT at hb
    rw [if_pos h] at hb
    simp [Rs.brk] at hb
  have hbt : (takeP zs V (B + 1)).2.br = false := by
    unfold newT at hb
    rw [if_neg hs] at hb
    dsimp only at hb
    split at hb
    · simp at hb
    · exact hb
  have eN : (newT zs V A (B + 1)).1 = (takeP zs V (B + 1)).1 * 2 ^ (64 - A - (B + 1)) ∧ (newT zs V A (B + 1)).2.pos = (takeP zs V (B + 1)).2.pos ∧ (newT zs V A (B + 1)).2.fa = A ∧ (newT zs V A (B + 1)).2.fm = B + 1 := by
    unfold newT
    rw [if_neg hs]
    dsimp only
    refine ⟨rfl, ?_, ?_, ?_⟩ <;> (split <;> rfl)
  have a3 := take_agree (zs := zs) (s := s) (S := V) (m := B + 1) (by omega) hT2 hbt
  refine ⟨A, B + 1, hA63, by omega, by omega, by omega, (takeP zs T 6).2.pos, V.pos, a1, ?_, ?_, ?_, ?_⟩
  · rw [a2]; exact Prod.ext (by show (B : Int) = ((B + 1 : Nat) : Int) - 1; omega) rfl
  · rw [a3, eN.2.1]
  · rw [a3, eN.1]; exact wrap_mul _ _
  · exact .inr ⟨64 - A - (B + 1), by rw [eN.2.2.1], by rw [eN.2.2.1, eN.2.2.2]; omega, by rw [eN.2.2.2]; omega⟩
theorem packN_tv (n : Nat) (ls : List Sm) (k : Nat) : (packN n ls (k + 1)).t = (ls.getD k e0).1 ∧ (packN n ls (k + 1)).v = (ls.getD k e0).2 := by
  rw [packN]
  split <;> exact ⟨rfl, rfl⟩
/-- What is known of the model's reader where the bits are the chunk of l0. -/
structure Kn (q : Bt) (l0 : List Sm) (i : Nat) (P : Mp) (f : Fm) (step : Int) (L : List Sm) (S : Rs) : Prop where
  ok : P.2 = true
  L : L = l0.take i
  st : Stn q (packN l0.length l0 i) S
  pos : S.pos = P.1
  step : S.step = step
  fr : FR f S
/-- A sample more. -/
structure Kx (q : Bt) (l0 : List Sm) (i : Nat) (P : Mp) (f : Fm) (step : Int) (L : List Sm) (S : Rs) : Prop where
  bend : bendM q.1 q.2 P = ((bendP q.1 S).1, ((bendP q.1 S).2.pos, true))
  ones : onesM q.1 q.2 2 (bendM q.1 q.2 P).2 = ((onesP q.1 2 (timeS q.1 S)).1, ((onesP q.1 2 (timeS q.1 S)).2.pos, true))
  turn : (turnK q.1 (onesP q.1 2 (timeS q.1 S)).1 (onesP q.1 2 (timeS q.1 S)).2).2.br = false
  sum : (onesP q.1 2 (timeS q.1 S)).2.pos + (onesP q.1 2 (timeS q.1 S)).2.left = q.2
  fr : FR f (onesP q.1 2 (timeS q.1 S)).2
  t : wrap64 ((L.getD (i - 1) e0).1 + wrap64 (step + (bendP q.1 S).1)) = (l0.getD i e0).1
  v : bits .xor .i64 (L.getD (i - 1) e0).2 (wrap64 (turnP q.1 (timeS q.1 S)).1) = (l0.getD i e0).2
  st : Stn q (packN l0.length l0 (i + 1)) (nextP q.1 S)
  step : (nextP q.1 S).step = wrap64 (step + (bendP q.1 S).1)
theorem kn_next {q : Bt} {l0 : List Sm} {i : Nat} {P : Mp} {f : Fm} {step : Int} {L : List Sm} {S : Rs} (hi : Is q l0) (h : Kn q l0 i P f step L S) (h0 : 0 < i) (hlt : i < l0.length) : Kx q l0 i P f step L S := by
  obtain ⟨hg, hl, hv, hp⟩ := hi
  obtain ⟨k, rfl⟩ : ∃ k, i = k + 1 := ⟨i - 1, by omega⟩
  obtain ⟨p, ok⟩ := P
  have hok : ok = true := h.ok
  subst hok
  have hpos : p = S.pos := h.pos.symm
  subst hpos
  have hext := ext_packsN l0 q hp hl (k + 1 + 1) (by omega)
  rw [packN, if_neg (by omega)] at hext
  obtain ⟨l1, l2, l3⟩ := packN_last (n := l0.length) hg k (by omega)
  have ht : Tm (packN l0.length l0 (k + 1)).t := by rw [l1]; exact (hg.2 k (by omega)).1
  have hti := (hg.2 (k + 1) hlt).1
  have hvi := hv (k + 1) hlt
  obtain ⟨b1, b2, b3⟩ := next_back h.st ht ⟨l2, l3⟩ hti hvi.1 hvi.2 hext
  have hbt : (turnP q.1 (timeS q.1 S)).2.br = false := b1
  have hbb : (bendP q.1 S).2.br = false := (turnP_all q.1 (timeS q.1 S)).2 hbt
  have hsum := h.st.pos.left
  have hB := bend_agree (zs := q.1) (s := q.2) (S := S) hsum hbb
  have hbt2 := hbt
  rw [turn_form] at hbt2
  have hbo : (onesP q.1 2 (timeS q.1 S)).2.br = false := by
    generalize onesP q.1 2 (timeS q.1 S) = O at hbt2
    obtain ⟨j, T⟩ := O
    match j, hbt2 with
    | 0, hb => exact hb
    | 1, hb => exact (oldT_keep q.1 T).2 hb
    | j + 2, hb => exact takeP_br (takeP_br ((newT_keep q.1 _ _ _).2 hb))
  have hO := ones_agree (zs := q.1) (s := q.2) 2 (timeS q.1 S) (by rw [timeS_sum]; exact hsum) hbo
  have hko := onesP_keep q.1 2 (timeS q.1 S)
  have hk1 := turnP_keep q.1 (timeS q.1 S)
  have hk2 := bendP_keep q.1 S
  have hLk : L.getD (k + 1 - 1) e0 = l0.getD k e0 := by
    rw [h.L, Nat.add_sub_cancel, List.getD_eq_getElem?_getD, List.getD_eq_getElem?_getD, List.getElem?_take, if_pos (by omega)]
  obtain ⟨tv1, tv2⟩ := packN_tv l0.length l0 k
  refine ⟨hB, ?_, hbt2, ?_, ?_, ?_, ?_, ?_, ?_⟩
  · rw [hB]; exact hO
  · rw [hko.2.2.2.2.2, timeS_sum]; exact hsum
  · exact FR.of h.fr (by rw [hko.2.2.2.1]; exact (timeS_fr q.1 S).1) (by rw [hko.2.2.2.2.1]; exact (timeS_fr q.1 S).2)
  · rw [hLk, ← tv1, ← h.st.t, ← h.step]
    rw [← b2]
    show _ = (turnP q.1 (timeS q.1 S)).2.t
    rw [hk1.1]
    show _ = wrap64 ((bendP q.1 S).2.t + wrap64 ((bendP q.1 S).2.step + (bendP q.1 S).1))
    rw [hk2.1, hk2.2.2.1]
  · rw [hLk, ← tv2, ← h.st.v, ← b3]
    show _ = bits .xor .i64 (turnP q.1 (timeS q.1 S)).2.v (wrap64 (turnP q.1 (timeS q.1 S)).1)
    rw [hk1.2.1]
    show _ = bits .xor .i64 (bendP q.1 S).2.v _
    rw [hk2.2.1]
  · have hso := next_only h.st ht ⟨l2, l3⟩ b1 (by rw [b2]; exact hti)
    rw [b2, b3] at hso
    rw [packN, if_neg (by omega)]; exact hso
  · show (turnP q.1 (timeS q.1 S)).2.step = _
    rw [hk1.2.2.1]
    show wrap64 ((bendP q.1 S).2.step + (bendP q.1 S).1) = _
    rw [hk2.2.2.1, h.step]
/-- The first sample. -/
theorem kn_first {q : Bt} {l0 : List Sm} {P : Mp} {f : Fm} {step : Int} {L : List Sm} {S : Rs} (hi : Is q l0) (h : Kn q l0 0 P f step L S) (hlt : 0 < l0.length) :
    takeM q.1 q.2 P 40 = ((l0.getD 0 e0).1, (takeM q.1 q.2 P 40).2) ∧ takeM q.1 q.2 (takeM q.1 q.2 P 40).2 64 = ((l0.getD 0 e0).2, ((firstP q.1 S).pos, true)) ∧ Kn q l0 1 ((firstP q.1 S).pos, true) f step (l0.take 1) (firstP q.1 S) := by
  obtain ⟨hg, hl, hv, hp⟩ := hi
  obtain ⟨p, ok⟩ := P
  have hok : ok = true := h.ok
  subst hok
  have hpos : p = S.pos := h.pos.symm
  subst hpos
  have hext := ext_packsN l0 q hp hl (0 + 1) (by omega)
  rw [packN, if_pos rfl] at hext
  have hti := (hg.2 0 hlt).1
  have hvi := hv 0 hlt
  obtain ⟨b1, b2, b3⟩ := first_back h.st hti hvi.1 hvi.2 hext
  have hb64 : (takeP q.1 (firstS q.1 S) 64).2.br = false := b1
  have hb40 : (takeP q.1 S 40).2.br = false := takeP_br (S := firstS q.1 S) hb64
  have hsum := h.st.pos.left
  have a1 := take_agree (zs := q.1) (s := q.2) (S := S) (m := 40) (by omega) hsum hb40
  have a2 := take_agree (zs := q.1) (s := q.2) (S := firstS q.1 S) (m := 64) (by omega) (by show (takeP q.1 S 40).2.pos + (takeP q.1 S 40).2.left = _; rw [takeP_sum]; exact hsum) hb64
  have hso := first_only h.st b1
  rw [b2, b3] at hso
  have hk := firstP_keep q.1 S
  refine ⟨?_, ?_, ⟨rfl, rfl, ?_, rfl, ?_, ?_⟩⟩
  · rw [a1]
    refine Prod.ext ?_ rfl
    show wrap64 (takeP q.1 S 40).1 = _
    rw [← b2]
    show _ = (takeP q.1 (firstS q.1 S) 64).2.t
    rw [takeP_t]; rfl
  · rw [a1]
    show takeM q.1 q.2 ((firstS q.1 S).pos, true) 64 = _
    rw [a2]
    exact Prod.ext (by rw [← b3]; rfl) rfl
  · show Stn q (packN l0.length l0 (0 + 1)) _
    rw [packN, if_pos rfl]; exact hso
  · show (takeP q.1 (firstS q.1 S) 64).2.step = _
    rw [takeP_step]
    show (takeP q.1 S 40).2.step = _
    rw [takeP_step, h.step]
  · exact FR.of h.fr hk.2.1 hk.2.2
end Go.Proofs.YteblbcbfaomdmaaDoor.Chk
/- The model's l6Unpack. -/
namespace Go.Proofs.YteblbcbfaomdmaaDoor.Chk
open Go.RowKit Go.Proofs.YteblbcbfaomdmaaDoor.Bts
open Go.Proofs.YteblbcbfaomdmaaDoor.Smp hiding hid ret_int below_drewN

def ld : Fm → Int
  | none => -1
  | some p => p.1
def tr : Fm → Int
  | none => 0
  | some p => p.2
structure Um (w : World) (R B0 : Nat) (a : Option Addr) (n c s : Nat) (P : Mp) (v : Value) (L : List Sm) (wr : World) : Prop where
  box : wr.heap[R]? = some (.cells #[.slice a n c, .int .i64 (s : Int), .int .i64 (P.1 : Int), .bool P.2] 96 (0, 0))
  bx : wr.heap[B0]? = some (.cells #[.slice a n c, .int .i64 (s : Int)] 26 (0, 0))
  own : Smp.Own wr w.heap.size v L
  bel : Below w.heap.size w wr
theorem Um.lr {w : World} {R B0 : Nat} {a : Option Addr} {n c s : Nat} {P : Mp} {v : Value} {L : List Sm} {wr : World} {zs : List Int} (h : Um w R B0 a n c s P v L wr) (hr : Byt.Has w a zs) (hR : w.heap.size ≤ R) : Lr wr R a n c s zs P := ⟨h.box, dat_of hr h.bel hR⟩
theorem Um.call {w : World} {R B0 : Nat} {a : Option Addr} {n c s : Nat} {P P' : Mp} {v : Value} {L : List Sm} {wr wy : World} {zs : List Int} (h : Um w R B0 a n c s P v L wr) (hl : Lr wy R a n c s zs P') (hg : wr.grownBy wy (some R)) (hB : B0 < R) (hR : w.heap.size ≤ R) : Um w R B0 a n c s P' v L wy :=
  ⟨hl.box, boxk h.bx hg (by omega), h.own.kept hg (own_ne h.own h.box (by intro cs q e; cases e)), h.bel.grown hg h.bel.size (by intro k hk; cases hk; exact hR)⟩
theorem Um.below {w : World} {R B0 : Nat} {a : Option Addr} {n c s : Nat} {P : Mp} {v : Value} {L : List Sm} {wr wy : World} (h : Um w R B0 a n c s P v L wr) (hb : Below wr.heap.size wr wy) : Um w R B0 a n c s P v L wy :=
  ⟨box_below h.box hb, box_below h.bx hb, h.own.below hb, h.bel.trans (hb.mono h.bel.size)⟩
theorem Um.push {w : World} {R B0 : Nat} {a : Option Addr} {n c s : Nat} {P : Mp} {v v' : Value} {L : List Sm} {p : Sm} {wr wy : World} (h : Um w R B0 a n c s P v L wr) (hg : wr.grownBy wy v.ownBlock) (ho : Smp.Own wy w.heap.size v' (L ++ [p])) : Um w R B0 a n c s P v' (L ++ [p]) wy := by
  have kp : ∀ {b : Nat} {o : Obj}, wr.heap[b]? = some o → (∀ cs q, o ≠ .cells cs 36 q) → wy.heap[b]? = some o := by
    intro b o hb hno
    have hlt : b < wr.heap.size := (Array.getElem?_eq_some_iff.1 hb).1
    rw [hg.block b hlt (fun e => own_ne h.own hb hno b e.symm rfl)]; exact hb
  exact ⟨kp h.box (by intro cs q e; cases e), kp h.bx (by intro cs q e; cases e), ho, h.bel.grown hg h.bel.size (fun k hk => (h.own.lt k hk).1)⟩
theorem Um.setX {w : World} {R B0 X o : Nat} {a : Option Addr} {n c s : Nat} {P : Mp} {v u : Value} {L : List Sm} {wr : World} (h : Um w R B0 a n c s P v L wr) (h1 : X ≠ R) (h2 : X ≠ B0) (h3 : ∀ k, v.ownBlock = some k → k ≠ X) (h4 : w.heap.size ≤ X) : Um w R B0 a n c s P v L (wr.setCell ⟨X, o, none⟩ u) := by
  have hg : wr.grownBy (wr.setCell ⟨X, o, none⟩ u) (some X) := grown_set (grown_rfl _ _) u
  exact ⟨boxk h.box hg (Ne.symm h1), boxk h.bx hg (Ne.symm h2), h.own.kept hg (fun k hk e => by cases e; exact h3 _ hk rfl), h.bel.grown hg h.bel.size (by intro k hk; cases hk; exact h4)⟩
theorem kn_start {q : Bt} {l0 : List Sm} (h : Is q l0) : takeM q.1 q.2 (0, true) 8 = ((l0.length : Int), ((takeP q.1 (rs0 q.2) 8).2.pos, true)) ∧ Kn q l0 0 ((takeP q.1 (rs0 q.2) 8).2.pos, true) none 0 [] (takeP q.1 (rs0 q.2) 8).2 := by
  obtain ⟨hg, hl, hv, hp⟩ := h
  have hext : Ext (bAdd ([], 0) (l0.length : Int) 8) q := ext_packsN l0 q hp hl 0 (Nat.zero_le _)
  obtain ⟨t1, t2, t3⟩ := take_back (pos0 q) rfl hext
  have e8 : (2 : Int) ^ 8 = 256 := by decide
  have hM : (takeP q.1 (rs0 q.2) 8).1 = (l0.length : Int) := by rw [t1, e8]; omega
  have hag := take_agree (zs := q.1) (s := q.2) (S := rs0 q.2) (m := 8) (by omega) (by show 0 + q.2 = q.2; omega) t2
  refine ⟨?_, ⟨rfl, rfl, ⟨t3, t2, by rw [takeP_t]; rfl, by rw [takeP_v]; rfl, by rw [takeP_step]; rfl, .inl ⟨rfl, by rw [takeP_fa]; rfl, by rw [takeP_fm]; rfl⟩⟩, rfl, by rw [takeP_step]; rfl, .inl ⟨rfl, by rw [takeP_fa]; rfl, by rw [takeP_fm]; rfl⟩⟩⟩
  show takeM q.1 q.2 ((rs0 q.2).pos, true) 8 = _
  rw [hag, hM, small64 (by omega) (by omega)]
theorem kn_end {q : Bt} {l0 : List Sm} {P : Mp} {f : Fm} {step : Int} {L : List Sm} {S : Rs} (hi : Is q l0) (h : Kn q l0 l0.length P f step L S) : L = l0 ∧ P.2 = true ∧ P.1 = q.2 := by
  refine ⟨by rw [h.L]; simp, h.ok, ?_⟩
  have a := h.st.pos.pos
  rw [← packN_eq, hi.2.2.2] at a
  rw [← h.pos]; exact a
theorem take1 {l0 : List Sm} (h : 0 < l0.length) : l0.take 1 = [l0.getD 0 e0] := by
  cases l0 with
  | nil => simp at h
  | cons x y => rfl
theorem take_snoc {l0 : List Sm} {i : Nat} (h : i < l0.length) : l0.take i ++ [l0.getD i e0] = l0.take (i + 1) := by
  have e : l0.getD i e0 = l0[i] := by simp [h]
  rw [List.take_succ_eq_append_getElem h, e]
theorem bendM_pos (zs : List Int) (s : Nat) (P : Mp) : (bendM zs s P).2.1 ≤ P.1 + 68 := by
  have h := onesM_le zs s 4 P
  unfold bendM
  generalize onesM zs s 4 P = O at *
  obtain ⟨k, Q⟩ := O
  simp only at h
  match k, h with
  | 0, h => show Q.1 ≤ _; omega
  | 1, h => show Q.1 + 7 ≤ _; omega
  | 2, h => show Q.1 + 9 ≤ _; omega
  | 3, h => show Q.1 + 12 ≤ _; omega
  | k + 4, h => show Q.1 + 64 ≤ _; omega
/-- What l6Unpack answers. -/
def Unm (w : World) (q : Bt) (l0 : List Sm) (e : Ending) (w' : World) : Prop :=
  ∃ v L b, e = .returned (.tuple #[v, .bool b]) ∧ Smp.Own w' w.heap.size v L ∧ L.length ≤ 255 ∧ Vfit L ∧ Below w.heap.size w w' ∧ (Is q l0 → L = l0 ∧ b = true)
theorem takeM8 (zs : List Int) (s : Nat) : ∃ M : Nat, (takeM zs s (0, true) 8).1 = (M : Int) ∧ M ≤ 255 := by
  have hb := takeM_bd zs s (0, true) 8 (by omega)
  have e8 : (2 : Int) ^ 8 = 256 := by decide
  exact ⟨(takeM zs s (0, true) 8).1.toNat, by omega, by omega⟩

set_option maxRecDepth 100000 in
set_option maxHeartbeats 16000000 in
theorem f55 (a : Option Addr) (n c s : Nat) (zs : List Int) (l0 : List Sm) (w : World) (hk : Mk0 n s zs) (hr : Byt.Has w a zs) :
    Calls Tryd.prog 55 #[.agg #[.slice a n c, .int .i64 (s : Int)]] w (Unm w (zs, s) l0) := by
  obtain ⟨i0, hinf, hz0, hz1, hz2⟩ := info_parts infoS
  have HK := hid hk
  have HR := hid hr
  have HX0 := hid (heap_alloc_new w (.cells #[.slice a n c, .int .i64 (s : Int)] 26))
  have HX1 := hid (heap_alloc_new (w.alloc (.cells #[.slice a n c, .int .i64 (s : Int)] 26)) (.cells #[.slice a n c, .int .i64 (s : Int), .int .i64 0, .bool true] 96))
  have HU0 : Hid (Um w (w.heap.size + 1) w.heap.size a n c s (0, true) (.slice none 0 0) [] ((w.alloc (.cells #[.slice a n c, .int .i64 (s : Int)] 26)).alloc (.cells #[.slice a n c, .int .i64 (s : Int), .int .i64 0, .bool true] 96))) := by
    have h1 := HX1.out
    rw [World.size_alloc] at h1
    exact ⟨h1, (Below.heap_alloc _ _ _ (by simp)).trans HX0.out, Smp.Own.nil _ _, ((Below.refl _ w).alloc (Nat.le_refl _) _).alloc (by simp) _⟩
  obtain ⟨M, hM, hM255⟩ := takeM8 zs s
  have hT8 := fun (W : World) (hl : Lr W (w.heap.size + 1) a n c s zs (0, true)) => f70 8 HK.out hl (by omega) (by show (0 : Nat) ≤ _; omega)
  rw [hM] at hT8
  have HT8 := hid hT8
  have HKS : Hid (Is (zs, s) l0 → M = l0.length ∧ Kn (zs, s) l0 0 (takeM zs s (0, true) 8).2 none 0 [] (takeP zs (rs0 s) 8).2) := by
    intro hi
    obtain ⟨k1, k2⟩ := kn_start hi
    have e1 := congrArg Prod.fst k1
    have e2 := congrArg Prod.snd k1
    simp only at e1 e2
    rw [e1] at hM
    refine ⟨by omega, ?_⟩
    rw [e2]; exact k2
  obtain ⟨P0, hP0⟩ : ∃ P0, P0 = (takeM zs s (0, true) 8).2 := ⟨_, rfl⟩
  have hP8 : P0.1 = 8 := by rw [hP0]; rfl
  rw [← hP0] at HT8 HKS
  clear hk hr HX0 HX1 hT8 hM hP0
  go_enter Tryd.func55, Tryd.ntmps55
  go_wp2_with fail
  refine (HT8.out _ (HU0.out.lr HR.out (by omega))).mono ?_
  rintro e w1 ⟨rfl, hl1, hg1⟩
  have HU1 := hid (HU0.out.call hl1 hg1 (by omega) (by omega))
  clear hl1 hg1 HU0 HT8
  go_wp2
  go_loopw [6, 7, 8, 9, 10] (fun s6 s7 s8 s9 s10 wr => ∃ (i : Nat) (P : Mp) (f : Fm) (step : Int) (L : List Sm) (S : Rs), i ≤ M ∧ s10 = .int .i64 i ∧ s7 = .int .i64 (ld f) ∧ s8 = .int .i64 (tr f) ∧ s9 = .int .i64 step ∧ FmOk f ∧ L.length = i ∧ P.1 ≤ 8 + 300 * i ∧ Vfit L ∧ Um w (w.heap.size + 1) w.heap.size a n c s P s6 L wr ∧ (Is (zs, s) l0 → M = l0.length ∧ Kn (zs, s) l0 i P f step L S)) (fun _ _ _ _ s10 _ => M - (intOf s10).toNat)
  case atStart => exact ⟨0, P0, none, 0, [], (takeP zs (rs0 s) 8).2, Nat.zero_le _, rfl, rfl, rfl, rfl, (by intro l t e; cases e), rfl, by omega, (fun k hk => by simp at hk), HU1.out, HKS.out⟩
  case round =>
    obtain ⟨i, P, f, step, L, S, hi, rfl, rfl, rfl, rfl, hfo, hLl, hPb, hvf, hum, hkn⟩ := hrel
    have HU := hid hum
    have HN := hid hkn
    have HV := hid hvf
    have HF := hid hfo
    have HL := hid hLl
    obtain ⟨av, cv', rfl⟩ := own_form hum.own
    have r2 : wr.cell? ⟨w.heap.size + 1, 2, none⟩ = some (.int .i64 (P.1 : Int)) := cell_at hum.box 2
    have r3 : wr.cell? ⟨w.heap.size + 1, 3, none⟩ = some (.bool P.2) := cell_at hum.box 3
    have b1 : wr.cell? ⟨w.heap.size, 1, none⟩ = some (.int .i64 (s : Int)) := cell_at hum.bx 1
    clear hum hkn hvf hfo
    cases hok : P.2 with
    | false =>
      rw [hok] at r3
      have HB : Hid (Is (zs, s) l0 → False) := fun h => by have := (HN.out h).2.ok; rw [hok] at this; cases this
      have hfin : ∀ nq, Unm w (zs, s) l0 (.returned (.tuple #[.slice av L.length cv', .bool false])) (wr.drewN nq) := fun nq => ⟨_, L, false, rfl, HU.out.own.below (below_drewN (Below.refl _ _) nq), by rw [HL.out]; omega, HV.out, below_drewN HU.out.bel nq, fun h => (HB.out h).elim⟩
      have HFI := hid hfin
      clear hfin
      by_cases hlt : i < M
      · go_wp2_with fail
        go_quiet (fail)
        go_wp2
        go_ret2
        exact HFI.out _
      · go_wp2_with fail
        go_quiet (fail)
        go_wp2
        go_ret2
        exact HFI.out _
    | true =>
      rw [hok] at r3
      by_cases hlt : i < M
      · have hdec : ((i : Int) < (M : Int)) := by omega
        rcases Nat.eq_zero_or_pos i with h0 | h0
        · subst h0
          have hL0 : L = [] := List.eq_nil_of_length_eq_zero HL.out
          subst hL0
          obtain ⟨T, P1, hTP⟩ : ∃ T P1, takeM zs s P 40 = (T, P1) := ⟨_, _, rfl⟩
          obtain ⟨V, P2, hVP⟩ : ∃ V P2, takeM zs s P1 64 = (V, P2) := ⟨_, _, rfl⟩
          have hT := fun (W : World) (hl : Lr W (w.heap.size + 1) a n c s zs P) => f70 40 HK.out hl (by omega) (by omega)
          rw [hTP] at hT
          have hP1 : P1.1 = P.1 + 40 := by have := congrArg (fun z => z.2.1) hTP; exact this.symm
          have hV := fun (W : World) (hl : Lr W (w.heap.size + 1) a n c s zs P1) => f70 64 HK.out hl (by omega) (by omega)
          rw [hVP] at hV
          have hP2 : P2.1 = P1.1 + 64 := by have := congrArg (fun z => z.2.1) hVP; exact this.symm
          have hV64 := takeM_in64 zs s P1 64
          rw [hVP] at hV64
          simp only at hV64
          have HKN : Hid (Is (zs, s) l0 → M = l0.length ∧ Kn (zs, s) l0 (0 + 1) P2 f step ([] ++ [(T, V)]) (firstP zs S)) := by
            intro h
            obtain ⟨k1, k2⟩ := HN.out h
            obtain ⟨a1, a2, a3⟩ := kn_first h k2 (by omega)
            have a1' := a1
            rw [show takeM (zs, s).1 (zs, s).2 P 40 = (T, P1) from hTP] at a1' a2
            simp only at a1' a2
            rw [show takeM zs s P1 64 = (V, P2) from hVP] at a2
            have e1 : T = (l0.getD 0 e0).1 := (Prod.mk.inj a1').1
            obtain ⟨e2, e3⟩ := Prod.mk.inj a2
            refine ⟨k1, ?_⟩
            rw [e3, e1, e2, List.nil_append]
            have := take1 (l0 := l0) (by omega)
            show Kn (zs, s) l0 1 _ f step [(l0.getD 0 e0)] _
            rw [← this]; exact a3
          have HT := hid hT
          have HVV := hid hV
          clear hT hV hTP hVP r2 b1
          go_wp2_with fail
          refine (HT.out _ (HU.out.lr HR.out (by omega))).mono ?_
          rintro e w2 ⟨rfl, hl2, hg2⟩
          have HU2 := hid (HU.out.call hl2 hg2 (by omega) (by omega))
          clear hl2 hg2 HU HT
          go_wp2_with fail
          refine (HVV.out _ (HU2.out.lr HR.out (by omega))).mono ?_
          rintro e w3 ⟨rfl, hl3, hg3⟩
          have HU3 := hid (HU2.out.call hl3 hg3 (by omega) (by omega))
          clear hl3 hg3 HU2 HVV
          go_wp2_with (at_builtin; refine wpList_append_own _ rfl (.tmp 35) (.tmp 40) 23 rfl w.heap.size 36 i0 (.agg #[.int .i64 0, .int .i64 0]) 2 16 Tryd.underlying23 hinf hz0 hz1 hz2 rfl (by decide) _ _ _ rfl (World.ownsRow.alloc HU3.out.own _) ⟨w3.heap.size, 0, none⟩ 1 1 [.int .i64 T, .int .i64 V] rfl rfl ?d1 ?d2 ?d3 ?d4 ?d5 ?_)
          case d1 => exact two_new w3 (.int .i64 T) (.int .i64 V) 36
          case d2 => intro u hu; simp at hu; rcases hu with rfl | rfl <;> rfl
          case d3 => unfold maxLen; simp
          case d4 => simp
          case d5 => have := HU3.out.bel.size; simp; omega
          intro v1 w4 hown1 hgr1 _
          have hbA := (Below.refl _ w3).alloc (Nat.le_refl _) (.cells #[.int .i64 T, .int .i64 V] 36)
          have ho' : Smp.Own w4 w.heap.size v1 ([] ++ [(T, V)]) := by unfold Smp.Own; rw [flat_append, List.length_append]; exact hown1
          have HU4 := hid ((HU3.out.below hbA).push hgr1 ho')
          clear hown1 hgr1 ho' hbA HU3
          go_wp2
          go_roundw
          case rel => exact ⟨0 + 1, P2, f, step, [] ++ [(T, V)], firstP zs S, by omega, by go_num, rfl, rfl, rfl, HF.out, rfl, by omega, vfit_snoc HV.out hV64.1 hV64.2, HU4.out, HKN.out⟩
          case measure => simp [intOf]; omega
        · obtain ⟨j, rfl⟩ : ∃ j, i = j + 1 := ⟨i - 1, by omega⟩
          rw [HL.out] at HU
          obtain ⟨bv, P1, hBP⟩ : ∃ bv P1, bendM zs s P = (bv, P1) := ⟨_, _, rfl⟩
          obtain ⟨k2, P2, hOP⟩ : ∃ k2 P2, onesM zs s 2 P1 = (k2, P2) := ⟨_, _, rfl⟩
          have hB := fun (W : World) (hl : Lr W (w.heap.size + 1) a n c s zs P) => f71 HK.out hl (by omega)
          rw [hBP] at hB
          have hP1 : P1.1 ≤ P.1 + 68 := by have := bendM_pos zs s P; rw [hBP] at this; exact this
          have hO := fun (W : World) (hl : Lr W (w.heap.size + 1) a n c s zs P1) => f72 2 HK.out hl (by omega) (by omega)
          rw [hOP] at hO
          have hP2 : k2 ≤ 2 ∧ P2.1 ≤ P1.1 + 2 := by have := onesM_le zs s 2 P1; rw [hOP] at this; exact this
          have HKX : Hid (Is (zs, s) l0 → M = l0.length ∧ j + 1 < l0.length ∧ Kx (zs, s) l0 (j + 1) P f step L S) := fun h => ⟨(HN.out h).1, by have := (HN.out h).1; omega, kn_next h (HN.out h).2 (by omega) (by have := (HN.out h).1; omega)⟩
          have HKO : Hid (Is (zs, s) l0 → bv = (bendP zs S).1 ∧ k2 = (onesP zs 2 (timeS zs S)).1 ∧ P2 = ((onesP zs 2 (timeS zs S)).2.pos, true)) := by
            intro h
            have hx := (HKX.out h).2.2
            have e1 := hx.bend
            have e2 := hx.ones
            rw [show bendM (zs, s).1 (zs, s).2 P = (bv, P1) from hBP] at e1 e2
            rw [show onesM (zs, s).1 (zs, s).2 2 (bv, P1).2 = (k2, P2) from hOP] at e2
            exact ⟨(Prod.mk.inj e1).1, (Prod.mk.inj e2).1, (Prod.mk.inj e2).2⟩
          have HB := hid hB
          have HO := hid hO
          clear hB hO hBP hOP r2 b1
          obtain ⟨t0, v0, hlast⟩ : ∃ t0 v0, L.getD j e0 = (t0, v0) := ⟨_, _, rfl⟩
          have HLA := hid hlast
          have hcells : ∀ W : World, Smp.Own W w.heap.size (.slice av (j + 1) cv') L → ∃ b off, av = some ⟨b, off, none⟩ ∧ W.cell? ⟨b, off + j * 2, none⟩ = some (.int .i64 t0) ∧ W.cell? ⟨b, off + j * 2 + 1, none⟩ = some (.int .i64 v0) := by
            intro W ho
            rcases (Smp.Own.has ho).2 with h | ⟨b, off, h1, h2, h3⟩
            · have := HL.out; rw [h] at this; simp at this
            · have := h3 j (by rw [HL.out]; omega)
              rw [HLA.out] at this
              exact ⟨b, off, h1, this.1, this.2⟩
          have HCE := hid hcells
          clear hcells hlast
          obtain ⟨b, off, rfl, _, _⟩ := HCE.out wr HU.out.own
          go_wp2_with fail
          refine (HB.out _ (HU.out.lr HR.out (by omega))).mono ?_
          rintro e w1' ⟨rfl, hl2, hg2⟩
          have HU2 := hid (HU.out.call hl2 hg2 (by omega) (by omega))
          obtain ⟨b', off', hbo, c0, c1⟩ := HCE.out w1' HU2.out.own
          simp only [Option.some.injEq, Addr.mk.injEq, and_true] at hbo
          obtain ⟨rfl, rfl⟩ := hbo
          have hLlen := HL.out
          have HX := hid (heap_alloc_new w1' (.cells #[.int .i64 (wrap64 (t0 + wrap64 (step + bv))), .int .i64 0] 36))
          have HU3 := hid (HU2.out.below ((Below.refl _ w1').alloc (Nat.le_refl _) (.cells #[.int .i64 (wrap64 (t0 + wrap64 (step + bv))), .int .i64 0] 36)))
          clear hl2 hg2 HU HB
          go_wp2_with fail
          refine (HO.out _ (HU3.out.lr HR.out (by omega))).mono ?_
          rintro e w2 ⟨rfl, hl3, hg3⟩
          have HU4 := hid (HU3.out.call hl3 hg3 (by omega) (by omega))
          have hsz1 : w.heap.size + 2 ≤ w1'.heap.size := (Array.getElem?_eq_some_iff.1 HU2.out.box).1
          have HX4 := hid (boxk HX.out hg3 (by omega))
          have HXN : Hid (∀ k, (Value.slice (some ⟨b, off, none⟩) (j + 1) cv').ownBlock = some k → k ≠ w1'.heap.size) := fun k hk e => by have := (HU2.out.own.lt k hk).2; omega
          clear hl3 hg3 HU3 HX HO c0 c1
          obtain ⟨X, hX⟩ : ∃ X, X = w1'.heap.size := ⟨_, rfl⟩
          rw [← hX] at hsz1 HX4 HXN
          dsimp only
          rename_i K2 hK2 KK hKK
          refine hKK _ _ ?_
          refine hK2 _ _ ?_
          clear hKK hK2
          rw [← hX]
          have HXE := hid hX
          clear hX
          go_cut [7, 8, 13] from 57 to 88 (fun s7 s8 s13 wx => ∃ (f' : Fm) (turn : Int) (P3 : Mp), s7 = .int .i64 (ld f') ∧ s8 = .int .i64 (tr f') ∧ s13 = .int .i64 turn ∧ FmOk f' ∧ P3.1 ≤ P.1 + 200 ∧ Hid (Um w (w.heap.size + 1) w.heap.size a n c s P3 (.slice (some ⟨b, off, none⟩) (j + 1) cv') L wx ∧ wx.heap[X]? = some (.cells #[.int .i64 (wrap64 (t0 + wrap64 (step + bv))), .int .i64 0] 36 (0, 0))) ∧ Hid (Is (zs, s) l0 → P3 = ((turnP zs (timeS zs S)).2.pos, true) ∧ turn = wrap64 (turnP zs (timeS zs S)).1 ∧ FR f' (turnP zs (timeS zs S)).2))
          case first =>
            have hnil : ∀ W : World, Below w.heap.size w W → (Is (zs, s) l0 → False) → Unm w (zs, s) l0 (.returned (.tuple #[.slice none 0 0, .bool false])) W := fun W hb hc => ⟨_, [], false, rfl, Smp.Own.nil _ _, by simp, (fun k hk => by simp at hk), hb, fun h => (hc h).elim⟩
            have HNI := hid hnil
            clear hnil
            have hKO := HKO.out
            obtain ⟨hk2, hP2b⟩ := hP2
            have hk2c : k2 = 0 ∨ k2 = 1 ∨ k2 = 2 := by omega
            rcases hk2c with rfl | rfl | rfl
            · have HKZ : Hid (Is (zs, s) l0 → P2 = ((turnP zs (timeS zs S)).2.pos, true) ∧ (0 : Int) = wrap64 (turnP zs (timeS zs S)).1 ∧ FR f (turnP zs (timeS zs S)).2) := by
                intro h
                obtain ⟨_, _, hx⟩ := HKX.out h
                obtain ⟨_, e2, e3⟩ := hKO h
                have et := turn_form zs (timeS zs S)
                rw [← e2] at et
                have et' : turnP zs (timeS zs S) = (0, (onesP zs 2 (timeS zs S)).2) := et
                rw [et']
                exact ⟨e3, by simp only [wrap64]; omega, hx.fr⟩
              clear hKO
              go_wp2
              go_meet
              exact ⟨f, 0, P2, rfl, rfl, rfl, HF.out, by omega, ⟨HU4.out, HX4.out⟩, HKZ⟩
            · have hsw : Is (zs, s) l0 → ∃ l t, f = some (l, t) ∧ (takeM zs s P2 (64 - l - t)).2 = ((turnP zs (timeS zs S)).2.pos, true) ∧ wrap64 ((takeM zs s P2 (64 - l - t)).1 * 2 ^ t) = wrap64 (turnP zs (timeS zs S)).1 ∧ FR f (turnP zs (timeS zs S)).2 := by
                intro h
                obtain ⟨_, _, hx⟩ := HKX.out h
                obtain ⟨_, e2, e3⟩ := hKO h
                have et := turn_form zs (timeS zs S)
                have htu := hx.turn
                rw [show (onesP (zs, s).1 2 (timeS (zs, s).1 S)).1 = 1 from e2.symm] at htu
                rw [← e2] at et
                have et' : turnP zs (timeS zs S) = oldT zs (onesP zs 2 (timeS zs S)).2 := et
                obtain ⟨l, t, h1, h2, h3, h4, h5⟩ := sw1 (zs := zs) (s := s) hx.sum hx.fr htu
                rw [et', e3]
                exact ⟨l, t, h1, h3, h4, h5⟩
              have HSW := hid hsw
              clear hsw hKO
              cases hf : f with
              | none =>
                have hc : Is (zs, s) l0 → False := fun h => by obtain ⟨l, t, h1, _⟩ := HSW.out h; rw [hf] at h1; cases h1
                have HFI := hid (HNI.out w2 HU4.out.bel hc)
                have hld : ld none < 0 := by decide
                clear hc
                go_wp2
                go_ret2
                exact HFI.out
              | some p =>
                obtain ⟨l, t⟩ := p
                have hlt63 : l + t ≤ 63 := HF.out l t hf
                obtain ⟨m, hm⟩ : ∃ m, m = 64 - l - t := ⟨_, rfl⟩
                have hmI : (64 : Int) - (l : Int) - (t : Int) = (m : Int) := by omega
                have hld : ld (some (l, t)) = (l : Int) := rfl
                have htr : tr (some (l, t)) = (t : Int) := rfl
                obtain ⟨x, P3, hxP⟩ : ∃ x P3, takeM zs s P2 m = (x, P3) := ⟨_, _, rfl⟩
                have hT := f70 m HK.out (HU4.out.lr HR.out (by omega)) (by omega) (by omega)
                rw [hxP] at hT
                have hP3 : P3.1 = P2.1 + m := by have := congrArg (fun z => z.2.1) hxP; exact this.symm
                have HT := hid hT
                have HKZ : Hid (Is (zs, s) l0 → P3 = ((turnP zs (timeS zs S)).2.pos, true) ∧ wrap64 (x * 2 ^ t) = wrap64 (turnP zs (timeS zs S)).1 ∧ FR (some (l, t)) (turnP zs (timeS zs S)).2) := by
                  intro h
                  obtain ⟨l', t', h1, h2, h3, h4⟩ := HSW.out h
                  rw [hf] at h1 h4
                  simp only [Option.some.injEq, Prod.mk.injEq] at h1
                  obtain ⟨rfl, rfl⟩ := h1
                  rw [← hm, hxP] at h2 h3
                  exact ⟨h2, h3, h4⟩
                have HF2 : Hid (FmOk (some (l, t))) := by unfold Hid; rw [← hf]; exact HF.out
                have hP3b : P3.1 ≤ P.1 + 200 := by omega
                have HMN := hid hm
                rw [hld, htr]
                clear hT hxP hm hP3 hld htr
                have ht63 : t ≤ 63 := by omega
                go_wp2_with fail
                refine HT.out.mono ?_
                rintro e w3 ⟨rfl, hl5, hg5⟩
                have HU5 := hid (HU4.out.call hl5 hg5 (by omega) (by omega))
                have HX5 := hid (boxk HX4.out hg5 (by omega))
                clear hl5 hg5
                go_wp2
                go_meet
                exact ⟨some (l, t), wrap64 (x * 2 ^ t), P3, rfl, rfl, rfl, HF2.out, hP3b, ⟨HU5.out, HX5.out⟩, HKZ⟩
            · have hsw : Is (zs, s) l0 → ∃ A m : Nat, A ≤ 63 ∧ 1 ≤ m ∧ m ≤ 64 ∧ A + m ≤ 64 ∧ ∃ Q1 Q2 : Nat, takeM zs s P2 6 = ((A : Int), (Q1, true)) ∧ takeM zs s (Q1, true) 6 = ((m : Int) - 1, (Q2, true)) ∧ (takeM zs s (Q2, true) m).2 = ((turnP zs (timeS zs S)).2.pos, true) ∧ wrap64 ((takeM zs s (Q2, true) m).1 * 2 ^ (64 - A - m)) = wrap64 (turnP zs (timeS zs S)).1 ∧ FR (some (A, 64 - A - m)) (turnP zs (timeS zs S)).2 := by
                intro h
                obtain ⟨_, _, hx⟩ := HKX.out h
                obtain ⟨_, e2, e3⟩ := hKO h
                have et := turn_form zs (timeS zs S)
                have htu := hx.turn
                rw [show (onesP (zs, s).1 2 (timeS (zs, s).1 S)).1 = 2 from e2.symm] at htu
                rw [← e2] at et
                have h2 := sw2 (zs := zs) (s := s) hx.sum htu
                rw [et, e3]
                exact h2
              have HSW := hid hsw
              clear hsw hKO
              obtain ⟨A, PA, hAP⟩ : ∃ A PA, takeM zs s P2 6 = (A, PA) := ⟨_, _, rfl⟩
              obtain ⟨B, PB, hBP⟩ : ∃ B PB, takeM zs s PA 6 = (B, PB) := ⟨_, _, rfl⟩
              have hA := takeM_bd zs s P2 6 (by omega)
              have hB := takeM_bd zs s PA 6 (by omega)
              rw [hAP] at hA
              rw [hBP] at hB
              have e6 : (2 : Int) ^ 6 = 64 := by decide
              rw [e6] at hA hB
              simp only at hA hB
              obtain ⟨A, rfl⟩ := Int.eq_ofNat_of_zero_le hA.1
              obtain ⟨B, rfl⟩ := Int.eq_ofNat_of_zero_le hB.1
              have hA63 : A ≤ 63 := by omega
              have hB63 : B ≤ 63 := by omega
              have hPA : PA.1 = P2.1 + 6 := by have := congrArg (fun z => z.2.1) hAP; exact this.symm
              have hPB : PB.1 = PA.1 + 6 := by have := congrArg (fun z => z.2.1) hBP; exact this.symm
              have hTA := f70 6 HK.out (HU4.out.lr HR.out (by omega)) (by omega) (by omega)
              rw [hAP] at hTA
              have hTB := fun (W : World) (hl : Lr W (w.heap.size + 1) a n c s zs PA) => f70 6 HK.out hl (by omega) (by omega)
              rw [hBP] at hTB
              have HTA := hid hTA
              have HTB := hid hTB
              clear hA hB e6 hTA hTB
              go_wp2_with fail
              refine HTA.out.mono ?_
              rintro e w3 ⟨rfl, hl5, hg5⟩
              have HU5 := hid (HU4.out.call hl5 hg5 (by omega) (by omega))
              have HX5 := hid (boxk HX4.out hg5 (by omega))
              clear hl5 hg5 HTA HU4 HX4
              go_wp2_with fail
              refine (HTB.out _ (HU5.out.lr HR.out (by omega))).mono ?_
              rintro e w4 ⟨rfl, hl6, hg6⟩
              have HU6 := hid (HU5.out.call hl6 hg6 (by omega) (by omega))
              have HX6 := hid (boxk HX5.out hg6 (by omega))
              clear hl6 hg6 HTB HU5 HX5
              have HSX : Hid (Is (zs, s) l0 → A + (B + 1) ≤ 64 ∧ (takeM zs s PB (B + 1)).2 = ((turnP zs (timeS zs S)).2.pos, true) ∧ wrap64 ((takeM zs s PB (B + 1)).1 * 2 ^ (64 - A - (B + 1))) = wrap64 (turnP zs (timeS zs S)).1 ∧ FR (some (A, 64 - A - (B + 1))) (turnP zs (timeS zs S)).2) := by
                intro h
                obtain ⟨A', m', h1, h2, h3, h4, Q1, Q2, h5, h6, h7, h8, h9⟩ := HSW.out h
                rw [hAP] at h5
                obtain ⟨g1, g2⟩ := Prod.mk.inj h5
                have g1' : A = A' := by omega
                subst g1'
                rw [g2] at hBP
                rw [hBP] at h6
                obtain ⟨g3, g4⟩ := Prod.mk.inj h6
                have g3' : m' = B + 1 := by omega
                subst g3'
                rw [g4]
                exact ⟨h4, h7, h8, h9⟩
              clear HSW hAP hBP
              by_cases hsum : 64 < A + (B + 1)
              · have HFI := hid (HNI.out w4 HU6.out.bel (fun h => by have := (HSX.out h).1; omega))
                have hneg : (64 : Int) - (A : Int) - ((B : Int) + 1) < 0 := by omega
                go_wp2
                go_ret2
                exact HFI.out
              · obtain ⟨t, ht⟩ : ∃ t, t = 64 - A - (B + 1) := ⟨_, rfl⟩
                have htI : (64 : Int) - (A : Int) - ((B : Int) + 1) = (t : Int) := by omega
                have hneg : ¬ ((t : Int) < 0) := by omega
                obtain ⟨x, P3, hxP⟩ : ∃ x P3, takeM zs s PB (B + 1) = (x, P3) := ⟨_, _, rfl⟩
                have hT := f70 (B + 1) HK.out (HU6.out.lr HR.out (by omega)) (by omega) (by omega)
                rw [hxP] at hT
                have hP3 : P3.1 = PB.1 + (B + 1) := by have := congrArg (fun z => z.2.1) hxP; exact this.symm
                have HT := hid hT
                have HKZ : Hid (Is (zs, s) l0 → P3 = ((turnP zs (timeS zs S)).2.pos, true) ∧ wrap64 (x * 2 ^ t) = wrap64 (turnP zs (timeS zs S)).1 ∧ FR (some (A, t)) (turnP zs (timeS zs S)).2) := by
                  intro h
                  obtain ⟨h1, h2, h3, h4⟩ := HSX.out h
                  rw [← ht, hxP] at h3
                  rw [hxP] at h2
                  rw [← ht] at h4
                  exact ⟨h2, h3, h4⟩
                have HF2 : Hid (FmOk (some (A, t))) := by intro l' t' e; simp only [Option.some.injEq, Prod.mk.injEq] at e; omega
                have hP3b : P3.1 ≤ P.1 + 200 := by omega
                have ht63 : t ≤ 63 := by omega
                have HTN := hid ht
                clear hT hxP ht hP3
                go_wp2_with fail
                refine HT.out.mono ?_
                rintro e w5 ⟨rfl, hl7, hg7⟩
                have HU7 := hid (HU6.out.call hl7 hg7 (by omega) (by omega))
                have HX7 := hid (boxk HX6.out hg7 (by omega))
                clear hl7 hg7
                go_wp2
                go_meet
                exact ⟨some (A, t), wrap64 (x * 2 ^ t), P3, rfl, rfl, rfl, HF2.out, hP3b, ⟨HU7.out, HX7.out⟩, HKZ⟩
          case rest =>
          obtain ⟨f', turn, P3, rfl, rfl, rfl, hfo', hP3, hux, hkn5⟩ := hcut
          have HU5 := hid hux.out.1
          have HX5 := hid hux.out.2
          have HK5 := hid hkn5.out
          have HF5 := hid hfo'
          obtain ⟨b', off', hbo, c0, c1⟩ := HCE.out wc HU5.out.own
          simp only [Option.some.injEq, Addr.mk.injEq, and_true] at hbo
          obtain ⟨rfl, rfl⟩ := hbo
          have x0 : wc.cell? ⟨X, 0, none⟩ = some (.int .i64 (wrap64 (t0 + wrap64 (step + bv)))) := cell_at HX5.out 0
          have x1 : wc.cell? ⟨X, 1, none⟩ = some (.int .i64 0) := cell_at HX5.out 1
          have xf := froz_at HX5.out 1
          obtain ⟨V, hV⟩ : ∃ V, V = bits .xor .i64 v0 turn := ⟨_, rfl⟩
          have hV64 := xor_in64 v0 turn
          rw [← hV] at hV64
          have HX6 := hid (set_cell (o := 1) (x := .int .i64 (bits .xor .i64 v0 turn)) HX5.out)
          have HU6 := hid (HU5.out.setX (X := X) (o := 1) (u := .int .i64 (bits .xor .i64 v0 turn)) (by omega) (by omega) HXN.out (by omega))
          have y0 : (wc.setCell ⟨X, 1, none⟩ (.int .i64 (bits .xor .i64 v0 turn))).cell? ⟨X, 0, none⟩ = some (.int .i64 (wrap64 (t0 + wrap64 (step + bv)))) := cell_at HX6.out 0
          have y1 : (wc.setCell ⟨X, 1, none⟩ (.int .i64 (bits .xor .i64 v0 turn))).cell? ⟨X, 1, none⟩ = some (.int .i64 (bits .xor .i64 v0 turn)) := cell_at HX6.out 1
          have HKN : Hid (Is (zs, s) l0 → M = l0.length ∧ Kn (zs, s) l0 (j + 1 + 1) P3 f' (wrap64 (step + bv)) (L ++ [(wrap64 (t0 + wrap64 (step + bv)), V)]) (nextP zs S)) := by
            intro h
            obtain ⟨k1, k2, hx⟩ := HKX.out h
            obtain ⟨e1, _, _⟩ := HKO.out h
            obtain ⟨g1, g2, g3⟩ := HK5.out h
            have ht := hx.t
            have hv := hx.v
            rw [Nat.add_sub_cancel, HLA.out] at ht hv
            simp only at ht hv
            refine ⟨k1, by rw [g1], ?_, hx.st, by rw [g1]; rfl, ?_, FR.of g3 rfl rfl⟩
            · rw [e1, ht, hV, g2, hv, (HN.out h).2.L]
              exact take_snoc k2
            · rw [e1]; exact hx.step
          have HVE := hid hV
          clear hV hux hkn5 hfo' HU5
          have hLle : L.length ≤ 255 := by rw [HL.out]; omega
          go_wp2_with (at_builtin; refine wpList_append_own _ rfl (.tmp 98) (.tmp 100) 23 rfl w.heap.size 36 i0 (.agg #[.int .i64 0, .int .i64 0]) 2 16 Tryd.underlying23 hinf hz0 hz1 hz2 rfl (by decide) _ _ _ rfl (World.ownsRow.alloc HU6.out.own _) ⟨wc.heap.size, 0, none⟩ 1 1 [.int .i64 (wrap64 (t0 + wrap64 (step + bv))), .int .i64 (bits .xor .i64 v0 turn)] rfl rfl ?d1 ?d2 ?d3 ?d4 ?d5 ?_)
          case d1 =>
            have := two_new (wc.setCell ⟨X, 1, none⟩ (.int .i64 (bits .xor .i64 v0 turn))) (.int .i64 (wrap64 (t0 + wrap64 (step + bv)))) (.int .i64 (bits .xor .i64 v0 turn)) 36
            rw [show (wc.setCell ⟨X, 1, none⟩ (.int .i64 (bits .xor .i64 v0 turn))).heap.size = wc.heap.size by simp] at this
            exact this
          case d2 => intro u hu; simp at hu; rcases hu with rfl | rfl <;> rfl
          case d3 => unfold maxLen; omega
          case d4 => omega
          case d5 => have := HU6.out.bel.size; simp at this ⊢; omega
          intro v1 w4 hown1 hgr1 _
          have hbA := (Below.refl _ (wc.setCell ⟨X, 1, none⟩ (.int .i64 (bits .xor .i64 v0 turn)))).alloc (Nat.le_refl _) (.cells #[.int .i64 (wrap64 (t0 + wrap64 (step + bv))), .int .i64 (bits .xor .i64 v0 turn)] 36)
          have ho' : Smp.Own w4 w.heap.size v1 (L ++ [(wrap64 (t0 + wrap64 (step + bv)), V)]) := by unfold Smp.Own; rw [flat_append, List.length_append, HL.out, HVE.out]; exact hown1
          have HU7 := hid ((HU6.out.below hbA).push hgr1 ho')
          clear hown1 hgr1 ho' hbA HU6
          go_wp2
          go_roundw
          case rel => exact ⟨j + 1 + 1, P3, f', wrap64 (step + bv), L ++ [(wrap64 (t0 + wrap64 (step + bv)), V)], nextP zs S, by omega, by go_num, rfl, rfl, rfl, HF5.out, by rw [List.length_append, HL.out]; rfl, by omega, vfit_snoc HV.out hV64.1 hV64.2, HU7.out, HKN.out⟩
          case measure => simp [intOf]; omega
      · have e : i = M := by omega
        have hfin : ∀ nq, Unm w (zs, s) l0 (.returned (.tuple #[.slice av L.length cv', .bool ((P.1 : Int) == (s : Int))])) (wr.drewN nq) := fun nq => ⟨_, L, _, rfl, HU.out.own.below (below_drewN (Below.refl _ _) nq), by rw [HL.out]; omega, HV.out, below_drewN HU.out.bel nq, fun h => by
          obtain ⟨k1, k2⟩ := HN.out h
          rw [e, k1] at k2
          obtain ⟨a1, a2, a3⟩ := kn_end h k2
          exact ⟨a1, by rw [a3]; simp⟩⟩
        have HFI := hid hfin
        clear hfin e
        go_wp2_with fail
        go_quiet (fail)
        go_wp2
        go_ret2
        exact HFI.out _
end Go.Proofs.YteblbcbfaomdmaaDoor.Chk
