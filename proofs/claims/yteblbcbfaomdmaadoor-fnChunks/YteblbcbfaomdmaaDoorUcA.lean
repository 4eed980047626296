import Derived.Test.YteblbcbfaomdmaaDoorVd
import Derived.Test.YteblbcbfaomdmaaDoorFb
/- Plain: what was put is read back, however much is put behind it. -/
namespace Go.Proofs.YteblbcbfaomdmaaDoor.Chk
open Go.RowKit Go.Proofs.YteblbcbfaomdmaaDoor.Bts
open Go.Proofs.YteblbcbfaomdmaaDoor.Smp hiding hid ret_int below_drewN

/-- q has p's bits ahead. -/
structure Ext (p q : Bt) : Prop where
  size : p.2 ≤ q.2
  bit : ∀ i, i < p.2 → bitOf q.1 i = bitOf p.1 i
theorem Ext.refl (p : Bt) : Ext p p := ⟨Nat.le_refl _, fun _ _ => rfl⟩
theorem Ext.trans {p q r : Bt} (h : Ext p q) (k : Ext q r) : Ext p r := ⟨Nat.le_trans h.size k.size, fun i hi => (k.bit i (Nat.lt_of_lt_of_le hi h.size)).trans (h.bit i hi)⟩
theorem ext_add {p : Bt} (h : GB p) (U : Int) (n : Nat) : Ext p (bAdd p U n) := ⟨by rw [bAdd_size]; omega, fun i hi => bitOf_addL_lt h U n i hi n⟩
theorem Ext.tk {p q : Bt} (h : Ext p q) (t m : Nat) (hm : t + m ≤ p.2) : tk q.1 t m = tk p.1 t m := tk_congr _ _ t m (fun i hi => h.bit i (by omega))
/-- What was put is read where it was put. -/
theorem read_add {p q : Bt} (h : GB p) (U : Int) (n : Nat) (hq : Ext (bAdd p U n) q) : tk q.1 p.2 n = U % 2 ^ n := by
  rw [hq.tk p.2 n (by rw [bAdd_size]; omega)]
  have := tk_addL h U n n (Nat.le_refl _)
  rw [Nat.sub_self, Int.pow_zero, Int.ediv_one] at this
  exact this
theorem ext_bend {p : Bt} (h : GB p) (b : Int) : Ext p (bendB p b) := by
  unfold bendB
  split
  · exact ext_add h _ _
  all_goals exact (ext_add h _ _).trans (ext_add (h.add _ _) _ _)
theorem ext_turn {p : Bt} {f : Fm} {turn : Int} (h : GB p) : Ext p (turnB p f turn).1 := by
  have hn : Ext p (turnN p turn).1 := by
    unfold turnN
    exact (((ext_add h _ _).trans (ext_add (h.add _ _) _ _)).trans (ext_add ((h.add _ _).add _ _) _ _)).trans (ext_add (((h.add _ _).add _ _).add _ _) _ _)
  unfold turnB
  split
  · exact ext_add h _ _
  · split
    · split
      · exact (ext_add h _ _).trans (ext_add (h.add _ _) _ _)
      · exact hn
    · exact hn
theorem ext_pack (ls : List Sm) (k : Nat) (hk : k < 120) : Ext (packK ls k).b (packK ls (k + 1)).b := by
  obtain ⟨h1, h2, _⟩ := packK_ok ls k (by omega)
  rw [packK]
  split
  · exact (ext_add h1 _ _).trans (ext_add (h1.add _ _) _ _)
  · exact (ext_bend h1 _).trans (ext_turn (bendB_G h1 _))
theorem ext_packs (ls : List Sm) (k n : Nat) (hk : k ≤ n) (hn : n ≤ 120) : Ext (packK ls k).b (packK ls n).b := by
  induction n with
  | zero => obtain rfl : k = 0 := by omega
            exact Ext.refl _
  | succ n ih =>
    by_cases e : k = n + 1
    · subst e; exact Ext.refl _
    · exact (ih (by omega) (by omega)).trans (ext_pack ls n (by omega))
end Go.Proofs.YteblbcbfaomdmaaDoor.Chk
/- Plain: bits that are read and put again are the bits that were read. -/
namespace Go.Proofs.YteblbcbfaomdmaaDoor.Chk
open Go.RowKit Go.Proofs.YteblbcbfaomdmaaDoor.Bts
open Go.Proofs.YteblbcbfaomdmaaDoor.Smp hiding hid ret_int below_drewN

theorem bit_01 (zs : List Int) (k : Nat) : bitOf zs k = 0 ∨ bitOf zs k = 1 := by unfold bitOf; omega
theorem tk_bd (zs : List Int) (t : Nat) : ∀ n, 0 ≤ tk zs t n ∧ tk zs t n < 2 ^ n := by
  intro n
  induction n with
  | zero => exact ⟨by rw [tk]; omega, by rw [tk]; decide⟩
  | succ n ih =>
    rw [tk, Int.pow_succ]
    have := bit_01 zs (t + n)
    omega
theorem tk_inj (xs ys : List Int) (t : Nat) : ∀ n, tk xs t n = tk ys t n → ∀ i, i < n → bitOf xs (t + i) = bitOf ys (t + i) := by
  intro n
  induction n with
  | zero => intro _ i hi; omega
  | succ n ih =>
    intro h i hi
    rw [tk, tk] at h
    have h1 := bit_01 xs (t + n)
    have h2 := bit_01 ys (t + n)
    by_cases e : i = n
    · subst e; omega
    · exact ih (by omega) i (by omega)
/-- What is read behind p's bits, put to p, is q's bits that far. -/
theorem ext_take {p q : Bt} (hp : GB p) (h : Ext p q) (n : Nat) (hn : p.2 + n ≤ q.2) : Ext (bAdd p (tk q.1 p.2 n) n) q := by
  refine ⟨by rw [bAdd_size]; exact hn, fun i hi => ?_⟩
  rw [bAdd_size] at hi
  by_cases hl : i < p.2
  · rw [h.bit i hl, (ext_add hp _ n).bit i hl]
  · have h1 := read_add hp (tk q.1 p.2 n) n (Ext.refl _)
    have hb := tk_bd q.1 p.2 n
    rw [Int.emod_eq_of_lt hb.1 hb.2] at h1
    have := tk_inj _ _ p.2 n h1 (i - p.2) (by omega)
    rw [show p.2 + (i - p.2) = i by omega] at this
    exact this.symm
theorem byte_eq {z z' : Int} (h0 : 0 ≤ z) (h1 : z ≤ 255) (h0' : 0 ≤ z') (h1' : z' ≤ 255) (h : ∀ r, r < 8 → z / 2 ^ (7 - r) % 2 = z' / 2 ^ (7 - r) % 2) : z = z' := by
  have b0 := h 0 (by omega)
  have b1 := h 1 (by omega)
  have b2 := h 2 (by omega)
  have b3 := h 3 (by omega)
  have b4 := h 4 (by omega)
  have b5 := h 5 (by omega)
  have b6 := h 6 (by omega)
  have b7 := h 7 (by omega)
  simp only [show (7 - 0 : Nat) = 7 from rfl, show (7 - 1 : Nat) = 6 from rfl, show (7 - 2 : Nat) = 5 from rfl, show (7 - 3 : Nat) = 4 from rfl, show (7 - 4 : Nat) = 3 from rfl, show (7 - 5 : Nat) = 2 from rfl, show (7 - 6 : Nat) = 1 from rfl, show (7 - 7 : Nat) = 0 from rfl] at b0 b1 b2 b3 b4 b5 b6 b7
  omega
theorem low_zero {z : Int} {r j : Nat} (hj : r ≤ j) (hj8 : j < 8) (h : z % 2 ^ (8 - r) = 0) : z / 2 ^ (7 - j) % 2 = 0 := by
  obtain ⟨k, hk⟩ : ∃ k, z = 2 ^ (8 - r) * k := ⟨z / 2 ^ (8 - r), by have := Int.emod_add_mul_ediv z (2 ^ (8 - r)); rw [h] at this; omega⟩
  have e : (2 : Int) ^ (8 - r) = 2 ^ (7 - j) * (2 * 2 ^ (j - r)) := by
    rw [show 8 - r = (7 - j) + (1 + (j - r)) by omega, Int.pow_add, Int.pow_add]; rfl
  rw [hk, e, Int.mul_assoc, Int.mul_ediv_cancel_left _ (Int.ne_of_gt (Int.pow_pos (by decide))), Int.mul_assoc, Int.mul_emod_right]
/-- Good bits are known by their bits. -/
theorem ext_eq {p q : Bt} (hp : GB p) (hq : GB q) (h : Ext p q) (hs : p.2 = q.2) : p = q := by
  obtain ⟨zs, s⟩ := p
  obtain ⟨ys, s'⟩ := q
  obtain rfl : s = s' := hs
  have l1 : zs.length = (s + 7) / 8 := hp.len
  have l2 : ys.length = (s + 7) / 8 := hq.len
  have hbit : ∀ i, i < s → bitOf ys i = bitOf zs i := h.bit
  have key : ∀ k, k < zs.length → zs.getD k 0 = ys.getD k 0 := by
    intro k hk
    have m1 := hp.byte (zs.getD k 0) (by rw [List.getD_eq_getElem?_getD, List.getElem?_eq_getElem hk]; exact List.getElem_mem hk)
    have hk2 : k < ys.length := by omega
    have m2 := hq.byte (ys.getD k 0) (by rw [List.getD_eq_getElem?_getD, List.getElem?_eq_getElem hk2]; exact List.getElem_mem hk2)
    refine byte_eq m1.1 m1.2 m2.1 m2.2 fun r hr => ?_
    by_cases hl : k * 8 + r < s
    · have := hbit (k * 8 + r) hl
      unfold bitOf at this
      rw [show (k * 8 + r) / 8 = k by omega, show (k * 8 + r) % 8 = r by omega] at this
      exact this.symm
    · have hk8 : k = s / 8 := by omega
      have hs8 : s % 8 ≠ 0 := by omega
      have z1 := hp.low hs8
      have z2 := hq.low hs8
      rw [← hk8] at z1 z2
      rw [low_zero (show s % 8 ≤ r by omega) hr z1, low_zero (show s % 8 ≤ r by omega) hr z2]
  have : zs = ys := by
    refine List.ext_getElem (by omega) fun k h1 h2 => ?_
    have := key k h1
    rw [List.getD_eq_getElem?_getD, List.getD_eq_getElem?_getD, List.getElem?_eq_getElem h1, List.getElem?_eq_getElem h2] at this
    exact this
  rw [this]
end Go.Proofs.YteblbcbfaomdmaaDoor.Chk
/- Plain: the program's reader of chunks as a function of its state; what it reads and what was put. -/
namespace Go.Proofs.YteblbcbfaomdmaaDoor.Chk
open Go.RowKit Go.Proofs.YteblbcbfaomdmaaDoor.Bts
open Go.Proofs.YteblbcbfaomdmaaDoor.Smp hiding hid ret_int below_drewN

/-- The reader: where it is, how much is left, whether it is broken; the last sample, its step, the frame. -/
structure Rs where
  pos : Nat
  left : Nat
  br : Bool
  t : Int
  v : Int
  step : Int
  fa : Nat
  fm : Nat
def Rs.brk (S : Rs) : Rs := { S with br := true }
def takeP (zs : List Int) (S : Rs) (m : Nat) : Int × Rs :=
  if m ≤ S.left then (tk zs S.pos m, { S with pos := S.pos + m, left := S.left - m }) else (0, S.brk)
theorem takeP_in {zs : List Int} {S : Rs} {m : Nat} (h : m ≤ S.left) : takeP zs S m = (tk zs S.pos m, { S with pos := S.pos + m, left := S.left - m }) := if_pos h
theorem takeP_out {zs : List Int} {S : Rs} {m : Nat} (h : ¬ m ≤ S.left) : takeP zs S m = (0, S.brk) := if_neg h
theorem takeP_t (zs : List Int) (S : Rs) (m : Nat) : (takeP zs S m).2.t = S.t := by unfold takeP; split <;> rfl
theorem takeP_v (zs : List Int) (S : Rs) (m : Nat) : (takeP zs S m).2.v = S.v := by unfold takeP; split <;> rfl
theorem takeP_step (zs : List Int) (S : Rs) (m : Nat) : (takeP zs S m).2.step = S.step := by unfold takeP; split <;> rfl
theorem takeP_fa (zs : List Int) (S : Rs) (m : Nat) : (takeP zs S m).2.fa = S.fa := by unfold takeP; split <;> rfl
theorem takeP_fm (zs : List Int) (S : Rs) (m : Nat) : (takeP zs S m).2.fm = S.fm := by unfold takeP; split <;> rfl
theorem takeP_sum (zs : List Int) (S : Rs) (m : Nat) : (takeP zs S m).2.pos + (takeP zs S m).2.left = S.pos + S.left := by
  unfold takeP; split
  · show S.pos + m + (S.left - m) = _; omega
  · rfl
theorem takeP_bd (zs : List Int) (S : Rs) (m : Nat) : 0 ≤ (takeP zs S m).1 ∧ (takeP zs S m).1 < 2 ^ m := by
  unfold takeP; split
  · exact tk_bd zs S.pos m
  · exact ⟨Int.le_refl _, Int.pow_pos (by decide)⟩
def onesP (zs : List Int) : Nat → Rs → Nat × Rs
  | 0, S => (0, S)
  | f + 1, S => if (takeP zs S 1).1 = 1 then ((onesP zs f (takeP zs S 1).2).1 + 1, (onesP zs f (takeP zs S 1).2).2) else (0, (takeP zs S 1).2)
theorem onesP_le (zs : List Int) : ∀ f S, (onesP zs f S).1 ≤ f := by
  intro f
  induction f with
  | zero => intro S; exact Nat.le_refl _
  | succ f ih => intro S; unfold onesP; split
                 · exact Nat.succ_le_succ (ih _)
                 · exact Nat.zero_le _
theorem onesP_keep (zs : List Int) : ∀ f S, (onesP zs f S).2.t = S.t ∧ (onesP zs f S).2.v = S.v ∧ (onesP zs f S).2.step = S.step ∧ (onesP zs f S).2.fa = S.fa ∧ (onesP zs f S).2.fm = S.fm ∧ (onesP zs f S).2.pos + (onesP zs f S).2.left = S.pos + S.left := by
  intro f
  induction f with
  | zero => intro S; exact ⟨rfl, rfl, rfl, rfl, rfl, rfl⟩
  | succ f ih =>
    intro S
    have k := ih (takeP zs S 1).2
    rw [takeP_t, takeP_v, takeP_step, takeP_fa, takeP_fm, takeP_sum] at k
    unfold onesP
    split
    · exact k
    · exact ⟨takeP_t _ _ _, takeP_v _ _ _, takeP_step _ _ _, takeP_fa _ _ _, takeP_fm _ _ _, takeP_sum _ _ _⟩
theorem takeP_br {zs : List Int} {S : Rs} {m : Nat} (h : (takeP zs S m).2.br = false) : S.br = false := by
  unfold takeP at h; split at h
  · exact h
  · exact absurd h (by simp [Rs.brk])
theorem onesP_br (zs : List Int) : ∀ f S, (onesP zs f S).2.br = false → S.br = false := by
  intro f
  induction f with
  | zero => intro S h; exact h
  | succ f ih =>
    intro S h
    unfold onesP at h
    split at h
    · exact takeP_br (ih _ h)
    · exact takeP_br h
def bendV (zs : List Int) (S : Rs) : Int := wrap64 ((cls (onesP zs 4 S).1).2.2.1 + wrap64 (takeP zs (onesP zs 4 S).2 (cls (onesP zs 4 S).1).2.2.2.toNat).1)
def bendS (zs : List Int) (S : Rs) : Rs := takeP zs (onesP zs 4 S).2 (cls (onesP zs 4 S).1).2.2.2.toNat |>.2
def bendP (zs : List Int) (S : Rs) : Int × Rs := (bendV zs S, if bendI (bendV zs S) = (onesP zs 4 S).1 then bendS zs S else (bendS zs S).brk)
/-- A turn in an old frame. -/
def oldT (zs : List Int) (S : Rs) : Int × Rs :=
  let u := takeP zs S S.fm
  (u.1 * 2 ^ (64 - S.fa - S.fm), if u.1 * 2 ^ (64 - S.fa - S.fm) = 0 then u.2.brk else u.2)
open Classical in
/-- A turn in a new frame of a zeros ahead and m signs. -/
noncomputable def newT (zs : List Int) (S : Rs) (a m : Nat) : Int × Rs :=
  if 64 < a + m then (0, S.brk) else
  let u := takeP zs S m
  let turn := u.1 * 2 ^ (64 - a - m)
  (turn, if turn = 0 ∨ zr turn ≠ (a, 64 - a - m) ∨ (S.fa ≤ a ∧ a + m ≤ S.fa + S.fm) then { u.2 with br := true, fa := a, fm := m } else { u.2 with fa := a, fm := m })
noncomputable def turnP (zs : List Int) (S : Rs) : Int × Rs :=
  if (takeP zs S 1).1 = 0 then (0, (takeP zs S 1).2) else
  let y := takeP zs (takeP zs S 1).2 1
  if y.1 = 1 then newT zs (takeP zs (takeP zs y.2 6).2 6).2 (takeP zs y.2 6).1.toNat ((takeP zs (takeP zs y.2 6).2 6).1.toNat + 1) else oldT zs y.2
def stepS (zs : List Int) (S : Rs) : Rs := { (bendP zs S).2 with step := wrap64 ((bendP zs S).2.step + (bendP zs S).1) }
def timeS (zs : List Int) (S : Rs) : Rs := { stepS zs S with t := wrap64 ((stepS zs S).t + (stepS zs S).step) }
noncomputable def nextP (zs : List Int) (S : Rs) : Rs := { (turnP zs (timeS zs S)).2 with v := bits .xor .i64 (turnP zs (timeS zs S)).2.v (wrap64 (turnP zs (timeS zs S)).1) }
def firstS (zs : List Int) (S : Rs) : Rs := { (takeP zs S 40).2 with t := wrap64 (takeP zs S 40).1 }
def firstP (zs : List Int) (S : Rs) : Rs := { (takeP zs (firstS zs S) 64).2 with v := wrap64 (takeP zs (firstS zs S) 64).1 }

/-! ### where one reads -/
structure Pos (q p : Bt) (S : Rs) : Prop where
  gb : GB p
  ext : Ext p q
  pos : S.pos = p.2
  left : S.pos + S.left = q.2
theorem take_only {q p : Bt} {S : Rs} {n : Nat} (h : Pos q p S) (hb : (takeP q.1 S n).2.br = false) : S.br = false ∧ Pos q (bAdd p (takeP q.1 S n).1 n) (takeP q.1 S n).2 := by
  by_cases hn : n ≤ S.left
  · rw [takeP_in hn] at hb ⊢
    have e := h.pos
    have l := h.left
    refine ⟨hb, h.gb.add _ _, ?_, ?_, ?_⟩
    · show Ext (bAdd p (tk q.1 S.pos n) n) q
      rw [e]; exact ext_take h.gb h.ext n (by omega)
    · show S.pos + n = p.2 + n; omega
    · show S.pos + n + (S.left - n) = q.2; omega
  · rw [takeP_out hn] at hb
    exact absurd hb (by simp [Rs.brk])
theorem take_back {q p : Bt} {S : Rs} {n : Nat} {U : Int} (h : Pos q p S) (hb : S.br = false) (he : Ext (bAdd p U n) q) :
    (takeP q.1 S n).1 = U % 2 ^ n ∧ (takeP q.1 S n).2.br = false ∧ Pos q (bAdd p U n) (takeP q.1 S n).2 := by
  have e := h.pos
  have l := h.left
  have hs := he.size
  rw [bAdd_size] at hs
  have hn : n ≤ S.left := by omega
  rw [takeP_in hn]
  refine ⟨?_, hb, h.gb.add _ _, he, ?_, ?_⟩
  · show tk q.1 S.pos n = _
    rw [e]; exact read_add h.gb U n he
  · show S.pos + n = p.2 + n; omega
  · show S.pos + n + (S.left - n) = q.2; omega
def onesB : Nat → Nat → Bt → Bt
  | f, 0, p => if f = 0 then p else bAdd p 0 1
  | f, k + 1, p => onesB (f - 1) k (bAdd p 1 1)
theorem onesB_G : ∀ k f p, GB p → GB (onesB f k p) ∧ Ext p (onesB f k p) := by
  intro k
  induction k with
  | zero => intro f p h; unfold onesB; split
            · exact ⟨h, Ext.refl _⟩
            · exact ⟨h.add _ _, ext_add h _ _⟩
  | succ k ih => intro f p h; unfold onesB; exact ⟨(ih _ _ (h.add _ _)).1, (ext_add h _ _).trans (ih _ _ (h.add _ _)).2⟩
theorem ones_only {q : Bt} : ∀ f p S, Pos q p S → (onesP q.1 f S).2.br = false → S.br = false ∧ Pos q (onesB f (onesP q.1 f S).1 p) (onesP q.1 f S).2 := by
  intro f
  induction f with
  | zero => intro p S h hb; exact ⟨hb, h⟩
  | succ f ih =>
    intro p S h hb
    unfold onesP at hb ⊢
    split at hb
    · rename_i h1
      rw [if_pos h1]
      have hk := ih (bAdd p 1 1) (takeP q.1 S 1).2
      have ht : (takeP q.1 S 1).2.br = false → S.br = false ∧ Pos q (bAdd p 1 1) (takeP q.1 S 1).2 := fun hb' => by
        have := take_only h hb'; rw [h1] at this; exact this
      have hbr := onesP_br _ _ _ hb
      obtain ⟨h2, h3⟩ := ht hbr
      exact ⟨h2, (hk h3 hb).2⟩
    · rename_i h1
      rw [if_neg h1]
      obtain ⟨h2, h3⟩ := take_only h hb
      have hbd := takeP_bd q.1 S 1
      have h0 : (takeP q.1 S 1).1 = 0 := by have : (2 : Int) ^ 1 = 2 := rfl; omega
      rw [h0] at h3
      exact ⟨h2, h3⟩
theorem ones_back {q : Bt} : ∀ f k p S, k ≤ f → Pos q p S → S.br = false → Ext (onesB f k p) q → (onesP q.1 f S).1 = k ∧ (onesP q.1 f S).2.br = false ∧ Pos q (onesB f k p) (onesP q.1 f S).2 := by
  intro f
  induction f with
  | zero =>
    intro k p S hk h hb he
    obtain rfl : k = 0 := by omega
    exact ⟨rfl, hb, h⟩
  | succ f ih =>
    intro k p S hk h hb he
    match k, hk, he with
    | 0, _, he =>
      have e : onesB (f + 1) 0 p = bAdd p 0 1 := rfl
      rw [e] at he ⊢
      obtain ⟨h1, h2, h3⟩ := take_back h hb he
      have h1' : ¬ (takeP q.1 S 1).1 = 1 := by rw [h1]; decide
      unfold onesP
      rw [if_neg h1']
      exact ⟨rfl, h2, h3⟩
    | k + 1, hk, he =>
      have e : onesB (f + 1) (k + 1) p = onesB f k (bAdd p 1 1) := rfl
      rw [e] at he ⊢
      have he1 := ((onesB_G k f (bAdd p 1 1) (h.gb.add _ _)).2).trans he
      obtain ⟨h1, h2, h3⟩ := take_back h hb he1
      have h1' : (takeP q.1 S 1).1 = 1 := by rw [h1]; decide
      unfold onesP
      rw [if_pos h1']
      obtain ⟨k1, k2, k3⟩ := ih k (bAdd p 1 1) _ (by omega) h3 h2 he
      exact ⟨by show _ + 1 = _; rw [k1], k2, k3⟩
end Go.Proofs.YteblbcbfaomdmaaDoor.Chk
/- Plain: bends and turns that are read are those that were put, and only those. -/
namespace Go.Proofs.YteblbcbfaomdmaaDoor.Chk
open Go.RowKit Go.Proofs.YteblbcbfaomdmaaDoor.Bts
open Go.Proofs.YteblbcbfaomdmaaDoor.Smp hiding hid ret_int below_drewN

theorem ones0 (p : Bt) : onesB 4 0 p = bAdd p 0 1 := rfl
theorem ones1 (p : Bt) : onesB 4 1 p = bAdd p 2 2 := rfl
theorem ones2 (p : Bt) : onesB 4 2 p = bAdd p 6 3 := rfl
theorem ones3 (p : Bt) : onesB 4 3 p = bAdd p 14 4 := rfl
theorem ones4 (p : Bt) : onesB 4 4 p = bAdd p 15 4 := rfl
/-- What is put behind a class's sign. -/
def bendU (b : Int) : Int := match bendI b with
  | 0 => 0
  | 1 => b + 63
  | 2 => b + 255
  | 3 => b + 2047
  | _ => IntKind.u64.wrap b
theorem bend_form (p : Bt) (b : Int) : bendB p b = bAdd (onesB 4 (bendI b) p) (bendU b) (cls (bendI b)).2.2.2.toNat := by
  have hlt := bend_lt b
  unfold bendB bendU
  generalize bendI b = i at *
  match i, hlt with
  | 0, _ => rfl
  | 1, _ => rfl
  | 2, _ => rfl
  | 3, _ => rfl
  | 4, _ => rfl
theorem bend_val {b x : Int} {i : Nat} (hi : i < 5) (h0 : 0 ≤ x) (h1 : x < 2 ^ (cls i).2.2.2.toNat) (hb : b = wrap64 ((cls i).2.2.1 + wrap64 x)) (he : bendI b = i) : bendU b = x := by
  have hin := bend_in b
  unfold bendU
  rw [he] at hin ⊢
  subst hb
  match i, hi with
  | 0, _ =>
    have h1' : x < 1 := h1
    show (0 : Int) = x
    omega
  | 1, _ =>
    have h1' : x < 128 := h1
    show wrap64 (-63 + wrap64 x) + 63 = x
    simp only [wrap64]; omega
  | 2, _ =>
    have h1' : x < 512 := h1
    show wrap64 (-255 + wrap64 x) + 255 = x
    simp only [wrap64]; omega
  | 3, _ =>
    have h1' : x < 4096 := h1
    show wrap64 (-2047 + wrap64 x) + 2047 = x
    simp only [wrap64]; omega
  | 4, _ =>
    have h1' : x < 18446744073709551616 := h1
    show IntKind.u64.wrap (wrap64 (0 + wrap64 x)) = x
    rw [IntKind.wrap_u64]
    simp only [wrap64]; omega
theorem bend_val' {b : Int} (l0 : -9223372036854775808 ≤ b) (l1 : b ≤ 9223372036854775807) : wrap64 ((cls (bendI b)).2.2.1 + wrap64 (bendU b % 2 ^ (cls (bendI b)).2.2.2.toNat)) = b := by
  have hin := bend_in b
  have hlt := bend_lt b
  unfold bendU
  generalize bendI b = i at *
  match i, hlt with
  | 0, _ =>
    have h : b = 0 := hin
    subst h
    show wrap64 (0 + wrap64 ((0 : Int) % 1)) = 0
    simp only [wrap64]; omega
  | 1, _ =>
    have h : -63 ≤ b ∧ b ≤ 64 := hin
    show wrap64 (-63 + wrap64 ((b + 63) % 128)) = b
    simp only [wrap64]; omega
  | 2, _ =>
    have h : -255 ≤ b ∧ b ≤ 256 := hin
    show wrap64 (-255 + wrap64 ((b + 255) % 512)) = b
    simp only [wrap64]; omega
  | 3, _ =>
    have h : -2047 ≤ b ∧ b ≤ 2048 := hin
    show wrap64 (-2047 + wrap64 ((b + 2047) % 4096)) = b
    simp only [wrap64]; omega
  | 4, _ =>
    show wrap64 (0 + wrap64 (IntKind.u64.wrap b % 18446744073709551616)) = b
    rw [IntKind.wrap_u64]
    simp only [wrap64]; omega
theorem bendP_keep (zs : List Int) (S : Rs) : (bendP zs S).2.t = S.t ∧ (bendP zs S).2.v = S.v ∧ (bendP zs S).2.step = S.step ∧ (bendP zs S).2.fa = S.fa ∧ (bendP zs S).2.fm = S.fm ∧ (bendP zs S).2.pos + (bendP zs S).2.left = S.pos + S.left := by
  obtain ⟨k1, k2, k3, k4, k5, k6⟩ := onesP_keep zs 4 S
  have h : (bendS zs S).t = S.t ∧ (bendS zs S).v = S.v ∧ (bendS zs S).step = S.step ∧ (bendS zs S).fa = S.fa ∧ (bendS zs S).fm = S.fm ∧ (bendS zs S).pos + (bendS zs S).left = S.pos + S.left := by
    unfold bendS
    rw [takeP_t, takeP_v, takeP_step, takeP_fa, takeP_fm, takeP_sum]
    exact ⟨k1, k2, k3, k4, k5, k6⟩
  unfold bendP
  dsimp only
  split
  · exact h
  · exact h
theorem bend_only {q p : Bt} {S : Rs} (h : Pos q p S) (hb : (bendP q.1 S).2.br = false) : S.br = false ∧ Pos q (bendB p (bendP q.1 S).1) (bendP q.1 S).2 := by
  unfold bendP at hb ⊢
  dsimp only at hb ⊢
  split at hb
  · rename_i he
    rw [if_pos he]
    have hb' : (bendS q.1 S).br = false := hb
    unfold bendS at hb' ⊢
    have hb1 := takeP_br hb'
    obtain ⟨h1, h2⟩ := ones_only 4 p S h hb1
    obtain ⟨_, h3⟩ := take_only h2 hb'
    refine ⟨h1, ?_⟩
    have hbd := takeP_bd q.1 (onesP q.1 4 S).2 (cls (onesP q.1 4 S).1).2.2.2.toNat
    have hv := bend_val (b := bendV q.1 S) (i := (onesP q.1 4 S).1) (by have := onesP_le q.1 4 S; omega) hbd.1 hbd.2 rfl he
    rw [bend_form, he, hv]
    exact h3
  · exact absurd hb (by simp [Rs.brk])
theorem bend_back {q p : Bt} {S : Rs} {b : Int} (h : Pos q p S) (hb : S.br = false) (l0 : -9223372036854775808 ≤ b) (l1 : b ≤ 9223372036854775807) (he : Ext (bendB p b) q) :
    (bendP q.1 S).1 = b ∧ (bendP q.1 S).2.br = false := by
  rw [bend_form] at he
  have hG := onesB_G (bendI b) 4 p h.gb
  obtain ⟨o1, o2, o3⟩ := ones_back 4 (bendI b) p S (by have := bend_lt b; omega) h hb ((ext_add hG.1 _ _).trans he)
  obtain ⟨t1, t2, t3⟩ := take_back o3 o2 he
  have hv : bendV q.1 S = b := by
    unfold bendV
    rw [o1, t1]; exact bend_val' l0 l1
  unfold bendP
  dsimp only
  rw [hv, o1, if_pos rfl]
  refine ⟨rfl, ?_⟩
  unfold bendS
  rw [o1]; exact t2

/-! ### turns -/
/-- The frame, as the reader has it. -/
def FR (f : Fm) (S : Rs) : Prop := (f = none ∧ S.fa = 0 ∧ S.fm = 0) ∨ ∃ k, f = some (S.fa, k) ∧ S.fa + S.fm + k = 64 ∧ 1 ≤ S.fm
theorem zr_ok {x : Int} (h0 : 0 < x) (h1 : x ≤ 18446744073709551615) : ∃ a b, zr x = (a, b) ∧ Zr x a b := by
  obtain ⟨X, rfl⟩ : ∃ X : Nat, x = (X : Int) := ⟨x.toNat, by omega⟩
  obtain ⟨_, _, z3⟩ := zr_lib X (by omega) (by omega)
  exact ⟨_, _, zr_eq z3, z3⟩
theorem zr_a_ge {x : Int} {a b l : Nat} (h : Zr x a b) (hx : x < 2 ^ (64 - l)) (hl : l ≤ 64) : l ≤ a := by
  refine Classical.byContradiction fun hn => ?_
  have h1 := pow_mono (show 64 - l ≤ 63 - a by omega)
  have := h.ge
  omega
theorem zr_b_ge {x : Int} {a b k : Nat} (h : Zr x a b) (hx : x % 2 ^ k = 0) : k ≤ b := by
  refine Classical.byContradiction fun hn => ?_
  have := lo_down (show b < k by omega) hx
  have := h.odd
  omega
theorem mul_bd {u : Int} {m k l : Nat} (h0 : 0 ≤ u) (h1 : u < 2 ^ m) (h : l + m + k = 64) : 0 ≤ u * 2 ^ k ∧ u * 2 ^ k < 2 ^ (64 - l) := by
  have hp := pow_pos' k
  refine ⟨Int.mul_nonneg h0 (by omega), ?_⟩
  rw [show 64 - l = m + k by omega, Int.pow_add]
  exact Int.mul_lt_mul_of_pos_right h1 hp
theorem pow64_le (l : Nat) : (2 : Int) ^ (64 - l) ≤ 18446744073709551616 := by
  have := pow_mono (show 64 - l ≤ 64 by omega)
  have e : (2 : Int) ^ 64 = 18446744073709551616 := by decide
  omega
theorem bit_cases {zs : List Int} {S : Rs} (h : ¬ (takeP zs S 1).1 = 0) : (takeP zs S 1).1 = 1 := by
  have hbd := takeP_bd zs S 1
  have : (2 : Int) ^ 1 = 2 := rfl
  omega
theorem bit_cases' {zs : List Int} {S : Rs} (h : ¬ (takeP zs S 1).1 = 1) : (takeP zs S 1).1 = 0 := by
  have hbd := takeP_bd zs S 1
  have : (2 : Int) ^ 1 = 2 := rfl
  omega
theorem turn_only {q p : Bt} {S : Rs} {f : Fm} (h : Pos q p S) (hf : FR f S) (hb : (turnP q.1 S).2.br = false) :
    S.br = false ∧ 0 ≤ (turnP q.1 S).1 ∧ (turnP q.1 S).1 ≤ 18446744073709551615 ∧ Pos q (turnB p f (turnP q.1 S).1).1 (turnP q.1 S).2 ∧ FR (turnB p f (turnP q.1 S).1).2 (turnP q.1 S).2 := by
  unfold turnP at hb ⊢
  by_cases hx : (takeP q.1 S 1).1 = 0
  · rw [if_pos hx] at hb ⊢
    obtain ⟨h1, h2⟩ := take_only h hb
    rw [hx] at h2
    have e : turnB p f 0 = (bAdd p 0 1, f) := by unfold turnB; rw [if_pos rfl]
    refine ⟨h1, Int.le_refl _, (show (0 : Int) ≤ 18446744073709551615 by decide), ?_, ?_⟩
    · rw [e]; exact h2
    · rw [e]; unfold FR; rw [takeP_fa, takeP_fm]; exact hf
  · rw [if_neg hx] at hb ⊢
    have hx1 := bit_cases hx
    dsimp only at hb ⊢
    by_cases hy : (takeP q.1 (takeP q.1 S 1).2 1).1 = 1
    · rw [if_pos hy] at hb ⊢
      unfold newT at hb ⊢
      generalize hY : (takeP q.1 (takeP q.1 S 1).2 1).2 = Y at *
      have hYf : Y.fa = S.fa ∧ Y.fm = S.fm := by rw [← hY, takeP_fa, takeP_fa, takeP_fm, takeP_fm]; exact ⟨rfl, rfl⟩
      have gbd := takeP_bd q.1 Y 6
      have hbd := takeP_bd q.1 (takeP q.1 Y 6).2 6
      generalize ha : (takeP q.1 Y 6).1.toNat = a at *
      generalize hm : (takeP q.1 (takeP q.1 Y 6).2 6).1.toNat + 1 = m at *
      split at hb
      · exact absurd hb (by simp [Rs.brk])
      · rename_i hsum
        rw [if_neg hsum]
        dsimp only at hb ⊢
        split at hb
        · exact absurd hb (by simp)
        · rename_i hnot
          rw [if_neg hnot]
          dsimp only at hb
          have ub := takeP_bd q.1 (takeP q.1 (takeP q.1 Y 6).2 6).2 m
          have b4 := takeP_br hb
          have b3 := takeP_br b4
          have b2 := takeP_br b3
          obtain ⟨h1, h2⟩ := take_only h (takeP_br (by rw [← hY] at b2; exact b2))
          rw [hx1] at h2
          obtain ⟨_, h3⟩ := take_only h2 (by rw [hY]; exact b2)
          rw [hy, hY] at h3
          obtain ⟨_, h4⟩ := take_only h3 b3
          obtain ⟨_, h5⟩ := take_only h4 b4
          obtain ⟨_, h6⟩ := take_only h5 hb
          have e6 : (2 : Int) ^ 6 = 64 := by decide
          have eg : (takeP q.1 Y 6).1 = (a : Int) := by omega
          have eh : (takeP q.1 (takeP q.1 Y 6).2 6).1 = ((m - 1 : Nat) : Int) := by omega
          generalize hU : takeP q.1 (takeP q.1 (takeP q.1 Y 6).2 6).2 m = U at *
          have mb := mul_bd (l := a) (k := 64 - a - m) ub.1 ub.2 (by omega)
          have pl := pow64_le a
          have hnz : ¬ U.1 * 2 ^ (64 - a - m) = 0 := fun e => hnot (.inl e)
          have hzr : zr (U.1 * 2 ^ (64 - a - m)) = (a, 64 - a - m) := Classical.byContradiction fun e => hnot (.inr (.inl e))
          have hno : ¬ (S.fa ≤ a ∧ a + m ≤ S.fa + S.fm) := fun e => hnot (.inr (.inr (by rw [takeP_fa, takeP_fm, takeP_fa, takeP_fm, hYf.1, hYf.2]; exact e)))
          have hdiv : U.1 * 2 ^ (64 - a - m) / 2 ^ (64 - a - m) = U.1 := Int.mul_ediv_cancel _ (Int.ne_of_gt (pow_pos' _))
          have eN : turnB p f (U.1 * 2 ^ (64 - a - m)) = turnN p (U.1 * 2 ^ (64 - a - m)) := by
            unfold turnB
            rw [if_neg hnz]
            rcases hf with ⟨rfl, _, _⟩ | ⟨k, rfl, hk, _⟩
            · rfl
            · show (if S.fa ≤ _ ∧ k ≤ _ then _ else _) = _
              rw [hzr, if_neg (by intro hc; apply hno; dsimp only at hc; omega)]
          refine ⟨h1, mb.1, by omega, ?_, ?_⟩
          · rw [eN]; unfold turnN; rw [hzr]
            dsimp only
            rw [hdiv, show 64 - a - (64 - a - m) - 1 = m - 1 by omega, show 64 - a - (64 - a - m) = m by omega]
            rw [eg, eh, add_11] at h6
            exact ⟨h6.gb, h6.ext, h6.pos, h6.left⟩
          · rw [eN]; unfold turnN; rw [hzr]
            refine .inr ⟨64 - a - m, rfl, ?_, ?_⟩
            · show a + m + (64 - a - m) = 64; omega
            · show 1 ≤ m; omega
    · rw [if_neg hy] at hb ⊢
      have hy0 := bit_cases' hy
      unfold oldT at hb ⊢
      generalize hY : (takeP q.1 (takeP q.1 S 1).2 1).2 = Y at *
      have hYf : Y.fa = S.fa ∧ Y.fm = S.fm := by rw [← hY, takeP_fa, takeP_fa, takeP_fm, takeP_fm]; exact ⟨rfl, rfl⟩
      dsimp only at hb ⊢
      split at hb
      · exact absurd hb (by simp [Rs.brk])
      · rename_i hnz
        rw [if_neg hnz]
        have ub := takeP_bd q.1 Y Y.fm
        have b2 := takeP_br hb
        obtain ⟨h1, h2⟩ := take_only h (takeP_br (by rw [← hY] at b2; exact b2))
        rw [hx1] at h2
        obtain ⟨_, h3⟩ := take_only h2 (by rw [hY]; exact b2)
        rw [hy0, hY] at h3
        obtain ⟨_, h6⟩ := take_only h3 hb
        generalize hU : takeP q.1 Y Y.fm = U at *
        have hUf : U.2.fa = S.fa ∧ U.2.fm = S.fm := by rw [← hU, takeP_fa, takeP_fm]; exact hYf
        rw [hYf.1, hYf.2] at hnz ⊢
        rw [hYf.2] at h6 ub
        rcases hf with ⟨rfl, e1, e2⟩ | ⟨k, rfl, hk, hk1⟩
        · rw [e2] at ub
          have : (2 : Int) ^ 0 = 1 := rfl
          exact absurd (by rw [show U.1 = 0 by omega]; simp) hnz
        · have mb := mul_bd (l := S.fa) (k := k) ub.1 ub.2 (by omega)
          rw [show 64 - S.fa - S.fm = k by omega] at hnz ⊢
          have pl := pow64_le S.fa
          have hdiv : U.1 * 2 ^ k / 2 ^ k = U.1 := Int.mul_ediv_cancel _ (Int.ne_of_gt (pow_pos' _))
          obtain ⟨a, b, hz1, hz2⟩ := zr_ok (x := U.1 * 2 ^ k) (by omega) (by omega)
          have ga := zr_a_ge hz2 mb.2 (by omega)
          have gb := zr_b_ge (k := k) hz2 (Int.mul_emod_left _ _)
          have eN : turnB p (some (S.fa, k)) (U.1 * 2 ^ k) = (bAdd (bAdd p 2 2) U.1 S.fm, some (S.fa, k)) := by
            unfold turnB
            rw [if_neg hnz]
            show (if S.fa ≤ _ ∧ k ≤ _ then _ else _) = _
            rw [hz1, if_pos ⟨ga, gb⟩, hdiv, show 64 - S.fa - k = S.fm by omega]
          refine ⟨h1, mb.1, by omega, ?_, ?_⟩
          · rw [eN]
            rw [add_10] at h6
            exact h6
          · rw [eN]
            refine .inr ⟨k, by rw [hUf.1], ?_, ?_⟩
            · rw [hUf.1, hUf.2]; exact hk
            · rw [hUf.2]; exact hk1
end Go.Proofs.YteblbcbfaomdmaaDoor.Chk
/- Plain: a turn that was put is read; a sample that was put is read, and only one that was put. -/
namespace Go.Proofs.YteblbcbfaomdmaaDoor.Chk
open Go.RowKit Go.Proofs.YteblbcbfaomdmaaDoor.Bts
open Go.Proofs.YteblbcbfaomdmaaDoor.Smp hiding hid ret_int below_drewN

theorem div_lt {x : Int} {k m : Nat} (h0 : 0 ≤ x) (h : x < 2 ^ (m + k)) : 0 ≤ x / 2 ^ k ∧ x / 2 ^ k < 2 ^ m := by
  have hp := pow_pos' k
  refine ⟨Int.ediv_nonneg h0 (by omega), ?_⟩
  rw [Int.ediv_lt_iff_lt_mul hp, ← Int.pow_add]; exact h
theorem div_mul {x : Int} {k : Nat} (h : x % 2 ^ k = 0) : x / 2 ^ k * 2 ^ k = x := Int.ediv_mul_cancel_of_emod_eq_zero h
theorem turn_back {q p : Bt} {S : Rs} {f : Fm} {turn : Int} (h : Pos q p S) (hf : FR f S) (hb : S.br = false) (l0 : 0 ≤ turn) (l1 : turn ≤ 18446744073709551615) (he : Ext (turnB p f turn).1 q) :
    (turnP q.1 S).1 = turn ∧ (turnP q.1 S).2.br = false := by
  have e6 : (2 : Int) ^ 6 = 64 := by decide
  by_cases hz : turn = 0
  · subst hz
    have e : turnB p f 0 = (bAdd p 0 1, f) := by unfold turnB; rw [if_pos rfl]
    rw [e] at he
    obtain ⟨h1, h2, h3⟩ := take_back h hb he
    have hx : (takeP q.1 S 1).1 = 0 := by rw [h1]; decide
    unfold turnP
    rw [if_pos hx]
    exact ⟨rfl, h2⟩
  · obtain ⟨a, b, hz1, hz2⟩ := zr_ok (x := turn) (by omega) l1
    have hs := zr_sum hz2
    have hnew : Ext (turnN p turn).1 q → ¬ (S.fa ≤ a ∧ 64 - b ≤ S.fa + S.fm) → (turnP q.1 S).1 = turn ∧ (turnP q.1 S).2.br = false := by
      intro he hno
      unfold turnN at he
      rw [hz1] at he
      dsimp only at he
      rw [← add_11] at he
      have g1 := h.gb.add 1 1
      have g2 := g1.add 1 1
      have g3 := g2.add (a : Int) 6
      have g4 := g3.add ((64 - a - b - 1 : Nat) : Int) 6
      have x4 := (ext_add g4 (turn / 2 ^ b) (64 - a - b)).trans he
      have x3 := (ext_add g3 ((64 - a - b - 1 : Nat) : Int) 6).trans x4
      have x2 := (ext_add g2 (a : Int) 6).trans x3
      have x1 := (ext_add g1 1 1).trans x2
      obtain ⟨a1, a2, a3⟩ := take_back h hb x1
      obtain ⟨b1, b2, b3⟩ := take_back a3 a2 x2
      have hx : ¬ (takeP q.1 S 1).1 = 0 := by rw [a1]; decide
      have hy : (takeP q.1 (takeP q.1 S 1).2 1).1 = 1 := by rw [b1]; decide
      unfold turnP
      rw [if_neg hx]
      dsimp only
      rw [if_pos hy]
      generalize hY : (takeP q.1 (takeP q.1 S 1).2 1).2 = Y at *
      have hYf : Y.fa = S.fa ∧ Y.fm = S.fm := by rw [← hY, takeP_fa, takeP_fa, takeP_fm, takeP_fm]; exact ⟨rfl, rfl⟩
      obtain ⟨c1, c2, c3⟩ := take_back b3 b2 x3
      obtain ⟨d1, d2, d3⟩ := take_back c3 c2 x4
      have ea : (takeP q.1 Y 6).1.toNat = a := by rw [c1]; omega
      have em : (takeP q.1 (takeP q.1 Y 6).2 6).1.toNat + 1 = 64 - a - b := by rw [d1]; omega
      rw [ea, em]
      obtain ⟨u1, u2, u3⟩ := take_back d3 d2 he
      have dl := div_lt (x := turn) (k := b) (m := 64 - a - b) l0 (by rw [show 64 - a - b + b = 64 - a by omega]; exact hz2.hi)
      rw [Int.emod_eq_of_lt dl.1 dl.2] at u1
      unfold newT
      rw [if_neg (by omega)]
      dsimp only
      rw [u1, show 64 - a - (64 - a - b) = b by omega, div_mul hz2.lo, takeP_fa, takeP_fm, takeP_fa, takeP_fm, hYf.1, hYf.2]
      rw [if_neg (by
        rintro (h1 | h1 | h1)
        · exact hz h1
        · exact h1 hz1
        · exact hno (by omega))]
      exact ⟨rfl, u2⟩
    rcases hf with ⟨rfl, e1, e2⟩ | ⟨k, rfl, hk, hk1⟩
    · refine hnew ?_ (by omega)
      have e : turnB p none turn = turnN p turn := by unfold turnB; rw [if_neg hz]
      rw [e] at he; exact he
    · by_cases hin : S.fa ≤ a ∧ k ≤ b
      · have e : turnB p (some (S.fa, k)) turn = (bAdd (bAdd p 2 2) (turn / 2 ^ k) S.fm, some (S.fa, k)) := by
          unfold turnB
          rw [if_neg hz]
          show (if S.fa ≤ _ ∧ k ≤ _ then _ else _) = _
          rw [hz1, if_pos hin, show 64 - S.fa - k = S.fm by omega]
        rw [e] at he
        dsimp only at he
        rw [← add_10] at he
        have g1 := h.gb.add 1 1
        have g2 := g1.add 0 1
        have x2 := (ext_add g2 (turn / 2 ^ k) S.fm).trans he
        have x1 := (ext_add g1 0 1).trans x2
        obtain ⟨a1, a2, a3⟩ := take_back h hb x1
        obtain ⟨b1, b2, b3⟩ := take_back a3 a2 x2
        have hx : ¬ (takeP q.1 S 1).1 = 0 := by rw [a1]; decide
        have hy : ¬ (takeP q.1 (takeP q.1 S 1).2 1).1 = 1 := by rw [b1]; decide
        unfold turnP
        rw [if_neg hx]
        dsimp only
        rw [if_neg hy]
        generalize hY : (takeP q.1 (takeP q.1 S 1).2 1).2 = Y at *
        have hYf : Y.fa = S.fa ∧ Y.fm = S.fm := by rw [← hY, takeP_fa, takeP_fa, takeP_fm, takeP_fm]; exact ⟨rfl, rfl⟩
        obtain ⟨u1, u2, u3⟩ := take_back b3 b2 he
        have hhi := hz2.hi
        have hpm := pow_mono (show 64 - a ≤ S.fm + k by omega)
        have dl := div_lt (x := turn) (k := k) (m := S.fm) l0 (by omega)
        rw [Int.emod_eq_of_lt dl.1 dl.2] at u1
        have hlo : turn % 2 ^ k = 0 := by
          obtain ⟨z, hzz⟩ := Int.dvd_of_emod_eq_zero hz2.lo
          rw [hzz, show b = k + (b - k) by omega, Int.pow_add, Int.mul_assoc, Int.mul_emod_right]
        unfold oldT
        rw [hYf.1, hYf.2]
        dsimp only
        rw [u1, show 64 - S.fa - S.fm = k by omega, div_mul hlo, if_neg hz]
        exact ⟨rfl, u2⟩
      · refine hnew ?_ (by omega)
        have e : turnB p (some (S.fa, k)) turn = turnN p turn := by
          unfold turnB
          rw [if_neg hz]
          show (if S.fa ≤ _ ∧ k ≤ _ then _ else _) = _
          rw [hz1, if_neg hin]
        rw [e] at he; exact he

/-! ### xor -/
theorem ofInt_mod {x y : Int} (h : x % 18446744073709551616 = y % 18446744073709551616) : BitVec.ofInt 64 x = BitVec.ofInt 64 y := by
  apply BitVec.eq_of_toNat_eq
  rw [BitVec.toNat_ofInt, BitVec.toNat_ofInt]
  have e : ((2 ^ 64 : Nat) : Int) = 18446744073709551616 := by decide
  rw [e, h]
theorem ofInt_toNat (b : BitVec 64) : BitVec.ofInt 64 (b.toNat : Int) = b := by
  rw [BitVec.ofInt_natCast, BitVec.ofNat_toNat]; simp
theorem xor_u (x y : Int) : bits .xor .u64 x y = ((BitVec.ofInt 64 x ^^^ BitVec.ofInt 64 y).toNat : Int) := by
  show IntKind.u64.wrap ((BitVec.ofInt 64 x ^^^ BitVec.ofInt 64 y).toNat : Int) = _
  rw [IntKind.wrap_u64]
  have := (BitVec.ofInt 64 x ^^^ BitVec.ofInt 64 y).isLt
  omega
theorem xor_i (x y : Int) : bits .xor .i64 x y = wrap64 ((BitVec.ofInt 64 x ^^^ BitVec.ofInt 64 y).toNat : Int) := by
  show IntKind.i64.wrap ((BitVec.ofInt 64 x ^^^ BitVec.ofInt 64 y).toNat : Int) = _
  rw [IntWalk.i64_left]
theorem ofInt_wrap64 (x : Int) : BitVec.ofInt 64 (wrap64 x) = BitVec.ofInt 64 x := ofInt_mod (by simp only [wrap64]; omega)
theorem ofInt_wrapu (x : Int) : BitVec.ofInt 64 (IntKind.u64.wrap x) = BitVec.ofInt 64 x := ofInt_mod (by rw [IntKind.wrap_u64]; omega)
theorem toNat_ofInt' (x : Int) : ((BitVec.ofInt 64 x).toNat : Int) = x % 18446744073709551616 := by
  rw [BitVec.toNat_ofInt]
  have e : ((2 ^ 64 : Nat) : Int) = 18446744073709551616 := by decide
  rw [e]; omega
/-- The turn that was put gives the value again. -/
theorem xor_back {s v : Int} (l0 : -9223372036854775808 ≤ s) (l1 : s ≤ 9223372036854775807) : bits .xor .i64 v (wrap64 (xorV s v)) = s := by
  unfold xorV
  rw [xor_i, ofInt_wrap64, xor_u, ofInt_toNat, ofInt_wrapu, ofInt_wrapu, BitVec.xor_comm (BitVec.ofInt 64 s), ← BitVec.xor_assoc, BitVec.xor_self, BitVec.zero_xor, toNat_ofInt']
  simp only [wrap64]; omega
/-- The turn that is read is the one that would be put. -/
theorem xor_only {v turn : Int} (l0 : 0 ≤ turn) (l1 : turn ≤ 18446744073709551615) : xorV (bits .xor .i64 v (wrap64 turn)) v = turn := by
  unfold xorV
  rw [xor_u, ofInt_wrapu, ofInt_wrapu, xor_i, ofInt_wrap64, ofInt_wrap64, ofInt_toNat, BitVec.xor_comm (BitVec.ofInt 64 v), BitVec.xor_assoc, BitVec.xor_self, BitVec.xor_zero, toNat_ofInt']
  omega
theorem xor_in64 (x y : Int) : -9223372036854775808 ≤ bits .xor .i64 x y ∧ bits .xor .i64 x y ≤ 9223372036854775807 := by
  rw [xor_i]; simp only [wrap64]; omega

/-! ### a sample -/
structure Stn (q : Bt) (c : Ck) (S : Rs) : Prop where
  pos : Pos q c.b S
  br : S.br = false
  t : S.t = c.t
  v : S.v = c.v
  step : S.step = c.step
  fr : FR c.f S
def Kp (S' S : Rs) : Prop := S'.t = S.t ∧ S'.v = S.v ∧ S'.step = S.step ∧ S'.pos + S'.left = S.pos + S.left
theorem Kp.trans {a b c : Rs} (h : Kp a b) (k : Kp b c) : Kp a c := ⟨h.1.trans k.1, h.2.1.trans k.2.1, h.2.2.1.trans k.2.2.1, h.2.2.2.trans k.2.2.2⟩
theorem takeP_kp (zs : List Int) (S : Rs) (m : Nat) : Kp (takeP zs S m).2 S := ⟨takeP_t _ _ _, takeP_v _ _ _, takeP_step _ _ _, takeP_sum _ _ _⟩
theorem kp_brk (S : Rs) : Kp S.brk S := ⟨rfl, rfl, rfl, rfl⟩
theorem kp_frame (S : Rs) (b : Bool) (x y : Nat) : Kp { S with br := b, fa := x, fm := y } S := ⟨rfl, rfl, rfl, rfl⟩
theorem newT_keep (zs : List Int) (S : Rs) (a m : Nat) : Kp (newT zs S a m).2 S ∧ ((newT zs S a m).2.br = false → S.br = false) := by
  unfold newT
  split
  · exact ⟨kp_brk S, fun h => by simp [Rs.brk] at h⟩
  · have k := takeP_kp zs S m
    have b := @takeP_br zs S m
    dsimp only
    generalize takeP zs S m = U at *
    split
    · exact ⟨(kp_frame U.2 true a m).trans k, fun h => by simp at h⟩
    · exact ⟨(kp_frame U.2 U.2.br a m).trans k, fun h => b h⟩
theorem oldT_keep (zs : List Int) (S : Rs) : Kp (oldT zs S).2 S ∧ ((oldT zs S).2.br = false → S.br = false) := by
  unfold oldT
  have k := takeP_kp zs S S.fm
  have b := @takeP_br zs S S.fm
  dsimp only
  generalize takeP zs S S.fm = U at *
  split
  · exact ⟨(kp_brk U.2).trans k, fun h => by simp [Rs.brk] at h⟩
  · exact ⟨k, b⟩
theorem turnP_all (zs : List Int) (S : Rs) : Kp (turnP zs S).2 S ∧ ((turnP zs S).2.br = false → S.br = false) := by
  unfold turnP
  have k1 := takeP_kp zs S 1
  have b1 := @takeP_br zs S 1
  generalize takeP zs S 1 = X at *
  split
  · exact ⟨k1, b1⟩
  · have k2 := takeP_kp zs X.2 1
    have b2 := @takeP_br zs X.2 1
    dsimp only
    generalize takeP zs X.2 1 = Y at *
    split
    · have k3 := takeP_kp zs Y.2 6
      have b3 := @takeP_br zs Y.2 6
      generalize takeP zs Y.2 6 = Z at *
      have k4 := takeP_kp zs Z.2 6
      have b4 := @takeP_br zs Z.2 6
      generalize takeP zs Z.2 6 = V at *
      have k5 := newT_keep zs V.2 Z.1.toNat (V.1.toNat + 1)
      exact ⟨k5.1.trans (k4.trans (k3.trans (k2.trans k1))), fun h => b1 (b2 (b3 (b4 (k5.2 h))))⟩
    · have k5 := oldT_keep zs Y.2
      exact ⟨k5.1.trans (k2.trans k1), fun h => b1 (b2 (k5.2 h))⟩
theorem turnP_keep (zs : List Int) (S : Rs) : (turnP zs S).2.t = S.t ∧ (turnP zs S).2.v = S.v ∧ (turnP zs S).2.step = S.step ∧ (turnP zs S).2.pos + (turnP zs S).2.left = S.pos + S.left := (turnP_all zs S).1
/-- A time that may be. -/
def Tm (t : Int) : Prop := 0 ≤ t ∧ t ≤ 1000000000000
theorem next_only {q : Bt} {c : Ck} {S : Rs} (h : Stn q c S) (ht : Tm c.t) (hs : Tm c.step) (hb : (nextP q.1 S).br = false) (hn : Tm (nextP q.1 S).t) :
    Stn q (nextC c ((nextP q.1 S).t, (nextP q.1 S).v)) (nextP q.1 S) := by
  obtain ⟨u1, u2, u3, u4⟩ := turnP_keep q.1 (timeS q.1 S)
  obtain ⟨k1, k2, k3, k4, k5, k6⟩ := bendP_keep q.1 S
  have hb1 : (turnP q.1 (timeS q.1 S)).2.br = false := hb
  have et : (nextP q.1 S).t = wrap64 (c.t + wrap64 (c.step + (bendP q.1 S).1)) := by
    show (turnP q.1 (timeS q.1 S)).2.t = _
    rw [u1]
    show wrap64 ((bendP q.1 S).2.t + wrap64 ((bendP q.1 S).2.step + (bendP q.1 S).1)) = _
    rw [k1, k3, h.t, h.step]
  have es : (nextP q.1 S).step = wrap64 (c.step + (bendP q.1 S).1) := by
    show (turnP q.1 (timeS q.1 S)).2.step = _
    rw [u3]
    show wrap64 ((bendP q.1 S).2.step + (bendP q.1 S).1) = _
    rw [k3, h.step]
  have ev : (nextP q.1 S).v = bits .xor .i64 c.v (wrap64 (turnP q.1 (timeS q.1 S)).1) := by
    show bits .xor .i64 (turnP q.1 (timeS q.1 S)).2.v _ = _
    rw [u2]
    show bits .xor .i64 (bendP q.1 S).2.v _ = _
    rw [k2, h.v]
  have bb : -9223372036854775808 ≤ (bendP q.1 S).1 ∧ (bendP q.1 S).1 ≤ 9223372036854775807 := by
    show -9223372036854775808 ≤ bendV q.1 S ∧ bendV q.1 S ≤ 9223372036854775807
    unfold bendV; simp only [wrap64]; omega
  have hbend : (nextP q.1 S).t - c.t - c.step = (bendP q.1 S).1 ∧ (nextP q.1 S).step = (nextP q.1 S).t - c.t := by
    rw [es]
    rw [et] at hn ⊢
    unfold Tm at ht hs hn
    simp only [wrap64] at hn ⊢
    omega
  have hbs : (timeS q.1 S).br = false := (turnP_all q.1 (timeS q.1 S)).2 hb1
  obtain ⟨_, hp⟩ := bend_only h.pos (show (bendP q.1 S).2.br = false from hbs)
  have hp2 : Pos q (bendB c.b (bendP q.1 S).1) (timeS q.1 S) := ⟨hp.gb, hp.ext, hp.pos, hp.left⟩
  have hf2 : FR c.f (timeS q.1 S) := by
    have h1 : (timeS q.1 S).fa = S.fa := k4
    have h2 : (timeS q.1 S).fm = S.fm := k5
    unfold FR; rw [h1, h2]; exact h.fr
  obtain ⟨_, l0, l1, hp3, hf3⟩ := turn_only hp2 hf2 hb1
  have ex : xorV (nextP q.1 S).v c.v = (turnP q.1 (timeS q.1 S)).1 := by rw [ev]; exact xor_only l0 l1
  refine ⟨?_, hb, rfl, rfl, hbend.2, ?_⟩
  · show Pos q (turnB (bendB c.b ((nextP q.1 S).t - c.t - c.step)) c.f (xorV (nextP q.1 S).v c.v)).1 _
    rw [hbend.1, ex]
    exact ⟨hp3.gb, hp3.ext, hp3.pos, hp3.left⟩
  · show FR (turnB (bendB c.b ((nextP q.1 S).t - c.t - c.step)) c.f (xorV (nextP q.1 S).v c.v)).2 _
    rw [hbend.1, ex]
    exact hf3
theorem next_back {q : Bt} {c : Ck} {S : Rs} {s : Sm} (h : Stn q c S) (ht : Tm c.t) (hs : Tm c.step) (hn : Tm s.1) (l0 : -9223372036854775808 ≤ s.2) (l1 : s.2 ≤ 9223372036854775807) (he : Ext (nextC c s).b q) :
    (nextP q.1 S).br = false ∧ (nextP q.1 S).t = s.1 ∧ (nextP q.1 S).v = s.2 := by
  obtain ⟨u1, u2, u3, u4⟩ := turnP_keep q.1 (timeS q.1 S)
  obtain ⟨k1, k2, k3, k4, k5, k6⟩ := bendP_keep q.1 S
  have he' : Ext (turnB (bendB c.b (s.1 - c.t - c.step)) c.f (xorV s.2 c.v)).1 q := he
  have heb := (ext_turn (f := c.f) (turn := xorV s.2 c.v) (bendB_G h.pos.gb (s.1 - c.t - c.step))).trans he'
  unfold Tm at ht hs hn
  obtain ⟨b1, b2⟩ := bend_back h.pos h.br (by omega) (by omega) heb
  obtain ⟨_, hp⟩ := bend_only h.pos b2
  rw [b1] at hp
  have hp2 : Pos q (bendB c.b (s.1 - c.t - c.step)) (timeS q.1 S) := ⟨hp.gb, hp.ext, hp.pos, hp.left⟩
  have hf2 : FR c.f (timeS q.1 S) := by
    have h1 : (timeS q.1 S).fa = S.fa := k4
    have h2 : (timeS q.1 S).fm = S.fm := k5
    unfold FR; rw [h1, h2]; exact h.fr
  have xb := xor_bd s.2 c.v
  obtain ⟨t1, t2⟩ := turn_back hp2 hf2 (show (timeS q.1 S).br = false from b2) xb.1 xb.2 he'
  refine ⟨t2, ?_, ?_⟩
  · show (turnP q.1 (timeS q.1 S)).2.t = _
    rw [u1]
    show wrap64 ((bendP q.1 S).2.t + wrap64 ((bendP q.1 S).2.step + (bendP q.1 S).1)) = _
    rw [k1, k3, h.t, h.step, b1]
    simp only [wrap64]; omega
  · show bits .xor .i64 (turnP q.1 (timeS q.1 S)).2.v (wrap64 (turnP q.1 (timeS q.1 S)).1) = _
    rw [u2, t1]
    show bits .xor .i64 (bendP q.1 S).2.v _ = _
    rw [k2, h.v]; exact xor_back l0 l1
theorem first_only {q : Bt} {c : Ck} {S : Rs} (h : Stn q c S) (hb : (firstP q.1 S).br = false) : Stn q (firstC c ((firstP q.1 S).t, (firstP q.1 S).v)) (firstP q.1 S) := by
  have hb1 : (takeP q.1 (firstS q.1 S) 64).2.br = false := hb
  have hb2 : (takeP q.1 S 40).2.br = false := takeP_br (S := firstS q.1 S) hb1
  obtain ⟨_, p1⟩ := take_only h.pos hb2
  have p1' : Pos q (bAdd c.b (takeP q.1 S 40).1 40) (firstS q.1 S) := ⟨p1.gb, p1.ext, p1.pos, p1.left⟩
  obtain ⟨_, p2⟩ := take_only p1' hb1
  have d1 := takeP_bd q.1 S 40
  have d2 := takeP_bd q.1 (firstS q.1 S) 64
  have e40 : (2 : Int) ^ 40 = 1099511627776 := by decide
  have e64 : (2 : Int) ^ 64 = 18446744073709551616 := by decide
  have et : (firstP q.1 S).t = wrap64 (takeP q.1 S 40).1 := by
    show (takeP q.1 (firstS q.1 S) 64).2.t = _
    rw [takeP_t]; rfl
  have ev : (firstP q.1 S).v = wrap64 (takeP q.1 (firstS q.1 S) 64).1 := rfl
  refine ⟨?_, hb, rfl, rfl, ?_, ?_⟩
  · show Pos q (bAdd (bAdd c.b (IntKind.u64.wrap (firstP q.1 S).t) 40) (IntKind.u64.wrap (firstP q.1 S).v) 64) _
    rw [et, ev, IntKind.wrap_u64, IntKind.wrap_u64]
    rw [show wrap64 (takeP q.1 S 40).1 % 18446744073709551616 = (takeP q.1 S 40).1 by simp only [wrap64]; omega, show wrap64 (takeP q.1 (firstS q.1 S) 64).1 % 18446744073709551616 = (takeP q.1 (firstS q.1 S) 64).1 by simp only [wrap64]; omega]
    exact ⟨p2.gb, p2.ext, p2.pos, p2.left⟩
  · show (takeP q.1 (firstS q.1 S) 64).2.step = c.step
    rw [takeP_step]
    show (takeP q.1 S 40).2.step = _
    rw [takeP_step, h.step]
  · have h1 : (firstP q.1 S).fa = S.fa := by
      show (takeP q.1 (firstS q.1 S) 64).2.fa = _
      rw [takeP_fa]
      show (takeP q.1 S 40).2.fa = _
      rw [takeP_fa]
    have h2 : (firstP q.1 S).fm = S.fm := by
      show (takeP q.1 (firstS q.1 S) 64).2.fm = _
      rw [takeP_fm]
      show (takeP q.1 S 40).2.fm = _
      rw [takeP_fm]
    show FR c.f _
    unfold FR; rw [h1, h2]; exact h.fr
theorem first_back {q : Bt} {c : Ck} {S : Rs} {s : Sm} (h : Stn q c S) (hn : Tm s.1) (l0 : -9223372036854775808 ≤ s.2) (l1 : s.2 ≤ 9223372036854775807) (he : Ext (firstC c s).b q) :
    (firstP q.1 S).br = false ∧ (firstP q.1 S).t = s.1 ∧ (firstP q.1 S).v = s.2 := by
  have he' : Ext (bAdd (bAdd c.b (IntKind.u64.wrap s.1) 40) (IntKind.u64.wrap s.2) 64) q := he
  have g1 := h.pos.gb.add (IntKind.u64.wrap s.1) 40
  obtain ⟨a1, a2, a3⟩ := take_back h.pos h.br ((ext_add g1 (IntKind.u64.wrap s.2) 64).trans he')
  have p1' : Pos q (bAdd c.b (IntKind.u64.wrap s.1) 40) (firstS q.1 S) := ⟨a3.gb, a3.ext, a3.pos, a3.left⟩
  obtain ⟨b1, b2, b3⟩ := take_back p1' (show (firstS q.1 S).br = false from a2) he'
  have e40 : (2 : Int) ^ 40 = 1099511627776 := by decide
  have e64 : (2 : Int) ^ 64 = 18446744073709551616 := by decide
  unfold Tm at hn
  refine ⟨b2, ?_, ?_⟩
  · show (takeP q.1 (firstS q.1 S) 64).2.t = _
    rw [takeP_t]
    show wrap64 (takeP q.1 S 40).1 = _
    rw [a1, IntKind.wrap_u64, e40]; simp only [wrap64]; omega
  · show wrap64 (takeP q.1 (firstS q.1 S) 64).1 = _
    rw [b1, IntKind.wrap_u64, e64]; simp only [wrap64]; omega
end Go.Proofs.YteblbcbfaomdmaaDoor.Chk
