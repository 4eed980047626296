/- Rows of blocks of the call's own; what is retained: the model's. -/
import Derived.Test.YtmgghnmlhkahnaaGreatKl
import Derived.Test.YtmgghnmlhkahnaaGreatKc
namespace Go.Proofs.YtmgghnmlhkahnaaGreat.Blk
open Go.RowKit
open Go.Proofs.YtmgghnmlhkahnaaGreat.Lab (Lb HasL)
open Go.Proofs.YtmgghnmlhkahnaaGreat.Smp (Sm HasS own_form ret_bool)
open Go.Proofs.YtmgghnmlhkahnaaGreat.Srs (hid lt_at kept blk own_base own_below own_grown own_set set_else set_at Q q0 HasQ SmlQ OwnO OwnL)
open Go.Proofs.YtmgghnmlhkahnaaGreat.Stn (T t0 OwnT HasT SmlT three infoT)

/-- A way in which blocks lie in a stretch of memory. -/
structure Way (Pb : Nat → Nat → Bk → World → Prop) : Prop where
  below : ∀ {X Y h w w'}, Pb X Y h w → Below w.heap.size w w' → Pb X Y h w'
  grown : ∀ {X Y h w w' r}, Pb X Y h w → World.grownBy w w' r → (∀ g, r = some g → g < X ∨ Y ≤ g) → Pb X Y h w'
  top : ∀ {X Y h w}, Pb X Y h w → Y ≤ w.heap.size
  has : ∀ {X Y h w}, Pb X Y h w → HasB w h
theorem wayIn : Way InB := ⟨fun h => h.below, fun h => h.grown, fun h => h.top, fun h => h.has⟩
/-- A row of blocks of the call's own; the i-th one's memory lies from L i on and below U i, and the row in none of these stretches. -/
structure RowK (Pb : Nat → Nat → Bk → World → Prop) (X : Nat) (a : Option Addr) (n c : Nat) (R : List Bk) (L U : Nat → Nat) (w : World) : Prop where
  len : R.length = n
  row : w.ownsRow X 40 5 (.slice a n c) n (flatK R)
  each : ∀ i, i < n → Pb (L i) (U i) (R.getD i k0) w
  off : ∀ g, (Value.slice a n c).ownBlock = some g → ∀ i, i < n → g < L i ∨ U i ≤ g
theorem RowK.nil {Pb : Nat → Nat → Bk → World → Prop} (X : Nat) (L U : Nat → Nat) (w : World) : RowK Pb X none 0 0 [] L U w := ⟨rfl, World.ownsRow_nil _ _ _ _, fun i hi => by omega, fun g _ i hi => by omega⟩
theorem RowK.below {Pb : Nat → Nat → Bk → World → Prop} (hW : Way Pb) {X n c : Nat} {a : Option Addr} {R : List Bk} {L U : Nat → Nat} {w w' : World} (h : RowK Pb X a n c R L U w) (hb : Below w.heap.size w w') : RowK Pb X a n c R L U w' := ⟨h.len, own_below h.row hb, fun i hi => hW.below (h.each i hi) hb, h.off⟩
theorem RowK.has {Pb : Nat → Nat → Bk → World → Prop} (hW : Way Pb) {X n c : Nat} {a : Option Addr} {R : List Bk} {L U : Nat → Nat} {w : World} (h : RowK Pb X a n c R L U w) : HasK w a R := by
  rcases h.row.2 with ⟨h1, h2⟩ | ⟨g, cap, cur, h1, _⟩
  · exact .inl (List.eq_nil_of_length_eq_zero (h.len.trans h2))
  · have hr := h.row
    simp only [Value.slice.injEq] at h1
    obtain ⟨rfl, -, rfl⟩ := h1
    exact ownK_has hr fun i hi => hW.has (h.each i (by rw [← h.len]; exact hi))
theorem RowK.push {Pb : Nat → Nat → Bk → World → Prop} (hW : Way Pb) {X n c c' Lo Up : Nat} {a a' : Option Addr} {R : List Bk} {L U : Nat → Nat} {q : Bk} {w W w' : World} (h : RowK Pb X a n c R L U w) (hb : Below w.heap.size w W) (hq : Pb Lo Up q W) (h1 : ∀ g, (Value.slice a n c).ownBlock = some g → g < Lo ∨ Up ≤ g)
    (hg : W.grownBy w' (Value.slice a n c).ownBlock) (hr : w'.ownsRow X 40 5 (.slice a' (n + 1) c') (n + 1) (flatK (R ++ [q])))
    (hv : (Value.slice a' (n + 1) c').ownBlock = (Value.slice a n c).ownBlock ∨ (Value.slice a' (n + 1) c').ownBlock = some W.heap.size) : RowK Pb X a' (n + 1) c' (R ++ [q]) (fun i => if i = n then Lo else L i) (fun i => if i = n then Up else U i) w' := by
  have hl := h.len
  have hget : ∀ i, (R ++ [q]).getD i k0 = if i = n then q else R.getD i k0 := fun i => by rw [getK_snoc, hl]
  refine ⟨by simp [hl], hr, fun i hi => ?_, fun g hg' i hi => ?_⟩
  · rw [hget]
    by_cases e : i = n
    · simp only [if_pos e]; exact hW.grown hq hg h1
    · simp only [if_neg e]; exact hW.grown (hW.below (h.each i (by omega)) hb) hg fun g hgg => h.off g hgg i (by omega)
  · rw [hg'] at hv
    have hv' : some g = (Value.slice a n c).ownBlock ∨ some g = some W.heap.size := hv
    by_cases e : i = n
    · simp only [if_pos e]
      rcases hv' with h3 | h3
      · exact h1 g h3.symm
      · have h4 := Option.some.inj h3; have := hW.top hq; omega
    · simp only [if_neg e]
      rcases hv' with h3 | h3
      · exact h.off g h3.symm i (by omega)
      · have h4 := Option.some.inj h3; have := hW.top (h.each i (by omega)); have := hb.size; omega
/-- What is retained. -/
def kp (x : Int) (bs : List Bk) : List Bk := bs.filter fun h => decide (x < h.T)
theorem kp_take {x : Int} {bs : List Bk} {k : Nat} (hk : k < bs.length) : kp x (bs.take (k + 1)) = kp x (bs.take k) ++ (if x < (bs.getD k k0).T then [bs.getD k k0] else []) := by
  unfold kp
  have e : bs[k]? = some (bs.getD k k0) := by simp [hk]
  rw [List.take_add_one, e, List.filter_append]
  congr 1
  by_cases h : x < (bs.getD k k0).T
  · rw [if_pos h]; simp only [Option.toList]; rw [List.filter_cons_of_pos (by simpa using h)]; rfl
  · rw [if_neg h]; simp only [Option.toList]; rw [List.filter_cons_of_neg (by simpa using h)]; rfl
theorem kp_len (x : Int) (bs : List Bk) : (kp x bs).length ≤ bs.length := List.length_filter_le _ _
theorem kp_snoc {d bs : List Bk} {n : Nat} (hl : d.length = n) (hs : SameK n d bs) {q : Bk} {p : Bk} (h : SameB p q) (hb : bs.length = n) : SameK (n + 1) (d ++ [p]) (bs ++ [q]) := by
  intro i hi
  rw [getK_snoc, getK_snoc, hl, hb]
  by_cases e : i = n
  · rw [if_pos e, if_pos e]; exact h
  · rw [if_neg e, if_neg e]; exact hs i (by omega)
theorem SameK.kp {x : Int} {n : Nat} {bs d : List Bk} (s : SameK n bs d) (hn : bs.length = n) (hl : d.length = n) : (Blk.kp x d).length = (Blk.kp x bs).length ∧ SameK (Blk.kp x bs).length (Blk.kp x bs) (Blk.kp x d) := by
  have key : ∀ k, k ≤ n → (Blk.kp x (d.take k)).length = (Blk.kp x (bs.take k)).length ∧ SameK (Blk.kp x (bs.take k)).length (Blk.kp x (bs.take k)) (Blk.kp x (d.take k)) := by
    intro k
    induction k with
    | zero => intro _; exact ⟨rfl, fun i hi => by simp [Blk.kp] at hi⟩
    | succ k ih =>
      intro hk
      obtain ⟨e1, e2⟩ := ih (by omega)
      have hs := s k (by omega)
      rw [kp_take (by omega), kp_take (by omega), hs.eT]
      by_cases h : x < (bs.getD k k0).T
      · rw [if_pos h, if_pos h]
        refine ⟨by simp [e1], ?_⟩
        rw [List.length_append]
        exact kp_snoc rfl e2 hs e1
      · rw [if_neg h, if_neg h, List.append_nil, List.append_nil]
        exact ⟨e1, e2⟩
  have := key n (Nat.le_refl _)
  rw [List.take_of_length_le (by omega), List.take_of_length_le (by omega)] at this
  exact this
theorem five_new (w : World) (v0 v1 v2 v3 v4 : Value) (t : TypeId) : ∀ j u, [v0, v1, v2, v3, v4][j]? = some u → (w.alloc (.cells #[v0, v1, v2, v3, v4] t)).cell? ((⟨w.heap.size, 0, none⟩ : Addr).add j) = some u := by
  intro j u hj
  obtain ⟨d0, d1, d2, d3, d4⟩ := five (heap_alloc_new w (.cells #[v0, v1, v2, v3, v4] t))
  rw [Smp.add_none, Nat.zero_add]
  match j, hj with
  | 0, h => simp at h; rw [← h]; exact d0
  | 1, h => simp at h; rw [← h]; exact d1
  | 2, h => simp at h; rw [← h]; exact d2
  | 3, h => simp at h; rw [← h]; exact d3
  | 4, h => simp at h; rw [← h]; exact d4
theorem flatK_snoc (R : List Bk) (q : Bk) : flatK (R ++ [q]) = flatK R ++ clK q := by
  rw [flatK_append]
  show flatK R ++ (clK q ++ []) = _
  rw [List.append_nil]
set_option maxHeartbeats 4000000 in
theorem f13 (a : Option Addr) (n c : Nat) (bs : List Bk) (x : Int) (w : World) (hn : bs.length = n) (hb : n ≤ 100) (hr : HasK w a bs) (hc : ∀ i, i < n → Cpb (bs.getD i k0)) :
    Calls Tryz.prog 13 #[.slice a n c, .int .i64 x] w fun e w' => ∃ (a' : Option Addr) (m c' : Nat) (R : List Bk), e = .returned (.slice a' m c') ∧ Hid (R.length = m ∧ m = (kp x bs).length ∧ SameK m (kp x bs) R ∧ HasK w' a' R) ∧ Below w.heap.size w w' := by
  obtain ⟨i0, hi, hz0, hz1, hz2⟩ := info_parts infoK
  have HN := hid hn
  have HR := hid hr
  have HC := hid hc
  clear hn hr hc
  go_enter Tryz.func13, Tryz.ntmps13
  go_wp2
  go_loopw [5, 10] (fun so si wr => ∃ (k m c' : Nat) (a' : Option Addr) (R : List Bk) (L U : Nat → Nat), k ≤ n ∧ si = .int .i64 k ∧ so = .slice a' m c' ∧ m ≤ k ∧ Hid (RowK InB w.heap.size a' m c' R L U wr) ∧ Hid (m = (kp x (bs.take k)).length ∧ SameK m (kp x (bs.take k)) R) ∧ Hid (Below w.heap.size w wr)) (fun _ si _ => n - (intOf si).toNat)
  case atStart => exact ⟨0, 0, 0, none, [], fun _ => 0, fun _ => 0, Nat.zero_le _, rfl, rfl, Nat.le_refl _, RowK.nil _ _ _ _, ⟨rfl, fun i hi => by omega⟩, Below.refl _ _⟩
  case round =>
    obtain ⟨k, m, c', a', R, L, U, hk, rfl, rfl, hmk, HO, HS, HX⟩ := hrel
    by_cases hlt : k < n
    rotate_left
    · obtain rfl : k = n := by omega
      have HE : Hid (R.length = m ∧ m = (kp x bs).length ∧ SameK m (kp x bs) R ∧ HasK wr a' R) := by
        have h := HS.out
        rw [List.take_of_length_le (by rw [HN.out]; exact Nat.le_refl _)] at h
        exact ⟨HO.out.len, h.1, h.2, HO.out.has wayIn⟩
      go_wp2
      go_ret
      exact ⟨a', m, c', R, rfl, HE, HX.out⟩
    obtain ⟨b, off, rfl, hbl, hcc, t1⟩ := (HR.out.below HX.out).at2 k (by rw [HN.out]; exact hlt)
    obtain ⟨c0, c1, c2, c3, c4⟩ := hcc
    have HCq := hid (HC.out k hlt)
    have HKt := hid (kp_take (x := x) (bs := bs) (k := k) (by rw [HN.out]; exact hlt))
    generalize bs.getD k k0 = q at *
    have i1 : (k : Int) < (n : Int) := by omega
    have HW0 := hid ((Below.refl wr.heap.size wr).alloc (Nat.le_refl _) (.cells (clB q) 40))
    have HBx := hid (heap_alloc_new wr (.cells (clB q) 40))
    have HT1 := hid (t1.below HW0.out)
    have hX0 : w.heap.size ≤ wr.heap.size := HX.out.size
    simp only [clB] at HW0 HBx HT1
    clear t1 hbl
    by_cases hx : x < q.T
    rotate_left
    · have HE2 : Hid (kp x (bs.take (k + 1)) = kp x (bs.take k)) := by unfold Hid; rw [HKt.out, if_neg hx, List.append_nil]
      have HO2 := hid (HO.out.below wayIn HW0.out)
      have HX2 := hid (HX.out.trans (HW0.out.mono hX0))
      go_wp2
      go_roundw
      case rel => exact ⟨k + 1, m, c', a', R, L, U, by omega, by go_num, rfl, by omega, HO2, by unfold Hid; rw [HE2.out]; exact HS.out, HX2⟩
      case measure => simp [intOf]; omega
    have HE3 : Hid (kp x (bs.take (k + 1)) = kp x (bs.take k) ++ [q]) := by unfold Hid; rw [HKt.out, if_pos hx]
    go_wp2_with fail
    refine (f26 q _ HT1.out HCq.out).mono ?_
    rintro e w4 ⟨h4, rfl, hs4, hi4, hb4⟩
    have HW4 : Hid (Below wr.heap.size wr w4) := HW0.out.trans (hb4.mono HW0.out.size)
    have HX4 := hid (HX.out.trans (HW4.out.mono hX0))
    have HI4 : Hid (InB wr.heap.size w4.heap.size h4 w4) := ⟨hi4.out.top, fun y hy => hi4.out.lies y ⟨hy.size, fun k h1 h2 => hy.same k (by have := HW0.out.size; omega) h2⟩⟩
    have HS4 := hid hs4.out
    have HO4 := hid (HO.out.below wayIn HW4.out)
    clear hs4 hi4 hb4 c0 c1 c2 c3 c4
    go_wp2_with (at_builtin; refine wpList_append_own_at _ rfl (.tmp 18) (.tmp 21) 24 rfl w.heap.size 40 i0 (.agg #[.int .i64 0, .int .i64 0, .int .i64 0, .slice none 0 0, .slice none 0 0]) 5 72 Tryz.underlying24 hi hz0 hz1 hz2 rfl (by decide) _ _ _ rfl (HO4.out.row.alloc _) ⟨w4.heap.size, 0, none⟩ 1 1 (clK h4) rfl rfl ?d1 ?d2 ?d3 ?d4 ?d5 ?_)
    case d1 => exact five_new w4 _ _ _ _ _ _
    case d2 => (intro u hu; simp [clK] at hu; rcases hu with rfl | rfl | rfl | rfl | rfl <;> rfl)
    case d3 => unfold maxLen; omega
    case d4 => omega
    case d5 => have := HX4.out.size; simp; omega
    intro v8 w8 hown8 hgr8 _ hat8
    obtain ⟨a8, c8, rfl⟩ := own_form hown8
    have HX8 := hid ((HX4.out.alloc HX4.out.size (.cells (clB h4) 40)).grown hgr8 (by have := HX4.out.size; simp; omega) (fun j hj => (HO4.out.row.lt j hj).1))
    have HO8 : Hid (RowK InB w.heap.size a8 (m + 1) c8 (R ++ [h4]) (fun i => if i = m then wr.heap.size else L i) (fun i => if i = m then w4.heap.size else U i) w8) := by
      have hba := (Below.refl w4.heap.size w4).alloc (Nat.le_refl _) (.cells (clB h4) 40)
      refine HO.out.push wayIn (HW4.out.trans (hba.mono HW4.out.size)) (HI4.out.below hba) (fun g hg => .inl (HO.out.row.lt g hg).2) hgr8 ?_ (by rw [World.size_alloc]; exact hat8)
      rw [flatK_snoc]
      exact hown8
    have HS8 : Hid (m + 1 = (kp x (bs.take (k + 1))).length ∧ SameK (m + 1) (kp x (bs.take (k + 1))) (R ++ [h4])) := by
      unfold Hid
      rw [HE3.out]
      exact ⟨by rw [List.length_append, ← HS.out.1]; rfl, kp_snoc HS.out.1.symm HS.out.2 HS4.out HO.out.len⟩
    clear hown8 hgr8 hat8
    go_wp2
    go_roundw
    case rel => exact ⟨k + 1, m + 1, c8, a8, R ++ [h4], _, _, by omega, by go_num, rfl, by omega, HO8, HS8, HX8⟩
    case measure => simp [intOf]; omega
end Go.Proofs.YtmgghnmlhkahnaaGreat.Blk
