/- What the model's l2Rest comes to: of each place whether the items stand for the rest of the text. -/
import Derived.Test.YtkjodikccehmkaaGreatRPh
namespace Go.Proofs.YtkjodikccehmkaaGreat.Pat
open Go.RowKit

def bRow (f : Nat → Bool) (n : Nat) : List Value := (List.range n).map fun i => .bool (f i)
theorem bRow_get {f : Nat → Bool} {n i : Nat} (h : i < n) : (bRow f n)[i]? = some (.bool (f i)) := by simp [bRow, h]
theorem bRow_congr {f g : Nat → Bool} {n : Nat} (h : ∀ i, i < n → f i = g i) : bRow f n = bRow g n := by
  unfold bRow
  apply List.map_congr_left
  intro i hi
  rw [h i (by simpa using hi)]
theorem bRow_set (f : Nat → Bool) (n i : Nat) (b : Bool) : (bRow f n).set i (.bool b) = bRow (fun j => if j = i then b else f j) n := by
  apply List.ext_getElem?
  intro j
  by_cases hj : j < n
  · rw [bRow_get hj]
    by_cases hij : i = j
    · subst hij
      rw [List.getElem?_set_self (by simp [bRow]; exact hj)]; simp
    · rw [List.getElem?_set_ne hij, bRow_get hj, if_neg (fun h => hij h.symm)]
  · rw [List.getElem?_eq_none (by simp [bRow]; omega), List.getElem?_eq_none (by simp [bRow]; omega)]
theorem bRow_made (n : Nat) : List.replicate n (Value.bool false) = bRow (fun _ => false) n := by
  apply List.ext_getElem?
  intro j
  by_cases hj : j < n
  · rw [bRow_get hj]; simp [hj]
  · rw [List.getElem?_eq_none (by simp; omega), List.getElem?_eq_none (by simp [bRow]; omega)]
theorem bRow_len (f : Nat → Bool) (n : Nat) : (bRow f n).length = n := by simp [bRow]

/-- A slice of numbers. -/
def HasI (w : World) (a : Option Addr) (zs : List Int) : Prop :=
  zs = [] ∨ ∃ b off, a = some ⟨b, off, none⟩ ∧ b < w.heap.size ∧ ∀ i, i < zs.length → w.cell? ⟨b, off + i, none⟩ = some (.int .i64 (zs.getD i 0))
theorem HasI.below {w w' : World} {a : Option Addr} {zs : List Int} (h : HasI w a zs) (hb : Below w.heap.size w w') : HasI w' a zs := by
  rcases h with h | ⟨b, off, h1, h2, h3⟩
  · exact .inl h
  · exact .inr ⟨b, off, h1, Nat.lt_of_lt_of_le h2 hb.size, fun i hi => (hb.cell (p := ⟨b, off + i, none⟩) h2).trans (h3 i hi)⟩
theorem info4 : (Tryz.prog.info? 4).map (fun i => (i.zero, i.size, i.bytes)) = some (some (.bool false), 1, 1) := by kernel_rfl

def rst (a : List Int) (L : List UInt8) (i : Nat) : Bool := rest a (L.drop i)
theorem rst_nil (L : List UInt8) (i : Nat) (h : i < L.length + 1) : rst [] L i = if i = L.length then true else false := by
  unfold rst
  simp only [rest]
  by_cases h1 : i = L.length
  · subst h1; simp
  · rw [if_neg h1]
    cases hd : L.drop i with
    | nil => have := congrArg List.length hd; simp at this; omega
    | cons c r => rfl
theorem rst_star_end (a : List Int) (L : List UInt8) : rst (-1 :: a) L L.length = rst a L L.length := by
  unfold rst; simp [rest, starR]
theorem rst_star (a : List Int) (L : List UInt8) (i : Nat) (h : i < L.length) : rst (-1 :: a) L i = (rst a L i || rst (-1 :: a) L (i + 1)) := by
  unfold rst
  rw [List.drop_eq_getElem_cons h]
  simp only [rest, if_true, starR]
theorem rst_item_end {x : Int} (hx : x ≠ -1) (a : List Int) (L : List UInt8) : rst (x :: a) L L.length = false := by
  unfold rst; simp [rest, hx]
theorem rst_item {x : Int} (hx : x ≠ -1) (a : List Int) (L : List UInt8) (i : Nat) (h : i < L.length) : rst (x :: a) L i = (rst a L (i + 1) && fitI x L[i]) := by
  unfold rst
  rw [List.drop_eq_getElem_cons h]
  simp only [rest, if_neg hx]
  rw [Bool.and_comm]
/-- The row of an item while it is made, from the end on. -/
def half (f : Nat → Bool) (I : Nat) (j : Nat) : Bool := if I ≤ j then f j else false
theorem half_set (f : Nat → Bool) (I n : Nat) (b : Bool) (hb : f I = b) : (bRow (half f (I + 1)) n).set I (.bool b) = bRow (half f I) n := by
  rw [bRow_set]
  apply bRow_congr
  intro j _
  unfold half
  by_cases h1 : j = I
  · subst h1; simp [hb]
  · by_cases h2 : I ≤ j
    · rw [if_neg h1, if_pos h2, if_pos (by omega)]
    · rw [if_neg h1, if_neg h2, if_neg (by omega)]
theorem half_top (f : Nat → Bool) (n : Nat) : bRow (half f n) n = bRow (fun _ => false) n := bRow_congr fun i hi => by unfold half; rw [if_neg (by omega)]
theorem half_zero (f : Nat → Bool) (n : Nat) : bRow (half f 0) n = bRow f n := bRow_congr fun i _ => by unfold half; rw [if_pos (Nat.zero_le _)]

/-- Two rows, the one that is made lying behind the other. -/
structure Two (B : Nat) (w0 w : World) (g h n : Nat) (f : Nat → Bool) (q : Nat → Bool) : Prop where
  now : w.ownsRow B 4 1 (.slice (some ⟨g, 0, none⟩) n n) n (bRow f n)
  nxt : w.ownsRow B 4 1 (.slice (some ⟨h, 0, none⟩) n n) n (bRow q n)
  ne : g ≠ h
  bel : Below B w0 w
theorem Two.drew {B : Nat} {w0 w : World} {g h n : Nat} {f q : Nat → Bool} (t : Two B w0 w g h n f q) : Two B w0 w.drew g h n f q := ⟨t.now, t.nxt, t.ne, t.bel.drew⟩
theorem Two.set {B I : Nat} {w0 w : World} {g h n : Nat} {f q : Nat → Bool} (t : Two B w0 w g h n f (half q (I + 1))) (b : Bool) (hb : q I = b) : Two B w0 (w.setCell ⟨h, I, none⟩ (.bool b)) g h n f (half q I) := by
  have hst := t.nxt.stored I (.bool b)
  refine ⟨t.now.kept hst.2 (.inr (fun e => t.ne (Option.some.inj e))), ?_, t.ne, t.bel.setCell (t.nxt.lt h rfl).1 _⟩
  rw [half_set _ _ _ _ hb] at hst
  exact hst.1
end Go.Proofs.YtkjodikccehmkaaGreat.Pat
/- What the model's l2Rest comes to: the walk. -/
namespace Go.Proofs.YtkjodikccehmkaaGreat.Pat
open Go.RowKit

theorem byte64 (c : UInt8) : wrap64 (c.toNat : Int) = (c.toNat : Int) := by
  have := c.toNat_lt
  unfold wrap64
  omega

set_option maxRecDepth 100000 in
set_option maxHeartbeats 8000000 in
theorem f94 (a : Option Addr) (n c : Nat) (zs : List Int) (s : ByteArray) (w : World) (hn : zs.length = n) (hn1 : n ≤ 1000) (hr : HasI w a zs) (hs : s.size ≤ 1000) :
    Calls Tryz.prog 94 #[.slice a n c, .string s] w fun e w' => (∃ g, e = .returned (.slice (some ⟨g, 0, none⟩) (s.size + 1) (s.size + 1)) ∧ w'.ownsRow w.heap.size 4 1 (.slice (some ⟨g, 0, none⟩) (s.size + 1) (s.size + 1)) (s.size + 1) (bRow (rst zs s.data.toList) (s.size + 1))) ∧ Below w.heap.size w w' := by
  obtain ⟨i0, hi, hz0, hz1, hz2⟩ := info_parts info4
  have HL : Hid (s.data.toList.length = s.size) := by unfold Hid; simp
  have HN := hid hn
  have HR := hid hr
  clear hn hr
  go_enter Tryz.func94, Tryz.ntmps94
  go_wp2_with (at_make; refine wpList_make_full _ rfl _ _ 109 rfl w.heap.size 4 i0 (.bool false) 1 Tryz.underlying109 hi hz0 hz1 _ _ _ _ (s.size + 1) rfl rfl (by omega) (by omega) ?b2 ?b3 (Nat.le_refl _) ?_)
  case b2 => rw [hz2]; omega
  case b3 => unfold maxLen; omega
  intro w1 hown1 hgr1
  have hown : w1.ownsRow w.heap.size 4 1 (.slice (some ⟨w.heap.size, 0, none⟩) (s.size + 1) (s.size + 1)) (s.size + 1) (bRow (fun _ => false) (s.size + 1)) := by
    rw [← bRow_made]; simpa [toList_madeCells_one, Value.cells] using hown1
  have HB1 := hid ((Below.refl w.heap.size w).grown hgr1 (Nat.le_refl _) (fun k h => by cases h))
  have hst := hown.stored s.size (.bool true)
  have fz := hown.frozenAt s.size
  have cz := (hown.cellAt s.size (by omega)).trans (bRow_get (f := fun _ => false) (n := s.size + 1) (i := s.size) (by omega))
  have HO2 : Hid ((w1.setCell ⟨w.heap.size, s.size, none⟩ (.bool true)).ownsRow w.heap.size 4 1 (.slice (some ⟨w.heap.size, 0, none⟩) (s.size + 1) (s.size + 1)) (s.size + 1) (bRow (rst (zs.drop n) s.data.toList) (s.size + 1))) := by
    unfold Hid
    have := hst.1
    rw [bRow_set] at this
    rw [List.drop_eq_nil_of_le (by rw [HN.out]; exact Nat.le_refl _)]
    rw [bRow_congr (g := fun j => if j = s.size then true else false)]
    · exact this
    · intro i hi; rw [rst_nil _ _ (by rw [HL.out]; exact hi), HL.out]
  have HB2 := hid (HB1.out.setCell (p := ⟨w.heap.size, s.size, none⟩) (Nat.le_refl _) (.bool true))
  clear hown1 hgr1 hown hst
  go_wp2
  go_loopw [5, 6] (fun so sk wr => ∃ (K g : Nat) (z : Int), so = .slice (some ⟨g, 0, none⟩) (s.size + 1) (s.size + 1) ∧ sk = .int .i64 z ∧ Hid (z = (K : Int) - 1) ∧ K ≤ n ∧ Hid (wr.ownsRow w.heap.size 4 1 (.slice (some ⟨g, 0, none⟩) (s.size + 1) (s.size + 1)) (s.size + 1) (bRow (rst (zs.drop K) s.data.toList) (s.size + 1))) ∧ Hid (Below w.heap.size w wr)) (fun _ sk _ => (intOf sk + 1).toNat)
  case atStart => exact ⟨n, w.heap.size, _, rfl, rfl, rfl, Nat.le_refl _, HO2, HB2⟩
  case round =>
    obtain ⟨K, g, z, rfl, rfl, HZ, hK, HO, HB⟩ := hrel
    cases K with
    | zero =>
      obtain rfl : z = -1 := by have := HZ.out; omega
      go_wp2
      go_ret
      exact ⟨⟨g, rfl, HO.out⟩, HB.out⟩
    | succ K =>
      obtain rfl : z = (K : Int) := by have := HZ.out; omega
      have HX : Hid (∃ x, x = zs.getD K 0) := ⟨_, rfl⟩
      obtain ⟨x, hx⟩ := HX.out
      have HD : Hid (zs.drop K = x :: zs.drop (K + 1)) := by
        unfold Hid
        rw [List.drop_eq_getElem_cons (by rw [HN.out]; omega), hx]
        simp [show K < zs.length from by rw [HN.out]; omega]
      have HXE := hid hx
      clear hx
      go_wp2_with (at_make; refine wpList_make_full _ rfl _ _ 109 rfl w.heap.size 4 i0 (.bool false) 1 Tryz.underlying109 hi hz0 hz1 _ _ _ _ (s.size + 1) rfl rfl (by omega) (by omega) ?b2 ?b3 ?b4 ?_)
      case b2 => rw [hz2]; omega
      case b3 => unfold maxLen; omega
      case b4 => exact HB.out.size
      intro w2 hown2 hgr2
      have HT2 : Hid (Two w.heap.size w w2 g wr.heap.size (s.size + 1) (rst (zs.drop (K + 1)) s.data.toList) (half (rst (zs.drop K) s.data.toList) (s.size + 1))) := by
        refine ⟨HO.out.kept hgr2 (.inr (by simp [Value.ownBlock])), ?_, ?_, HB.out.grown hgr2 HB.out.size (fun k h => by cases h)⟩
        · rw [half_top, ← bRow_made]; simpa [toList_madeCells_one, Value.cells] using hown2
        · have := (HO.out.lt g rfl).2; omega
      clear hown2 hgr2
      obtain ⟨h, hh⟩ : ∃ h, h = wr.heap.size := ⟨_, rfl⟩
      rw [← hh] at HT2 ⊢
      clear hh HO HB
      go_wp2
      go_loopw [8] (fun si wq => ∃ (I : Nat) (y : Int), si = .int .i64 y ∧ Hid (y = (I : Int) - 1) ∧ I ≤ s.size + 1 ∧ Hid (Two w.heap.size w wq g h (s.size + 1) (rst (zs.drop (K + 1)) s.data.toList) (half (rst (zs.drop K) s.data.toList) I))) (fun si _ => (intOf si + 1).toNat)
      case atStart => exact ⟨s.size + 1, _, rfl, by unfold Hid; omega, Nat.le_refl _, HT2⟩
      case round =>
        obtain ⟨I, y, rfl, HY, hI, HT⟩ := hrel
        cases I with
        | zero =>
          obtain rfl : y = -1 := by have := HY.out; omega
          have HO3 : Hid (wr.ownsRow w.heap.size 4 1 (.slice (some ⟨h, 0, none⟩) (s.size + 1) (s.size + 1)) (s.size + 1) (bRow (rst (zs.drop K) s.data.toList) (s.size + 1))) := by
            unfold Hid; rw [← half_zero]; exact HT.out.nxt
          have HB3 := hid HT.out.bel
          go_wp2
          go_roundw
          case rel => exact ⟨K, h, _, rfl, rfl, rfl, by omega, HO3, HB3⟩
          case measure => simp [intOf]
        | succ I =>
          obtain rfl : y = (I : Int) := by have := HY.out; omega
          rcases HR.out with hr | ⟨b, off, rfl, hbl, hc⟩
          · exact absurd HN.out (by rw [hr]; simp; omega)
          have ca := (HT.out.bel.cell (p := ⟨b, off + K, none⟩) hbl).trans (hc K (by rw [HN.out]; omega))
          rw [← HXE.out] at ca
          have cad : wr.drew.cell? ⟨b, off + K, none⟩ = some (.int .i64 x) := ca
          have fz := HT.out.nxt.frozenAt I
          have fzd : wr.drew.frozen? ⟨h, I, none⟩ = false := fz
          have cz := (HT.out.nxt.cellAt I (by omega)).trans (bRow_get (show I < s.size + 1 by omega))
          have czd : wr.drew.cell? ⟨h, I, none⟩ = _ := cz
          have iK : (K : Int) < (n : Int) := by omega
          have iI : (I : Int) < (s.size : Int) + 1 := by omega
          clear hc
          by_cases hend : I = s.size
          · have hlt : ¬ (I : Int) < (s.size : Int) := by omega
            have hnl : ¬ I < s.size := by omega
            have HE : Hid (I = s.data.toList.length) := by unfold Hid; rw [HL.out]; exact hend
            clear hend
            by_cases hx1 : x = -1
            · have e1 : (x == -1) = true := by simp [hx1]
              have HF : Hid (rst (zs.drop K) s.data.toList I = rst (zs.drop (K + 1)) s.data.toList I) := by unfold Hid; rw [HD.out, hx1, HE.out]; exact rst_star_end _ _
              have c0 := (HT.out.now.cellAt I (by omega)).trans (bRow_get (show I < s.size + 1 by omega))
              clear hx1
              cases h0 : rst (zs.drop (K + 1)) s.data.toList I with
              | true =>
                rw [h0] at c0
                have HS := hid (HT.out.set true (HF.out.trans h0))
                clear h0
                go_wp2
                go_roundw
                case rel => exact ⟨I, _, rfl, rfl, by omega, HS⟩
                case measure => simp [intOf]
              | false =>
                rw [h0] at c0
                have HS := hid (HT.out.set false (HF.out.trans h0))
                clear h0
                go_wp2
                go_roundw
                case rel => exact ⟨I, _, rfl, rfl, by omega, HS⟩
                case measure => simp [intOf]
            · have e1 : (x == -1) = false := by simp [hx1]
              have HS := hid (HT.out.drew.set false (by rw [HD.out, HE.out]; exact rst_item_end hx1 _ _))
              clear hx1
              go_wp2_with fail
              go_region
              all_goals
                go_wp2
                go_roundw
                case rel => exact ⟨I, _, rfl, rfl, by omega, HS⟩
                case measure => simp [intOf]
          · have hlt0 : I < s.size := by omega
            have hlt : (I : Int) < (s.size : Int) := by omega
            clear hend
            by_cases hx1 : x = -1
            · have e1 : (x == -1) = true := by simp [hx1]
              have HF : Hid (rst (zs.drop K) s.data.toList I = (rst (zs.drop (K + 1)) s.data.toList I || rst (zs.drop K) s.data.toList (I + 1))) := by unfold Hid; rw [HD.out, hx1]; exact rst_star _ _ _ (by rw [HL.out]; exact hlt0)
              have c0 := (HT.out.now.cellAt I (by omega)).trans (bRow_get (show I < s.size + 1 by omega))
              have c1 := (HT.out.nxt.cellAt (I + 1) (by omega)).trans (bRow_get (show I + 1 < s.size + 1 by omega))
              have eh : half (rst (zs.drop K) s.data.toList) (I + 1) (I + 1) = rst (zs.drop K) s.data.toList (I + 1) := by unfold half; rw [if_pos (Nat.le_refl _)]
              rw [eh] at c1
              clear hx1 eh
              cases h0 : rst (zs.drop (K + 1)) s.data.toList I with
              | true =>
                rw [h0] at c0
                have HS := hid (HT.out.set true (by rw [HF.out, h0]; rfl))
                clear h0
                go_wp2
                go_roundw
                case rel => exact ⟨I, _, rfl, rfl, by omega, HS⟩
                case measure => simp [intOf]
              | false =>
                rw [h0] at c0
                have HS := hid (HT.out.set (rst (zs.drop K) s.data.toList (I + 1)) (by rw [HF.out, h0]; rfl))
                clear h0
                go_wp2
                go_roundw
                case rel => exact ⟨I, _, rfl, rfl, by omega, HS⟩
                case measure => simp [intOf]
            · have e1 : (x == -1) = false := by simp [hx1]
              have HF : Hid (rst (zs.drop K) s.data.toList I = (rst (zs.drop (K + 1)) s.data.toList (I + 1) && fitI x s[I])) := by unfold Hid; rw [HD.out]; exact rst_item hx1 _ _ _ (by rw [HL.out]; exact hlt0)
              have c1 := (HT.out.now.cellAt (I + 1) (by omega)).trans (bRow_get (show I + 1 < s.size + 1 by omega))
              have c1d : wr.drew.cell? ⟨g, I + 1, none⟩ = _ := c1
              clear hx1
              cases h0 : rst (zs.drop (K + 1)) s.data.toList (I + 1) with
              | false =>
                rw [h0] at c1 c1d
                have HS := hid (HT.out.drew.set false (by rw [HF.out, h0]; rfl))
                clear h0
                go_wp2_with fail
                go_region
                all_goals
                  go_wp2
                  go_roundw
                  case rel => exact ⟨I, _, rfl, rfl, by omega, HS⟩
                  case measure => simp [intOf]
              | true =>
                rw [h0] at c1 c1d
                by_cases hx2 : x = -2
                · have e2 : (x == -2) = true := by simp [hx2]
                  have HS := hid (HT.out.drew.set true (by rw [HF.out, h0]; simp [fitI, hx2]))
                  clear h0 hx2
                  go_wp2_with fail
                  go_region
                  all_goals
                    go_wp2
                    go_roundw
                    case rel => exact ⟨I, _, rfl, rfl, by omega, HS⟩
                    case measure => simp [intOf]
                · have e2 : (x == -2) = false := by simp [hx2]
                  have HS := hid (HT.out.drew.set (x == wrap64 (s[I].toNat : Int)) (by rw [HF.out, h0, byte64 s[I]]; simp [fitI, hx2]))
                  clear h0 hx2
                  go_wp2_with fail
                  go_region
                  all_goals
                    go_wp2
                    go_roundw
                    case rel => exact ⟨I, _, rfl, rfl, by omega, HS⟩
                    case measure => simp [intOf]
end Go.Proofs.YtkjodikccehmkaaGreat.Pat
/- What the model's l2Alternatives comes to: rows of numbers, one for each alternative. -/
namespace Go.Proofs.YtkjodikccehmkaaGreat.Pat
open Go.RowKit

def ints (a : List Int) : List Value := a.map fun z => .int .i64 z
theorem ints_snoc (a : List Int) (z : Int) : ints (a ++ [z]) = ints a ++ [.int .i64 z] := by simp [ints]
/-- A row of numbers; it is one of S. -/
def IntW (S : Blk) (w : World) (v : Value) (a : List Int) : Prop := w.ownsRow 0 3 1 v a.length (ints a) ∧ ∀ g, v.ownBlock = some g → S g
theorem IntW.agree {S : Blk} {w w' : World} {v : Value} {a : List Int} (h : IntW S w v a) (ha : Agree S w w') : IntW S w' v a := ⟨own_agree h.1 (fun g hg => ha g (h.2 g hg)), h.2⟩
theorem IntW.mono {S S' : Blk} {w : World} {v : Value} {a : List Int} (h : IntW S w v a) (hs : ∀ k, S k → S' k) : IntW S' w v a := ⟨h.1, fun g hg => hs g (h.2 g hg)⟩
/-- The rows while the model reads a pattern. -/
structure Sd (B : Nat) (w0 w : World) (S : Blk) (fin : List (List Int)) (cur : List Int) (v1 : Value) (x1 : List Value) (v2 : Value) : Prop where
  o1 : w.ownsRow B 26 1 v1 fin.length x1
  o2 : w.ownsRow B 3 1 v2 cur.length (ints cur)
  f1 : ∀ (i : Nat) (a : List Int), fin[i]? = some a → ∃ u, x1[i]? = some u ∧ IntW S w u a
  s2 : ∀ g, v2.ownBlock = some g → ¬ S g
  s3 : ∀ k, S k → ∃ cs, w.heap[k]? = some (.cells cs 3)
  hB : B ≤ w.heap.size
  bel : Below B w0 w
theorem lt_heap {w : World} {k : Nat} {o : Obj} (h : w.heap[k]? = some o) : k < w.heap.size := (Array.getElem?_eq_some_iff.1 h).1
section
variable {B : Nat} {w0 w w3 : World} {S : Blk} {fin : List (List Int)} {cur : List Int} {v1 : Value} {x1 : List Value} {v2 : Value}
theorem Sd.apart (h : Sd B w0 w S fin cur v1 x1 v2) : v1.ownBlock = none ∨ v1.ownBlock ≠ v2.ownBlock := own_apart h.o1 h.o2 (by decide)
theorem Sd.add {z : Int} {v' : Value} {o : Obj} (h : Sd B w0 w S fin cur v1 x1 v2) (hown : w3.ownsRow B 3 1 v' (cur ++ [z]).length (ints (cur ++ [z]))) (hgr : (w.alloc o).grownBy w3 v2.ownBlock) (hat : v'.ownBlock = v2.ownBlock ∨ ∃ k, v'.ownBlock = some k ∧ w.heap.size ≤ k) : Sd B w0 w3 S fin (cur ++ [z]) v1 x1 v' := by
  have keep : ∀ k, k < w.heap.size → v2.ownBlock ≠ some k → w3.heap[k]? = w.heap[k]? := fun k hk h1 => (hgr.block k (by simp; omega) (fun e => h1 e.symm)).trans (Below.heap_alloc w o k hk)
  have hS : ∀ k, S k → k < w.heap.size := fun k hk => by obtain ⟨cs, hc⟩ := h.s3 k hk; exact lt_heap hc
  have ha : Agree S w w3 := fun k hk => keep k (hS k hk) (fun e => h.s2 k e hk)
  refine ⟨(h.o1.alloc o).kept hgr h.apart, hown, ?_, ?_, ?_, by have := h.hB; have := hgr.size; simp at this; omega, (h.bel.alloc h.hB o).grown hgr (by have := h.hB; simp; omega) (fun j hj => (h.o2.lt j hj).1)⟩
  · intro i a hi; obtain ⟨u, hu, hx⟩ := h.f1 i a hi; exact ⟨u, hu, hx.agree ha⟩
  · intro g hg hs
    rcases hat with h1 | ⟨k, h1, h2⟩
    · exact h.s2 g (h1 ▸ hg) hs
    · rw [h1] at hg
      have := hS g hs
      have : k = g := Option.some.inj hg
      omega
  · intro k hk; obtain ⟨cs, hc⟩ := h.s3 k hk; exact ⟨cs, (ha k hk).trans hc⟩
theorem Sd.bar {v' : Value} {o : Obj} (h : Sd B w0 w S fin cur v1 x1 v2) (hown : w3.ownsRow B 26 1 v' (fin.length + 1) (x1 ++ [v2])) (hgr : (w.alloc o).grownBy w3 v1.ownBlock) : Sd B w0 w3 (fun k => S k ∨ v2.ownBlock = some k) (fin ++ [cur]) [] v' (x1 ++ [v2]) (.slice none 0 0) := by
  have hl1 : x1.length = fin.length := by have := h.o1.1; omega
  have ne1 : ∀ k cs, w.heap[k]? = some (.cells cs 3) → v1.ownBlock ≠ some k := by
    intro k cs hc e
    rcases h.o1.2 with ⟨h1, _⟩ | ⟨g, cap, cur', h1, _, h3, _⟩
    · rw [h1] at e; cases e
    · rw [h1] at e
      obtain rfl : g = k := Option.some.inj e
      rw [hc] at h3
      simp at h3
  have keep : ∀ k, k < w.heap.size → v1.ownBlock ≠ some k → w3.heap[k]? = w.heap[k]? := fun k hk h1 => (hgr.block k (by simp; omega) (fun e => h1 e.symm)).trans (Below.heap_alloc w o k hk)
  have ha : Agree S w w3 := fun k hk => by obtain ⟨cs, hc⟩ := h.s3 k hk; exact keep k (lt_heap hc) (ne1 k cs hc)
  have h2c : ∀ g, v2.ownBlock = some g → ∃ cs, w.heap[g]? = some (.cells cs 3) := by
    intro g hg
    rcases h.o2.2 with ⟨h1, _⟩ | ⟨g', cap, cur', h1, _, h3, _⟩
    · rw [h1] at hg; cases hg
    · rw [h1] at hg
      obtain rfl : g' = g := Option.some.inj hg
      exact ⟨_, h3⟩
  have h2a : ∀ g, v2.ownBlock = some g → w3.heap[g]? = w.heap[g]? := fun g hg => by obtain ⟨cs, hc⟩ := h2c g hg; exact keep g (lt_heap hc) (ne1 g cs hc)
  refine ⟨by simpa using hown, World.ownsRow_nil _ _ _ _, ?_, (fun g hg => by cases hg), ?_, (by have := h.hB; have := hgr.size; simp at this; omega), (h.bel.alloc h.hB o).grown hgr (by have := h.hB; simp; omega) (fun j hj => (h.o1.lt j hj).1)⟩
  · intro i a hi
    by_cases hlt : i < fin.length
    · rw [List.getElem?_append_left hlt] at hi
      obtain ⟨u, hu, hx⟩ := h.f1 i a hi
      exact ⟨u, by rw [List.getElem?_append_left (show i < x1.length by omega)]; exact hu, (hx.agree ha).mono (fun k hk => .inl hk)⟩
    · have hlt2 := (List.getElem?_eq_some_iff.1 hi).1
      simp at hlt2
      obtain rfl : i = fin.length := by omega
      simp at hi
      subst hi
      refine ⟨v2, ?_, own_zero (own_agree h.o2 h2a), fun g hg => .inr hg⟩
      rw [List.getElem?_append_right (show x1.length ≤ fin.length by omega), hl1]; simp
  · rintro k (hk | hk)
    · obtain ⟨cs, hc⟩ := h.s3 k hk; exact ⟨cs, (ha k hk).trans hc⟩
    · obtain ⟨cs, hc⟩ := h2c k hk; exact ⟨cs, (h2a k hk).trans hc⟩
end
theorem at_or {a a' : Option Addr} {n n' m' c c' N : Nat} (h : (Value.slice a' n' c').ownBlock = (Value.slice a n c).ownBlock ∨ (Value.slice a' n' c').ownBlock = some (N + 1)) : (Value.slice a' m' c').ownBlock = (Value.slice a n c).ownBlock ∨ ∃ k, (Value.slice a' m' c').ownBlock = some k ∧ N ≤ k := by
  have e : (Value.slice a' m' c').ownBlock = (Value.slice a' n' c').ownBlock := by cases a' <;> rfl
  rw [e]
  rcases h with h | h
  · exact .inl h
  · exact .inr ⟨_, h, by omega⟩
/-- What l2Alternatives leaves. -/
def AltR (p : ByteArray) (w : World) (e : Ending) (w' : World) : Prop :=
  Below w.heap.size w w' ∧ ((patB p = false ∧ e = .returned (.tuple #[.slice none 0 0, .bool false])) ∨ ∃ (S : Blk) (A : List (List Int)) (a : Option Addr) (c : Nat) (x1 : List Value), patB p = true ∧ A = altsF p.data.toList [] ∧ e = .returned (.tuple #[.slice a A.length c, .bool true]) ∧ w'.ownsRow w.heap.size 26 1 (.slice a A.length c) A.length x1 ∧ (∀ (i : Nat) (z : List Int), A[i]? = some z → ∃ u, x1[i]? = some u ∧ IntW S w' u z) ∧ (∀ k, S k → k < w'.heap.size) ∧ A.length ≤ 101 ∧ ∀ z ∈ A, z.length ≤ 100)

set_option maxHeartbeats 8000000 in
set_option maxRecDepth 100000 in
theorem f93w (s : ByteArray) (w : World) (hs : s.size ≤ maxLen) : Calls Tryz.prog 93 #[.string s] w (AltR s w) := by
  obtain ⟨i0, i1, i2, i3, i4⟩ := info_parts info3
  obtain ⟨j0, j1, j2, j3, j4⟩ := info_parts info83
  have hs' := hs
  unfold maxLen at hs'
  by_cases h100 : 100 < s.size
  · go_enter Tryz.func93, Tryz.ntmps93
    go_wp2
    go_ret2
    exact ⟨Below.refl _ _, .inl ⟨pat_long h100, rfl⟩⟩
  by_cases hpr : printL s.data.toList = true
  · have HPO := hid (fun (b : Bool) => pat_ok (s := s) (b := b) (by omega) hpr)
    go_enter Tryz.func93, Tryz.ntmps93
    go_wp2_with (go_at_call 58; refine (f58 s _ hs).mono ?_; rintro e w' ⟨rfl, hw'⟩; have hw2 := hw'.symm; clear hw'; subst hw2)
    go_loopw [4, 5, 6] (fun so sn si wr => ∃ (i : Nat) (fin : List (List Int)) (cur : List Int) (S : Blk) (x1 : List Value) (a1 a2 : Option Addr) (c1 c2 : Nat), i ≤ s.size ∧ si = .int .i64 i ∧ so = .slice a1 fin.length c1 ∧ sn = .slice a2 cur.length c2 ∧ Hid (From s i) ∧ Hid (At s i fin cur) ∧ Hid (fin.length ≤ i ∧ ∀ z ∈ fin, z.length ≤ i) ∧ cur.length ≤ i ∧ Hid (Sd w.heap.size w wr S fin cur (.slice a1 fin.length c1) x1 (.slice a2 cur.length c2))) (fun _ _ si _ => s.size - (intOf si).toNat)
    case atStart => exact ⟨0, [], [], fun _ => False, [], none, none, 0, 0, Nat.zero_le _, rfl, rfl, rfl, From.zero s, At.zero s, ⟨by simp, by simp⟩, by simp, ⟨World.ownsRow_nil _ _ _ _, World.ownsRow_nil _ _ _ _, (fun i a hi => by simp at hi), (fun g hg => by cases hg), (fun k hk => False.elim hk), Nat.le_refl _, Below.refl _ _⟩⟩
    case round =>
      obtain ⟨i, fin, cur, S, x1, a1, a2, c1, c2, hi, rfl, rfl, rfl, hfr, hat0, HFL, hcl, HS⟩ := hrel
      have hfl := HFL.out.1
      by_cases hlt : i < s.size
      · have HFM : Hid (∀ j, i ≤ j → fin.length ≤ j ∧ ∀ z ∈ fin, z.length ≤ j) := fun j hj => ⟨by omega, fun z hz => Nat.le_trans (HFL.out.2 z hz) hj⟩
        by_cases e1 : (s[i].toNat : Int) = 124
        · have e1' : ((s[i].toNat : Int) == 124) = true := by simp [e1]
          have HFR := hid (hfr.out.plain hlt (by omega))
          have HAT := hid (hat0.out.bar hlt e1)
          clear e1
          go_wp2_with (at_builtin; refine wpList_append_own _ rfl (.tmp 33) (.tmp 35) 106 rfl w.heap.size 26 j0 (.slice none 0 0) 1 24 Tryz.underlying106 j1 j2 j3 j4 rfl (by decide) _ _ _ rfl (HS.out.o1.alloc _) ⟨wr.heap.size, 0, none⟩ 1 1 [.slice a2 cur.length c2] rfl rfl ?d1 ?d2 ?d3 ?d4 ?d5 ?_)
          case d1 => exact one_row _ _ _
          case d2 => intro u hu; simp at hu; subst hu; rfl
          case d3 => unfold maxLen; omega
          case d4 => omega
          case d5 => have := HS.out.bel.size; simp; omega
          intro v3 w3 hown3 hgr3 _
          obtain ⟨a3, c3, rfl⟩ := own_form hown3
          have HS3 := hid (HS.out.bar hown3 hgr3)
          have HF3 : Hid ((fin ++ [cur]).length ≤ i + 1 ∧ ∀ z ∈ fin ++ [cur], z.length ≤ i + 1) := by
            refine ⟨by simp; omega, fun z hz => ?_⟩
            rcases List.mem_append.1 hz with h | h
            · have := HFL.out.2 z h; omega
            · simp at h; subst h; omega
          have HS4 : Hid (Sd w.heap.size w w3 (fun k => S k ∨ (Value.slice a2 cur.length c2).ownBlock = some k) (fin ++ [cur]) [] (.slice a3 (fin ++ [cur]).length c3) (x1 ++ [.slice a2 cur.length c2]) (.slice none 0 0)) := by simpa using HS3
          clear hown3 hgr3
          go_wp2
          go_roundw
          case rel => exact ⟨i + 1, fin ++ [cur], [], _, _, a3, none, c3, 0, by omega, by go_num, by simp, rfl, HFR.out, HAT.out, HF3, by simp, HS4⟩
          case measure => simp [intOf]; omega
        have e1' : ((s[i].toNat : Int) == 124) = false := by simp [e1]
        by_cases e2 : (s[i].toNat : Int) = 42
        · have e2' : ((s[i].toNat : Int) == 42) = true := by simp [e2]
          have HFR := hid (hfr.out.plain hlt (by omega))
          have HAT := hid (hat0.out.star hlt e2)
          clear e1 e2
          go_wp2_with (at_builtin; refine wpList_append_own_at _ rfl (.tmp 39) (.tmp 40) 26 rfl w.heap.size 3 i0 (.int .i64 0) 1 8 Tryz.underlying26 i1 i2 i3 i4 rfl (by decide) _ _ _ rfl (HS.out.o2.alloc _) ⟨wr.heap.size, 0, none⟩ 1 1 [.int .i64 (-1)] rfl rfl ?d1 ?d2 ?d3 ?d4 ?d5 ?_)
          case d1 => exact one_row _ _ _
          case d2 => intro u hu; simp at hu; subst hu; rfl
          case d3 => unfold maxLen; omega
          case d4 => omega
          case d5 => have := HS.out.bel.size; simp; omega
          intro v3 w3 hown3 hgr3 _ hat
          obtain ⟨a3, c3, rfl⟩ := own_form hown3
          have HS3 : Hid (Sd w.heap.size w w3 S fin (cur ++ [-1]) (.slice a1 fin.length c1) x1 (.slice a3 (cur ++ [-1]).length c3)) := by
            refine HS.out.add ?_ hgr3 (at_or hat)
            rw [ints_snoc, List.length_append]
            exact hown3
          clear hown3 hgr3 hat
          go_wp2
          go_roundw
          case rel => exact ⟨i + 1, fin, cur ++ [-1], S, x1, a1, a3, c1, c3, by omega, by go_num, rfl, by simp, HFR.out, HAT.out, HFM.out _ (by omega), by simp; omega, HS3⟩
          case measure => simp [intOf]; omega
        have e2' : ((s[i].toNat : Int) == 42) = false := by simp [e2]
        by_cases e3 : (s[i].toNat : Int) = 63
        · have e3' : ((s[i].toNat : Int) == 63) = true := by simp [e3]
          have HFR := hid (hfr.out.plain hlt (by omega))
          have HAT := hid (hat0.out.any hlt e3)
          clear e1 e2 e3
          go_wp2_with (at_builtin; refine wpList_append_own_at _ rfl (.tmp 44) (.tmp 45) 26 rfl w.heap.size 3 i0 (.int .i64 0) 1 8 Tryz.underlying26 i1 i2 i3 i4 rfl (by decide) _ _ _ rfl (HS.out.o2.alloc _) ⟨wr.heap.size, 0, none⟩ 1 1 [.int .i64 (-2)] rfl rfl ?d1 ?d2 ?d3 ?d4 ?d5 ?_)
          case d1 => exact one_row _ _ _
          case d2 => intro u hu; simp at hu; subst hu; rfl
          case d3 => unfold maxLen; omega
          case d4 => omega
          case d5 => have := HS.out.bel.size; simp; omega
          intro v3 w3 hown3 hgr3 _ hat
          obtain ⟨a3, c3, rfl⟩ := own_form hown3
          have HS3 : Hid (Sd w.heap.size w w3 S fin (cur ++ [-2]) (.slice a1 fin.length c1) x1 (.slice a3 (cur ++ [-2]).length c3)) := by
            refine HS.out.add ?_ hgr3 (at_or hat)
            rw [ints_snoc, List.length_append]
            exact hown3
          clear hown3 hgr3 hat
          go_wp2
          go_roundw
          case rel => exact ⟨i + 1, fin, cur ++ [-2], S, x1, a1, a3, c1, c3, by omega, by go_num, rfl, by simp, HFR.out, HAT.out, HFM.out _ (by omega), by simp; omega, HS3⟩
          case measure => simp [intOf]; omega
        have e3' : ((s[i].toNat : Int) == 63) = false := by simp [e3]
        by_cases e4 : (s[i].toNat : Int) = 92
        · have e4' : ((s[i].toNat : Int) == 92) = true := by simp [e4]
          have HE4 := hid e4
          clear e1 e2 e3 e4
          by_cases hl2 : i + 1 < s.size
          · by_cases hsg : sgB (s[i + 1].toNat : Int) = true
            · have HFR := hid (hfr.out.sign hlt HE4.out hl2 hsg)
              have HAT := hid (hat0.out.esc hlt HE4.out hl2)
              have hne : ((i : Int) + 1 == (s.size : Int)) = false := by simp; omega
              have hz : (s[i + 1].toNat : Int) = 42 ∨ (s[i + 1].toNat : Int) = 63 ∨ (s[i + 1].toNat : Int) = 124 ∨ (s[i + 1].toNat : Int) = 92 := by unfold sgB at hsg; exact of_decide_eq_true hsg
              have hq : ((s[i + 1].toNat : Int) != 42) = false ∨ (((s[i + 1].toNat : Int) != 42) = true ∧ ((s[i + 1].toNat : Int) != 63) = false) ∨ (((s[i + 1].toNat : Int) != 42) = true ∧ ((s[i + 1].toNat : Int) != 63) = true ∧ ((s[i + 1].toNat : Int) != 124) = false) ∨ (((s[i + 1].toNat : Int) != 42) = true ∧ ((s[i + 1].toNat : Int) != 63) = true ∧ ((s[i + 1].toNat : Int) != 124) = true ∧ ((s[i + 1].toNat : Int) != 92) = false) := by
                rcases hz with hz | hz | hz | hz <;> rw [hz] <;> decide
              clear hsg hz
              rcases hq with q1 | ⟨q1, q2⟩ | ⟨q1, q2, q3⟩ | ⟨q1, q2, q3, q4⟩
              all_goals
                go_wp2_with (at_builtin; refine wpList_append_own_at _ rfl (.tmp 79) (.tmp 84) 26 rfl w.heap.size 3 i0 (.int .i64 0) 1 8 Tryz.underlying26 i1 i2 i3 i4 rfl (by decide) _ _ _ rfl (HS.out.o2.alloc _) ⟨wr.heap.size, 0, none⟩ 1 1 [.int .i64 (wrap64 (s[i + 1].toNat : Int))] rfl rfl ?d1 ?d2 ?d3 ?d4 ?d5 ?_)
                case d1 => exact one_row _ _ _
                case d2 => intro u hu; simp at hu; subst hu; rfl
                case d3 => unfold maxLen; omega
                case d4 => omega
                case d5 => have := HS.out.bel.size; simp; omega
                intro v3 w3 hown3 hgr3 _ hat
                obtain ⟨a3, c3, rfl⟩ := own_form hown3
                have HS3 : Hid (Sd w.heap.size w w3 S fin (cur ++ [(s[i + 1].toNat : Int)]) (.slice a1 fin.length c1) x1 (.slice a3 (cur ++ [(s[i + 1].toNat : Int)]).length c3)) := by
                  refine HS.out.add ?_ hgr3 (at_or hat)
                  rw [ints_snoc, List.length_append, ← byte64]
                  exact hown3
                clear hown3 hgr3 hat
                go_wp2
                go_roundw
                case rel => exact ⟨i + 1 + 1, fin, cur ++ [(s[i + 1].toNat : Int)], S, x1, a1, a3, c1, c3, by omega, by go_num, rfl, by simp, HFR.out, HAT.out, HFM.out _ (by omega), by simp; omega, HS3⟩
                case measure => simp [intOf]; omega
            · have hsg' : sgB (s[i + 1].toNat : Int) = false := by simpa using hsg
              have HP := hid (HPO.out false (hfr.out.bad hlt HE4.out hl2 hsg'))
              have hne : ((i : Int) + 1 == (s.size : Int)) = false := by simp; omega
              have hz : ¬ ((s[i + 1].toNat : Int) = 42 ∨ (s[i + 1].toNat : Int) = 63 ∨ (s[i + 1].toNat : Int) = 124 ∨ (s[i + 1].toNat : Int) = 92) := by unfold sgB at hsg'; exact of_decide_eq_false hsg'
              have q1 : ((s[i + 1].toNat : Int) != 42) = true := by simp only [bne_iff_ne, ne_eq]; omega
              have q2 : ((s[i + 1].toNat : Int) != 63) = true := by simp only [bne_iff_ne, ne_eq]; omega
              have q3 : ((s[i + 1].toNat : Int) != 124) = true := by simp only [bne_iff_ne, ne_eq]; omega
              have q4 : ((s[i + 1].toNat : Int) != 92) = true := by simp only [bne_iff_ne, ne_eq]; omega
              clear hz hsg hsg'
              go_wp2
              go_ret2
              exact ⟨HS.out.bel, .inl ⟨HP.out, rfl⟩⟩
          · have hl3 : i + 1 = s.size := by omega
            have HP := hid (HPO.out false (hfr.out.last hlt HE4.out hl3))
            have hne : ((i : Int) + 1 == (s.size : Int)) = true := by simp; omega
            clear hl3
            go_wp2
            go_ret2
            exact ⟨HS.out.bel, .inl ⟨HP.out, rfl⟩⟩
        have e4' : ((s[i].toNat : Int) == 92) = false := by simp [e4]
        have HFR := hid (hfr.out.plain hlt e4)
        have HAT := hid (hat0.out.plain hlt e1 e2 e3 e4)
        clear e1 e2 e3 e4
        go_wp2_with (at_builtin; refine wpList_append_own_at _ rfl (.tmp 24) (.tmp 29) 26 rfl w.heap.size 3 i0 (.int .i64 0) 1 8 Tryz.underlying26 i1 i2 i3 i4 rfl (by decide) _ _ _ rfl (HS.out.o2.alloc _) ⟨wr.heap.size, 0, none⟩ 1 1 [.int .i64 (wrap64 (s[i].toNat : Int))] rfl rfl ?d1 ?d2 ?d3 ?d4 ?d5 ?_)
        case d1 => exact one_row _ _ _
        case d2 => intro u hu; simp at hu; subst hu; rfl
        case d3 => unfold maxLen; omega
        case d4 => omega
        case d5 => have := HS.out.bel.size; simp; omega
        intro v3 w3 hown3 hgr3 _ hat
        obtain ⟨a3, c3, rfl⟩ := own_form hown3
        have HS3 : Hid (Sd w.heap.size w w3 S fin (cur ++ [(s[i].toNat : Int)]) (.slice a1 fin.length c1) x1 (.slice a3 (cur ++ [(s[i].toNat : Int)]).length c3)) := by
          refine HS.out.add ?_ hgr3 (at_or hat)
          rw [ints_snoc, List.length_append, ← byte64]
          exact hown3
        clear hown3 hgr3 hat
        go_wp2
        go_roundw
        case rel => exact ⟨i + 1, fin, cur ++ [(s[i].toNat : Int)], S, x1, a1, a3, c1, c3, by omega, by go_num, rfl, by simp, HFR.out, HAT.out, HFM.out _ (by omega), by simp; omega, HS3⟩
        case measure => simp [intOf]; omega
      · have HP := hid (HPO.out true (hfr.out.done (by omega)))
        have HD := hid (hat0.out.done (by omega))
        go_wp2_with (at_builtin; refine wpList_append_own _ rfl (.tmp 86) (.tmp 88) 106 rfl w.heap.size 26 j0 (.slice none 0 0) 1 24 Tryz.underlying106 j1 j2 j3 j4 rfl (by decide) _ _ _ rfl (HS.out.o1.alloc _) ⟨wr.heap.size, 0, none⟩ 1 1 [.slice a2 cur.length c2] rfl rfl ?d1 ?d2 ?d3 ?d4 ?d5 ?_)
        case d1 => exact one_row _ _ _
        case d2 => intro u hu; simp at hu; subst hu; rfl
        case d3 => unfold maxLen; omega
        case d4 => omega
        case d5 => have := HS.out.bel.size; simp; omega
        intro v3 w3 hown3 hgr3 _
        obtain ⟨a3, c3, rfl⟩ := own_form hown3
        have HS3 := hid (HS.out.bar hown3 hgr3)
        have HR3 : Hid (AltR s w (.returned (.tuple #[.slice a3 (fin.length + 1) c3, .bool true])) w3) := by
          refine ⟨HS3.out.bel, .inr ⟨_, fin ++ [cur], a3, c3, _, HP.out, HD.out.symm, by simp, by simpa using HS3.out.o1, HS3.out.f1, fun k hk => by obtain ⟨cs, hc⟩ := HS3.out.s3 k hk; exact lt_heap hc, by simp; omega, fun z hz => ?_⟩⟩
          rcases List.mem_append.1 hz with h | h
          · have := HFL.out.2 z h; omega
          · simp at h; subst h; omega
        clear hown3 hgr3
        go_wp2
        go_ret2
        exact HR3.out
  · have hpr' : printL s.data.toList = false := by simpa using hpr
    clear hpr
    go_enter Tryz.func93, Tryz.ntmps93
    go_wp2_with (go_at_call 58; refine (f58 s _ hs).mono ?_; rintro e w' ⟨rfl, hw'⟩; have hw2 := hw'.symm; clear hw'; subst hw2)
    go_ret2
    exact ⟨Below.refl _ _, .inl ⟨pat_unprinted hpr', rfl⟩⟩
end Go.Proofs.YtkjodikccehmkaaGreat.Pat
/- What the model's l2Fits and PatternFits come to, and the walk of FnExactPatternFits. -/
namespace Go.Proofs.YtkjodikccehmkaaGreat.Pat
open Go.RowKit

theorem IntW.has {S : Blk} {w : World} {a : Option Addr} {n c : Nat} {zs : List Int} (h : IntW S w (.slice a n c) zs) : HasI w a zs ∧ n = zs.length := by
  rcases h.1.2 with ⟨h1, h2⟩ | ⟨g, cap, cur, h1, _⟩
  · simp only [Value.slice.injEq] at h1
    exact ⟨.inl (List.eq_nil_of_length_eq_zero h2), by omega⟩
  · simp only [Value.slice.injEq] at h1
    obtain ⟨rfl, rfl, rfl⟩ := h1
    refine ⟨.inr ⟨g, 0, rfl, (h.1.lt g rfl).2, fun i hi => ?_⟩, rfl⟩
    rw [Nat.zero_add]
    refine (h.1.cellAt i (by simpa using hi)).trans ?_
    simp [ints, hi]
theorem IntW.shape {S : Blk} {w : World} {v : Value} {zs : List Int} (h : IntW S w v zs) : ∃ a c, v = .slice a zs.length c := own_form h.1
def anyF (A : List (List Int)) (L : List UInt8) : Bool := A.any fun a => rest a L
theorem any_step {A : List (List Int)} {L : List UInt8} {i : Nat} {z : List Int} (h : A[i]? = some z) : anyF (A.drop i) L = (rest z L || anyF (A.drop (i + 1)) L) := by
  obtain ⟨hi, rfl⟩ := List.getElem?_eq_some_iff.1 h
  rw [List.drop_eq_getElem_cons hi]
  rfl
theorem fits_any {p s : ByteArray} (hp : patB p = true) (hs : s.size ≤ 100) : fitsB p s = anyF (altsF p.data.toList []) s.data.toList := by
  unfold fitsB ppF anyF
  rw [if_pos ⟨hp, hs⟩]
  generalize altsF p.data.toList [] = A
  induction A with
  | nil => rfl
  | cons a A ih =>
    rw [List.findSome?_cons, List.any_cons]
    by_cases h : rest a s.data.toList = true
    · simp [h]
    · simp only [h, if_false, Bool.false_or, Bool.false_eq_true]
      exact ih

set_option maxHeartbeats 2000000 in
theorem f80 (p s : ByteArray) (w : World) (hp : p.size ≤ maxLen) (hpat : patB p = true) (hs : s.size ≤ 1000) : Calls Tryz.prog 80 #[.string p, .string s] w fun e w' => e = .returned (.bool (anyF (altsF p.data.toList []) s.data.toList)) ∧ Below w.heap.size w w' := by
  go_enter Tryz.func80, Tryz.ntmps80
  go_wp2_with fail
  refine (f93w p _ hp).mono ?_
  rintro e w1 ⟨hb1, h1⟩
  have HB := hid hb1
  clear hb1
  rcases h1 with ⟨hn, rfl⟩ | ⟨S, A, a, c, x1, _, hA, rfl, ho, hf, hS, hl1, hl2⟩
  · rw [hpat] at hn; cases hn
  · have HA := hid hA
    have HO := hid ho
    have HF := hid hf
    have HS := hid hS
    have HL2 := hid hl2
    obtain ⟨n, hn⟩ : ∃ n, n = A.length := ⟨_, rfl⟩
    have HN := hid hn
    rw [← hn] at HO hl1 ⊢
    clear ho hf hS hl2 hn hA
    go_wp2
    go_loopw [16] (fun si wr => ∃ i : Nat, i ≤ n ∧ si = .int .i64 i ∧ Hid (anyF A s.data.toList = anyF (A.drop i) s.data.toList) ∧ Hid (Below w1.heap.size w1 wr)) (fun si _ => n - (intOf si).toNat)
    case atStart => exact ⟨0, Nat.zero_le _, rfl, rfl, Below.refl _ _⟩
    case round =>
      obtain ⟨i, hi, rfl, HP, HW⟩ := hrel
      by_cases hlt : i < n
      · have hx : A[i]? = some (A[i]'(by rw [← HN.out]; exact hlt)) := List.getElem?_eq_getElem _
        have hzl : (A[i]'(by rw [← HN.out]; exact hlt)).length ≤ 100 := HL2.out _ (List.getElem_mem _)
        generalize (A[i]'(by rw [← HN.out]; exact hlt)) = z at hx hzl
        obtain ⟨u, hu, hU⟩ := HF.out i z hx
        have HX := hid (any_step (L := s.data.toList) hx)
        rcases HO.out.2 with ⟨_, h0⟩ | ⟨g, cap, cur, hv, _⟩
        · omega
        simp only [Value.slice.injEq] at hv
        obtain ⟨rfl, -, rfl⟩ := hv
        have c0 := (HW.out.cell (p := ⟨g, i, none⟩) (HO.out.lt g rfl).2).trans ((HO.out.cellAt i (by omega)).trans (show x1[i]? = some u from hu))
        have i1 : (i : Int) < (n : Int) := by omega
        have hU2 := hU.agree (Agree.below HS.out HW.out)
        obtain ⟨au, cu, rfl⟩ := hU.shape
        have HC := hid (f94 au z.length cu z s wr rfl (by omega) hU2.has.1 hs)
        clear hx hzl hu hU hU2
        go_wp2_with fail
        refine HC.out.mono ?_
        rintro e w2 ⟨⟨g2, rfl, ho2⟩, hb2⟩
        have HW2 := hid (HW.out.trans (hb2.mono HW.out.size))
        have HB2 := hid (HB.out.trans (HW2.out.mono HB.out.size))
        have c2 := (ho2.cellAt 0 (by omega)).trans (bRow_get (show 0 < s.size + 1 by omega))
        have e0 : rst z s.data.toList 0 = rest z s.data.toList := by unfold rst; simp
        rw [e0] at c2
        clear hb2 ho2 e0
        by_cases hr : rest z s.data.toList = true
        · have HP2 : Hid (anyF A s.data.toList = true) := by unfold Hid; rw [HP.out, HX.out, hr]; rfl
          rw [hr] at c2
          clear hr
          go_wp2
          go_ret
          exact ⟨by rw [← HA.out, HP2.out]; rfl, HB2.out⟩
        · have hr' : rest z s.data.toList = false := by simpa using hr
          have HP2 : Hid (anyF A s.data.toList = anyF (A.drop (i + 1)) s.data.toList) := by unfold Hid; rw [HP.out, HX.out, hr']; rfl
          rw [hr'] at c2
          clear hr hr'
          go_wp2
          go_roundw
          case rel => exact ⟨i + 1, by omega, by go_num, HP2, HW2⟩
          case measure => simp [intOf]; omega
      · have HE : Hid (anyF A s.data.toList = false) := by
          unfold Hid
          rw [HP.out, List.drop_eq_nil_of_le (by rw [← HN.out]; omega)]; rfl
        have HB2 := hid (HB.out.trans (HW.out.mono HB.out.size))
        go_wp2
        go_ret
        exact ⟨by rw [← HA.out, HE.out]; rfl, HB2.out⟩
end Go.Proofs.YtkjodikccehmkaaGreat.Pat
