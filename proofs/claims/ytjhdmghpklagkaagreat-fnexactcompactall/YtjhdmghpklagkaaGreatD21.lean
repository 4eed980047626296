import Derived.Test.YtjhdmghpklagkaaGreatD04
import Derived.Laws.BytesArg
import Derived.Test.YtjhdmghpklagkaaGreatD05
import Derived.Test.YtjhdmghpklagkaaGreatD06
import Derived.Test.YtjhdmghpklagkaaGreatD20
namespace Go.Proofs.YtjhdmghpklagkaaGreat.Lab
open Go.RowKit Go.Proofs.YtjhdmghpklagkaaGreat.Str

theorem one_new (w : World) (v : Value) (t : TypeId) : (w.alloc (.cells #[v] t)).cell? ⟨w.heap.size, 0, none⟩ = some v := by
  have h := heap_alloc_new w (.cells #[v] t)
  unfold World.cell?
  simp only [h]
  rfl

def dgs (k : Nat) (out : ByteArray) : ByteArray := if k = 0 then out else dgs (k / 10) (strOfNums [48 + (k : Int) % 10] ++ out)
termination_by k
decreasing_by omega
theorem dgs_zero (out : ByteArray) : dgs 0 out = out := by rw [dgs, if_pos rfl]
theorem dgs_pos (k : Nat) (out : ByteArray) (h : 0 < k) : dgs k out = dgs (k / 10) (strOfNums [48 + (k : Int) % 10] ++ out) := by rw [dgs, if_neg (by omega)]
def mkT (k : Nat) : ByteArray := if k = 0 then { data := #[109, 48] } else { data := #[109] } ++ dgs k ByteArray.empty

set_option maxHeartbeats 1000000 in
set_option maxRecDepth 100000 in
theorem f57 (k : Nat) (w : World) (hk : k ≤ 100000000) :
    Calls Tryz.prog 57 #[.int .i64 k] w fun e w' => e = .returned (.string (mkT k)) ∧ Below w.heap.size w w' := by
  by_cases h0 : k = 0
  · subst h0
    go_enter Tryz.func57, Tryz.ntmps57
    go_wp2
    go_ret
    exact ⟨ret_str (by unfold mkT; rw [if_pos rfl]), Below.refl _ _⟩
  have HE : Hid (mkT k = { data := #[109] } ++ dgs k ByteArray.empty) := by unfold Hid mkT; rw [if_neg h0]
  go_enter Tryz.func57, Tryz.ntmps57
  go_wp2
  go_loopw [0, 3] (fun sk so wr => ∃ (j : Nat) (out : ByteArray), out.size + j ≤ k ∧ sk = .int .i64 j ∧ so = .string out ∧ Hid (dgs j out = dgs k ByteArray.empty) ∧ Below w.heap.size w wr) (fun sk _ _ => (intOf sk).toNat)
  case atStart => exact ⟨k, ByteArray.empty, by simp, rfl, rfl, rfl, Below.refl _ _⟩
  case round =>
    obtain ⟨j, out, hj, rfl, rfl, hd, hnx⟩ := hrel
    have HX := hid hnx
    clear hnx
    by_cases hlt : 0 < j
    · have kc := run_convert_bytes_arg (P := Tryz.prog) (wr.alloc (.cells #[.int .u8 (48 + (j : Int) % 10)] 5)) 115 5 Tryz.underlying115 Tryz.underlying5 wr.heap.size 0 1 1 [48 + (j : Int) % 10] rfl (by
        intro i hi
        obtain rfl : i = 0 := by omega
        exact one_new wr _ 5) 9 Tryz.underlying9
      have HS : Hid ((strOfNums [48 + (j : Int) % 10]).size = 1) := rfl
      have hs2 : (strOfNums [48 + (j : Int) % 10]).size ≤ 1 := by rw [HS.out]; exact Nat.le_refl _
      have HD := hid (dgs_pos j out hlt)
      generalize strOfNums [48 + (j : Int) % 10] = u at *
      go_wp2
      go_roundw
      case rel =>
        refine ⟨j / 10, u ++ out, ?_, by go_num, rfl, by unfold Hid; rw [← HD.out]; exact hd.out, HX.out.alloc HX.out.size _⟩
        rw [ByteArray.size_append, HS.out]; omega
      case measure => simp [intOf]; omega
    · obtain rfl : j = 0 := by omega
      have hs : out.size ≤ 100000000 := by omega
      go_wp2
      go_ret
      exact ⟨ret_str (by rw [HE.out, ← hd.out, dgs_zero]), HX.out⟩
end Go.Proofs.YtjhdmghpklagkaaGreat.Lab
namespace Go.Proofs.YtjhdmghpklagkaaGreat.Lab
open Go.RowKit Go.Proofs.YtjhdmghpklagkaaGreat.Str

theorem grown_trans {a b c : World} {r : Option Nat} (h : a.grownBy b r) (k : b.grownBy c r) : a.grownBy c r :=
  ⟨k.os.trans h.os, k.tape.trans h.tape, k.output.trans h.output, Nat.le_trans h.size k.size, fun i hi hne => (k.block i (Nat.lt_of_lt_of_le hi h.size) hne).trans (h.block i hi hne)⟩
theorem grown_below {a b : World} (r : Option Nat) (h : Below a.heap.size a b) : a.grownBy b r := ⟨h.os, h.tape, h.output, h.size, fun i hi _ => h.block i hi⟩
theorem grown_setRow {w w' : World} {g o : Nat} (h : w.grownBy w' (some g)) (u : Value) : w.grownBy (w'.setCell ⟨g, o, none⟩ u) (some g) :=
  ⟨h.os, h.tape, h.output, by simpa using h.size, fun i hi hne => (Below.heap_setCell w' ⟨g, o, none⟩ u i (by intro e; exact hne (by rw [e]))).trans (h.block i hi hne)⟩
def markL (k n : Nat) : List Lb := (List.range n).map fun i => (mkT (k + 2 * i), mkT (k + 2 * i + 1))
theorem markL_len (k n : Nat) : (markL k n).length = n := by simp [markL]
theorem markL_get (k n i : Nat) (h : i < n) : (markL k n).getD i e0 = (mkT (k + 2 * i), mkT (k + 2 * i + 1)) := by simp [markL, h]

def markR (k : Nat) (ls : List Lb) (i : Nat) : List Lb := (markL k i) ++ ls.drop i
theorem markR_zero (k : Nat) (ls : List Lb) : markR k ls 0 = ls := by simp [markR, markL]
theorem markR_end (k n : Nat) (ls : List Lb) (h : ls.length = n) : markR k ls n = markL k n := by simp [markR, ← h]
theorem markR_len (k n i : Nat) (ls : List Lb) (h : ls.length = n) (hi : i ≤ n) : (markR k ls i).length = n := by simp [markR, markL_len]; omega
theorem markR_set (k n i : Nat) (ls : List Lb) (h : ls.length = n) (hi : i < n) : (markR k ls i).set i (mkT (k + 2 * i), mkT (k + 2 * i + 1)) = markR k ls (i + 1) := by
  unfold markR
  rw [List.set_append_right _ _ (by rw [markL_len]; exact Nat.le_refl _), markL_len, Nat.sub_self, List.drop_eq_getElem_cons (by omega), List.set_cons_zero]
  have : markL k (i + 1) = markL k i ++ [(mkT (k + 2 * i), mkT (k + 2 * i + 1))] := by simp [markL, List.range_succ]
  rw [this, List.append_assoc]
  rfl

set_option maxHeartbeats 2000000 in
theorem f58 (g n c base k : Nat) (ls : List Lb) (w : World) (hn : ls.length = n) (hk : k + 2 * n ≤ 100000000) (hown : w.ownsRow base 117 2 (.slice (some ⟨g, 0, none⟩) n c) n (flat ls)) :
    Calls Tryz.prog 58 #[.slice (some ⟨g, 0, none⟩) n c, .int .i64 k] w fun e w' => e = .returned (.int .i64 ((k + 2 * n : Nat) : Int)) ∧ w'.ownsRow base 117 2 (.slice (some ⟨g, 0, none⟩) n c) n (flat (markL k n)) ∧ w.grownBy w' (some g) := by
  have HN := hid hn
  have HO0 := hid hown
  clear hn hown
  go_enter Tryz.func58, Tryz.ntmps58
  go_wp2
  go_loopw [1, 5] (fun sk si wr => ∃ (i m : Nat), i ≤ n ∧ si = .int .i64 i ∧ sk = .int .i64 (m : Int) ∧ Hid (m = k + 2 * i) ∧ wr.ownsRow base 117 2 (.slice (some ⟨g, 0, none⟩) n c) n (flat (markR k ls i)) ∧ w.grownBy wr (some g)) (fun _ si _ => n - (intOf si).toNat)
  case atStart => exact ⟨0, k, Nat.zero_le _, rfl, rfl, rfl, by rw [markR_zero]; exact HO0.out, ⟨rfl, rfl, rfl, Nat.le_refl _, fun _ _ _ => rfl⟩⟩
  case round =>
    obtain ⟨i, m, hi, rfl, rfl, hm, hown, hgr⟩ := hrel
    have HO := hid hown
    have HG := hid hgr
    have HM := hid (markR_len k n i ls HN.out hi)
    clear hown hgr HO0
    by_cases hlt : i < n
    · have HS := hid (markR_set k n i ls HN.out hlt)
      have hm1 : m ≤ 99999998 := by have := hm.out; omega
      go_wp2_with fail
      refine (f57 m _ (by omega)).mono ?_
      rintro e w2 ⟨rfl, hb2⟩
      have HO2 := hid (own_below HO.out hb2)
      have HG2 := hid (grown_trans HG.out (grown_below (some g) hb2))
      have fz := HO2.out.frozenAt (i * 2)
      obtain ⟨y0, y1⟩ := flat_get (markR k ls i) i (by rw [HM.out]; exact hlt)
      have cz := (HO2.out.cellAt (i * 2) (by omega)).trans y0
      have HO3 := hid (HO2.out.stored (i * 2) (.string (mkT m))).1
      have HG3 := hid (grown_setRow (o := i * 2) HG2.out (.string (mkT m)))
      clear hb2 y0 y1
      go_wp2_with fail
      refine (f57 (m + 1) _ (by omega)).mono ?_
      rintro e w3 ⟨rfl, hb3⟩
      have HO4 := hid (own_below HO3.out hb3)
      have HG4 := hid (grown_trans HG3.out (grown_below (some g) hb3))
      have fz4 := HO4.out.frozenAt (i * 2 + 1)
      obtain ⟨y0, y1⟩ := flat_get (markR k ls i) i (by rw [HM.out]; exact hlt)
      have cz4 := (HO4.out.cellAt (i * 2 + 1) (by omega)).trans ((List.getElem?_set_ne (by omega)).trans y1)
      have HO5 := hid (HO4.out.stored (i * 2 + 1) (.string (mkT (m + 1)))).1
      have HG5 := hid (grown_setRow (o := i * 2 + 1) HG4.out (.string (mkT (m + 1))))
      clear hb3 y0 y1 fz cz
      go_wp2
      go_roundw
      case rel =>
        refine ⟨i + 1, m + 2, by omega, by go_num, by go_num, by have := hm.out; unfold Hid; omega, ?_, HG5.out⟩
        have := HO5.out
        rw [flat_set _ i _ _ (by rw [HM.out]; exact hlt)] at this
        rw [← HS.out, ← hm.out]
        exact this
      case measure => simp [intOf]; omega
    · obtain rfl : i = n := by omega
      go_wp2
      go_ret
      exact ⟨by rw [← hm.out]; rfl, by rw [← markR_end k i ls HN.out]; exact HO.out, HG.out⟩
end Go.Proofs.YtjhdmghpklagkaaGreat.Lab
namespace Go.Proofs.YtjhdmghpklagkaaGreat.Srs
open Go.RowKit
open Go.Proofs.YtjhdmghpklagkaaGreat.Lab (Lb HasL)
open Go.Proofs.YtjhdmghpklagkaaGreat.Smp (Sm HasS)

structure Fr (X Y : Nat) (w x : World) : Prop where
  os : x.os = w.os
  tape : x.tape = w.tape
  output : x.output = w.output
  size : w.heap.size ≤ x.heap.size
  block : ∀ k, k < w.heap.size → (k < X ∨ Y ≤ k) → x.heap[k]? = w.heap[k]?
theorem Fr.refl (X Y : Nat) (w : World) : Fr X Y w w := ⟨rfl, rfl, rfl, Nat.le_refl _, fun _ _ _ => rfl⟩
theorem Fr.grown {X Y g : Nat} {w x y : World} (h : Fr X Y w x) (hg : x.grownBy y (some g)) (h1 : X ≤ g) (h2 : g < Y) : Fr X Y w y :=
  ⟨hg.os.trans h.os, hg.tape.trans h.tape, hg.output.trans h.output, Nat.le_trans h.size hg.size, fun k hk hne => (hg.block k (Nat.lt_of_lt_of_le hk h.size) (fun e => by have := Option.some.inj e; omega)).trans (h.block k hk hne)⟩
theorem own_fr {X Y : Nat} {w x : World} {base e size n c g : Nat} {xs : List Value} (h : w.ownsRow base e size (.slice (some ⟨g, 0, none⟩) n c) n xs) (hf : Fr X Y w x) (hg : g < X ∨ Y ≤ g) : x.ownsRow base e size (.slice (some ⟨g, 0, none⟩) n c) n xs := by
  refine ⟨h.1, ?_⟩
  rcases h.2 with ⟨h1, _⟩ | ⟨g', cap, cur, h1, h2, h3, h4⟩
  · cases h1
  · cases h1
    exact .inr ⟨g, c, cur, rfl, h2, (hf.block g (Array.getElem?_eq_some_iff.1 h3).1 hg).trans h3, h4⟩
theorem own_grown {w x : World} {base e size n c g r : Nat} {xs : List Value} (h : w.ownsRow base e size (.slice (some ⟨g, 0, none⟩) n c) n xs) (hg : w.grownBy x (some r)) (hne : g ≠ r) : x.ownsRow base e size (.slice (some ⟨g, 0, none⟩) n c) n xs :=
  h.kept hg (.inr (fun e => hne (Option.some.inj e)))
end Go.Proofs.YtjhdmghpklagkaaGreat.Srs
namespace Go.Proofs.YtjhdmghpklagkaaGreat.Stn
open Go.RowKit
open Go.Proofs.YtjhdmghpklagkaaGreat.Lab (Lb HasL)
open Go.Proofs.YtjhdmghpklagkaaGreat.Srs (hid blk Fr own_fr own_grown)

theorem set_same {xs : List Value} {i : Nat} {v : Value} (h : xs[i]? = some v) : xs.set i v = xs := by
  apply List.ext_getElem?
  intro j
  by_cases e : i = j
  · subst e
    rw [List.getElem?_set_self (List.getElem?_eq_some_iff.1 h).1, h]
  · rw [List.getElem?_set_ne e]
theorem flat_set2 (L : List T) (i : Nat) (f t : Int) (hi : i < L.length) : ((flat L).set (i * 3 + 1) (.int .i64 f)).set (i * 3 + 2) (.int .i64 t) = flat (L.set i ⟨(L.getD i t0).l, (L.getD i t0).a, (L.getD i t0).c, f, t⟩) := by
  rw [← flat_set L i ⟨(L.getD i t0).l, (L.getD i t0).a, (L.getD i t0).c, f, t⟩ hi, set_same (flat_get L i hi).1]
def Kin (ts ts' : List T) : Prop := ts'.length = ts.length ∧ ∀ j, (ts'.getD j t0).l = (ts.getD j t0).l ∧ (ts'.getD j t0).a = (ts.getD j t0).a ∧ (ts'.getD j t0).c = (ts.getD j t0).c
theorem Own1.grown {X ga r : Nat} {q : T} {w x : World} (h : Own1 X ga q w) (hg : w.grownBy x (some r)) (h1 : ga ≠ r) : Own1 X ga q x := ⟨h.ha, own_grown h.lab hg h1⟩
end Go.Proofs.YtjhdmghpklagkaaGreat.Stn
namespace Go.Proofs.YtjhdmghpklagkaaGreat.Srs
open Go.RowKit
open Go.Proofs.YtjhdmghpklagkaaGreat.Pat (Mt HasM FitM)

end Go.Proofs.YtjhdmghpklagkaaGreat.Srs
