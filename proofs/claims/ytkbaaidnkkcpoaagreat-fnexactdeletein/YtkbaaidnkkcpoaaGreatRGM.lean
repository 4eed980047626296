/- The marks: what markText comes to. -/
import Derived.Test.YtkbaaidnkkcpoaaGreatRGC
import Derived.Laws.BytesArg
import Derived.Test.YtkbaaidnkkcpoaaGreatRGX
import Derived.Test.YtkbaaidnkkcpoaaGreatRGA
import Derived.Test.YtkbaaidnkkcpoaaGreatRMat
namespace Go.Proofs.YtkbaaidnkkcpoaaGreat.Lab
open Go.RowKit Go.Proofs.YtkbaaidnkkcpoaaGreat.Str

theorem one_new (w : World) (v : Value) (t : TypeId) : (w.alloc (.cells #[v] t)).cell? ⟨w.heap.size, 0, none⟩ = some v := by
  have h := heap_alloc_new w (.cells #[v] t)
  unfold World.cell?
  simp only [h]
  rfl

def dgs (k : Nat) (out : ByteArray) : ByteArray := if k = 0 then out else dgs (k / 10) (strOfNums [48 + (k : Int) % 10] ++ out)
termination_by k
decreasing_by omega
theorem dgs_zero (out : ByteArray) : dgs 0 out = out := by rw [dgs, if_pos rfl]
theorem dgs_pos (k : Nat) (out : ByteArray) (h : 0 < k) : dgs k out = dgs (k / 10) (strOfNums [48 + (k : Int) % 10] ++ out) := by rw [dgs, if_neg (by omega)]
def mkT (k : Nat) : ByteArray := if k = 0 then { data := #[109, 48] } else { data := #[109] } ++ dgs k ByteArray.empty

set_option maxHeartbeats 1000000 in
set_option maxRecDepth 100000 in
theorem f35 (k : Nat) (w : World) (hk : k ≤ 100000000) :
    Calls Tryz.prog 35 #[.int .i64 k] w fun e w' => e = .returned (.string (mkT k)) ∧ Below w.heap.size w w' := by
  by_cases h0 : k = 0
  · subst h0
    go_enter Tryz.func35, Tryz.ntmps35
    go_wp2
    go_ret
    exact ⟨ret_str (by unfold mkT; rw [if_pos rfl]), Below.refl _ _⟩
  have HE : Hid (mkT k = { data := #[109] } ++ dgs k ByteArray.empty) := by unfold Hid mkT; rw [if_neg h0]
  go_enter Tryz.func35, Tryz.ntmps35
  go_wp2
  go_loopw [0, 3] (fun sk so wr => ∃ (j : Nat) (out : ByteArray), out.size + j ≤ k ∧ sk = .int .i64 j ∧ so = .string out ∧ Hid (dgs j out = dgs k ByteArray.empty) ∧ Below w.heap.size w wr) (fun sk _ _ => (intOf sk).toNat)
  case atStart => exact ⟨k, ByteArray.empty, by simp, rfl, rfl, rfl, Below.refl _ _⟩
  case round =>
    obtain ⟨j, out, hj, rfl, rfl, hd, hnx⟩ := hrel
    have HX := hid hnx
    clear hnx
    by_cases hlt : 0 < j
    · have kc := run_convert_bytes_arg (P := Tryz.prog) (wr.alloc (.cells #[.int .u8 (48 + (j : Int) % 10)] 5)) 92 5 Tryz.underlying92 Tryz.underlying5 wr.heap.size 0 1 1 [48 + (j : Int) % 10] rfl (by
        intro i hi
        obtain rfl : i = 0 := by omega
        exact one_new wr _ 5) 9 Tryz.underlying9
      have HS : Hid ((strOfNums [48 + (j : Int) % 10]).size = 1) := rfl
      have hs2 : (strOfNums [48 + (j : Int) % 10]).size ≤ 1 := by rw [HS.out]; exact Nat.le_refl _
      have HD := hid (dgs_pos j out hlt)
      generalize strOfNums [48 + (j : Int) % 10] = u at *
      go_wp2
      go_roundw
      case rel =>
        refine ⟨j / 10, u ++ out, ?_, by go_num, rfl, by unfold Hid; rw [← HD.out]; exact hd.out, HX.out.alloc HX.out.size _⟩
        rw [ByteArray.size_append, HS.out]; omega
      case measure => simp [intOf]; omega
    · obtain rfl : j = 0 := by omega
      have hs : out.size ≤ 100000000 := by omega
      go_wp2
      go_ret
      exact ⟨ret_str (by rw [HE.out, ← hd.out, dgs_zero]), HX.out⟩
end Go.Proofs.YtkbaaidnkkcpoaaGreat.Lab
/- Rows of labels marked and held: markLabelS, heldLabelS. -/
namespace Go.Proofs.YtkbaaidnkkcpoaaGreat.Lab
open Go.RowKit Go.Proofs.YtkbaaidnkkcpoaaGreat.Str

theorem grown_trans {a b c : World} {r : Option Nat} (h : a.grownBy b r) (k : b.grownBy c r) : a.grownBy c r :=
  ⟨k.os.trans h.os, k.tape.trans h.tape, k.output.trans h.output, Nat.le_trans h.size k.size, fun i hi hne => (k.block i (Nat.lt_of_lt_of_le hi h.size) hne).trans (h.block i hi hne)⟩
theorem grown_below {a b : World} (r : Option Nat) (h : Below a.heap.size a b) : a.grownBy b r := ⟨h.os, h.tape, h.output, h.size, fun i hi _ => h.block i hi⟩
theorem grown_setRow {w w' : World} {g o : Nat} (h : w.grownBy w' (some g)) (u : Value) : w.grownBy (w'.setCell ⟨g, o, none⟩ u) (some g) :=
  ⟨h.os, h.tape, h.output, by simpa using h.size, fun i hi hne => (Below.heap_setCell w' ⟨g, o, none⟩ u i (by intro e; exact hne (by rw [e]))).trans (h.block i hi hne)⟩
theorem below_grown {B g : Nat} {a w w' : World} (h : Below B a w) (hg : w.grownBy w' (some g)) (hB : B ≤ w.heap.size) (hr : B ≤ g) : Below B a w' := h.grown hg hB (by intro k hk; cases hk; exact hr)

def markL (k n : Nat) : List Lb := (List.range n).map fun i => (mkT (k + 2 * i), mkT (k + 2 * i + 1))
theorem markL_len (k n : Nat) : (markL k n).length = n := by simp [markL]
theorem markL_get (k n i : Nat) (h : i < n) : (markL k n).getD i e0 = (mkT (k + 2 * i), mkT (k + 2 * i + 1)) := by simp [markL, h]

/-- The row while it is being marked. -/
def markR (k : Nat) (ls : List Lb) (i : Nat) : List Lb := (markL k i) ++ ls.drop i
theorem markR_zero (k : Nat) (ls : List Lb) : markR k ls 0 = ls := by simp [markR, markL]
theorem markR_end (k n : Nat) (ls : List Lb) (h : ls.length = n) : markR k ls n = markL k n := by simp [markR, ← h]
theorem markR_len (k n i : Nat) (ls : List Lb) (h : ls.length = n) (hi : i ≤ n) : (markR k ls i).length = n := by simp [markR, markL_len]; omega
theorem markR_set (k n i : Nat) (ls : List Lb) (h : ls.length = n) (hi : i < n) : (markR k ls i).set i (mkT (k + 2 * i), mkT (k + 2 * i + 1)) = markR k ls (i + 1) := by
  unfold markR
  rw [List.set_append_right _ _ (by rw [markL_len]; exact Nat.le_refl _), markL_len, Nat.sub_self, List.drop_eq_getElem_cons (by omega), List.set_cons_zero]
  have : markL k (i + 1) = markL k i ++ [(mkT (k + 2 * i), mkT (k + 2 * i + 1))] := by simp [markL, List.range_succ]
  rw [this, List.append_assoc]
  rfl

set_option maxHeartbeats 2000000 in
theorem f62 (g n c base k : Nat) (ls : List Lb) (w : World) (hn : ls.length = n) (hk : k + 2 * n ≤ 100000000) (hown : w.ownsRow base 126 2 (.slice (some ⟨g, 0, none⟩) n c) n (flat ls)) :
    Calls Tryz.prog 62 #[.slice (some ⟨g, 0, none⟩) n c, .int .i64 k] w fun e w' => e = .returned (.int .i64 ((k + 2 * n : Nat) : Int)) ∧ w'.ownsRow base 126 2 (.slice (some ⟨g, 0, none⟩) n c) n (flat (markL k n)) ∧ w.grownBy w' (some g) := by
  have HN := hid hn
  have HO0 := hid hown
  clear hn hown
  go_enter Tryz.func62, Tryz.ntmps62
  go_wp2
  go_loopw [1, 5] (fun sk si wr => ∃ (i m : Nat), i ≤ n ∧ si = .int .i64 i ∧ sk = .int .i64 (m : Int) ∧ Hid (m = k + 2 * i) ∧ wr.ownsRow base 126 2 (.slice (some ⟨g, 0, none⟩) n c) n (flat (markR k ls i)) ∧ w.grownBy wr (some g)) (fun _ si _ => n - (intOf si).toNat)
  case atStart => exact ⟨0, k, Nat.zero_le _, rfl, rfl, rfl, by rw [markR_zero]; exact HO0.out, ⟨rfl, rfl, rfl, Nat.le_refl _, fun _ _ _ => rfl⟩⟩
  case round =>
    obtain ⟨i, m, hi, rfl, rfl, hm, hown, hgr⟩ := hrel
    have HO := hid hown
    have HG := hid hgr
    have HM := hid (markR_len k n i ls HN.out hi)
    clear hown hgr HO0
    by_cases hlt : i < n
    · have HS := hid (markR_set k n i ls HN.out hlt)
      have hm1 : m ≤ 99999998 := by have := hm.out; omega
      go_wp2_with fail
      refine (f35 m _ (by omega)).mono ?_
      rintro e w2 ⟨rfl, hb2⟩
      have HO2 := hid (own_below HO.out hb2)
      have HG2 := hid (grown_trans HG.out (grown_below (some g) hb2))
      have fz := HO2.out.frozenAt (i * 2)
      obtain ⟨y0, y1⟩ := flat_get (markR k ls i) i (by rw [HM.out]; exact hlt)
      have cz := (HO2.out.cellAt (i * 2) (by omega)).trans y0
      have HO3 := hid (HO2.out.stored (i * 2) (.string (mkT m))).1
      have HG3 := hid (grown_setRow (o := i * 2) HG2.out (.string (mkT m)))
      clear hb2 y0 y1
      go_wp2_with fail
      refine (f35 (m + 1) _ (by omega)).mono ?_
      rintro e w3 ⟨rfl, hb3⟩
      have HO4 := hid (own_below HO3.out hb3)
      have HG4 := hid (grown_trans HG3.out (grown_below (some g) hb3))
      have fz4 := HO4.out.frozenAt (i * 2 + 1)
      obtain ⟨y0, y1⟩ := flat_get (markR k ls i) i (by rw [HM.out]; exact hlt)
      have cz4 := (HO4.out.cellAt (i * 2 + 1) (by omega)).trans ((List.getElem?_set_ne (by omega)).trans y1)
      have HO5 := hid (HO4.out.stored (i * 2 + 1) (.string (mkT (m + 1)))).1
      have HG5 := hid (grown_setRow (o := i * 2 + 1) HG4.out (.string (mkT (m + 1))))
      clear hb3 y0 y1 fz cz
      go_wp2
      go_roundw
      case rel =>
        refine ⟨i + 1, m + 2, by omega, by go_num, by go_num, by have := hm.out; unfold Hid; omega, ?_, HG5.out⟩
        have := HO5.out
        rw [flat_set _ i _ _ (by rw [HM.out]; exact hlt)] at this
        rw [← HS.out, ← hm.out]
        exact this
      case measure => simp [intOf]; omega
    · obtain rfl : i = n := by omega
      go_wp2
      go_ret
      exact ⟨by rw [← hm.out]; rfl, by rw [← markR_end k i ls HN.out]; exact HO.out, HG.out⟩
theorem f62n (k : Nat) (w : World) : Calls Tryz.prog 62 #[.slice none 0 0, .int .i64 k] w fun e w' => e = .returned (.int .i64 k) ∧ w' = w := by
  go_enter Tryz.func62, Tryz.ntmps62
  go_wp2
  go_loop [1, 5] (fun sk i => sk = .int .i64 k ∧ i = .int .i64 0) (fun _ _ => 0)
  case atStart => exact ⟨rfl, rfl⟩
  case round =>
    obtain ⟨rfl, rfl⟩ := hrel
    go_wp2
    go_ret
    exact ⟨rfl, rfl⟩
end Go.Proofs.YtkbaaidnkkcpoaaGreat.Lab
/- Lists of series marked: only their own memory is written. -/
namespace Go.Proofs.YtkbaaidnkkcpoaaGreat.Srs
open Go.RowKit
open Go.Proofs.YtkbaaidnkkcpoaaGreat.Lab (Lb HasL)
open Go.Proofs.YtkbaaidnkkcpoaaGreat.Smp (Sm HasS)

/-- Only blocks from X to Y are written; others may be new. -/
structure Fr (X Y : Nat) (w x : World) : Prop where
  os : x.os = w.os
  tape : x.tape = w.tape
  output : x.output = w.output
  size : w.heap.size ≤ x.heap.size
  block : ∀ k, k < w.heap.size → (k < X ∨ Y ≤ k) → x.heap[k]? = w.heap[k]?
theorem Fr.refl (X Y : Nat) (w : World) : Fr X Y w w := ⟨rfl, rfl, rfl, Nat.le_refl _, fun _ _ _ => rfl⟩
theorem Fr.below {X Y : Nat} {w x y : World} (h : Fr X Y w x) (hb : Below x.heap.size x y) : Fr X Y w y :=
  ⟨hb.os.trans h.os, hb.tape.trans h.tape, hb.output.trans h.output, Nat.le_trans h.size hb.size, fun k hk hne => (hb.block k (Nat.lt_of_lt_of_le hk h.size)).trans (h.block k hk hne)⟩
theorem Fr.grown {X Y g : Nat} {w x y : World} (h : Fr X Y w x) (hg : x.grownBy y (some g)) (h1 : X ≤ g) (h2 : g < Y) : Fr X Y w y :=
  ⟨hg.os.trans h.os, hg.tape.trans h.tape, hg.output.trans h.output, Nat.le_trans h.size hg.size, fun k hk hne => (hg.block k (Nat.lt_of_lt_of_le hk h.size) (fun e => by have := Option.some.inj e; omega)).trans (h.block k hk hne)⟩
theorem own_fr {X Y : Nat} {w x : World} {base e size n c g : Nat} {xs : List Value} (h : w.ownsRow base e size (.slice (some ⟨g, 0, none⟩) n c) n xs) (hf : Fr X Y w x) (hg : g < X ∨ Y ≤ g) : x.ownsRow base e size (.slice (some ⟨g, 0, none⟩) n c) n xs := by
  refine ⟨h.1, ?_⟩
  rcases h.2 with ⟨h1, _⟩ | ⟨g', cap, cur, h1, h2, h3, h4⟩
  · cases h1
  · cases h1
    exact .inr ⟨g, c, cur, rfl, h2, (hf.block g (Array.getElem?_eq_some_iff.1 h3).1 hg).trans h3, h4⟩
theorem own_grown {w x : World} {base e size n c g r : Nat} {xs : List Value} (h : w.ownsRow base e size (.slice (some ⟨g, 0, none⟩) n c) n xs) (hg : w.grownBy x (some r)) (hne : g ≠ r) : x.ownsRow base e size (.slice (some ⟨g, 0, none⟩) n c) n xs :=
  h.kept hg (.inr (fun e => hne (Option.some.inj e)))
theorem Own1.grown {X ga gb r : Nat} {q : Q} {w x : World} (h : Own1 X ga gb q w) (hg : w.grownBy x (some r)) (h1 : ga ≠ r) (h2 : gb ≠ r) : Own1 X ga gb q x := ⟨h.ha, h.hb, own_grown h.lab hg h1, own_grown h.smp hg h2, h.lt⟩
/-- The series from i on are as they were; what was written lies from g to Y. -/
structure Mk (X g Y n i : Nat) (qs : List Q) (w x : World) : Prop where
  row : x.ownsRow X 81 2 (.slice (some ⟨g, 0, none⟩) n n) n (flat qs)
  own : ∀ j, i ≤ j → j < n → Own1 X (blk (qs.getD j q0).a) (blk (qs.getD j q0).b) (qs.getD j q0) x
  fr : Fr g Y w x
set_option maxHeartbeats 2000000 in
theorem f33 (X g Y n k : Nat) (qs : List Q) (w : World) (hn : qs.length = n) (hb : n ≤ 1048576) (hk : k + 2 * tot qs n ≤ 100000000) (ho : OwnQ X g n qs w) (hY : ∀ i, i < n → blk (qs.getD i q0).b < Y) :
    Calls Tryz.prog 33 #[.slice (some ⟨g, 0, none⟩) n n, .int .i64 k] w fun e w' => e = .returned (.int .i64 ((k + 2 * tot qs n : Nat) : Int)) ∧ Fr g Y w w' := by
  have HN := hid hn
  have HY := hid hY
  have HK := hid hk
  have HD := hid ho.kin.dis
  have HF := hid ho.kin.off
  have H0 : Hid (Mk X g Y n 0 qs w w) := ⟨ho.row, fun j _ hj => ho.kin.own j hj, Fr.refl _ _ _⟩
  clear hn hY hk ho
  go_enter Tryz.func33, Tryz.ntmps33
  go_wp2
  go_loopw [1, 5] (fun sk si wr => ∃ (i m : Nat), i ≤ n ∧ si = .int .i64 i ∧ sk = .int .i64 (m : Int) ∧ Hid (m = k + 2 * tot qs i) ∧ Hid (Mk X g Y n i qs w wr)) (fun _ si _ => n - (intOf si).toNat)
  case atStart => exact ⟨0, k, Nat.zero_le _, rfl, rfl, rfl, H0.out⟩
  case round =>
    obtain ⟨i, m, hi, rfl, rfl, hm, HM⟩ := hrel
    by_cases hlt : i < n
    rotate_left
    · obtain rfl : i = n := by omega
      have HX := hid HM.out.fr
      go_wp2
      go_ret
      exact ⟨by rw [← hm.out]; rfl, HX.out⟩
    have HO := hid (HM.out.own i (Nat.le_refl _) hlt)
    obtain ⟨y0, y1⟩ := flat_get qs i (by rw [HN.out]; exact hlt)
    have c0 := (HM.out.row.cellAt (i * 2) (by omega)).trans y0
    have c1 := (HM.out.row.cellAt (i * 2 + 1) (by omega)).trans y1
    have HT : Hid (tot qs (i + 1) = tot qs i + (qs.getD i q0).l.length + (qs.getD i q0).s.length) := rfl
    have HTn := hid (tot_mono qs n (i + 1) hlt)
    have HDi := hid (fun j (h1 : i < j) (h2 : j < n) => HD.out i j h1 h2)
    have HFi := hid (HF.out i hlt)
    have HYi := hid (HY.out i hlt)
    rw [HO.out.ha] at c0
    rw [HO.out.hb] at c1
    obtain ⟨q, hq⟩ : ∃ q, q = qs.getD i q0 := ⟨_, rfl⟩
    rw [← hq] at c0 c1 HO HT HDi HFi HYi
    clear hq y0 y1
    generalize blk q.a = ga at *
    generalize blk q.b = gb at *
    have hab := HO.out.lt
    have N1 : Hid (m + 2 * q.l.length + 2 * q.s.length ≤ 100000000) := by unfold Hid; have := hm.out; have := HK.out; have := HTn.out; have := HT.out; omega
    go_wp2_with fail
    refine (Lab.f62 ga q.l.length q.c X m q.l _ rfl (by have := N1.out; omega) HO.out.lab).mono ?_
    rintro e w2 ⟨rfl, _, hg2⟩
    have HR2 := hid (own_grown HM.out.row hg2 (by have := HFi.out; omega))
    have HS2 := hid (own_grown HO.out.smp hg2 (by omega))
    have HA2 : Hid (∀ j, i + 1 ≤ j → j < n → Own1 X (blk (qs.getD j q0).a) (blk (qs.getD j q0).b) (qs.getD j q0) w2) := fun j h1 h2 =>
      (HM.out.own j (by omega) h2).grown hg2 (by have := HDi.out j (by omega) h2; omega) (by have := HDi.out j (by omega) h2; have := (HM.out.own j (by omega) h2).lt; omega)
    have HF2 := hid (HM.out.fr.grown hg2 (by have := HFi.out; omega) (by have := HYi.out; omega))
    obtain ⟨z0, z1⟩ := flat_get qs i (by rw [HN.out]; exact hlt)
    have d1 : w2.cell? ⟨g, i * 2 + 1, none⟩ = some (.slice (some ⟨gb, 0, none⟩) q.s.length q.d) := by
      have e := hg2.block g (HM.out.row.lt g rfl).2 (fun e => by have := Option.some.inj e; have := HFi.out; omega)
      simp only [World.cell?, e]
      exact c1
    clear hg2 z0 z1 c0 c1
    go_wp2_with fail
    refine (Smp.f63 gb q.d X (m + 2 * q.l.length) q.s _ (by have := N1.out; omega) HS2.out).mono ?_
    rintro e w3 ⟨rfl, _, hg3⟩
    have HM3 : Hid (Mk X g Y n (i + 1) qs w w3) :=
      ⟨own_grown HR2.out hg3 (by have := HFi.out; omega), fun j h1 h2 => (HA2.out j h1 h2).grown hg3 (by have := HDi.out j (by omega) h2; omega) (by have := HDi.out j (by omega) h2; have := (HA2.out j h1 h2).lt; omega), HF2.out.grown hg3 (by have := HFi.out; omega) (by have := HYi.out; omega)⟩
    have HE : Hid (m + 2 * q.l.length + 2 * q.s.length = k + 2 * tot qs (i + 1)) := by unfold Hid; have := hm.out; have := HT.out; omega
    clear hg3 d1 HM HR2 HS2 HA2 HF2
    go_wp2
    go_roundw
    case rel => exact ⟨i + 1, m + 2 * q.l.length + 2 * q.s.length, by omega, by go_num, by simp, HE.out, HM3.out⟩
    case measure => simp [intOf]; omega
end Go.Proofs.YtkbaaidnkkcpoaaGreat.Srs
/- Stones and blocks marked: only their own memory is written. -/
namespace Go.Proofs.YtkbaaidnkkcpoaaGreat.Stn
open Go.RowKit
open Go.Proofs.YtkbaaidnkkcpoaaGreat.Lab (Lb HasL)
open Go.Proofs.YtkbaaidnkkcpoaaGreat.Srs (hid blk Fr own_fr own_grown)

theorem set_same {xs : List Value} {i : Nat} {v : Value} (h : xs[i]? = some v) : xs.set i v = xs := by
  apply List.ext_getElem?
  intro j
  by_cases e : i = j
  · subst e
    rw [List.getElem?_set_self (List.getElem?_eq_some_iff.1 h).1, h]
  · rw [List.getElem?_set_ne e]
theorem flat_set2 (L : List T) (i : Nat) (f t : Int) (hi : i < L.length) : ((flat L).set (i * 3 + 1) (.int .i64 f)).set (i * 3 + 2) (.int .i64 t) = flat (L.set i ⟨(L.getD i t0).l, (L.getD i t0).a, (L.getD i t0).c, f, t⟩) := by
  rw [← flat_set L i ⟨(L.getD i t0).l, (L.getD i t0).a, (L.getD i t0).c, f, t⟩ hi, set_same (flat_get L i hi).1]
theorem getD_set (L : List T) (i j : Nat) (q : T) : (L.set i q).getD j t0 = if i = j ∧ i < L.length then q else L.getD j t0 := by
  rw [List.getD_eq_getElem?_getD, List.getD_eq_getElem?_getD]
  by_cases e : i = j
  · subst e
    by_cases h : i < L.length
    · rw [List.getElem?_set_self h, if_pos ⟨rfl, h⟩]; rfl
    · rw [if_neg (fun h' => h h'.2), List.getElem?_eq_none (by simp; omega), List.getElem?_eq_none (by omega)]
  · rw [List.getElem?_set_ne e, if_neg (fun h => e h.1)]
/-- The stones have the labels that they had. -/
def Kin (ts ts' : List T) : Prop := ts'.length = ts.length ∧ ∀ j, (ts'.getD j t0).l = (ts.getD j t0).l ∧ (ts'.getD j t0).a = (ts.getD j t0).a ∧ (ts'.getD j t0).c = (ts.getD j t0).c
theorem Kin.refl (ts : List T) : Kin ts ts := ⟨rfl, fun _ => ⟨rfl, rfl, rfl⟩⟩
theorem Kin.set {ts ts' : List T} (h : Kin ts ts') (i : Nat) (f t : Int) : Kin ts (ts'.set i ⟨(ts'.getD i t0).l, (ts'.getD i t0).a, (ts'.getD i t0).c, f, t⟩) := by
  refine ⟨by simpa using h.1, fun j => ?_⟩
  rw [getD_set]
  split
  · rename_i e; obtain ⟨rfl, -⟩ := e; exact h.2 i
  · exact h.2 j
theorem Own1.grown {X ga r : Nat} {q : T} {w x : World} (h : Own1 X ga q w) (hg : w.grownBy x (some r)) (h1 : ga ≠ r) : Own1 X ga q x := ⟨h.ha, own_grown h.lab hg h1⟩
/-- The stones from i on are as they were; what was written lies from g to Y. -/
structure Mk (X g Y n i : Nat) (ts : List T) (w x : World) : Prop where
  row : ∃ ts', Kin ts ts' ∧ x.ownsRow X 87 3 (.slice (some ⟨g, 0, none⟩) n n) n (flat ts')
  own : ∀ j, i ≤ j → j < n → Own1 X (blk (ts.getD j t0).a) (ts.getD j t0) x
  fr : Fr g Y w x
set_option maxHeartbeats 4000000 in
theorem f34 (X g Y n k : Nat) (ts : List T) (w : World) (hn : ts.length = n) (hb : n ≤ 1048576) (hk : k + 2 * tot ts n + 2 * n ≤ 100000000) (ho : OwnT X g n ts w) (hg : g < Y) (hY : ∀ i, i < n → blk (ts.getD i t0).a < Y) :
    Calls Tryz.prog 34 #[.slice (some ⟨g, 0, none⟩) n n, .int .i64 k] w fun e w' => e = .returned (.int .i64 ((k + 2 * tot ts n + 2 * n : Nat) : Int)) ∧ Fr g Y w w' := by
  have HN := hid hn
  have HY := hid hY
  have HK := hid hk
  have HD := hid ho.kin.dis
  have HF := hid ho.kin.off
  have H0 : Hid (Mk X g Y n 0 ts w w) := ⟨⟨ts, Kin.refl _, ho.row⟩, fun j _ hj => ho.kin.own j hj, Fr.refl _ _ _⟩
  clear hn hY hk ho
  go_enter Tryz.func34, Tryz.ntmps34
  go_wp2
  go_loopw [1, 5] (fun sk si wr => ∃ (i m : Nat), i ≤ n ∧ si = .int .i64 i ∧ sk = .int .i64 (m : Int) ∧ Hid (m = k + 2 * tot ts i + 2 * i) ∧ Hid (Mk X g Y n i ts w wr)) (fun _ si _ => n - (intOf si).toNat)
  case atStart => exact ⟨0, k, Nat.zero_le _, rfl, rfl, rfl, H0.out⟩
  case round =>
    obtain ⟨i, m, hi, rfl, rfl, hm, HM⟩ := hrel
    by_cases hlt : i < n
    rotate_left
    · obtain rfl : i = n := by omega
      have HX := hid HM.out.fr
      go_wp2
      go_ret
      exact ⟨by rw [← hm.out]; rfl, HX.out⟩
    have HO := hid (HM.out.own i (Nat.le_refl _) hlt)
    obtain ⟨ts', kin, row⟩ := HM.out.row
    have HL' : Hid (ts'.length = n) := by unfold Hid; rw [kin.1, HN.out]
    obtain ⟨y0, y1, y2⟩ := flat_get ts' i (by rw [HL'.out]; exact hlt)
    have c0 := (row.cellAt (i * 3) (by omega)).trans y0
    rw [(kin.2 i).1, (kin.2 i).2.1, (kin.2 i).2.2] at c0
    have HT : Hid (tot ts (i + 1) = tot ts i + (ts.getD i t0).l.length) := rfl
    have HTn := hid (tot_mono ts n (i + 1) hlt)
    have HDi := hid (fun j (h1 : i < j) (h2 : j < n) => HD.out i j h1 h2)
    have HFi := hid (HF.out i hlt)
    have HYi := hid (HY.out i hlt)
    rw [HO.out.ha] at c0
    obtain ⟨q, hq⟩ : ∃ q, q = ts.getD i t0 := ⟨_, rfl⟩
    rw [← hq] at c0 HO HT HDi HFi HYi
    have HKin := hid kin
    have HRow := hid row
    clear hq y0 y1 y2 kin row
    generalize blk q.a = ga at *
    have N1 : Hid (m + 2 * q.l.length + 2 ≤ 100000000) := by unfold Hid; have := hm.out; have := HK.out; have := HTn.out; have := HT.out; omega
    go_wp2_with fail
    refine (Lab.f62 ga q.l.length q.c X m q.l _ rfl (by have := N1.out; omega) HO.out.lab).mono ?_
    rintro e w2 ⟨rfl, _, hg2⟩
    have HR2 := hid (own_grown HRow.out hg2 (by have := HFi.out; omega))
    have HA2 : Hid (∀ j, i + 1 ≤ j → j < n → Own1 X (blk (ts.getD j t0).a) (ts.getD j t0) w2) := fun j h1 h2 =>
      (HM.out.own j (by omega) h2).grown hg2 (by have := HDi.out j (by omega) h2; omega)
    have HF2 := hid (HM.out.fr.grown hg2 (by have := HFi.out; omega) HYi.out)
    obtain ⟨z0, z1, z2⟩ := flat_get ts' i (by rw [HL'.out]; exact hlt)
    have d1 := (HR2.out.cellAt (i * 3 + 1) (by omega)).trans z1
    have d2 := (HR2.out.cellAt (i * 3 + 2) (by omega)).trans z2
    have f1 := HR2.out.frozenAt (i * 3 + 1)
    have f2 := HR2.out.frozenAt (i * 3 + 2)
    obtain ⟨M, hM⟩ : ∃ M, M = m + 2 * q.l.length := ⟨_, rfl⟩
    rw [← hM]
    have HE : Hid (M + 2 = k + 2 * tot ts (i + 1) + 2 * (i + 1)) := by unfold Hid; have := hm.out; have := HT.out; omega
    have hM1 : M ≤ 99999999 := by have := N1.out; omega
    have HM3 : Hid (∀ x, x = (w2.setCell ⟨g, i * 3 + 1, none⟩ (.int .i64 (M : Int))).setCell ⟨g, i * 3 + 2, none⟩ (.int .i64 ((M : Int) + 1)) → Mk X g Y n (i + 1) ts w x) := by
      rintro x rfl
      have s1 := HR2.out.stored (i * 3 + 1) (.int .i64 (M : Int))
      have s2 := s1.1.stored (i * 3 + 2) (.int .i64 ((M : Int) + 1))
      refine ⟨⟨_, HKin.out.set i (M : Int) ((M : Int) + 1), ?_⟩, fun j h1 h2 => ?_, ?_⟩
      · rw [← flat_set2 ts' i _ _ (by rw [HL'.out]; exact hlt)]; exact s2.1
      · have hj := HF.out j h2
        exact ((HA2.out j h1 h2).grown s1.2 (by omega)).grown s2.2 (by omega)
      · exact (HF2.out.grown s1.2 (Nat.le_refl _) hg).grown s2.2 (Nat.le_refl _) hg
    clear hg2 z0 z1 z2 c0 HM HR2 HA2 HF2 HRow hM N1
    go_wp2
    go_roundw
    case rel => exact ⟨i + 1, M + 2, by omega, by go_num, by go_num, HE.out, HM3.out _ rfl⟩
    case measure => simp [intOf]; omega
end Go.Proofs.YtkbaaidnkkcpoaaGreat.Stn
/- Matchers: szMatcherS at any room, markMatcherS. -/
namespace Go.Proofs.YtkbaaidnkkcpoaaGreat.Srs
open Go.RowKit
open Go.Proofs.YtkbaaidnkkcpoaaGreat.Pat (Mt HasM FitM)

set_option maxHeartbeats 1000000 in
theorem f23t (s t : ByteArray) (o x : Int) (w : World) (hs : s.size ≤ maxLen) (ht : t.size ≤ maxLen) (hx0 : 0 ≤ x) (hx1 : x ≤ 1048576) :
    Calls Tryz.prog 23 #[.agg #[.string s, .int .i64 o, .string t], .int .i64 x] w fun e w' => ∃ y : Int, e = .returned (.int .i64 y) ∧ -1 ≤ y ∧ y ≤ 1048576 ∧ Below w.heap.size w w' := Pat.f23 s t o x w hs ht hx0 hx1
set_option maxHeartbeats 1000000 in
theorem f6t (a : Option Addr) (n c : Nat) (L : Int) (ms : List Mt) (w : World) (hL0 : 0 ≤ L) (hL1 : L ≤ 1048576) (hn : ms.length = n) (hr : HasM w a ms) (hf : FitM ms) (hmax : n ≤ maxLen) :
    Calls Tryz.prog 6 #[.slice a n c, .int .i64 L] w fun e w' => ∃ y : Int, e = .returned (.int .i64 y) ∧ -1 ≤ y ∧ (0 ≤ y → n ≤ 1048576) ∧ Below w.heap.size w w' := by
  unfold maxLen at hmax
  by_cases hbig : (n : Int) ≤ L
  · have HN := hid hn
    clear hn
    go_enter Tryz.func6, Tryz.ntmps6
    go_wp2
    go_loopw [1, 5] (fun sx i wr => ∃ (k : Nat) (x : Int), k ≤ n ∧ i = .int .i64 k ∧ sx = .int .i64 x ∧ 0 ≤ x ∧ x ≤ 1048576 ∧ Below w.heap.size w wr) (fun _ i _ => n - (intOf i).toNat)
    case atStart => exact ⟨0, _, Nat.zero_le _, rfl, rfl, by omega, by omega, Below.refl _ _⟩
    case round =>
      obtain ⟨k, x, hk, rfl, rfl, hx0, hx1, hb⟩ := hrel
      have HB := hid hb
      by_cases hlt : k < n
      · rcases hr with h | ⟨b, off, rfl, h2, h3⟩
        · exfalso; rw [h] at HN; have := HN.out; simp at this; omega
        obtain ⟨c0, c1, c2⟩ := h3 k (by rw [HN.out]; exact hlt)
        obtain ⟨g0, g1, _⟩ := hf k
        have d0 := (hb.cell (p := ⟨b, off + k * 3, none⟩) h2).trans c0
        have d1 := (hb.cell (p := ⟨b, off + k * 3 + 1, none⟩) h2).trans c1
        have d2 := (hb.cell (p := ⟨b, off + k * 3 + 2, none⟩) h2).trans c2
        clear h3 c0 c1 c2 hb
        generalize (ms.getD k Pat.m0).1 = s at *
        generalize (ms.getD k Pat.m0).2.1 = o at *
        generalize (ms.getD k Pat.m0).2.2 = t at *
        go_wp2_with fail
        refine (f23t s t o x _ g0 g1 hx0 hx1).mono ?_
        rintro e w2 ⟨y, rfl, y0, y1, hb2⟩
        have HB2 := hid (HB.out.trans (hb2.mono HB.out.size))
        clear hb2 d0 d1 d2
        by_cases hy : y < 0
        · go_wp2
          go_ret
          exact ⟨-1, rfl, by omega, fun h => absurd h (by omega), HB2.out⟩
        · go_wp2
          go_roundw
          case rel => exact ⟨k + 1, y, by omega, by go_num, rfl, by omega, y1, HB2.out⟩
          case measure => simp [intOf]; omega
      · go_wp2
        go_ret
        exact ⟨x, rfl, by omega, fun _ => by omega, HB.out⟩
  · go_enter Tryz.func6, Tryz.ntmps6
    go_wp2
    go_ret
    exact ⟨-1, rfl, by omega, by omega, Below.refl _ _⟩
set_option maxHeartbeats 2000000 in
theorem f14 (g n base k : Nat) (w : World) (xs : List Value) (hn : n ≤ 1048576) (hk : k + 3 * n ≤ 100000000) (ho : w.ownsRow base 57 3 (.slice (some ⟨g, 0, none⟩) n n) n xs) :
    Calls Tryz.prog 14 #[.slice (some ⟨g, 0, none⟩) n n, .int .i64 k] w fun e w' => e = .returned (.int .i64 ((k + 3 * n : Nat) : Int)) ∧ w.grownBy w' (some g) := by
  have H0 := hid ho
  clear ho
  go_enter Tryz.func14, Tryz.ntmps14
  go_wp2
  go_loopw [1, 5] (fun sk si wr => ∃ (i m : Nat) (ys : List Value), i ≤ n ∧ si = .int .i64 i ∧ sk = .int .i64 (m : Int) ∧ Hid (m = k + 3 * i) ∧ Hid (wr.ownsRow base 57 3 (.slice (some ⟨g, 0, none⟩) n n) n ys) ∧ Hid (w.grownBy wr (some g))) (fun _ si _ => n - (intOf si).toNat)
  case atStart => exact ⟨0, k, xs, Nat.zero_le _, rfl, rfl, rfl, H0.out, ⟨rfl, rfl, rfl, Nat.le_refl _, fun _ _ _ => rfl⟩⟩
  case round =>
    obtain ⟨i, m, ys, hi, rfl, rfl, hm, HO, HG⟩ := hrel
    by_cases hlt : i < n
    rotate_left
    · obtain rfl : i = n := by omega
      go_wp2
      go_ret
      exact ⟨by rw [← hm.out]; rfl, HG.out⟩
    have hm1 : m ≤ 99999997 := by have := hm.out; omega
    have HL : Hid (ys.length = n * 3) := HO.out.1
    go_wp2_with fail
    refine (Lab.f35 m _ (by omega)).mono ?_
    rintro e w2 ⟨rfl, hb2⟩
    have HO2 := hid (own_below HO.out hb2)
    have HG2 := hid (Lab.grown_trans HG.out (Lab.grown_below (some g) hb2))
    have fz := HO2.out.frozenAt (i * 3)
    obtain ⟨z, hz⟩ : ∃ z, w2.cell? ⟨g, i * 3, none⟩ = some z := ⟨ys[i * 3]'(by rw [HL.out]; omega), by rw [HO2.out.cellAt (i * 3) (by omega), List.getElem?_eq_getElem (by rw [HL.out]; omega)]⟩
    have HO3 := hid (HO2.out.stored (i * 3) (.string (Lab.mkT m))).1
    have HG3 := hid (Lab.grown_setRow (o := i * 3) HG2.out (.string (Lab.mkT m)))
    have fz3 := HO3.out.frozenAt (i * 3 + 1)
    obtain ⟨z3, hz3⟩ : ∃ z, w2.cell? ⟨g, i * 3 + 1, none⟩ = some z := ⟨ys[i * 3 + 1]'(by rw [HL.out]; omega), by rw [HO2.out.cellAt (i * 3 + 1) (by omega), List.getElem?_eq_getElem (by rw [HL.out]; omega)]⟩
    have fz2 := HO2.out.frozenAt (i * 3 + 1)
    have HO4 := hid (HO3.out.stored (i * 3 + 1) (.int .i64 ((m : Int) + 1))).1
    have HG4 := hid (Lab.grown_setRow (o := i * 3 + 1) HG3.out (.int .i64 ((m : Int) + 1)))
    clear hb2 fz3
    go_wp2_with fail
    refine (Lab.f35 (m + 2) _ (by omega)).mono ?_
    rintro e w5 ⟨rfl, hb5⟩
    have HO5 := hid (own_below HO4.out hb5)
    have HG5 := hid (Lab.grown_trans HG4.out (Lab.grown_below (some g) hb5))
    have fz5 := HO5.out.frozenAt (i * 3 + 2)
    obtain ⟨z5, hz5⟩ : ∃ z, w5.cell? ⟨g, i * 3 + 2, none⟩ = some z := ⟨((ys.set (i * 3) (.string (Lab.mkT m))).set (i * 3 + 1) (.int .i64 ((m : Int) + 1)))[i * 3 + 2]'(by rw [List.length_set, List.length_set, HL.out]; omega), by rw [HO5.out.cellAt (i * 3 + 2) (by omega), List.getElem?_eq_getElem (by rw [List.length_set, List.length_set, HL.out]; omega)]⟩
    have HO6 := hid (HO5.out.stored (i * 3 + 2) (.string (Lab.mkT (m + 2)))).1
    have HG6 := hid (Lab.grown_setRow (o := i * 3 + 2) HG5.out (.string (Lab.mkT (m + 2))))
    have HE : Hid (m + 3 = k + 3 * (i + 1)) := by unfold Hid; have := hm.out; omega
    clear hb5 fz hz fz2 hz3 z z3
    go_wp2
    go_roundw
    case rel => exact ⟨i + 1, m + 3, _, by omega, by go_num, by go_num, HE.out, HO6.out, HG6.out⟩
    case measure => simp [intOf]; omega
end Go.Proofs.YtkbaaidnkkcpoaaGreat.Srs
