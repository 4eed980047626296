/- The marks: what markText comes to. -/
import Derived.Test.YtaekngadfajcaaaGreatRVo
import Derived.Laws.BytesArg
import Derived.Test.YtaekngadfajcaaaGreatRXB
import Derived.Deep.RegionHeld3
namespace Go.Proofs.YtaekngadfajcaaaGreat.Lab
open Go.RowKit Go.Proofs.YtaekngadfajcaaaGreat.Str

theorem one_new (w : World) (v : Value) (t : TypeId) : (w.alloc (.cells #[v] t)).cell? ⟨w.heap.size, 0, none⟩ = some v := by
  have h := heap_alloc_new w (.cells #[v] t)
  unfold World.cell?
  simp only [h]
  rfl

def dgs (k : Nat) (out : ByteArray) : ByteArray := if k = 0 then out else dgs (k / 10) (strOfNums [48 + (k : Int) % 10] ++ out)
termination_by k
decreasing_by omega
theorem dgs_zero (out : ByteArray) : dgs 0 out = out := by rw [dgs, if_pos rfl]
theorem dgs_pos (k : Nat) (out : ByteArray) (h : 0 < k) : dgs k out = dgs (k / 10) (strOfNums [48 + (k : Int) % 10] ++ out) := by rw [dgs, if_neg (by omega)]
def mkT (k : Nat) : ByteArray := if k = 0 then { data := #[109, 48] } else { data := #[109] } ++ dgs k ByteArray.empty

set_option maxHeartbeats 1000000 in
set_option maxRecDepth 100000 in
theorem f60 (k : Nat) (w : World) (hk : k ≤ 100000000) :
    Calls Tryz.prog 60 #[.int .i64 k] w fun e w' => e = .returned (.string (mkT k)) ∧ Below w.heap.size w w' := by
  by_cases h0 : k = 0
  · subst h0
    go_enter Tryz.func60, Tryz.ntmps60
    go_wp2
    go_ret
    exact ⟨ret_str (by unfold mkT; rw [if_pos rfl]), Below.refl _ _⟩
  have HE : Hid (mkT k = { data := #[109] } ++ dgs k ByteArray.empty) := by unfold Hid mkT; rw [if_neg h0]
  go_enter Tryz.func60, Tryz.ntmps60
  go_wp2
  go_loopw [0, 3] (fun sk so wr => ∃ (j : Nat) (out : ByteArray), out.size + j ≤ k ∧ sk = .int .i64 j ∧ so = .string out ∧ Hid (dgs j out = dgs k ByteArray.empty) ∧ Below w.heap.size w wr) (fun sk _ _ => (intOf sk).toNat)
  case atStart => exact ⟨k, ByteArray.empty, by simp, rfl, rfl, rfl, Below.refl _ _⟩
  case round =>
    obtain ⟨j, out, hj, rfl, rfl, hd, hnx⟩ := hrel
    have HX := hid hnx
    clear hnx
    by_cases hlt : 0 < j
    · have kc := run_convert_bytes_arg (P := Tryz.prog) (wr.alloc (.cells #[.int .u8 (48 + (j : Int) % 10)] 5)) 115 5 Tryz.underlying115 Tryz.underlying5 wr.heap.size 0 1 1 [48 + (j : Int) % 10] rfl (by
        intro i hi
        obtain rfl : i = 0 := by omega
        exact one_new wr _ 5) 9 Tryz.underlying9
      have HS : Hid ((strOfNums [48 + (j : Int) % 10]).size = 1) := rfl
      have hs2 : (strOfNums [48 + (j : Int) % 10]).size ≤ 1 := by rw [HS.out]; exact Nat.le_refl _
      have HD := hid (dgs_pos j out hlt)
      generalize strOfNums [48 + (j : Int) % 10] = u at *
      go_wp2
      go_roundw
      case rel =>
        refine ⟨j / 10, u ++ out, ?_, by go_num, rfl, by unfold Hid; rw [← HD.out]; exact hd.out, HX.out.alloc HX.out.size _⟩
        rw [ByteArray.size_append, HS.out]; omega
      case measure => simp [intOf]; omega
    · obtain rfl : j = 0 := by omega
      have hs : out.size ≤ 100000000 := by omega
      go_wp2
      go_ret
      exact ⟨ret_str (by rw [HE.out, ← hd.out, dgs_zero]), HX.out⟩
end Go.Proofs.YtaekngadfajcaaaGreat.Lab
/- Rows of labels marked and held: markLabelS, heldLabelS. -/
namespace Go.Proofs.YtaekngadfajcaaaGreat.Lab
open Go.RowKit Go.Proofs.YtaekngadfajcaaaGreat.Str

theorem grown_trans {a b c : World} {r : Option Nat} (h : a.grownBy b r) (k : b.grownBy c r) : a.grownBy c r :=
  ⟨k.os.trans h.os, k.tape.trans h.tape, k.output.trans h.output, Nat.le_trans h.size k.size, fun i hi hne => (k.block i (Nat.lt_of_lt_of_le hi h.size) hne).trans (h.block i hi hne)⟩
theorem grown_below {a b : World} (r : Option Nat) (h : Below a.heap.size a b) : a.grownBy b r := ⟨h.os, h.tape, h.output, h.size, fun i hi _ => h.block i hi⟩
theorem grown_setRow {w w' : World} {g o : Nat} (h : w.grownBy w' (some g)) (u : Value) : w.grownBy (w'.setCell ⟨g, o, none⟩ u) (some g) :=
  ⟨h.os, h.tape, h.output, by simpa using h.size, fun i hi hne => (Below.heap_setCell w' ⟨g, o, none⟩ u i (by intro e; exact hne (by rw [e]))).trans (h.block i hi hne)⟩
theorem below_grown {B g : Nat} {a w w' : World} (h : Below B a w) (hg : w.grownBy w' (some g)) (hB : B ≤ w.heap.size) (hr : B ≤ g) : Below B a w' := h.grown hg hB (by intro k hk; cases hk; exact hr)

def markL (k n : Nat) : List Lb := (List.range n).map fun i => (mkT (k + 2 * i), mkT (k + 2 * i + 1))
theorem markL_len (k n : Nat) : (markL k n).length = n := by simp [markL]
theorem markL_get (k n i : Nat) (h : i < n) : (markL k n).getD i e0 = (mkT (k + 2 * i), mkT (k + 2 * i + 1)) := by simp [markL, h]

/-- The row while it is being marked. -/
def markR (k : Nat) (ls : List Lb) (i : Nat) : List Lb := (markL k i) ++ ls.drop i
theorem markR_zero (k : Nat) (ls : List Lb) : markR k ls 0 = ls := by simp [markR, markL]
theorem markR_end (k n : Nat) (ls : List Lb) (h : ls.length = n) : markR k ls n = markL k n := by simp [markR, ← h]
theorem markR_len (k n i : Nat) (ls : List Lb) (h : ls.length = n) (hi : i ≤ n) : (markR k ls i).length = n := by simp [markR, markL_len]; omega
theorem markR_set (k n i : Nat) (ls : List Lb) (h : ls.length = n) (hi : i < n) : (markR k ls i).set i (mkT (k + 2 * i), mkT (k + 2 * i + 1)) = markR k ls (i + 1) := by
  unfold markR
  rw [List.set_append_right _ _ (by rw [markL_len]; exact Nat.le_refl _), markL_len, Nat.sub_self, List.drop_eq_getElem_cons (by omega), List.set_cons_zero]
  have : markL k (i + 1) = markL k i ++ [(mkT (k + 2 * i), mkT (k + 2 * i + 1))] := by simp [markL, List.range_succ]
  rw [this, List.append_assoc]
  rfl

set_option maxHeartbeats 2000000 in
theorem f29 (g n c base k : Nat) (ls : List Lb) (w : World) (hn : ls.length = n) (hk : k + 2 * n ≤ 100000000) (hown : w.ownsRow base 62 2 (.slice (some ⟨g, 0, none⟩) n c) n (flat ls)) :
    Calls Tryz.prog 29 #[.slice (some ⟨g, 0, none⟩) n c, .int .i64 k] w fun e w' => e = .returned (.int .i64 ((k + 2 * n : Nat) : Int)) ∧ w'.ownsRow base 62 2 (.slice (some ⟨g, 0, none⟩) n c) n (flat (markL k n)) ∧ w.grownBy w' (some g) := by
  have HN := hid hn
  have HO0 := hid hown
  clear hn hown
  go_enter Tryz.func29, Tryz.ntmps29
  go_wp2
  go_loopw [1, 5] (fun sk si wr => ∃ (i m : Nat), i ≤ n ∧ si = .int .i64 i ∧ sk = .int .i64 (m : Int) ∧ Hid (m = k + 2 * i) ∧ wr.ownsRow base 62 2 (.slice (some ⟨g, 0, none⟩) n c) n (flat (markR k ls i)) ∧ w.grownBy wr (some g)) (fun _ si _ => n - (intOf si).toNat)
  case atStart => exact ⟨0, k, Nat.zero_le _, rfl, rfl, rfl, by rw [markR_zero]; exact HO0.out, ⟨rfl, rfl, rfl, Nat.le_refl _, fun _ _ _ => rfl⟩⟩
  case round =>
    obtain ⟨i, m, hi, rfl, rfl, hm, hown, hgr⟩ := hrel
    have HO := hid hown
    have HG := hid hgr
    have HM := hid (markR_len k n i ls HN.out hi)
    clear hown hgr HO0
    by_cases hlt : i < n
    · have HS := hid (markR_set k n i ls HN.out hlt)
      have hm1 : m ≤ 99999998 := by have := hm.out; omega
      go_wp2_with fail
      refine (f60 m _ (by omega)).mono ?_
      rintro e w2 ⟨rfl, hb2⟩
      have HO2 := hid (own_below HO.out hb2)
      have HG2 := hid (grown_trans HG.out (grown_below (some g) hb2))
      have fz := HO2.out.frozenAt (i * 2)
      obtain ⟨y0, y1⟩ := flat_get (markR k ls i) i (by rw [HM.out]; exact hlt)
      have cz := (HO2.out.cellAt (i * 2) (by omega)).trans y0
      have HO3 := hid (HO2.out.stored (i * 2) (.string (mkT m))).1
      have HG3 := hid (grown_setRow (o := i * 2) HG2.out (.string (mkT m)))
      clear hb2 y0 y1
      go_wp2_with fail
      refine (f60 (m + 1) _ (by omega)).mono ?_
      rintro e w3 ⟨rfl, hb3⟩
      have HO4 := hid (own_below HO3.out hb3)
      have HG4 := hid (grown_trans HG3.out (grown_below (some g) hb3))
      have fz4 := HO4.out.frozenAt (i * 2 + 1)
      obtain ⟨y0, y1⟩ := flat_get (markR k ls i) i (by rw [HM.out]; exact hlt)
      have cz4 := (HO4.out.cellAt (i * 2 + 1) (by omega)).trans ((List.getElem?_set_ne (by omega)).trans y1)
      have HO5 := hid (HO4.out.stored (i * 2 + 1) (.string (mkT (m + 1)))).1
      have HG5 := hid (grown_setRow (o := i * 2 + 1) HG4.out (.string (mkT (m + 1))))
      clear hb3 y0 y1 fz cz
      go_wp2
      go_roundw
      case rel =>
        refine ⟨i + 1, m + 2, by omega, by go_num, by go_num, by have := hm.out; unfold Hid; omega, ?_, HG5.out⟩
        have := HO5.out
        rw [flat_set _ i _ _ (by rw [HM.out]; exact hlt)] at this
        rw [← HS.out, ← hm.out]
        exact this
      case measure => simp [intOf]; omega
    · obtain rfl : i = n := by omega
      go_wp2
      go_ret
      exact ⟨by rw [← hm.out]; rfl, by rw [← markR_end k i ls HN.out]; exact HO.out, HG.out⟩
theorem f29n (k : Nat) (w : World) : Calls Tryz.prog 29 #[.slice none 0 0, .int .i64 k] w fun e w' => e = .returned (.int .i64 k) ∧ w' = w := by
  go_enter Tryz.func29, Tryz.ntmps29
  go_wp2
  go_loop [1, 5] (fun sk i => sk = .int .i64 k ∧ i = .int .i64 0) (fun _ _ => 0)
  case atStart => exact ⟨rfl, rfl⟩
  case round =>
    obtain ⟨rfl, rfl⟩ := hrel
    go_wp2
    go_ret
    exact ⟨rfl, rfl⟩
end Go.Proofs.YtaekngadfajcaaaGreat.Lab
/- Lists of series marked: only their own memory is written. -/
namespace Go.Proofs.YtaekngadfajcaaaGreat.Srs
open Go.RowKit
open Go.Proofs.YtaekngadfajcaaaGreat.Lab (Lb HasL)
open Go.Proofs.YtaekngadfajcaaaGreat.Smp (Sm HasS)

/-- Only blocks from X to Y are written; others may be new. -/
structure Fr (X Y : Nat) (w x : World) : Prop where
  os : x.os = w.os
  tape : x.tape = w.tape
  output : x.output = w.output
  size : w.heap.size ≤ x.heap.size
  block : ∀ k, k < w.heap.size → (k < X ∨ Y ≤ k) → x.heap[k]? = w.heap[k]?
theorem Fr.refl (X Y : Nat) (w : World) : Fr X Y w w := ⟨rfl, rfl, rfl, Nat.le_refl _, fun _ _ _ => rfl⟩
theorem Fr.below {X Y : Nat} {w x y : World} (h : Fr X Y w x) (hb : Below x.heap.size x y) : Fr X Y w y :=
  ⟨hb.os.trans h.os, hb.tape.trans h.tape, hb.output.trans h.output, Nat.le_trans h.size hb.size, fun k hk hne => (hb.block k (Nat.lt_of_lt_of_le hk h.size)).trans (h.block k hk hne)⟩
theorem Fr.grown {X Y g : Nat} {w x y : World} (h : Fr X Y w x) (hg : x.grownBy y (some g)) (h1 : X ≤ g) (h2 : g < Y) : Fr X Y w y :=
  ⟨hg.os.trans h.os, hg.tape.trans h.tape, hg.output.trans h.output, Nat.le_trans h.size hg.size, fun k hk hne => (hg.block k (Nat.lt_of_lt_of_le hk h.size) (fun e => by have := Option.some.inj e; omega)).trans (h.block k hk hne)⟩
theorem own_fr {X Y : Nat} {w x : World} {base e size n c g : Nat} {xs : List Value} (h : w.ownsRow base e size (.slice (some ⟨g, 0, none⟩) n c) n xs) (hf : Fr X Y w x) (hg : g < X ∨ Y ≤ g) : x.ownsRow base e size (.slice (some ⟨g, 0, none⟩) n c) n xs := by
  refine ⟨h.1, ?_⟩
  rcases h.2 with ⟨h1, _⟩ | ⟨g', cap, cur, h1, h2, h3, h4⟩
  · cases h1
  · cases h1
    exact .inr ⟨g, c, cur, rfl, h2, (hf.block g (Array.getElem?_eq_some_iff.1 h3).1 hg).trans h3, h4⟩
theorem own_grown {w x : World} {base e size n c g r : Nat} {xs : List Value} (h : w.ownsRow base e size (.slice (some ⟨g, 0, none⟩) n c) n xs) (hg : w.grownBy x (some r)) (hne : g ≠ r) : x.ownsRow base e size (.slice (some ⟨g, 0, none⟩) n c) n xs :=
  h.kept hg (.inr (fun e => hne (Option.some.inj e)))
theorem Own1.grown {X ga gb r : Nat} {q : Q} {w x : World} (h : Own1 X ga gb q w) (hg : w.grownBy x (some r)) (h1 : ga ≠ r) (h2 : gb ≠ r) : Own1 X ga gb q x := ⟨h.ha, h.hb, own_grown h.lab hg h1, own_grown h.smp hg h2, h.lt⟩
/-- The series from i on are as they were; what was written lies from g to Y. -/
structure Mk (X g Y n i : Nat) (qs : List Q) (w x : World) : Prop where
  row : x.ownsRow X 53 2 (.slice (some ⟨g, 0, none⟩) n n) n (flat qs)
  own : ∀ j, i ≤ j → j < n → Own1 X (blk (qs.getD j q0).a) (blk (qs.getD j q0).b) (qs.getD j q0) x
  fr : Fr g Y w x
set_option maxHeartbeats 2000000 in
theorem f12 (X g Y n k : Nat) (qs : List Q) (w : World) (hn : qs.length = n) (hb : n ≤ 1048576) (hk : k + 2 * tot qs n ≤ 100000000) (ho : OwnQ X g n qs w) (hY : ∀ i, i < n → blk (qs.getD i q0).b < Y) :
    Calls Tryz.prog 12 #[.slice (some ⟨g, 0, none⟩) n n, .int .i64 k] w fun e w' => e = .returned (.int .i64 ((k + 2 * tot qs n : Nat) : Int)) ∧ Fr g Y w w' := by
  have HN := hid hn
  have HY := hid hY
  have HK := hid hk
  have HD := hid ho.kin.dis
  have HF := hid ho.kin.off
  have H0 : Hid (Mk X g Y n 0 qs w w) := ⟨ho.row, fun j _ hj => ho.kin.own j hj, Fr.refl _ _ _⟩
  clear hn hY hk ho
  go_enter Tryz.func12, Tryz.ntmps12
  go_wp2
  go_loopw [1, 5] (fun sk si wr => ∃ (i m : Nat), i ≤ n ∧ si = .int .i64 i ∧ sk = .int .i64 (m : Int) ∧ Hid (m = k + 2 * tot qs i) ∧ Hid (Mk X g Y n i qs w wr)) (fun _ si _ => n - (intOf si).toNat)
  case atStart => exact ⟨0, k, Nat.zero_le _, rfl, rfl, rfl, H0.out⟩
  case round =>
    obtain ⟨i, m, hi, rfl, rfl, hm, HM⟩ := hrel
    by_cases hlt : i < n
    rotate_left
    · obtain rfl : i = n := by omega
      have HX := hid HM.out.fr
      go_wp2
      go_ret
      exact ⟨by rw [← hm.out]; rfl, HX.out⟩
    have HO := hid (HM.out.own i (Nat.le_refl _) hlt)
    obtain ⟨y0, y1⟩ := flat_get qs i (by rw [HN.out]; exact hlt)
    have c0 := (HM.out.row.cellAt (i * 2) (by omega)).trans y0
    have c1 := (HM.out.row.cellAt (i * 2 + 1) (by omega)).trans y1
    have HT : Hid (tot qs (i + 1) = tot qs i + (qs.getD i q0).l.length + (qs.getD i q0).s.length) := rfl
    have HTn := hid (tot_mono qs n (i + 1) hlt)
    have HDi := hid (fun j (h1 : i < j) (h2 : j < n) => HD.out i j h1 h2)
    have HFi := hid (HF.out i hlt)
    have HYi := hid (HY.out i hlt)
    rw [HO.out.ha] at c0
    rw [HO.out.hb] at c1
    obtain ⟨q, hq⟩ : ∃ q, q = qs.getD i q0 := ⟨_, rfl⟩
    rw [← hq] at c0 c1 HO HT HDi HFi HYi
    clear hq y0 y1
    generalize blk q.a = ga at *
    generalize blk q.b = gb at *
    have hab := HO.out.lt
    have N1 : Hid (m + 2 * q.l.length + 2 * q.s.length ≤ 100000000) := by unfold Hid; have := hm.out; have := HK.out; have := HTn.out; have := HT.out; omega
    go_wp2_with fail
    refine (Lab.f29 ga q.l.length q.c X m q.l _ rfl (by have := N1.out; omega) HO.out.lab).mono ?_
    rintro e w2 ⟨rfl, _, hg2⟩
    have HR2 := hid (own_grown HM.out.row hg2 (by have := HFi.out; omega))
    have HS2 := hid (own_grown HO.out.smp hg2 (by omega))
    have HA2 : Hid (∀ j, i + 1 ≤ j → j < n → Own1 X (blk (qs.getD j q0).a) (blk (qs.getD j q0).b) (qs.getD j q0) w2) := fun j h1 h2 =>
      (HM.out.own j (by omega) h2).grown hg2 (by have := HDi.out j (by omega) h2; omega) (by have := HDi.out j (by omega) h2; have := (HM.out.own j (by omega) h2).lt; omega)
    have HF2 := hid (HM.out.fr.grown hg2 (by have := HFi.out; omega) (by have := HYi.out; omega))
    obtain ⟨z0, z1⟩ := flat_get qs i (by rw [HN.out]; exact hlt)
    have d1 : w2.cell? ⟨g, i * 2 + 1, none⟩ = some (.slice (some ⟨gb, 0, none⟩) q.s.length q.d) := by
      have e := hg2.block g (HM.out.row.lt g rfl).2 (fun e => by have := Option.some.inj e; have := HFi.out; omega)
      simp only [World.cell?, e]
      exact c1
    clear hg2 z0 z1 c0 c1
    go_wp2_with fail
    refine (Smp.f30 gb q.d X (m + 2 * q.l.length) q.s _ (by have := N1.out; omega) HS2.out).mono ?_
    rintro e w3 ⟨rfl, _, hg3⟩
    have HM3 : Hid (Mk X g Y n (i + 1) qs w w3) :=
      ⟨own_grown HR2.out hg3 (by have := HFi.out; omega), fun j h1 h2 => (HA2.out j h1 h2).grown hg3 (by have := HDi.out j (by omega) h2; omega) (by have := HDi.out j (by omega) h2; have := (HA2.out j h1 h2).lt; omega), HF2.out.grown hg3 (by have := HFi.out; omega) (by have := HYi.out; omega)⟩
    have HE : Hid (m + 2 * q.l.length + 2 * q.s.length = k + 2 * tot qs (i + 1)) := by unfold Hid; have := hm.out; have := HT.out; omega
    clear hg3 d1 HM HR2 HS2 HA2 HF2
    go_wp2
    go_roundw
    case rel => exact ⟨i + 1, m + 2 * q.l.length + 2 * q.s.length, by omega, by go_num, by simp, HE.out, HM3.out⟩
    case measure => simp [intOf]; omega
end Go.Proofs.YtaekngadfajcaaaGreat.Srs
/- Marks that are held: heldLabelS. -/
namespace Go.Proofs.YtaekngadfajcaaaGreat.Lab
open Go.RowKit Go.Proofs.YtaekngadfajcaaaGreat.Str

/-- A text in a cell, and all that was there is as it was. -/
abbrev UU (w : World) (b o : Nat) (v : ByteArray) (w' : World) : Prop := w'.cell? ⟨b, o, none⟩ = some (.string v) ∧ b < w'.heap.size ∧ Below w.heap.size w w'
theorem UU.below {w W W' : World} {b o : Nat} {v : ByteArray} (h : UU w b o v W) (hb : Below W.heap.size W W') : UU w b o v W' :=
  ⟨(hb.cell (p := ⟨b, o, none⟩) h.2.1).trans h.1, Nat.lt_of_lt_of_le h.2.1 hb.size, h.2.2.trans (hb.mono h.2.2.size)⟩
theorem UU.drew {w W : World} {b o : Nat} {v : ByteArray} (h : UU w b o v W) : UU w b o v W.drew := ⟨h.1, h.2.1, h.2.2.drew⟩

set_option maxHeartbeats 2000000 in
theorem f32 (g n c k : Nat) (w : World) (hk : k + 2 * n ≤ 100000000) (hr : HasL w (some ⟨g, 0, none⟩) (markL k n)) :
    Calls Tryz.prog 32 #[.slice (some ⟨g, 0, none⟩) n c, .int .i64 k] w fun e w' => e = .returned (.int .i64 ((k + 2 * n : Nat) : Int)) ∧ Below w.heap.size w w' := by
  go_enter Tryz.func32, Tryz.ntmps32
  go_wp2
  go_loopw [1, 5] (fun sk si wr => ∃ (i m : Nat), i ≤ n ∧ si = .int .i64 i ∧ sk = .int .i64 (m : Int) ∧ Hid (m = k + 2 * i) ∧ Below w.heap.size w wr) (fun _ si _ => n - (intOf si).toNat)
  case atStart => exact ⟨0, k, Nat.zero_le _, rfl, rfl, rfl, Below.refl _ _⟩
  case round =>
    obtain ⟨i, m, hi, rfl, rfl, hm, hnx⟩ := hrel
    have HX := hid hnx
    by_cases hlt : i < n
    · rcases hr with hr | ⟨b, off, hbo, hbl, hc⟩
      · have := markL_len k n; rw [hr] at this; simp at this; omega
      simp only [Option.some.injEq, Addr.mk.injEq, and_true] at hbo
      obtain ⟨rfl, rfl⟩ := hbo
      obtain ⟨c0, c1⟩ := hc i (by rw [markL_len]; exact hlt)
      rw [markL_get k n i hlt, ← hm.out, Nat.zero_add] at c0 c1
      have HS := hid (show UU w g (i * 2) (mkT m) wr from ⟨(hnx.cell (p := ⟨g, i * 2, none⟩) hbl).trans c0, Nat.lt_of_lt_of_le hbl hnx.size, hnx⟩)
      have HT := hid (show w.cell? ⟨g, i * 2 + 1, none⟩ = some (.string (mkT (m + 1))) from c1)
      have HL := hid hbl
      have i1 : (i : Int) < (n : Int) := by omega
      have hm1 : m ≤ 99999998 := by have := hm.out; omega
      clear hc c0 c1 hnx hbl
      go_wp2_with fail
      go_region_held3 (fun w' => UU w g (i * 2) (mkT m) w') (first | exact HS.out.drew | assumption) (first | (go_at_call 60; refine (f60 m _ (by omega)).mono ?_; rintro e w2 ⟨rfl, hb2⟩; have hs2 := UU.below (by assumption) hb2; clear hb2))
      have HX2 := hid hs2.2.2
      have HS2 := hid (show UU w g (i * 2 + 1) (mkT (m + 1)) w2 from ⟨(HX2.out.cell (p := ⟨g, i * 2 + 1, none⟩) HL.out).trans HT.out, hs2.2.1, hs2.2.2⟩)
      clear hs2
      go_wp2_with fail
      go_region_held3 (fun w' => UU w g (i * 2 + 1) (mkT (m + 1)) w') (first | exact HS2.out.drew | assumption) (first | (go_at_call 60; refine (f60 (m + 1) _ (by omega)).mono ?_; rintro e w3 ⟨rfl, hb3⟩; have hs3 := UU.below (by assumption) hb3; clear hb3))
      have HX3 := hid hs3.2.2
      clear hs3
      go_wp2
      go_roundw
      case rel => exact ⟨i + 1, m + 2, by omega, by go_num, by go_num, by have := hm.out; unfold Hid; omega, HX3.out⟩
      case measure => simp [intOf]; omega
    · obtain rfl : i = n := by omega
      go_wp2
      go_ret
      exact ⟨by rw [← hm.out]; rfl, HX.out⟩
theorem f32n (k : Nat) (w : World) : Calls Tryz.prog 32 #[.slice none 0 0, .int .i64 k] w fun e w' => e = .returned (.int .i64 k) ∧ w' = w := by
  go_enter Tryz.func32, Tryz.ntmps32
  go_wp2
  go_loop [1, 5] (fun sk i => sk = .int .i64 k ∧ i = .int .i64 0) (fun _ _ => 0)
  case atStart => exact ⟨rfl, rfl⟩
  case round =>
    obtain ⟨rfl, rfl⟩ := hrel
    go_wp2
    go_ret
    exact ⟨rfl, rfl⟩
end Go.Proofs.YtaekngadfajcaaaGreat.Lab
/- Lists of series of the call's own, wherever their parts lie: marked, and held. -/
namespace Go.Proofs.YtaekngadfajcaaaGreat.Srs
open Go.RowKit
open Go.Proofs.YtaekngadfajcaaaGreat.Lab (Lb HasL)
open Go.Proofs.YtaekngadfajcaaaGreat.Smp (Sm HasS)

/-- A series whose labels and samples are in two rows of their own. -/
structure Own2 (X : Nat) (q : Q) (w : World) : Prop where
  ha : q.a = some ⟨blk q.a, 0, none⟩
  hb : q.b = some ⟨blk q.b, 0, none⟩
  lab : w.ownsRow X 62 2 (.slice (some ⟨blk q.a, 0, none⟩) q.l.length q.c) q.l.length (Lab.flat q.l)
  smp : w.ownsRow X 78 2 (.slice (some ⟨blk q.b, 0, none⟩) q.s.length q.d) q.s.length (Smp.flat q.s)
  ne : blk q.a ≠ blk q.b
theorem Own2.below {X : Nat} {q : Q} {w w' : World} (h : Own2 X q w) (hb : Below w.heap.size w w') : Own2 X q w' := ⟨h.ha, h.hb, own_below h.lab hb, own_below h.smp hb, h.ne⟩
theorem Own2.grown {X r : Nat} {q : Q} {w x : World} (h : Own2 X q w) (hg : w.grownBy x (some r)) (h1 : blk q.a ≠ r) (h2 : blk q.b ≠ r) : Own2 X q x := ⟨h.ha, h.hb, own_grown h.lab hg h1, own_grown h.smp hg h2, h.ne⟩
theorem Own2.kept {X : Nat} {q : Q} {w x : World} {r : Option Nat} (h : Own2 X q w) (hg : w.grownBy x r) (h1 : some (blk q.a) ≠ r) (h2 : some (blk q.b) ≠ r) : Own2 X q x := ⟨h.ha, h.hb, h.lab.kept hg (.inr h1), h.smp.kept hg (.inr h2), h.ne⟩
theorem Own2.hasL {X : Nat} {q : Q} {w : World} (h : Own2 X q w) : HasL w q.a q.l := by rw [h.ha]; exact Lab.HasL.own h.lab
theorem Own2.hasS {X : Nat} {q : Q} {w : World} (h : Own2 X q w) : HasS w q.b q.s := by rw [h.hb]; exact Smp.HasS.own h.smp
theorem Own2.lo {X : Nat} {q : Q} {w : World} (h : Own2 X q w) : X ≤ blk q.a ∧ X ≤ blk q.b := ⟨(h.lab.lt _ rfl).1, (h.smp.lt _ rfl).1⟩
theorem Own2.hi {X : Nat} {q : Q} {w : World} (h : Own2 X q w) : blk q.a < w.heap.size ∧ blk q.b < w.heap.size := ⟨(h.lab.lt _ rfl).2, (h.smp.lt _ rfl).2⟩
/-- Series of which no two share a row. -/
structure Apart (g n : Nat) (f : Nat → Q) : Prop where
  nea : ∀ i, i < n → blk (f i).a ≠ g ∧ blk (f i).b ≠ g
  dis : ∀ i j, i < n → j < n → i ≠ j → blk (f i).a ≠ blk (f j).a ∧ blk (f i).a ≠ blk (f j).b ∧ blk (f i).b ≠ blk (f j).a ∧ blk (f i).b ≠ blk (f j).b
/-- A list of series at block g, all of it the call's own. -/
structure OwnG (X g n c : Nat) (qs : List Q) (w : World) : Prop where
  len : qs.length = n
  row : w.ownsRow X 53 2 (.slice (some ⟨g, 0, none⟩) n c) n (flat qs)
  own : ∀ i, i < n → Own2 X (qs.getD i q0) w
  apt : Apart g n (fun i => qs.getD i q0)
theorem OwnG.below {X g n c : Nat} {qs : List Q} {w w' : World} (h : OwnG X g n c qs w) (hb : Below w.heap.size w w') : OwnG X g n c qs w' := ⟨h.len, own_below h.row hb, fun i hi => (h.own i hi).below hb, h.apt⟩
theorem OwnG.has {X g n c : Nat} {qs : List Q} {w : World} (h : OwnG X g n c qs w) : HasQ w (some ⟨g, 0, none⟩) qs :=
  own_has h.row fun i hi => ⟨(h.own i (by rw [← h.len]; exact hi)).hasL, (h.own i (by rw [← h.len]; exact hi)).hasS⟩
/-- A series marked from k on. -/
def mq (k : Nat) (q : Q) : Q := ⟨Lab.markL k q.l.length, q.a, q.c, Smp.markL (k + 2 * q.l.length) q.s.length, q.b, q.d⟩
def mqs (k : Nat) (qs : List Q) : List Q := (List.range qs.length).map fun j => mq (k + 2 * tot qs j) (qs.getD j q0)
theorem mqs_len (k : Nat) (qs : List Q) : (mqs k qs).length = qs.length := by simp [mqs]
theorem mqs_get (k : Nat) (qs : List Q) (j : Nat) (h : j < qs.length) : (mqs k qs).getD j q0 = mq (k + 2 * tot qs j) (qs.getD j q0) := by simp [mqs, h]
theorem mq_cl (k : Nat) (q : Q) : cl (mq k q) = cl q := by simp [mq, cl, Lab.markL_len, Smp.markL_len]
theorem flat_mqs (k : Nat) (qs : List Q) : flat (mqs k qs) = flat qs := by
  refine List.ext_getElem? fun j => ?_
  by_cases hj : j < qs.length * 2
  · have h1 : j / 2 < qs.length := by omega
    have h2 : j / 2 < (mqs k qs).length := by rw [mqs_len]; exact h1
    obtain ⟨a0, a1⟩ := flat_get qs (j / 2) h1
    obtain ⟨b0, b1⟩ := flat_get (mqs k qs) (j / 2) h2
    rw [mqs_get k qs (j / 2) h1] at b0 b1
    have e0 : ((mq (k + 2 * tot qs (j / 2)) (qs.getD (j / 2) q0)).l).length = (qs.getD (j / 2) q0).l.length := by simp [mq, Lab.markL_len]
    have e1 : ((mq (k + 2 * tot qs (j / 2)) (qs.getD (j / 2) q0)).s).length = (qs.getD (j / 2) q0).s.length := by simp [mq, Smp.markL_len]
    rw [e0] at b0
    rw [e1] at b1
    rcases (show j % 2 = 0 ∨ j % 2 = 1 by omega) with h | h
    · rw [show j = j / 2 * 2 by omega, a0, b0]; rfl
    · rw [show j = j / 2 * 2 + 1 by omega, a1, b1]; rfl
  · rw [List.getElem?_eq_none (by rw [flat_len, mqs_len]; omega), List.getElem?_eq_none (by rw [flat_len]; omega)]
theorem tot_mqs (k : Nat) (qs : List Q) : ∀ j, j ≤ qs.length → tot (mqs k qs) j = tot qs j := by
  intro j
  induction j with
  | zero => intro _; rfl
  | succ j ih =>
    intro hj
    simp only [tot]
    rw [ih (by omega), mqs_get k qs j (by omega)]
    simp [mq, Lab.markL_len, Smp.markL_len]
/-- The series while they are being marked: the first i are. -/
structure Mg (X g n c k i : Nat) (qs : List Q) (w x : World) : Prop where
  row : x.ownsRow X 53 2 (.slice (some ⟨g, 0, none⟩) n c) n (flat qs)
  done : ∀ j, j < i → Own2 X (mq (k + 2 * tot qs j) (qs.getD j q0)) x
  own : ∀ j, i ≤ j → j < n → Own2 X (qs.getD j q0) x
  bel : Below X w x
set_option maxHeartbeats 2000000 in
theorem f12g (X g n c k : Nat) (qs : List Q) (w : World) (hb : n ≤ 1048576) (hk : k + 2 * tot qs n ≤ 100000000) (hX : X ≤ w.heap.size) (ho : OwnG X g n c qs w) :
    Calls Tryz.prog 12 #[.slice (some ⟨g, 0, none⟩) n c, .int .i64 k] w fun e w' => e = .returned (.int .i64 ((k + 2 * tot qs n : Nat) : Int)) ∧ OwnG X g n c (mqs k qs) w' ∧ Below X w w' := by
  have HN := hid ho.len
  have HK := hid hk
  have HA := hid ho.apt
  have HX := hid hX
  have H0 : Hid (Mg X g n c k 0 qs w w) := ⟨ho.row, fun j hj => by omega, fun j _ hj => ho.own j hj, Below.refl _ _⟩
  clear hk ho hX
  go_enter Tryz.func12, Tryz.ntmps12
  go_wp2
  go_loopw [1, 5] (fun sk si wr => ∃ (i m : Nat), i ≤ n ∧ si = .int .i64 i ∧ sk = .int .i64 (m : Int) ∧ Hid (m = k + 2 * tot qs i) ∧ Hid (Mg X g n c k i qs w wr)) (fun _ si _ => n - (intOf si).toNat)
  case atStart => exact ⟨0, k, Nat.zero_le _, rfl, rfl, rfl, H0.out⟩
  case round =>
    obtain ⟨i, m, hi, rfl, rfl, hm, HM⟩ := hrel
    by_cases hlt : i < n
    rotate_left
    · obtain rfl : i = n := by omega
      have HE : Hid (OwnG X g i c (mqs k qs) wr) := by
        have hl := HN.out
        refine ⟨(mqs_len k qs).trans hl, by rw [flat_mqs]; exact HM.out.row, fun j hj => by rw [mqs_get k qs j (by omega)]; exact HM.out.done j hj, ⟨fun j hj => ?_, fun j j' hj hj' hne => ?_⟩⟩
        · rw [mqs_get k qs j (by omega)]; exact HA.out.nea j hj
        · rw [mqs_get k qs j (by omega), mqs_get k qs j' (by omega)]; exact HA.out.dis j j' hj hj' hne
      have HB := hid HM.out.bel
      go_wp2
      go_ret
      exact ⟨by rw [← hm.out]; rfl, HE.out, HB.out⟩
    have HO := hid (HM.out.own i (Nat.le_refl _) hlt)
    obtain ⟨y0, y1⟩ := flat_get qs i (by rw [HN.out]; exact hlt)
    have c0 := (HM.out.row.cellAt (i * 2) (by omega)).trans y0
    have c1 := (HM.out.row.cellAt (i * 2 + 1) (by omega)).trans y1
    have HT : Hid (tot qs (i + 1) = tot qs i + (qs.getD i q0).l.length + (qs.getD i q0).s.length) := rfl
    have HTn := hid (tot_mono qs n (i + 1) hlt)
    have HDi := hid (fun j (h1 : j < n) (h2 : j ≠ i) => HA.out.dis j i h1 hlt h2)
    have HNi := hid (HA.out.nea i hlt)
    rw [HO.out.ha] at c0
    rw [HO.out.hb] at c1
    obtain ⟨q, hq⟩ : ∃ q, q = qs.getD i q0 := ⟨_, rfl⟩
    have HQ := hid hq
    rw [← hq] at c0 c1 HO HT HDi HNi
    clear hq y0 y1
    have hab := HO.out.ne
    have N1 : Hid (m + 2 * q.l.length + 2 * q.s.length ≤ 100000000) := by unfold Hid; have := hm.out; have := HK.out; have := HTn.out; have := HT.out; omega
    go_wp2_with fail
    refine (Lab.f29 (blk q.a) q.l.length q.c X m q.l _ rfl (by have := N1.out; omega) HO.out.lab).mono ?_
    rintro e w2 ⟨rfl, hl2, hg2⟩
    have HL2 := hid hl2
    have HR2 := hid (own_grown HM.out.row hg2 (Ne.symm HNi.out.1))
    have HS2 := hid (own_grown HO.out.smp hg2 (Ne.symm hab))
    have HD2 : Hid (∀ j, j < i → Own2 X (mq (k + 2 * tot qs j) (qs.getD j q0)) w2) := fun j h1 => (HM.out.done j h1).grown hg2 (HDi.out j (by omega) (by omega)).1 (HDi.out j (by omega) (by omega)).2.2.1
    have HA2 : Hid (∀ j, i + 1 ≤ j → j < n → Own2 X (qs.getD j q0) w2) := fun j h1 h2 => (HM.out.own j (by omega) h2).grown hg2 (HDi.out j h2 (by omega)).1 (HDi.out j h2 (by omega)).2.2.1
    have HB2 := hid (HM.out.bel.grown hg2 (Nat.le_trans HX.out HM.out.bel.size) (fun k hk => by cases hk; exact HO.out.lo.1))
    have d1 : w2.cell? ⟨g, i * 2 + 1, none⟩ = some (.slice (some ⟨blk q.b, 0, none⟩) q.s.length q.d) := by
      have e := hg2.block g (HM.out.row.lt g rfl).2 (fun e => HNi.out.1 (Option.some.inj e).symm)
      simp only [World.cell?, e]
      exact c1
    clear hg2 hl2 c0 c1
    go_wp2_with fail
    refine (Smp.f30 (blk q.b) q.d X (m + 2 * q.l.length) q.s _ (by have := N1.out; omega) HS2.out).mono ?_
    rintro e w3 ⟨rfl, hs3, hg3⟩
    have HM3 : Hid (Mg X g n c k (i + 1) qs w w3) := by
      refine ⟨own_grown HR2.out hg3 (Ne.symm HNi.out.2), fun j h1 => ?_, fun j h1 h2 => (HA2.out j h1 h2).grown hg3 (HDi.out j h2 (by omega)).2.1 (HDi.out j h2 (by omega)).2.2.2, HB2.out.grown hg3 (by have := HX.out; have := HB2.out.size; omega) (fun k hk => by cases hk; exact HO.out.lo.2)⟩
      by_cases e : j = i
      · rw [e, ← HQ.out, ← hm.out]
        exact ⟨HO.out.ha, HO.out.hb, by simp only [mq, Lab.markL_len]; exact own_grown HL2.out hg3 hab, by simp only [mq, Smp.markL_len]; exact hs3, hab⟩
      · exact (HD2.out j (by omega)).grown hg3 (HDi.out j (by omega) e).2.1 (HDi.out j (by omega) e).2.2.2
    have HE : Hid (m + 2 * q.l.length + 2 * q.s.length = k + 2 * tot qs (i + 1)) := by unfold Hid; have := hm.out; have := HT.out; omega
    clear hg3 hs3 d1 HM HR2 HS2 HA2 HD2 HB2 HL2
    go_wp2
    go_roundw
    case rel => exact ⟨i + 1, m + 2 * q.l.length + 2 * q.s.length, by omega, by go_num, by simp, HE.out, HM3.out⟩
    case measure => simp [intOf]; omega
set_option maxHeartbeats 2000000 in
theorem f14 (X g n c k : Nat) (qs : List Q) (w : World) (hn : qs.length = n) (hb : n ≤ 1048576) (hk : k + 2 * tot qs n ≤ 100000000) (hr : OwnG X g n c (mqs k qs) w) :
    Calls Tryz.prog 14 #[.slice (some ⟨g, 0, none⟩) n c, .int .i64 k] w fun e w' => e = .returned (.int .i64 ((k + 2 * tot qs n : Nat) : Int)) ∧ Below w.heap.size w w' := by
  have HN := hid hn
  have HK := hid hk
  have HR := hid hr
  clear hn hk hr
  go_enter Tryz.func14, Tryz.ntmps14
  go_wp2
  go_loopw [1, 5] (fun sk si wr => ∃ (i m : Nat), i ≤ n ∧ si = .int .i64 i ∧ sk = .int .i64 (m : Int) ∧ Hid (m = k + 2 * tot qs i) ∧ Hid (Below w.heap.size w wr)) (fun _ si _ => n - (intOf si).toNat)
  case atStart => exact ⟨0, k, Nat.zero_le _, rfl, rfl, rfl, Below.refl _ _⟩
  case round =>
    obtain ⟨i, m, hi, rfl, rfl, hm, HX⟩ := hrel
    by_cases hlt : i < n
    rotate_left
    · obtain rfl : i = n := by omega
      go_wp2
      go_ret
      exact ⟨by rw [← hm.out]; rfl, HX.out⟩
    have hrw := HR.out.below HX.out
    obtain ⟨b, off, e0, hbl, c0, c1, t1, t2⟩ := hrw.has.at2 i (by rw [mqs_len, HN.out]; exact hlt)
    have ho := hrw.own i hlt
    rw [mqs_get k qs i (by rw [HN.out]; exact hlt)] at c0 c1 t1 t2 ho
    rw [ho.ha] at c0 t1
    cases e0
    clear hrw ho
    have HT : Hid (tot qs (i + 1) = tot qs i + (qs.getD i q0).l.length + (qs.getD i q0).s.length) := rfl
    have HTn := hid (tot_mono qs n (i + 1) hlt)
    simp only [mq, Lab.markL_len, Smp.markL_len, Nat.zero_add] at c0 c1 t1 t2
    rw [← hm.out] at t1 t2
    generalize qs.getD i q0 = q at *
    have HT1 := hid t1
    have HT2 := hid t2
    have N1 : Hid (m + 2 * q.l.length + 2 * q.s.length ≤ 100000000) := by unfold Hid; have := hm.out; have := HK.out; have := HTn.out; have := HT.out; omega
    clear t1 t2
    go_wp2_with fail
    refine (Lab.f32 (blk q.a) q.l.length q.c m _ (by have := N1.out; omega) HT1.out).mono ?_
    rintro e w2 ⟨rfl, hb2⟩
    have HX2 := hid (HX.out.trans (hb2.mono HX.out.size))
    have HT2' := hid (HT2.out.below hb2)
    have d1 := (hb2.cell (p := ⟨g, i * 2 + 1, none⟩) hbl).trans c1
    clear hb2 c0 c1 hbl
    have hm2 : ¬ ((m + 2 * q.l.length : Nat) : Int) < 0 := by omega
    obtain ⟨m2, hm2e⟩ : ∃ m2, m2 = m + 2 * q.l.length := ⟨_, rfl⟩
    have HE2 := hid hm2e
    rw [← hm2e] at hm2 HT2' N1 ⊢
    clear hm2e
    go_wp2_with fail
    refine (Smp.f33 q.b q.s.length q.d m2 _ (by have := N1.out; omega) HT2'.out).mono ?_
    rintro e w3 ⟨rfl, rfl⟩
    have HX3 := hid HX2.out
    clear d1
    have hm3 : ¬ ((m2 + 2 * q.s.length : Nat) : Int) < 0 := by omega
    obtain ⟨m3, hm3e⟩ : ∃ m3, m3 = m2 + 2 * q.s.length := ⟨_, rfl⟩
    have HE3 : Hid (m3 = k + 2 * tot qs (i + 1)) := by unfold Hid; have := hm.out; have := HT.out; have := HE2.out; omega
    rw [← hm3e] at hm3 ⊢
    clear hm3e
    go_wp2
    go_roundw
    case rel => exact ⟨i + 1, m3, by omega, by go_num, rfl, HE3.out, HX3.out⟩
    case measure => simp [intOf]; omega
end Go.Proofs.YtaekngadfajcaaaGreat.Srs
