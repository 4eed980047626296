/- The program's pairsOf. -/
import Derived.Test.YtigakbhficoonaaPrg
import Derived.Test.YtigakbhficoonaaIsc
namespace Go.Proofs.Ytigakbhficoonaa.Prs
open Go.RowKit
open Go.Proofs.Ytigakbhficoonaa.Rdd
open Go.Proofs.Ytigakbhficoonaa.Pat (hid nbC printL)
open Go.Proofs.Ytigakbhficoonaa.Lab (Lb HasL e0 cmpN okL GoodP withF)

/-- The labels by now, in memory of the call's own, behind the world W. -/
structure Pt (W : World) (fs : List Lb) (a : Option Addr) (c : Nat) (x : World) : Prop where
  row : x.ownsRow W.heap.size 33 2 (.slice a fs.length c) fs.length (Lab.flat fs)
  bel : Below W.heap.size W x
theorem Pt.mv {W x y : World} {fs : List Lb} {a : Option Addr} {c : Nat} (h : Pt W fs a c x) (hb : Below x.heap.size x y) : Pt W fs a c y := ⟨own_bel h.row hb, h.bel.trans (hb.mono h.bel.size)⟩
theorem Pt.alloc {W x : World} {fs : List Lb} {a : Option Addr} {c : Nat} (h : Pt W fs a c x) (o : Obj) : Pt W fs a c (x.alloc o) := h.mv ((Below.refl _ _).alloc (Nat.le_refl _) o)
theorem Pt.ins {W x y : World} {fs : List Lb} {p : Lb} {a : Option Addr} {c lo : Nat} {e : Ending} (h : Pt W fs a c x) (hlo : lo ≤ fs.length) (hr : Ins.InsR W.heap.size a fs.length c lo (Lab.flat fs) [.string p.1, .string p.2] x e y) : ∃ a' c', e = .returned (.slice a' (fs.take lo ++ p :: fs.drop lo).length c') ∧ Pt W (fs.take lo ++ p :: fs.drop lo) a' c' y := by
  obtain ⟨a', c', he, hrow, hg⟩ := hr
  have hlen : (fs.take lo ++ p :: fs.drop lo).length = fs.length + 1 := by simp [List.length_take, List.length_drop]; omega
  rw [flat_put fs p lo hlo] at hrow
  refine ⟨a', c', by rw [hlen]; exact he, by rw [hlen]; exact hrow, ?_⟩
  have hne : ∀ g, (Value.slice a fs.length c).ownBlock = some g → W.heap.size ≤ g := fun g e => (own_blk h.row e).1
  exact ⟨hg.os.trans h.bel.os, hg.tape.trans h.bel.tape, hg.output.trans h.bel.output, Nat.le_trans h.bel.size hg.size, fun j hj => (hg.block j (by have := h.bel.size; omega) (fun e => by have := hne j e.symm; omega)).trans (h.bel.block j hj)⟩
theorem own_cells {w : World} {B n c : Nat} {a : Option Addr} {ds : List ByteArray} (h : w.ownsRow B 9 1 (.slice a n c) n (ds.map Value.string)) : (n = 0) ∨ ∃ g, a = some ⟨g, 0, none⟩ ∧ g < w.heap.size ∧ ∀ k, k < ds.length → w.cell? ⟨g, k, none⟩ = some (.string (ds.getD k ByteArray.empty)) := by
  have hl : ds.length = n := by have := h.1; simpa using this
  rcases h.2 with ⟨_, h2⟩ | ⟨g, cap, cur, h1, _, h3, _⟩
  · exact .inl h2
  · simp only [Value.slice.injEq] at h1
    obtain ⟨rfl, _, rfl⟩ := h1
    refine .inr ⟨g, rfl, (Array.getElem?_eq_some_iff.1 h3).1, fun k hk => ?_⟩
    refine (h.cellAt k (by omega)).trans ?_
    rw [List.getElem?_map, List.getD_eq_getElem?_getD, List.getElem?_eq_getElem hk]
    rfl
/-- What pairsOf leaves. -/
def PrsR (s : ByteArray) (w : World) (e : Ending) (w' : World) : Prop :=
  ∃ (a : Option Addr) (c : Nat), e = .returned (.slice a (pairsL s).length c) ∧ w'.ownsRow w.heap.size 33 2 (.slice a (pairsL s).length c) (pairsL s).length (Lab.flat (pairsL s)) ∧ Below w.heap.size w w'
set_option maxRecDepth 10000 in
set_option maxHeartbeats 8000000 in
theorem f15 (s : ByteArray) (w : World) (hs : s.size ≤ 500) (hp : printL s.data.toList = true) : Calls Try.prog 15 #[.string s] w (PrsR s w) := by
  have HC := fun w => hid (f32 s w hs hp)
  clear hp
  go_enter Try.func15, Try.ntmps15
  go_wp2_with fail
  refine (HC _).out.mono ?_
  rintro e w1 ⟨ds, pa, pc, rfl, hds, hrow, hb1, hdl⟩
  have HB1 := hid hb1
  have HPL : Hid (∀ k, (ds.getD k ByteArray.empty).size ≤ 500) := fun k => Nat.le_trans (piece_len hds k) hs
  have HPS := hid (pairs_of hds)
  have HOC := hid (own_cells hrow)
  clear HC hrow hb1 hds
  generalize hm : ds.length = m at *
  have HM := hid hm
  clear hm
  go_wp2
  go_loopw [3, 13] (fun sf i wr => ∃ (k : Nat) (fs : List Lb) (a : Option Addr) (c : Nat), k ≤ m ∧ i = .int .i64 k ∧ sf = .slice a fs.length c ∧ Hid (fs = upP ds k) ∧ Hid (Pt w1 fs a c wr)) (fun _ i _ => m - (intOf i).toNat)
  case atStart => exact ⟨0, [], none, 0, Nat.zero_le _, rfl, rfl, rfl, ⟨World.ownsRow_nil _ _ _ _, Below.refl _ _⟩⟩
  case round =>
    obtain ⟨k, fs, a, c, hk, rfl, rfl, HF, HP⟩ := hrel
    by_cases hlt : k < m
    rotate_left
    · have i1 : ¬ (k : Int) < (m : Int) := by omega
      have HE : Hid (PrsR s w (.returned (.slice a fs.length c)) wr) := by
        have e : fs = pairsL s := HF.out.trans ((upP_all (by have := HM.out; omega)).trans HPS.out)
        subst e
        exact ⟨a, c, rfl, own_down HP.out.row HB1.out.size, HB1.out.trans (HP.out.bel.mono HB1.out.size)⟩
      go_wp2
      go_ret
      exact HE.out
    have HG : Hid (GoodP fs) := by unfold Hid; rw [HF.out]; exact upP_good ds k
    have HN : Hid (upP ds (k + 1) = addP fs (ds.getD k ByteArray.empty)) := by unfold Hid; rw [HF.out]; exact upP_succ (by rw [HM.out]; exact hlt)
    have hz := HPL.out k
    have hf20 : fs.length ≤ 20 := HG.out.1
    have i1 : (k : Int) < (m : Int) := by omega
    have i0 : (0 : Int) ≤ (k : Int) := by omega
    rcases HOC.out with h0 | ⟨g, rfl, hgl, hcell⟩
    · exfalso; omega
    have c0 := (HP.out.bel.cell (p := ⟨g, k, none⟩) hgl).trans (hcell k hlt)
    clear hcell
    generalize ds.getD k ByteArray.empty = x at *
    go_wp2_with fail
    refine (f33 x _ (by omega)).mono ?_
    rintro e w2 ⟨nm, vv, b, rfl, hrd, hnz, hb2⟩
    have HP2 := hid (HP.out.mv hb2)
    have HRD := hid hrd
    clear hb2 c0 hrd HP
    go_upto_region 6 with fail
    have HP3 := hid (HP2.out.alloc (.cells #[.string nm, .string vv] 33))
    have HX3 := hid (heap_alloc_new w2 (.cells #[.string nm, .string vv] 33))
    clear HP2
    generalize w2.alloc (.cells #[.string nm, .string vv] 33) = w3 at *
    generalize w2.heap.size = B at *
    have x0 := two0 HX3.out
    have x1 := two1 HX3.out
    go_wp2_with fail
    refine (Lab.f34 a fs.length c fs nm _ rfl HG.out (hasl_own HP3.out.row)).mono ?_
    rintro e w4 ⟨lo, hpl, rfl, hb4⟩
    rw [place_there HG.out hpl]
    have HP4 := hid (HP3.out.mv hb4)
    have HX4 := hid ((hb4.block _ (lt_block HX3.out)).trans HX3.out)
    have HPL4 := hid hpl
    clear hb4 HP3 HX3 x0 x1 hpl
    have x0 := two0 HX4.out
    have x1 := two1 HX4.out
    cases b
    · have HA : Hid (fs = upP ds (k + 1)) := by unfold Hid; rw [HN.out, add_none HRD.out]
      go_wp2
      go_roundw
      case rel => exact ⟨k + 1, fs, a, c, by omega, by go_num, rfl, HA, HP4⟩
      case measure => simp [intOf]; omega
    have HRS : Hid (rdP x = some (nm, vv)) := HRD.out
    by_cases hmi : Miss fs nm
    rotate_left
    · have HA : Hid (fs = upP ds (k + 1)) := by unfold Hid; rw [HN.out, add_some HRS.out, if_neg (fun h => hmi h.1)]
      rw [decide_eq_false hmi]
      clear hmi
      go_wp2
      go_roundw
      case rel => exact ⟨k + 1, fs, a, c, by omega, by go_num, rfl, HA, HP4⟩
      case measure => simp [intOf]; omega
    by_cases hl : fs.length < 20
    rotate_left
    · have HA : Hid (fs = upP ds (k + 1)) := by unfold Hid; rw [HN.out, add_some HRS.out, if_neg (fun h => hl h.2)]
      have i3 : ¬ (fs.length : Int) < 20 := by omega
      rw [decide_eq_true hmi]
      clear hmi
      go_wp2
      go_roundw
      case rel => exact ⟨k + 1, fs, a, c, by omega, by go_num, rfl, HA, HP4⟩
      case measure => simp [intOf]; omega
    have HA : Hid (fs.take lo ++ (nm, vv) :: fs.drop lo = upP ds (k + 1)) := by
      unfold Hid
      rw [HN.out, add_some HRS.out, if_pos ⟨hmi, hl⟩]
      exact (with_at HG.out HPL4.out hmi (val_ne (rd_ok HRS.out))).symm
    have hle := HPL4.out.le
    have HLE := hid hle
    have i3 : (fs.length : Int) < 20 := by omega
    rw [decide_eq_true hmi]
    have HI : Hid (Calls Try.prog 35 #[.slice a fs.length c, .int .i64 lo, .slice (some ⟨w4.heap.size, 0, none⟩) 1 1] (w4.alloc (.cells #[.string nm, .string vv] 33)) (Ins.InsR w1.heap.size a fs.length c lo (Lab.flat fs) [.string nm, .string vv] (w4.alloc (.cells #[.string nm, .string vv] 33)))) :=
      Ins.f35 w1.heap.size a fs.length c lo w4.heap.size (Lab.flat fs) [.string nm, .string vv] _ (HP4.out.alloc _).row (heap_alloc_new w4 _) (fun e => by have := (own_blk HP4.out.row e).2; omega) rfl hle (flat_ones fs) (fun v hv => by simp at hv; rcases hv with rfl | rfl <;> rfl) (by omega) (by have := HP4.out.bel.size; simp; omega)
    have HP5 := hid (HP4.out.alloc (.cells #[.string nm, .string vv] 33))
    clear hmi hle
    go_wp2_with fail
    refine HI.out.mono ?_
    intro e w5 hins
    obtain ⟨a', c', rfl, hp6⟩ := HP5.out.ins (p := (nm, vv)) HLE.out hins
    have HP6 := hid hp6
    clear hins hp6 HI HP4 HP5
    generalize fs.take lo ++ (nm, vv) :: fs.drop lo = fs' at *
    go_wp2
    go_roundw
    case rel => exact ⟨k + 1, fs', a', c', by omega, by go_num, rfl, HA, HP6⟩
    case measure => simp [intOf]; omega
end Go.Proofs.Ytigakbhficoonaa.Prs
