/- What is asked of the answer of SelectBlock: sizes, marks, copies that say the same. -/
import Derived.Test.YtjhdmghpklagkaaGreatR48
import Derived.Test.YtjhdmghpklagkaaGreatR50
import Derived.Test.YtjhdmghpklagkaaGreatR12
import Derived.Test.YtjhdmghpklagkaaGreatR30
import Derived.Test.YtjhdmghpklagkaaGreatR26
import Derived.Test.YtjhdmghpklagkaaGreatR24
namespace Go.Proofs.YtjhdmghpklagkaaGreat.Srs
open Go.RowKit
open Go.Proofs.YtjhdmghpklagkaaGreat.Lab (Lb HasL OfV GoodP)
open Go.Proofs.YtjhdmghpklagkaaGreat.Smp (Sm HasS cut)
open Go.Proofs.YtjhdmghpklagkaaGreat.Pat (Mt HasM goodM allM FitM)

theorem f31n (k : Nat) (w : World) : Calls Tryz.prog 31 #[.slice none 0 0, .int .i64 k] w fun e w' => e = .returned (.int .i64 k) ∧ w' = w := by
  go_enter Tryz.func31, Tryz.ntmps31
  go_wp2
  go_loopw [1, 5] (fun s i wr => s = .int .i64 k ∧ i = .int .i64 0 ∧ wr = w) (fun _ _ _ => 0)
  case atStart => exact ⟨rfl, rfl, rfl⟩
  case round =>
    obtain ⟨rfl, rfl, rfl⟩ := hrel
    go_wp2
    go_ret
    exact ⟨rfl, rfl⟩
theorem f32n (k : Nat) (w : World) : Calls Tryz.prog 32 #[.slice none 0 0, .int .i64 k] w fun e w' => e = .returned (.int .i64 k) ∧ w' = w := by
  go_enter Tryz.func32, Tryz.ntmps32
  go_wp2
  go_loopw [1, 5] (fun s i wr => s = .int .i64 k ∧ i = .int .i64 0 ∧ wr = w) (fun _ _ _ => 0)
  case atStart => exact ⟨rfl, rfl, rfl⟩
  case round =>
    obtain ⟨rfl, rfl, rfl⟩ := hrel
    go_wp2
    go_ret
    exact ⟨rfl, rfl⟩
theorem same_mapJ {R R' : List Q} {L : List Pl} (h : R.map pl = L) (h' : R'.map pl = L) : R'.length = R.length ∧ Same R.length R R' := by
  have hl : R'.length = R.length := by rw [sel_len h, sel_len h']
  refine ⟨hl, fun i hi => ?_⟩
  have e1 : (R.map pl)[i]? = (R'.map pl)[i]? := by rw [h, h']
  have g1 : R.getD i q0 = R[i] := by simp [hi]
  have g2 : R'.getD i q0 = R'[i]'(by omega) := by simp [show i < R'.length by omega]
  rw [g1, g2]
  simpa [hi, show i < R'.length by omega] using e1.symm
theorem OwnO.fr {X Y g n c : Nat} {a : Option Addr} {qs : List Q} {w x : World} (h : OwnO X a n c qs w) (hf : Fr g Y w x) (hY : Y ≤ X) : OwnO X a n c qs x := by
  refine ⟨h.len, ?_, fun i hi => ?_, h.nea, h.dis⟩
  · rcases h.cases with ⟨h1, h2, h3, h4⟩ | ⟨g', h1, h2⟩
    · subst h1 h2 h3 h4; exact World.ownsRow_nil _ _ _ _
    · have hr := h.row
      rw [h1] at hr ⊢
      exact own_fr hr hf (.inr (Nat.le_trans hY (hr.lt g' rfl).1))
  · have ho := h.own i hi
    exact ⟨ho.ha, ho.hb, own_fr ho.lab hf (.inr (Nat.le_trans hY ho.lo.1)), own_fr ho.smp hf (.inr (Nat.le_trans hY ho.lo.2)), ho.ne⟩
theorem OwnO.aside {X r n c : Nat} {a : Option Addr} {qs : List Q} {w x : World} (h : OwnO X a n c qs w) (hg : w.grownBy x (some r)) (hr : r < X) : OwnO X a n c qs x := by
  refine ⟨h.len, h.row.kept hg ?_, fun i hi => (h.own i hi).grown hg (by have := (h.own i hi).lo; omega) (by have := (h.own i hi).lo; omega), h.nea, h.dis⟩
  by_cases e : (Value.slice a n c).ownBlock = none
  · exact .inl e
  · refine .inr fun e2 => ?_
    have := (h.row.lt r e2).1
    omega
/-- The series that came out, marked or held, nil or not. -/
theorem mark_ans {X n c k : Nat} {a : Option Addr} {R : List Q} {w : World} (h : OwnO X a n c R w) (hb : n ≤ 1048576) (hk : k + 2 * tot R n ≤ 100000000) :
    Calls Tryz.prog 31 #[.slice a n c, .int .i64 k] w fun e w' => e = .returned (.int .i64 ((k + 2 * tot R n : Nat) : Int)) ∧ OwnO X a n c (mqs k R) w' ∧ Below X w w' := by
  rcases h.cases with ⟨h1, h2, h3, h4⟩ | ⟨g, h1, h2⟩
  · subst h1 h2 h3 h4
    refine (f31n k w).mono ?_
    rintro e w' ⟨rfl, rfl⟩
    exact ⟨rfl, OwnO.nil _ _, Below.refl _ _⟩
  · subst h1
    refine (f31g X g n c k R w hb hk (Nat.le_of_lt (Nat.lt_of_le_of_lt (h2.row.lt g rfl).1 (h2.row.lt g rfl).2)) h2).mono ?_
    rintro e w' ⟨rfl, ho, hbl⟩
    exact ⟨rfl, ⟨ho.len, ho.row, ho.own, fun g' e i hi => by cases e; exact ho.apt.nea i hi, ho.apt.dis⟩, hbl⟩
theorem held_ans {X n c k : Nat} {a : Option Addr} {R : List Q} {w : World} (hn : R.length = n) (h : OwnO X a n c (mqs k R) w) (hb : n ≤ 1048576) (hk : k + 2 * tot R n ≤ 100000000) :
    Calls Tryz.prog 32 #[.slice a n c, .int .i64 k] w fun e w' => e = .returned (.int .i64 ((k + 2 * tot R n : Nat) : Int)) ∧ Below w.heap.size w w' := by
  rcases h.cases with ⟨h1, h2, h3, h4⟩ | ⟨g, h1, h2⟩
  · subst h1 h2 h3
    refine (f32n k w).mono ?_
    rintro e w' ⟨rfl, rfl⟩
    exact ⟨rfl, Below.refl _ _⟩
  · subst h1
    exact f32 X g n c k R w hn hb hk h2
end Go.Proofs.YtjhdmghpklagkaaGreat.Srs
namespace Go.Proofs.YtjhdmghpklagkaaGreat.Blk
open Go.RowKit
open Go.Proofs.YtjhdmghpklagkaaGreat.Lab (Lb HasL cmpList)
open Go.Proofs.YtjhdmghpklagkaaGreat.Srs (hid q0 Pl pl hit)
open Go.Proofs.YtjhdmghpklagkaaGreat.Stn (T t0)
open Go.Proofs.YtjhdmghpklagkaaGreat.Pat (Mt goodM allM)

theorem spans_pl (ts : List T) (l : List Lb) : spans (own1 ts l) = ((ts.map Stn.pl).filter fun p => decide (cmpList p.1 l = 0)).map fun p => (p.2.1, p.2.2) := by
  unfold spans own1
  rw [List.filter_map, List.map_map]
  rfl
theorem SameB.stones {h h' : Bk} (s : SameB h h') : h'.ts.map Stn.pl = h.ts.map Stn.pl := by
  apply List.ext_getElem?
  intro i
  by_cases hi : i < h.ts.length
  · have e := s.st i hi
    have h1 : h.ts.getD i t0 = h.ts[i] := by simp [hi]
    have h2 : h'.ts.getD i t0 = h'.ts[i]'(by rw [s.lt]; exact hi) := by simp [show i < h'.ts.length by rw [s.lt]; exact hi]
    rw [h1, h2] at e
    simp [hi, show i < h'.ts.length by rw [s.lt]; exact hi, e]
  · simp [List.getElem?_eq_none (show h.ts.length ≤ i by omega), List.getElem?_eq_none (show h'.ts.length ≤ i by rw [s.lt]; omega)]
theorem SameB.spans {h h' : Bk} (s : SameB h h') (l : List Lb) : Blk.spans (own1 h'.ts l) = Blk.spans (own1 h.ts l) := by rw [spans_pl, spans_pl, s.stones]
theorem SameB.mdl {h h' : Bk} (s : SameB h h') (ms : List Mt) : ∀ k, k ≤ h.qs.length → Blk.mdl h' ms k = Blk.mdl h ms k := by
  intro k
  induction k with
  | zero => intro _; rfl
  | succ k ih =>
    intro hk
    rw [Blk.mdl, Blk.mdl, ih (by omega), s.lb (show k < h.qs.length by omega), s.smp (show k < h.qs.length by omega), s.spans]
theorem SameB.selF {h h' : Bk} (s : SameB h h') (ms : List Mt) (x y : Int) : Blk.selF h' ms x y = Blk.selF h ms x y := by
  unfold Blk.selF
  rw [s.gd]
  split
  · unfold ansM
    rw [s.lq, s.mdl ms _ (Nat.le_refl _)]
  · rfl
/-- A copy with no more room than it takes. -/
structure Cp (h h' : Bk) : Prop where
  same : SameB h h'
  room : h'.ts.length ≤ h'.d
  each : ∀ i, i < h'.qs.length → (h'.qs.getD i q0).s.length ≤ (h'.qs.getD i q0).d
theorem OwnB.cp {X g k S : Nat} {h h' : Bk} {w : World} (o : OwnB X g k S h h' w) : Cp h h' :=
  ⟨o.same, by rw [o.lt, o.ed]; exact Nat.le_refl _, fun i hi => by have := (o.sq i (by rw [← o.lq]; exact hi)).2.2; omega⟩
end Go.Proofs.YtjhdmghpklagkaaGreat.Blk
/- The program's SelectBlocks; what is asked of its answer. -/
namespace Go.Proofs.YtjhdmghpklagkaaGreat.Hpl
open Go.RowKit
open Go.Proofs.YtjhdmghpklagkaaGreat.Stb
open Go.Proofs.YtjhdmghpklagkaaGreat.Lab (Lb HasL cmpList)
open Go.Proofs.YtjhdmghpklagkaaGreat.Smp (Sm HasS mrg)
open Go.Proofs.YtjhdmghpklagkaaGreat.Srs (Q q0 pl Pl OwnO MQb jF gdL gdQ_pl gdQ_iff fitq_of own_below okq_mem get_mem' good_goodP tot mrg_pos fit_mrg runs_all qOf GoodQ SmlQ)
open Go.Proofs.YtjhdmghpklagkaaGreat.Blk
open Go.Proofs.YtjhdmghpklagkaaGreat.Pat (Mt HasM goodM FitM)

/-- What each series has that blocks say together. -/
theorem shl_one {L : List Pl} (h : ∀ v ∈ L, v.1 ≠ [] ∧ v.2 ≠ [] ∧ v.1.length ≤ 20 ∧ Lab.Fit v.1 ∧ Smp.Fit v.2) : ∀ z ∈ puts ltP jF [] L, z.1 ≠ [] ∧ z.2 ≠ [] ∧ z.1.length ≤ 20 ∧ Lab.Fit z.1 ∧ Smp.Fit z.2 := by
  rw [← runs_isort ordP (show Jn ltP jF from jnP mrg)]
  refine runs_all (P := fun z => z.1 ≠ [] ∧ z.2 ≠ [] ∧ z.1.length ≤ 20 ∧ Lab.Fit z.1 ∧ Smp.Fit z.2) (fun x y hx hy => ⟨hx.1, mrg_pos hx.2.1, hx.2.2.1, hx.2.2.2.1, fit_mrg hx.2.2.2.2 hy.2.2.2.2⟩) _ (fun y hy => h y (isort_mem.1 hy))
theorem sels_ok {bs : List Bk} {ms : List Mt} {x y : Int} (hok : ∀ i, i < bs.length → Okm (ansM (bs.getD i k0) ms x y)) : ∀ k, k ≤ bs.length → ∀ v ∈ sels bs ms x y k, v.1 ≠ [] ∧ v.2 ≠ [] ∧ v.1.length ≤ 20 ∧ Lab.Fit v.1 ∧ Smp.Fit v.2
  | 0, _, v, hv => by simp [sels] at hv
  | k + 1, hk, v, hv => by
    rw [sels_next (by omega)] at hv
    rcases List.mem_append.1 hv with hv | hv
    · exact sels_ok hok k (by omega) v hv
    · have := (hok k (by omega)).one v hv
      exact ⟨this.1, this.2.1, this.2.2.1, this.2.2.2.2.1, this.2.2.2.2.2⟩
theorem sels_lim {bs : List Bk} {ms : List Mt} {x y : Int} (hok : ∀ i, i < bs.length → Okm (ansM (bs.getD i k0) ms x y)) : ∀ k, k ≤ bs.length → ∀ z ∈ puts ltP jF [] (sels bs ms x y k), z.2.length ≤ 2000 * k
  | 0, _, z, hz => by simp [sels, puts] at hz
  | k + 1, hk, z, hz => by
    rw [sels_next (by omega), puts_append] at hz
    have := puts_len (lt := ltP) (f := jF) (fun _ _ => rfl) (fun u v => Smp.mrg_len u.2 v.2) eqv_key (B := 2000 * k) (N := 2000) (sels_lim hok k (by omega)) (fun v hv => ((hok k (by omega)).one v hv).2.2.2.1) (hok k (by omega)).dis z hz
    have e2 : 2000 * (k + 1) = 2000 * k + 2000 := by omega
    rw [e2]; exact this
theorem shl_fit {R : List Q} {bs : List Bk} {ms : List Mt} {x y : Int} (h : R.map pl = shl bs ms x y) (hn : bs.length ≤ 100) (hok : ∀ i, i < bs.length → Okm (ansM (bs.getD i k0) ms x y)) : Srs.FitQ R ∧ SmlQ R := by
  have key : ∀ q ∈ R, q.l.length ≤ 20 ∧ q.s.length ≤ 200000 ∧ Lab.Fit q.l ∧ Smp.Fit q.s := fun q hq => by
    have hm : pl q ∈ shl bs ms x y := by rw [← h]; exact List.mem_map_of_mem hq
    have h1 := shl_one (sels_ok hok bs.length (Nat.le_refl _)) _ hm
    have h2 := sels_lim hok bs.length (Nat.le_refl _) _ hm
    exact ⟨h1.2.2.1, Nat.le_trans h2 (by omega), h1.2.2.2.1, h1.2.2.2.2⟩
  refine ⟨fitq_of fun q hq => ?_, fun i hi => ?_⟩
  · have := key q hq
    exact ⟨this.2.2.1, by unfold maxLen; omega, this.2.2.2, by unfold maxLen; omega⟩
  · have := key _ (get_mem' hi)
    exact ⟨by omega, by omega⟩
theorem gdL_nil : gdL [] = true := Srs.gdQ_yes ⟨by simp, fun i hi => by simp at hi⟩
theorem selK_good (b : Int) (bs : List Bk) (ms : List Mt) (x y : Int) : gdL (selK b bs ms x y) = true := by
  by_cases h : gdK b bs = true ∧ goodM ms = true ∧ gdL (shl bs ms x y) = true
  · rw [selK_yes h.1 h.2.1 h.2.2]; exact h.2.2
  · rw [selK_no h]; exact gdL_nil
/-- How great the answer is. -/
theorem selK_tot {R : List Q} {b : Int} {bs : List Bk} {ms : List Mt} {x y : Int} (h : R.map pl = selK b bs ms x y) : R.length ≤ 200 ∧ tot R R.length ≤ 1048576 ∧ SmlQ R := by
  have hg : GoodQ R := by
    have := selK_good b bs ms x y
    rw [← h, ← gdQ_pl] at this
    exact gdQ_iff.1 this
  have key : ∀ k, k < R.length → (R.getD k q0).l.length ≤ 20 ∧ (R.getD k q0).s.length ≤ 2000 := fun k hk => by
    have h2 := okq_mem hg (get_mem' hk)
    exact ⟨(good_goodP h2.1.1).1, (show Smp.GoodP (R.getD k q0).s from of_decide_eq_true h2.2.1).1⟩
  have ht : ∀ k, k ≤ R.length → tot R k ≤ 2020 * k := by
    intro k
    induction k with
    | zero => intro _; exact Nat.zero_le _
    | succ k ih =>
      intro hk
      have h1 := ih (by omega)
      have h2 := key k (by omega)
      simp only [tot]
      omega
  have h1 := hg.1
  refine ⟨h1, by have := ht R.length (Nat.le_refl _); omega, fun i hi => ?_⟩
  have := key i hi
  exact ⟨by omega, by omega⟩
/-- Shelves that are alike say the same. -/
theorem sels_same {ms : List Mt} {x y : Int} {n : Nat} {bs d : List Bk} (s : SameK n bs d) (hn : bs.length = n) (hl : d.length = n) (hg : ∀ i, i < n → GoodB (bs.getD i k0)) (hm : goodM ms = true) : ∀ k, k ≤ n → sels d ms x y k = sels bs ms x y k
  | 0, _ => by simp [sels]
  | k + 1, hk => by
    rw [sels_next (by omega), sels_next (by omega), sels_same s hn hl hg hm k (by omega)]
    have h1 := (s k (by omega)).selF ms x y
    have g1 : gdB (bs.getD k k0) = true := gdB_iff.2 (hg k (by omega))
    have g2 : gdB (d.getD k k0) = true := by rw [(s k (by omega)).gd]; exact g1
    rw [selF_yes g1 hm, selF_yes g2 hm] at h1
    rw [h1]
theorem selK_same {b : Int} {ms : List Mt} {x y : Int} {n : Nat} {bs d : List Bk} (s : SameK n bs d) (hn : bs.length = n) (hl : d.length = n) : selK b d ms x y = selK b bs ms x y := by
  by_cases h : gdK b bs = true ∧ goodM ms = true
  · have hg := gdK_iff.1 h.1
    have e : shl d ms x y = shl bs ms x y := by
      unfold shl
      rw [hl, hn, sels_same s hn hl (fun i hi => (hg.2.2 i (by rw [hn]; exact hi)).2.1) h.2 n (Nat.le_refl _)]
    unfold selK
    rw [s.gd hn hl, e]
  · have h1 : ¬ (gdK b bs = true ∧ goodM ms = true ∧ gdL (shl bs ms x y) = true) := fun k => h ⟨k.1, k.2.1⟩
    have h2 : ¬ (gdK b d = true ∧ goodM ms = true ∧ gdL (shl d ms x y) = true) := fun k => h ⟨by rw [← s.gd hn hl]; exact k.1, k.2.1⟩
    rw [selK_no h1, selK_no h2]

set_option maxHeartbeats 4000000 in
theorem f27 (b : Int) (a : Option Addr) (n c : Nat) (bs : List Bk) (am : Option Addr) (cm : Nat) (ms : List Mt) (x y : Int) (w : World) (hb0 : -9223372036854775808 ≤ b) (hb1 : b ≤ 9223372036854775807) (hx0 : -9223372036854775808 ≤ x) (hx1 : x ≤ 9223372036854775807) (hy0 : -9223372036854775808 ≤ y) (hy1 : y ≤ 9223372036854775807) (hn : bs.length = n) (hb : n ≤ 1048576) (hr : HasK w a bs) (hf : FitK bs) (hz : SmlK bs) (hm : HasM w am ms) (hfm : FitM ms) (hmx : ms.length ≤ maxLen)
    (hd : ∀ i, i < n → (bs.getD i k0).ts.length ≤ (bs.getD i k0).d ∧ ∀ j, j < (bs.getD i k0).qs.length → ((bs.getD i k0).qs.getD j q0).s.length ≤ ((bs.getD i k0).qs.getD j q0).d) :
    Calls Tryz.prog 27 #[.int .i64 b, .slice a n c, .slice am ms.length cm, .int .i64 x, .int .i64 y] w (GivesQ w (selK b bs ms x y)) := by
  have HN := hid hn
  have HR := hid hr
  have HF := hid hf
  have HZ := hid hz
  have HM := hid hm
  have HFM := hid hfm
  have HMX := hid hmx
  have HD := hid hd
  have H1 := hid (f37 b a n c bs w hb0 hb1 hn hb hr hf hz)
  clear hn hr hf hz hm hfm hmx hd
  go_enter Tryz.func27, Tryz.ntmps27
  cases hg : gdK b bs
  · have E := hid (selK_no (b := b) (bs := bs) (ms := ms) (x := x) (y := y) (fun g => by rw [hg] at g; cases g.1))
    rw [hg] at H1
    go_wp2_with (go_at_call 37; refine H1.out.mono ?_; rintro e w2 ⟨rfl, hb2⟩)
    go_ret
    exact givesQ_no E.out hb2
  rw [hg] at H1
  cases hgm : goodM ms
  · have E := hid (selK_no (b := b) (bs := bs) (ms := ms) (x := x) (y := y) (fun g => by rw [hgm] at g; cases g.2.1))
    go_wp2_with (first | (go_at_call 37; refine H1.out.mono ?_; rintro e w2 ⟨rfl, hb2⟩; have H2 := hid (Pat.f52 am ms.length cm ms w2 rfl HMX.out (HM.out.below hb2) HFM.out); rw [hgm] at H2) | (go_at_call 52; refine H2.out.mono ?_; rintro e w3 ⟨rfl, hb3⟩))
    go_ret
    exact givesQ_no E.out (hb2.trans (hb3.mono hb2.size))
  have HGK := hid (gdK_iff.1 hg)
  have HGM := hid hgm
  have HGG := hid hg
  have hn100 : n ≤ 100 := by rw [← HN.out]; exact HGK.out.2.1
  have HOK : Hid (∀ i, i < n → Okm (ansM (bs.getD i k0) ms x y)) := fun i hi => ans_okm (HGK.out.2.2 i (by rw [HN.out]; exact hi)).2.1 (HF.out i)
  have HJn := hid (shelf_join (ms := ms) (x := x) (y := y) HGK.out)
  clear hg
  go_wp2_with (first | (go_at_call 37; refine H1.out.mono ?_; rintro e w2 ⟨rfl, hb2⟩; have H2 := hid (Pat.f52 am ms.length cm ms w2 rfl HMX.out (HM.out.below hb2) HFM.out); rw [hgm] at H2) | (go_at_call 52; refine H2.out.mono ?_; rintro e w3 ⟨rfl, hb3⟩; have HB3 := hid (hb2.trans (hb3.mono hb2.size)); clear hb2 hb3 H2) | (go_at_call 53; refine (f53 a n c bs am cm ms x y w3 hx0 hx1 hy0 hy1 HN.out hn100 (HR.out.below HB3.out) HF.out (fun i hi => HZ.out i (by rw [HN.out]; exact hi)) (fun i hi => (HGK.out.2.2 i (by rw [HN.out]; exact hi)).2.1) HOK.out (HM.out.below HB3.out) HGM.out HFM.out HMX.out HD.out).mono ?_; rintro e w4 ⟨a4, m4, c4, R4, rfl, ho4, hs4, hm4, hb4⟩; have HB4 := hid (HB3.out.trans (hb4.mono HB3.out.size)); have HO4 := hid (OwnO_base ho4 HB3.out.size); have HS4 := hid hs4; clear hb4 ho4 hs4) | fail)
  have HSH : Hid (R4.map pl = shl bs ms x y) := by unfold Hid shl; rw [HS4.out, HJn.out]
  have hfit := shl_fit HSH.out (by rw [HN.out]; exact hn100) (fun i hi => HOK.out i (by rw [← HN.out]; exact hi))
  have H5 := hid (Srs.f54 a4 m4 c4 R4 w4 HO4.out.len (by unfold maxLen; omega) HO4.out.has hfit.1 hfit.2)
  clear hfit
  rw [gdQ_pl, HSH.out] at H5
  refine H5.out.mono ?_
  rintro e w5 ⟨rfl, hb5⟩
  have HB5 := hid (HB4.out.trans (hb5.mono HB4.out.size))
  have HO5 := hid (HO4.out.below hb5)
  clear H5 hb5
  cases hgs : gdL (shl bs ms x y)
  · have E := hid (selK_no (b := b) (bs := bs) (ms := ms) (x := x) (y := y) (fun g => by rw [hgs] at g; cases g.2.2))
    go_wp2
    go_ret
    exact givesQ_no E.out HB5.out
  · have E := hid (selK_yes (b := b) (bs := bs) (ms := ms) (x := x) (y := y) HGG.out HGM.out hgs)
    go_wp2
    go_ret
    exact ⟨a4, m4, c4, R4, rfl, HO5.out, by rw [E.out]; exact HSH.out, HB5.out⟩
end Go.Proofs.YtjhdmghpklagkaaGreat.Hpl
/- Series and stones marked: what is written, and that nothing else is; stones held. -/
namespace Go.Proofs.YtjhdmghpklagkaaGreat.Srs
open Go.RowKit
open Go.Proofs.YtjhdmghpklagkaaGreat.Lab (Lb HasL)
open Go.Proofs.YtjhdmghpklagkaaGreat.Smp (Sm HasS)

/-- The series while they are being marked: the first i are. -/
structure Mf (X Y g n c k i : Nat) (qs : List Q) (w x : World) : Prop where
  row : x.ownsRow X 80 2 (.slice (some ⟨g, 0, none⟩) n c) n (flat qs)
  done : ∀ j, j < i → Own2 X (mq (k + 2 * tot qs j) (qs.getD j q0)) x
  own : ∀ j, i ≤ j → j < n → Own2 X (qs.getD j q0) x
  fr : Fr X Y w x
set_option maxHeartbeats 2000000 in
theorem f31f (X Y g n c k : Nat) (qs : List Q) (w : World) (hb : n ≤ 1048576) (hk : k + 2 * tot qs n ≤ 100000000) (ho : OwnG X g n c qs w) (hY : ∀ i, i < n → blk (qs.getD i q0).a < Y ∧ blk (qs.getD i q0).b < Y) :
    Calls Tryz.prog 31 #[.slice (some ⟨g, 0, none⟩) n c, .int .i64 k] w fun e w' => e = .returned (.int .i64 ((k + 2 * tot qs n : Nat) : Int)) ∧ OwnG X g n c (mqs k qs) w' ∧ Fr X Y w w' := by
  have HN := hid ho.len
  have HK := hid hk
  have HA := hid ho.apt
  have HY := hid hY
  have H0 : Hid (Mf X Y g n c k 0 qs w w) := ⟨ho.row, fun j hj => by omega, fun j _ hj => ho.own j hj, Fr.refl _ _ _⟩
  clear hk ho hY
  go_enter Tryz.func31, Tryz.ntmps31
  go_wp2
  go_loopw [1, 5] (fun sk si wr => ∃ (i m : Nat), i ≤ n ∧ si = .int .i64 i ∧ sk = .int .i64 (m : Int) ∧ Hid (m = k + 2 * tot qs i) ∧ Hid (Mf X Y g n c k i qs w wr)) (fun _ si _ => n - (intOf si).toNat)
  case atStart => exact ⟨0, k, Nat.zero_le _, rfl, rfl, rfl, H0.out⟩
  case round =>
    obtain ⟨i, m, hi, rfl, rfl, hm, HM⟩ := hrel
    by_cases hlt : i < n
    rotate_left
    · obtain rfl : i = n := by omega
      have HE : Hid (OwnG X g i c (mqs k qs) wr) := by
        have hl := HN.out
        refine ⟨(mqs_len k qs).trans hl, by rw [flat_mqs]; exact HM.out.row, fun j hj => by rw [mqs_get k qs j (by omega)]; exact HM.out.done j hj, ⟨fun j hj => ?_, fun j j' hj hj' hne => ?_⟩⟩
        · rw [mqs_get k qs j (by omega)]; exact HA.out.nea j hj
        · rw [mqs_get k qs j (by omega), mqs_get k qs j' (by omega)]; exact HA.out.dis j j' hj hj' hne
      have HB := hid HM.out.fr
      go_wp2
      go_ret
      exact ⟨by rw [← hm.out]; rfl, HE.out, HB.out⟩
    have HO := hid (HM.out.own i (Nat.le_refl _) hlt)
    obtain ⟨y0, y1⟩ := flat_get qs i (by rw [HN.out]; exact hlt)
    have c0 := (HM.out.row.cellAt (i * 2) (by omega)).trans y0
    have c1 := (HM.out.row.cellAt (i * 2 + 1) (by omega)).trans y1
    have HT : Hid (tot qs (i + 1) = tot qs i + (qs.getD i q0).l.length + (qs.getD i q0).s.length) := rfl
    have HTn := hid (tot_mono qs n (i + 1) hlt)
    have HDi := hid (fun j (h1 : j < n) (h2 : j ≠ i) => HA.out.dis j i h1 hlt h2)
    have HNi := hid (HA.out.nea i hlt)
    have HYi := hid (HY.out i hlt)
    rw [HO.out.ha] at c0
    rw [HO.out.hb] at c1
    obtain ⟨q, hq⟩ : ∃ q, q = qs.getD i q0 := ⟨_, rfl⟩
    have HQ := hid hq
    rw [← hq] at c0 c1 HO HT HDi HNi HYi
    clear hq y0 y1
    have hab := HO.out.ne
    have N1 : Hid (m + 2 * q.l.length + 2 * q.s.length ≤ 100000000) := by unfold Hid; have := hm.out; have := HK.out; have := HTn.out; have := HT.out; omega
    go_wp2_with fail
    refine (Lab.f58 (blk q.a) q.l.length q.c X m q.l _ rfl (by have := N1.out; omega) HO.out.lab).mono ?_
    rintro e w2 ⟨rfl, hl2, hg2⟩
    have HL2 := hid hl2
    have HR2 := hid (own_grown HM.out.row hg2 (Ne.symm HNi.out.1))
    have HS2 := hid (own_grown HO.out.smp hg2 (Ne.symm hab))
    have HD2 : Hid (∀ j, j < i → Own2 X (mq (k + 2 * tot qs j) (qs.getD j q0)) w2) := fun j h1 => (HM.out.done j h1).grown hg2 (HDi.out j (by omega) (by omega)).1 (HDi.out j (by omega) (by omega)).2.2.1
    have HA2 : Hid (∀ j, i + 1 ≤ j → j < n → Own2 X (qs.getD j q0) w2) := fun j h1 h2 => (HM.out.own j (by omega) h2).grown hg2 (HDi.out j h2 (by omega)).1 (HDi.out j h2 (by omega)).2.2.1
    have HB2 := hid (HM.out.fr.grown hg2 HO.out.lo.1 HYi.out.1)
    have d1 : w2.cell? ⟨g, i * 2 + 1, none⟩ = some (.slice (some ⟨blk q.b, 0, none⟩) q.s.length q.d) := by
      have e := hg2.block g (HM.out.row.lt g rfl).2 (fun e => HNi.out.1 (Option.some.inj e).symm)
      simp only [World.cell?, e]
      exact c1
    clear hg2 hl2 c0 c1
    go_wp2_with fail
    refine (Smp.f59 (blk q.b) q.d X (m + 2 * q.l.length) q.s _ (by have := N1.out; omega) HS2.out).mono ?_
    rintro e w3 ⟨rfl, hs3, hg3⟩
    have HM3 : Hid (Mf X Y g n c k (i + 1) qs w w3) := by
      refine ⟨own_grown HR2.out hg3 (Ne.symm HNi.out.2), fun j h1 => ?_, fun j h1 h2 => (HA2.out j h1 h2).grown hg3 (HDi.out j h2 (by omega)).2.1 (HDi.out j h2 (by omega)).2.2.2, HB2.out.grown hg3 HO.out.lo.2 HYi.out.2⟩
      by_cases e : j = i
      · rw [e, ← HQ.out, ← hm.out]
        exact ⟨HO.out.ha, HO.out.hb, by simp only [mq, Lab.markL_len]; exact own_grown HL2.out hg3 hab, by simp only [mq, Smp.markL_len]; exact hs3, hab⟩
      · exact (HD2.out j (by omega)).grown hg3 (HDi.out j (by omega) e).2.1 (HDi.out j (by omega) e).2.2.2
    have HE : Hid (m + 2 * q.l.length + 2 * q.s.length = k + 2 * tot qs (i + 1)) := by unfold Hid; have := hm.out; have := HT.out; omega
    clear hg3 hs3 d1 HM HR2 HS2 HA2 HD2 HB2 HL2
    go_wp2
    go_roundw
    case rel => exact ⟨i + 1, m + 2 * q.l.length + 2 * q.s.length, by omega, by go_num, by simp, HE.out, HM3.out⟩
    case measure => simp [intOf]; omega
end Go.Proofs.YtjhdmghpklagkaaGreat.Srs
namespace Go.Proofs.YtjhdmghpklagkaaGreat.Stn
open Go.RowKit
open Go.Proofs.YtjhdmghpklagkaaGreat.Lab (Lb HasL)
open Go.Proofs.YtjhdmghpklagkaaGreat.Srs (hid blk Fr own_fr own_grown own_below)

/-- A stone marked from k on. -/
def mt (k : Nat) (q : T) : T := ⟨Lab.markL k q.l.length, q.a, q.c, (k + 2 * q.l.length : Nat), (k + 2 * q.l.length + 1 : Nat)⟩
/-- How far the marks of the first i stones reach. -/
def mk (ts : List T) (i : Nat) : Nat := 2 * tot ts i + 2 * i
def mts (k : Nat) (ts : List T) : List T := (List.range ts.length).map fun j => mt (k + mk ts j) (ts.getD j t0)
theorem mts_len (k : Nat) (ts : List T) : (mts k ts).length = ts.length := by simp [mts]
theorem mts_get (k : Nat) (ts : List T) (j : Nat) (h : j < ts.length) : (mts k ts).getD j t0 = mt (k + mk ts j) (ts.getD j t0) := by simp [mts, h]
theorem mk_succ (ts : List T) (i : Nat) : mk ts (i + 1) = mk ts i + 2 * (ts.getD i t0).l.length + 2 := by unfold mk; simp only [tot]; omega
/-- The first i of the stones are marked. -/
def half (k : Nat) (ts : List T) (i : Nat) : List T := (mts k ts).take i ++ ts.drop i
theorem half_len (k : Nat) (ts : List T) (i : Nat) (h : i ≤ ts.length) : (half k ts i).length = ts.length := by simp [half, mts_len]; omega
theorem half_get (k : Nat) (ts : List T) (i j : Nat) (h : i ≤ j) (hi : i ≤ ts.length) : (half k ts i).getD j t0 = ts.getD j t0 := by
  unfold half
  rw [List.getD_eq_getElem?_getD, List.getD_eq_getElem?_getD, List.getElem?_append_right (by simp [mts_len]; omega), List.getElem?_drop]
  congr 2
  simp [mts_len]; omega
theorem half_set (k : Nat) (ts : List T) (i : Nat) (h : i < ts.length) : (half k ts i).set i (mt (k + mk ts i) (ts.getD i t0)) = half k ts (i + 1) := by
  unfold half
  have hl : ((mts k ts).take i).length = i := by simp [mts_len]; omega
  have hg : (mts k ts)[i]? = some (mt (k + mk ts i) (ts.getD i t0)) := by
    rw [← mts_get k ts i h, List.getD_eq_getElem?_getD]
    have : i < (mts k ts).length := by rw [mts_len]; exact h
    simp [this]
  rw [List.set_append_right _ _ (by omega), hl, Nat.sub_self, List.drop_eq_getElem_cons h, List.set_cons_zero, List.take_add_one, hg, List.append_assoc]
  rfl
theorem half_end (k : Nat) (ts : List T) : half k ts ts.length = mts k ts := by
  unfold half
  rw [List.drop_eq_nil_of_le (Nat.le_refl _), List.append_nil, List.take_of_length_le (by rw [mts_len]; exact Nat.le_refl _)]
/-- The stones while they are being marked. -/
structure Mf (X Y g n k i : Nat) (ts : List T) (w x : World) : Prop where
  row : x.ownsRow X 94 3 (.slice (some ⟨g, 0, none⟩) n n) n (flat (half k ts i))
  done : ∀ j, j < i → Own1 X (blk (ts.getD j t0).a) (mt (k + mk ts j) (ts.getD j t0)) x
  own : ∀ j, i ≤ j → j < n → Own1 X (blk (ts.getD j t0).a) (ts.getD j t0) x
  fr : Fr X Y w x
set_option maxHeartbeats 4000000 in
theorem f39f (X Y g n k : Nat) (ts : List T) (w : World) (hn : ts.length = n) (hb : n ≤ 1048576) (hk : k + mk ts n ≤ 100000000) (ho : OwnT X g n ts w) (hX : X ≤ g) (hg : g < Y) (hY : ∀ i, i < n → blk (ts.getD i t0).a < Y) :
    Calls Tryz.prog 39 #[.slice (some ⟨g, 0, none⟩) n n, .int .i64 k] w fun e w' => e = .returned (.int .i64 ((k + mk ts n : Nat) : Int)) ∧ OwnT X g n (mts k ts) w' ∧ Fr X Y w w' := by
  have HN := hid hn
  have HY := hid hY
  have HK := hid hk
  have HD := hid ho.kin.dis
  have HF := hid ho.kin.off
  have H0 : Hid (Mf X Y g n k 0 ts w w) := ⟨ho.row, fun j hj => by omega, fun j _ hj => ho.kin.own j hj, Fr.refl _ _ _⟩
  clear hn hY hk ho
  go_enter Tryz.func39, Tryz.ntmps39
  go_wp2
  go_loopw [1, 5] (fun sk si wr => ∃ (i m : Nat), i ≤ n ∧ si = .int .i64 i ∧ sk = .int .i64 (m : Int) ∧ Hid (m = k + mk ts i) ∧ Hid (Mf X Y g n k i ts w wr)) (fun _ si _ => n - (intOf si).toNat)
  case atStart => exact ⟨0, k, Nat.zero_le _, rfl, rfl, rfl, H0.out⟩
  case round =>
    obtain ⟨i, m, hi, rfl, rfl, hm, HM⟩ := hrel
    by_cases hlt : i < n
    rotate_left
    · obtain rfl : i = n := by omega
      have HX : Hid (OwnT X g i (mts k ts) wr ∧ Fr X Y w wr) := by
        have hl := HN.out
        have hr := HM.out.row
        rw [← hl] at hr
        rw [half_end, hl] at hr
        have key : ∀ j, j < i → Own1 X (blk ((mts k ts).getD j t0).a) ((mts k ts).getD j t0) wr ∧ blk ((mts k ts).getD j t0).a = blk (ts.getD j t0).a := fun j hj => by
          rw [mts_get k ts j (by omega)]; exact ⟨HM.out.done j hj, rfl⟩
        refine ⟨⟨hr, ⟨(mts_len k ts).trans hl, fun j hj => (key j hj).1, fun j hj => by rw [(key j hj).2]; exact HF.out j hj, fun j j' h1 h2 => by rw [(key j (by omega)).2, (key j' h2).2]; exact HD.out j j' h1 h2⟩⟩, HM.out.fr⟩
      go_wp2
      go_ret
      exact ⟨by rw [← hm.out]; rfl, HX.out.1, HX.out.2⟩
    have HO := hid (HM.out.own i (Nat.le_refl _) hlt)
    have row := HM.out.row
    have HL' : Hid ((half k ts i).length = n) := by unfold Hid; rw [half_len k ts i (by rw [HN.out]; exact hi), HN.out]
    obtain ⟨y0, y1, y2⟩ := flat_get (half k ts i) i (by rw [HL'.out]; exact hlt)
    have HHg := hid (half_get k ts i i (Nat.le_refl _) (by rw [HN.out]; exact hi))
    rw [HHg.out] at y0 y1 y2
    have c0 := (row.cellAt (i * 3) (by omega)).trans y0
    have HT := hid (mk_succ ts i)
    have HTn : Hid (mk ts (i + 1) ≤ mk ts n) := by unfold Hid mk; have := tot_mono ts n (i + 1) hlt; omega
    have HDi := hid (fun j (h1 : i < j) (h2 : j < n) => HD.out i j h1 h2)
    have HDj := hid (fun j (h1 : j < i) => HD.out j i h1 hlt)
    have HFi := hid (HF.out i hlt)
    have HYi := hid (HY.out i hlt)
    rw [HO.out.ha] at c0
    have HHs := hid (half_set k ts i (by rw [HN.out]; exact hlt))
    obtain ⟨q, hq⟩ : ∃ q, q = ts.getD i t0 := ⟨_, rfl⟩
    have HQ := hid hq
    rw [← hq] at c0 HO HT HDi HDj HFi HYi HHs HHg
    have HRow := hid row
    rw [← hq] at y0 y1 y2
    clear hq row
    have hlo : X ≤ blk q.a := (HO.out.lab.lt _ rfl).1
    generalize hga : blk q.a = ga at *
    have N1 : Hid (m + 2 * q.l.length + 2 ≤ 100000000) := by unfold Hid; have := hm.out; have := HK.out; have := HTn.out; have := HT.out; omega
    go_wp2_with fail
    refine (Lab.f58 ga q.l.length q.c X m q.l _ rfl (by have := N1.out; omega) HO.out.lab).mono ?_
    rintro e w2 ⟨rfl, hl2, hg2⟩
    have HL2 := hid hl2
    have HR2 := hid (own_grown HRow.out hg2 (by have := HFi.out; omega))
    have HA2 : Hid (∀ j, i + 1 ≤ j → j < n → Own1 X (blk (ts.getD j t0).a) (ts.getD j t0) w2) := fun j h1 h2 =>
      (HM.out.own j (by omega) h2).grown hg2 (by have := HDi.out j (by omega) h2; omega)
    have HB2 : Hid (∀ j, j < i → Own1 X (blk (ts.getD j t0).a) (mt (k + mk ts j) (ts.getD j t0)) w2) := fun j h1 =>
      (HM.out.done j h1).grown hg2 (by have := HDj.out j h1; omega)
    have HF2 := hid (HM.out.fr.grown hg2 hlo HYi.out)
    have d1 := (HR2.out.cellAt (i * 3 + 1) (by omega)).trans y1
    have d2 := (HR2.out.cellAt (i * 3 + 2) (by omega)).trans y2
    have f1 := HR2.out.frozenAt (i * 3 + 1)
    have f2 := HR2.out.frozenAt (i * 3 + 2)
    obtain ⟨M, hM⟩ : ∃ M, M = m + 2 * q.l.length := ⟨_, rfl⟩
    rw [← hM]
    have HE : Hid (M + 2 = k + mk ts (i + 1)) := by unfold Hid; have := hm.out; have := HT.out; omega
    have hM1 : M ≤ 99999999 := by have := N1.out; omega
    have HMq : Hid (mt (k + mk ts i) q = ⟨Lab.markL m q.l.length, q.a, q.c, (M : Int), (M : Int) + 1⟩) := by
      unfold Hid mt
      rw [← hm.out, ← hM]
      rfl
    have HM3 : Hid (∀ x, x = (w2.setCell ⟨g, i * 3 + 1, none⟩ (.int .i64 (M : Int))).setCell ⟨g, i * 3 + 2, none⟩ (.int .i64 ((M : Int) + 1)) → Mf X Y g n k (i + 1) ts w x) := by
      rintro x rfl
      have s1 := HR2.out.stored (i * 3 + 1) (.int .i64 (M : Int))
      have s2 := s1.1.stored (i * 3 + 2) (.int .i64 ((M : Int) + 1))
      refine ⟨?_, fun j h1 => ?_, fun j h1 h2 => ?_, ?_⟩
      · have e : ((flat (half k ts i)).set (i * 3 + 1) (.int .i64 (M : Int))).set (i * 3 + 2) (.int .i64 ((M : Int) + 1)) = flat (half k ts (i + 1)) := by
          rw [flat_set2 _ i _ _ (by rw [HL'.out]; exact hlt), HHg.out, ← HHs.out, HMq.out]
          rw [← flat_set _ i _ (by rw [HL'.out]; exact hlt), ← flat_set _ i _ (by rw [HL'.out]; exact hlt)]
          simp only [Lab.markL_len]
        rw [← e]; exact s2.1
      · by_cases e : j = i
        · rw [e, ← HQ.out, hga, HMq.out]
          have h0 : Own1 X ga ⟨Lab.markL m q.l.length, q.a, q.c, (M : Int), (M : Int) + 1⟩ w2 := ⟨HO.out.ha, by simp only [Lab.markL_len]; exact HL2.out⟩
          exact (h0.grown s1.2 (by have := HFi.out; omega)).grown s2.2 (by have := HFi.out; omega)
        · have hj := HF.out j (by omega)
          exact ((HB2.out j (by omega)).grown s1.2 (by omega)).grown s2.2 (by omega)
      · have hj := HF.out j h2
        exact ((HA2.out j h1 h2).grown s1.2 (by omega)).grown s2.2 (by omega)
      · exact (HF2.out.grown s1.2 hX hg).grown s2.2 hX hg
    clear hg2 hl2 y0 y1 y2 c0 HM HR2 HA2 HB2 HF2 HRow hM N1 HL2
    go_wp2
    go_roundw
    case rel => exact ⟨i + 1, M + 2, by omega, by go_num, by go_num, HE.out, HM3.out _ rfl⟩
    case measure => simp [intOf]; omega
end Go.Proofs.YtjhdmghpklagkaaGreat.Stn
