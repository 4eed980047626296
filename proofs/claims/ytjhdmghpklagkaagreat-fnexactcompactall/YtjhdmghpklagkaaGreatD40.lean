/- The program's joinBlocks. -/
import Derived.Test.YtjhdmghpklagkaaGreatD39
import Derived.Test.YtjhdmghpklagkaaGreatD38
import Derived.Test.YtjhdmghpklagkaaGreatD08
import Derived.Test.YtjhdmghpklagkaaGreatD34
import Derived.Test.YtjhdmghpklagkaaGreatD21
import Derived.Test.YtjhdmghpklagkaaGreatD12
import Derived.Test.YtjhdmghpklagkaaGreatD09
import Derived.Test.YtjhdmghpklagkaaGreatD27
namespace Go.Proofs.YtjhdmghpklagkaaGreat.Hpl
open Go.RowKit
open Go.Proofs.YtjhdmghpklagkaaGreat.Stb
open Go.Proofs.YtjhdmghpklagkaaGreat.Lab (HasL cmpList two0 two1)
open Go.Proofs.YtjhdmghpklagkaaGreat.Smp (Sm HasS)
open Go.Proofs.YtjhdmghpklagkaaGreat.Srs (Q q0 pl Pl Own2 Kin Dsj blk flat flat_append flat_get getD_snoc OwnO own_below own_formP infoQ'' jF)
open Go.Proofs.YtjhdmghpklagkaaGreat.Blk
open Go.Proofs.YtjhdmghpklagkaaGreat.Pat (Mt HasM goodM FitM)
attribute [local go_sem] Oper.semAt_some

def JAns (w : World) (bs : List Bk) (ms : List Mt) (x y : Int) (e : Ending) (w' : World) : Prop :=
  ∃ a' m' c' R, e = .returned (.slice a' m' c') ∧ OwnO w.heap.size a' m' c' R w' ∧ R.map pl = runs ltP jCat (isort ltP (sels bs ms x y bs.length)) ∧ m' ≤ 20000 ∧ Below w.heap.size w w'
theorem infoSl : (Tryz.prog.info? 33).map (fun i => (i.zero, i.size, i.bytes)) = some (some (.slice none 0 0), 1, 24) := by kernel_rfl
theorem one_newS (w : World) (v : Value) (t : TypeId) : ∀ j u, [v][j]? = some u → (w.alloc (.cells #[v] t)).cell? ((⟨w.heap.size, 0, none⟩ : Addr).add j) = some u := by
  intro j u hj
  match j, hj with
  | 0, hj =>
    simp at hj; subst hj
    exact one_at (heap_alloc_new w (.cells #[v] t))
  | (n + 1), hj => simp at hj
noncomputable def anss (bs : List Bk) (ms : List Mt) (x y : Int) (k : Nat) : List (List Pl) := (bs.take k).map (fun b => ansM b ms x y)
theorem anss_next {bs : List Bk} {ms : List Mt} {x y : Int} {k : Nat} (hk : k < bs.length) : anss bs ms x y (k + 1) = anss bs ms x y k ++ [ansM (bs.getD k k0) ms x y] := by
  unfold anss
  rw [List.take_add_one, List.map_append]
  simp [hk]

theorem anss_at {bs : List Bk} {ms : List Mt} {x y : Int} {n : Nat} (hn : bs.length = n) {X : List Pl} (h : X ∈ anss bs ms x y n) : ∃ i, i < n ∧ X = ansM (bs.getD i k0) ms x y := by
  unfold anss at h
  rw [List.take_of_length_le (by omega)] at h
  obtain ⟨b, hb, rfl⟩ := List.mem_map.1 h
  obtain ⟨i, hi, rfl⟩ := List.getElem_of_mem hb
  exact ⟨i, by omega, by rw [show bs.getD i k0 = bs[i] by simp [hi]]⟩
theorem fnd_ok {w W : World} {bs : List Bk} {ms : List Mt} {x y : Int} {n c : Nat} {a : Option Addr} {Fs : List Fd} (h : Fnd w (anss bs ms x y n) n a c Fs W) (hn : bs.length = n) (hok : ∀ i, i < n → Okm (ansM (bs.getD i k0) ms x y)) : ∀ q ∈ qsF Fs, ∃ i, i < n ∧ (q.l ≠ [] ∧ q.s ≠ [] ∧ q.l.length ≤ 20 ∧ q.s.length ≤ 2000) := by
  intro q hq
  obtain ⟨f, hf, hq⟩ := List.mem_flatMap.1 hq
  obtain ⟨i, hi, e⟩ := anss_at hn (show f.2.map pl ∈ anss bs ms x y n by rw [← h.pls]; exact List.mem_map_of_mem hf)
  have := (hok i hi).one (pl q) (by rw [← e]; exact List.mem_map_of_mem hq)
  exact ⟨i, hi, this.1, this.2.1, this.2.2.1, this.2.2.2.1⟩
theorem flat_bound (N : Nat) : ∀ (Fs : List Fd), (∀ f ∈ Fs, f.2.length ≤ N) → (qsF Fs).length ≤ N * Fs.length
  | [], _ => by simp
  | f :: Fs, h => by
    have ih := flat_bound N Fs (fun x hx => h x (by simp [hx]))
    have := h f (by simp)
    rw [qsF, List.flatMap_cons, List.length_append, List.length_cons, Nat.mul_add]
    show f.2.length + (qsF Fs).length ≤ _
    omega
theorem fnd_len {w W : World} {bs : List Bk} {ms : List Mt} {x y : Int} {n c : Nat} {a : Option Addr} {Fs : List Fd} (h : Fnd w (anss bs ms x y n) n a c Fs W) (hn : bs.length = n) (hok : ∀ i, i < n → Okm (ansM (bs.getD i k0) ms x y)) : (qsF Fs).length ≤ 200 * n := by
  have := flat_bound 200 Fs (fun f hf => by
    obtain ⟨i, hi, e⟩ := anss_at hn (show f.2.map pl ∈ anss bs ms x y n by rw [← h.pls]; exact List.mem_map_of_mem hf)
    have := (hok i hi).len
    rw [← e, List.length_map] at this
    exact this)
  rw [h.len] at this
  exact this
theorem lns_len : ∀ (Fs : List Fd) (k : Nat), (lns k Fs).length ≤ Fs.length
  | [], _ => by simp [lns]
  | f :: Fs, k => by
    have ih := lns_len Fs (k + 1)
    rw [lns]
    split <;> simp <;> omega
theorem fnd_sels {w W : World} {bs : List Bk} {ms : List Mt} {x y : Int} {n c : Nat} {a : Option Addr} {Fs : List Fd} (h : Fnd w (anss bs ms x y n) n a c Fs W) (hn : bs.length = n) : (qsF Fs).map pl = sels bs ms x y bs.length := by
  unfold sels
  rw [hn, List.flatMap_def, show (bs.take n).map (fun b => ansM b ms x y) = anss bs ms x y n from rfl, ← h.pls, List.map_flatMap, List.flatMap_def]
theorem hasSl_below {w w' : World} {a : Option Addr} {ls : List Sl} (h : HasSl w a ls) (hb : Below w.heap.size w w') : HasSl w' a ls := by
  rcases h with h | ⟨b, o, h1, h2, h3⟩
  · exact .inl h
  · exact .inr ⟨b, o, h1, Nat.lt_of_lt_of_le h2 hb.size, fun k hk => (hb.cell (p := ⟨b, o + k, none⟩) h2).trans (h3 k hk)⟩
theorem lokb_of {w W : World} {L : List (List Pl)} {k c : Nat} {a : Option Addr} {Fs : List Fd} (h : Fnd w L k a c Fs W) (hq : ∀ q ∈ qsF Fs, q.l ≠ [] ∧ q.s ≠ [] ∧ q.l.length ≤ 20 ∧ q.s.length ≤ 2000) : Lokb YQ W (lns 0 Fs) where
  pos x hx := List.length_pos_iff.2 (lnP_len (lnP_of h.adr hx))
  cel x hx := lnP_cells h (fun _ _ => rfl) (lnP_of h.adr hx)
  cmp W' x y hx hy hb := by
    have h1 := lnP_head (lnP_of h.adr hx)
    have h2 := lnP_head (lnP_of h.adr hy)
    have s1 := hq _ h1
    have s2 := hq _ h2
    exact Srs.f92 (x.L.headD q0) (y.L.headD q0) W' (by omega) (by omega) ((h.own _ h1).hasL.below hb) ((h.own _ h2).hasL.below hb)
set_option maxRecDepth 100000 in
set_option maxHeartbeats 8000000 in
theorem join_in (a : Option Addr) (n c : Nat) (bs : List Bk) (am : Option Addr) (cm : Nat) (ms : List Mt) (x y : Int) (w : World) (hx0 : -9223372036854775808 ≤ x) (hx1 : x ≤ 9223372036854775807) (hy0 : -9223372036854775808 ≤ y) (hy1 : y ≤ 9223372036854775807) (hn : bs.length = n) (hb : n ≤ 100) (hr : HasK w a bs) (hf : FitK bs) (hz : ∀ i, i < n → SmlB (bs.getD i k0)) (hg : ∀ i, i < n → GoodB (bs.getD i k0)) (hok : ∀ i, i < n → Okm (ansM (bs.getD i k0) ms x y)) (hm : HasM w am ms) (hgm : goodM ms = true) (hfm : FitM ms) (hmx : ms.length ≤ maxLen)
    (hd : ∀ i, i < n → (bs.getD i k0).ts.length ≤ (bs.getD i k0).d ∧ ∀ j, j < (bs.getD i k0).qs.length → ((bs.getD i k0).qs.getD j q0).s.length ≤ ((bs.getD i k0).qs.getD j q0).d) :
    CallsIn Fence.wide 3 Tryz.prog 53 #[.slice a n c, .slice am ms.length cm, .int .i64 x, .int .i64 y] w (JAns w bs ms x y) := by
  obtain ⟨i0, hi, hz0, hz1, hz2⟩ := info_parts infoSl
  have HN := hid hn
  have HR := hid hr
  have HF := hid hf
  have HZ := hid hz
  have HG := hid hg
  have HOK := hid hok
  have HM := hid hm
  have HGM := hid hgm
  have HFM := hid hfm
  have HMX := hid hmx
  have HD := hid hd
  clear hn hr hf hz hg hok hm hgm hfm hmx hd
  refine callsIn_of_wp_marks Tryz.func53 rfl trivial ?_ rfl
  simp only [Tryz.ntmps53, List.size_toArray, List.length_cons, List.length_nil, Nat.reduceAdd, Nat.reduceSub, Array.replicate_succ, Array.replicate_zero, List.push_toArray, List.append_toArray, List.nil_append, List.cons_append]
  gi_wp2
  gi_loopw [9, 17] (fun so si wr => ∃ (k c' : Nat) (a' : Option Addr) (Fs : List Fd), k ≤ n ∧ si = .int .i64 k ∧ so = .slice a' k c' ∧ Hid (Fnd w (anss bs ms x y k) k a' c' Fs wr)) (fun _ si _ => n - (intOf si).toNat)
  case atStart => exact ⟨0, 0, none, [], Nat.zero_le _, rfl, rfl, Fnd.nil w⟩
  case round =>
    obtain ⟨k, c', a', Fs, hk, rfl, rfl, HX⟩ := hrel
    by_cases hlt : k < n
    · obtain ⟨b, off, rfl, hbl, hcc, t1⟩ := (HR.out.below HX.out.bel).at2 k (by rw [HN.out]; exact hlt)
      obtain ⟨c0, c1, c2, c3, c4⟩ := hcc
      have HGq := hid (HG.out k hlt)
      have HZq := hid (HZ.out k hlt)
      have HFq := hid (HF.out k)
      have HDq := hid (HD.out k hlt)
      have HSE := hid (anss_next (ms := ms) (x := x) (y := y) (show k < bs.length by rw [HN.out]; exact hlt))
      generalize bs.getD k k0 = q at *
      have i1 : (k : Int) < (n : Int) := by omega
      have HW0 := hid ((Below.refl wr.heap.size wr).alloc (Nat.le_refl _) (.cells (clB q) 36))
      have hX0 : w.heap.size ≤ wr.heap.size := HX.out.bel.size
      have HT1 := hid (t1.below HW0.out)
      have HMw := hid (HM.out.below (HX.out.bel.trans (HW0.out.mono hX0)))
      have HSel := hid (f90 q am cm ms x y _ hx0 hx1 hy0 hy1 HT1.out HFq.out HZq.out HMw.out HFM.out HMX.out HDq.out.1 HDq.out.2)
      have HAn : Hid (selF q ms x y = ansM q ms x y) := selF_yes (gdB_iff.2 HGq.out) HGM.out
      rw [HAn.out] at HSel
      simp only [clB] at HW0 HT1 HMw
      simp only [agB, clB] at HSel
      clear t1 hbl
      gi_wp2_with fail
      refine ⟨trivial, ?_⟩
      refine (callsIn_wide.2 HSel.out).mono ?_
      rintro e w4 ⟨a4, m4, c4', R4, rfl, ho4, hp4, hb4⟩
      have HW4 : Hid (Below wr.heap.size wr w4) := HW0.out.trans (hb4.mono HW0.out.size)
      have HO4 := hid (OwnO_base ho4 HW0.out.size)
      have HP4 := hid hp4
      have HF4 := hid (HX.out.below HW4.out)
      clear hb4 ho4 hp4 c0 c1 c2 c3 c4 HSel
      gi_wp2_with (gi_at_builtin; refine wpListIn_append_at _ rfl _ _ 107 rfl w.heap.size 33 i0 (.slice none 0 0) 1 24 Tryz.underlying107 hi hz0 hz1 hz2 rfl (by decide) _ _ _ rfl (World.ownsRow.alloc HF4.out.row _) ⟨w4.heap.size, 0, none⟩ 1 1 [.slice a4 m4 c4'] rfl rfl ?d1 ?d2 ?d3 ?d4 ?d5 ?_)
      case d1 => exact one_newS w4 _ _
      case d2 => intro u hu; simp at hu; rcases hu with rfl; rfl
      case d3 => unfold maxLen; omega
      case d4 => omega
      case d5 => have := HF4.out.bel.size; simp; omega
      intro v1 w5 hown1 hgr1 _
      obtain ⟨a5, c5, rfl⟩ := Smp.own_form hown1
      have hba := (Below.refl w4.heap.size w4).alloc (Nat.le_refl _) (.cells #[.slice a4 m4 c4'] 33)
      have HF5 := hid (HX.out.next (HW4.out.trans (hba.mono HW4.out.size)) (HO4.out.below hba) hgr1 hown1)
      rw [HP4.out, ← HSE.out] at HF5
      clear hown1 hgr1 hba HO4 HP4 HF4 HX HW4 HW0 HT1 HMw
      gi_wp2
      go_roundw
      case rel => exact ⟨k + 1, c5, a5, _, by omega, by go_num, rfl, HF5.out⟩
      case measure => simp [intOf]; omega
    · obtain rfl : k = n := by omega
      have HFL := hid HX.out.len
      have HRow : Hid (HasSl wr a' (Fs.map Prod.fst)) := by
        have h1 := HX.out.row
        rcases h1.2 with ⟨_, h2⟩ | ⟨g9, cap, cur, e1, _⟩
        · left
          rw [List.eq_nil_of_length_eq_zero (HX.out.len.trans h2)]; rfl
        · simp only [Value.slice.injEq] at e1
          rw [e1.1] at h1
          refine .inr ⟨g9, 0, e1.1, (h1.lt g9 rfl).2, fun j hj => ?_⟩
          rw [List.length_map, HX.out.len] at hj
          have hj2 : j < Fs.length := by rw [HX.out.len]; exact hj
          rw [Nat.zero_add, h1.cellAt j (by omega)]
          simp [hj2]
      have HQ1 : Hid (∀ q ∈ qsF Fs, q.l ≠ [] ∧ q.s ≠ [] ∧ q.l.length ≤ 20 ∧ q.s.length ≤ 2000) := fun q hq => by
        obtain ⟨i, hi, h⟩ := fnd_ok HX.out HN.out HOK.out q hq
        exact h
      have HQL : Hid ((qsF Fs).length ≤ 20000) := Nat.le_trans (fnd_len HX.out HN.out HOK.out) (by omega)
      have HRi : Hid (∀ X ∈ anss bs ms x y k, X.Pairwise (fun v u => cmpList v.1 u.1 < 0)) := fun X hX => by
        obtain ⟨i, hi, rfl⟩ := anss_at HN.out hX
        exact (ans_tells (HG.out i hi)).2
      have HWO := hid ((Below.refl wr.heap.size wr).alloc (Nat.le_refl _) (.cells #[.slice none 0 0] 33))
      have HFO := hid (HX.out.below HWO.out)
      have HOb := hid (heap_alloc_new wr (.cells #[.slice none 0 0] 33))
      obtain ⟨WO, hWO⟩ : ∃ WO, WO = wr.alloc (.cells #[.slice none 0 0] 33) := ⟨_, rfl⟩
      have hWs : WO.heap.size = wr.heap.size + 1 := by rw [hWO]; simp
      rw [← hWO] at HFO HOb HWO
      have hls : (Fs.map Prod.fst).length = k := by rw [List.length_map]; exact HFL.out
      have HC := hid (fHeads YQ (ordY c3Q) ⟨0, 0, 0, 0, []⟩ a' c' (Fs.map Prod.fst) (lns 0 Fs) WO (by omega) (lokb_of HFO.out HQ1.out) (lns_encs Fs 0 HFO.out.adr) (hasSl_below HRow.out HWO.out))
      rw [hls] at HC
      gi_wp2_with fail
      rw [← hWO]
      refine ⟨trivial, ?_⟩
      refine (callsIn_wide.2 HC.out).mono ?_
      rintro e W2 ⟨rfl, H', a2, c2, hp2, hh2, hx2, hr2, hb2⟩
      have HP2 := hid hp2
      have HH2 := hid hh2
      have HX2 := hid hx2
      have HR2 := hid hr2
      have HB2 := hid hb2
      clear HC hp2 hh2 hx2 hr2 hb2 hWO
      gi_wp2_with fail
      have hsz2 : wr.heap.size + 1 ≤ W2.heap.size := by have := HB2.out.size; omega
      rw [hWs] at HX2 HR2 HB2
      have hbs : wr.heap.size + 1 < W2.heap.size := (Array.getElem?_eq_some_iff.1 HX2.out).1
      obtain ⟨g, hg0, hg1, hg2⟩ : ∃ g, wr.heap.size + 1 ≤ g ∧ g < W2.heap.size ∧ (0 < H'.length → a2 = some ⟨g, 0, none⟩ ∧ wr.heap.size + 1 ≠ g) := by
        by_cases h0 : 0 < H'.length
        · obtain ⟨g, rfl⟩ := own_some HR2.out h0
          have := HR2.out.lt g rfl
          exact ⟨g, by omega, by omega, fun _ => ⟨rfl, by omega⟩⟩
        · exact ⟨wr.heap.size + 1, Nat.le_refl _, hbs, fun h => absurd h h0⟩
      have HL0 := hid (HFO.out.lanes HRi.out)
      have HL2 := hid (HL0.out.perm HP2.out.symm)
      obtain ⟨T, hT⟩ : ∃ T, T = all H' := ⟨_, rfl⟩
      have HT1 : Hid (T = isort ltQ (qsF Fs)) := by
        unfold Hid
        rw [hT, all_perm c3Q HL2.out HP2.out, all_flat (lns_nums Fs 0), lns_all Fs 0 HFO.out.adr]
      have HTP : Hid (T.Perm (qsF Fs)) := by unfold Hid; rw [HT1.out]; exact isort_perm _
      have HTm : Hid (∀ q, q ∈ T ↔ q ∈ qsF Fs) := fun q => HTP.out.mem_iff
      have HS : Hid (Js w wr.heap.size (W2.heap.size + 2) (Rws Fs) T) := by
        refine ⟨fun q hq => ?_, by rw [HTP.out.length_eq]; exact HQL.out, fun b hb => ?_, HX.out.bel.size, by omega⟩
        · have hq' := (HTm.out q).1 hq
          have h1 := HQ1.out q hq'
          have h2 := HX.out.own q hq'
          exact ⟨h1.1, h1.2.1, h1.2.2.1, h1.2.2.2, h2.hi.1, h2.ha⟩
        · obtain ⟨f, hf, h0, rfl⟩ := hb
          exact ((HX.out.ans f hf).2.lt _ (by unfold svl; rw [(HX.out.adr f hf).2 h0]; rfl)).2
      have HI : Hid (Lie wr.heap.size (W2.heap.size + 2) wr.heap.size (wr.heap.size + 1) g W2.heap.size (W2.heap.size + 1)) := ⟨Nat.le_refl _, by omega, hg0, hg1, by omega, by omega⟩
      refine wpIn_rangeFunc ?_
      intro fn hfn
      obtain ⟨v, hv⟩ : ∃ v : Vs, v = ⟨.slice a k c, .slice am ms.length cm, .int .i64 x, .int .i64 y, undef, undef, undef, undef, .slice none 0 0, .slice a' k c', undef, u11, .slice a k c, .int .i64 k, .int .i64 k, .bool false, u19, u20, u21, u22, u23, u24, u25, u26, u27, u28, u29, .slice a' k c', .pointer (some ⟨wr.heap.size + 1, 0, none⟩), .func (.func 93) #[.pointer (some ⟨wr.heap.size + 1, 0, none⟩)] #[]⟩ := ⟨_, rfl⟩
      obtain ⟨W1, hW1⟩ : ∃ W1, (W2.alloc (.deferred (some []))).alloc (.loop (jRec fn v wr.heap.size W2.heap.size .ready)) = W1 := ⟨_, rfl⟩
      have hbb : Below W2.heap.size W2 W1 := by rw [← hW1]; exact ((Below.refl _ W2).alloc (Nat.le_refl _) _).alloc (by simp) _
      have hs1 : W1.heap.size = W2.heap.size + 2 := by rw [← hW1]; simp
      have hB2' : Below WO.heap.size WO W2 := by rw [hWs]; exact HB2.out
      have HF1 := hid ((HFO.out.below hB2').below hbb)
      have HJ0 : Hid (JInv w W1 wr.heap.size (W2.heap.size + 2) Fs T (W2.heap.size + 1) W2.heap.size wr.heap.size (wr.heap.size + 1) g fn v [] W1) := by
        refine ⟨_, _, none, 0, 0, [], T, ?_, ?_, ?_, rfl, rfl, ?_⟩
        · rw [← hW1]
          have := World.alloc_heap_new (W2.alloc (.deferred (some []))) (.loop (jRec fn v wr.heap.size W2.heap.size .ready))
          rwa [World.size_alloc] at this
        · rw [← hW1]; exact (Below.heap_alloc _ _ _ (by simp)).trans (World.alloc_heap_new W2 _)
        · exact box_bel (box_bel HOb.out hB2') hbb
        · refine ⟨HF1.out.bel, by omega, rfl, fun _ _ => rfl, fun q hq => (HF1.out.own q ((HTm.out q).1 hq)).lab, rfl, World.ownsRow_nil _ _ _ _, ?_, rfl, fun p hp => ?_, fun _ e => (by cases e), fun p hp => by simp at hp⟩
          · refine ⟨fun q hq => HF1.out.own q ((HTm.out q).1 (by simpa using hq)), fun _ e => (by cases e), ?_⟩
            exact (HTP.out.pairwise_iff (fun h => Dsj.symm h)).2 HF1.out.dis
          · have hp' : p ∈ qsF Fs := (HTm.out p).1 (by simpa using hp)
            have h1 := HX.out.own p hp'
            refine ⟨.inl ⟨h1.hi.1, ?_⟩, .inl ⟨h1.hi.2, ?_⟩⟩
            · rintro ⟨f, hf, h0, e⟩
              exact apt h1.lab (HX.out.ans f hf).2 (by decide) (g := blk p.a) rfl (by unfold svl; rw [(HX.out.adr f hf).2 h0, e]; rfl)
            · rintro ⟨f, hf, h0, e⟩
              exact apt h1.smp (HX.out.ans f hf).2 (by decide) (g := blk p.b) rfl (by unfold svl; rw [(HX.out.adr f hf).2 h0, e]; rfl)
      have HAll : Hid (CallsIn Fence.wide 2 Tryz.prog 93 #[.pointer (some ⟨wr.heap.size + 1, 0, none⟩), .func (.yield (W2.heap.size + 1)) #[] #[]] W1 fun e W' => (∃ v, e = .returned v) ∧ JInv w W1 wr.heap.size (W2.heap.size + 2) Fs T (W2.heap.size + 1) W2.heap.size wr.heap.size (wr.heap.size + 1) g fn v T W') := by
        by_cases h0 : 0 < H'.length
        · obtain ⟨ea, hne⟩ := hg2 h0
          have hX3 := HX2.out
          have hR3 := HR2.out
          rw [ea] at hX3 hR3
          exact all_in ⟨0, 0, 0, 0, []⟩ c3Q (jLoopy HF1.out HS.out HI.out (fun q hq => (HTm.out q).2 hq)) hne (by rw [HP2.out.length_eq]; have := lns_len Fs 0; rw [HX.out.len] at this; omega) (box_bel hX3 hbb) (own_below hR3 hbb) HH2.out HL2.out (fun x hx => lnP_of HF1.out.adr (HP2.out.mem_iff.1 hx)) HJ0.out (by rw [hT]; rfl)
        · have e0 : H' = [] := List.eq_nil_of_length_eq_zero (by omega)
          have hX3 := HX2.out
          rw [e0] at hX3 hT
          refine (all_none (l := W2.heap.size + 1) (box_bel hX3 hbb)).mono ?_
          rintro e W' ⟨he, rfl⟩
          refine ⟨he, ?_⟩
          have eT : T = [] := by rw [hT]; simp [all, exps, isort]
          have h := HJ0.out
          rw [eT] at h ⊢
          exact h
      refine ⟨W2.heap.size + 1, [{ target := .collected W2.heap.size, args := #[] }], W1, { target := .fn (.func 93) #[], args := #[.pointer (some ⟨wr.heap.size + 1, 0, none⟩), .func (.yield (W2.heap.size + 1)) #[] #[]] }, W1, 93,
        #[.pointer (some ⟨wr.heap.size + 1, 0, none⟩), .func (.yield (W2.heap.size + 1)) #[] #[]], W1, ?_, ?_, ?_, ?_, fun _ => by omega, ?_⟩
      · rw [← hW1, hv]; exact run_enterLoop_outer _ _ _ _ _
      · simp [resolve, go_sem]
      · intro f' hf'; exact trivial
      · simp [invoke, go_sem]
      · refine HAll.out.mono ?_
        rintro e W3 ⟨⟨ve, rfl⟩, oh, og, aR, mR, cR, R, rest, hJ⟩
        have hrest : rest = [] := by
          have := hJ.C.tot
          have h2 := congrArg List.length this
          rw [List.length_append] at h2
          exact List.eq_nil_of_length_eq_zero (by omega)
        subst hrest
        have hend := run_endLoop (P := Tryz.prog) hJ.L (by simp [jRec])
        have HM4 := hid (hJ.put HS.out HI.out (jRec fn v wr.heap.size W2.heap.size .exhausted))
        obtain ⟨W4, hW4⟩ : ∃ W4, W3.putObj (W2.heap.size + 1) (.loop (jRec fn v wr.heap.size W2.heap.size .exhausted)) = W4 := ⟨_, rfl⟩
        have hend' : (Instr.endLoop (W2.heap.size + 1)).run Tryz.prog W3 = .ok none W4 := by rw [hend, ← hW4]; rfl
        rw [hW4] at HM4
        refine ⟨none, W4, hend', ?_⟩
        have hc4 := one_at HM4.out.O
        have HFin : Hid (JAns w bs ms x y (.returned (.slice aR mR cR)) (W4.putObj W2.heap.size (.deferred none))) := by
          have hC := HM4.out.C.mid HS.out (grownBy_putObj' W4 W2.heap.size (.deferred none)) (by omega) (by omega)
          have hk := hC.kin
          rw [List.append_nil] at hk
          refine ⟨aR, mR, cR, R, rfl, hk.ownO hC.len hC.row, ?_, ?_, hC.bel⟩
          · rw [hC.is, foldl_runs, HT1.out, isortQ, fnd_sels HX.out HN.out]
          · have h1 := congrArg List.length hC.is
            rw [List.length_map, hC.len] at h1
            rw [h1]
            exact Nat.le_trans (upd_len _ _ _) (by rw [List.length_map]; exact HS.out.len)
        have HK4 := hid HM4.out.K
        clear HM4 hJ hend hend' hW4 HAll HJ0 HF1 hW1 hbb hs1
        gi_wp2
        refine ⟨by simp, .inl ⟨_, _, rfl, run_takeDeferred HK4.out, ?_⟩⟩
        exact ⟨_, by simp [results, Tryz.f53, go_sem], HFin.out⟩
theorem f53 (a : Option Addr) (n c : Nat) (bs : List Bk) (am : Option Addr) (cm : Nat) (ms : List Mt) (x y : Int) (w : World) (hx0 : -9223372036854775808 ≤ x) (hx1 : x ≤ 9223372036854775807) (hy0 : -9223372036854775808 ≤ y) (hy1 : y ≤ 9223372036854775807) (hn : bs.length = n) (hb : n ≤ 100) (hr : HasK w a bs) (hf : FitK bs) (hz : ∀ i, i < n → SmlB (bs.getD i k0)) (hg : ∀ i, i < n → GoodB (bs.getD i k0)) (hok : ∀ i, i < n → Okm (ansM (bs.getD i k0) ms x y)) (hm : HasM w am ms) (hgm : goodM ms = true) (hfm : FitM ms) (hmx : ms.length ≤ maxLen)
    (hd : ∀ i, i < n → (bs.getD i k0).ts.length ≤ (bs.getD i k0).d ∧ ∀ j, j < (bs.getD i k0).qs.length → ((bs.getD i k0).qs.getD j q0).s.length ≤ ((bs.getD i k0).qs.getD j q0).d) :
    Calls Tryz.prog 53 #[.slice a n c, .slice am ms.length cm, .int .i64 x, .int .i64 y] w (JAns w bs ms x y) :=
  callsIn_wide.1 (join_in a n c bs am cm ms x y w hx0 hx1 hy0 hy1 hn hb hr hf hz hg hok hm hgm hfm hmx hd)
end Go.Proofs.YtjhdmghpklagkaaGreat.Hpl
namespace Go.Proofs.YtjhdmghpklagkaaGreat.Hpl
open Go.RowKit
open Go.Proofs.YtjhdmghpklagkaaGreat.Stb
open Go.Proofs.YtjhdmghpklagkaaGreat.Srs (Q q0 pl Pl OwnO MQb jF fitq_of)
open Go.Proofs.YtjhdmghpklagkaaGreat.Blk
open Go.Proofs.YtjhdmghpklagkaaGreat.Pat (Mt HasM goodM FitM)

noncomputable def shl (bs : List Bk) (ms : List Mt) (x y : Int) : List Pl := puts ltP jF [] (sels bs ms x y bs.length)
theorem Big.fit {R : List Q} {L : List Pl} {k : Nat} (h : Big R L k) (hk : k ≤ 100) : Srs.FitQ R ∧ Srs.SmlQ R := by
  refine ⟨fitq_of fun q hq => ?_, fun i hi => ?_⟩
  · have := h.one q hq
    have h1 := this.l2
    have h2 := this.s2
    exact ⟨this.lf, by unfold maxLen; omega, this.sf, by unfold maxLen; omega⟩
  · have e : R.getD i q0 = R[i] := by simp [hi]
    have := h.one _ (List.getElem_mem hi)
    rw [e]
    have h1 := this.l2
    have h2 := this.s2
    exact ⟨by omega, by omega⟩
end Go.Proofs.YtjhdmghpklagkaaGreat.Hpl
namespace Go.Proofs.YtjhdmghpklagkaaGreat.Blk
open Go.RowKit
open Go.Proofs.YtjhdmghpklagkaaGreat.Lab (Lb HasL)
open Go.Proofs.YtjhdmghpklagkaaGreat.Srs (hid lt_at kept Q HasQ FitQ SmlQ OwnQ q0 blk Fr own_fr)
open Go.Proofs.YtjhdmghpklagkaaGreat.Stn (T HasT FitT SmlT OwnT t0)
open Go.Proofs.YtjhdmghpklagkaaGreat.Ino (Own marks below_drewN)

def tb (h : Bk) : Nat := h.qs.length + Srs.tot h.qs h.qs.length + h.ts.length + Stn.tot h.ts h.ts.length
end Go.Proofs.YtjhdmghpklagkaaGreat.Blk
namespace Go.Proofs.YtjhdmghpklagkaaGreat.Srs
open Go.RowKit
open Go.Proofs.YtjhdmghpklagkaaGreat.Lab (Lb HasL OfV GoodP)
open Go.Proofs.YtjhdmghpklagkaaGreat.Smp (Sm HasS cut)
open Go.Proofs.YtjhdmghpklagkaaGreat.Pat (Mt HasM goodM allM FitM)

theorem f31n (k : Nat) (w : World) : Calls Tryz.prog 31 #[.slice none 0 0, .int .i64 k] w fun e w' => e = .returned (.int .i64 k) ∧ w' = w := by
  go_enter Tryz.func31, Tryz.ntmps31
  go_wp2
  go_loopw [1, 5] (fun s i wr => s = .int .i64 k ∧ i = .int .i64 0 ∧ wr = w) (fun _ _ _ => 0)
  case atStart => exact ⟨rfl, rfl, rfl⟩
  case round =>
    obtain ⟨rfl, rfl, rfl⟩ := hrel
    go_wp2
    go_ret
    exact ⟨rfl, rfl⟩
theorem f32n (k : Nat) (w : World) : Calls Tryz.prog 32 #[.slice none 0 0, .int .i64 k] w fun e w' => e = .returned (.int .i64 k) ∧ w' = w := by
  go_enter Tryz.func32, Tryz.ntmps32
  go_wp2
  go_loopw [1, 5] (fun s i wr => s = .int .i64 k ∧ i = .int .i64 0 ∧ wr = w) (fun _ _ _ => 0)
  case atStart => exact ⟨rfl, rfl, rfl⟩
  case round =>
    obtain ⟨rfl, rfl, rfl⟩ := hrel
    go_wp2
    go_ret
    exact ⟨rfl, rfl⟩
theorem same_mapJ {R R' : List Q} {L : List Pl} (h : R.map pl = L) (h' : R'.map pl = L) : R'.length = R.length ∧ Same R.length R R' := by
  have hl : R'.length = R.length := by rw [sel_len h, sel_len h']
  refine ⟨hl, fun i hi => ?_⟩
  have e1 : (R.map pl)[i]? = (R'.map pl)[i]? := by rw [h, h']
  have g1 : R.getD i q0 = R[i] := by simp [hi]
  have g2 : R'.getD i q0 = R'[i]'(by omega) := by simp [show i < R'.length by omega]
  rw [g1, g2]
  simpa [hi, show i < R'.length by omega] using e1.symm
theorem OwnO.aside {X r n c : Nat} {a : Option Addr} {qs : List Q} {w x : World} (h : OwnO X a n c qs w) (hg : w.grownBy x (some r)) (hr : r < X) : OwnO X a n c qs x := by
  refine ⟨h.len, h.row.kept hg ?_, fun i hi => (h.own i hi).grown hg (by have := (h.own i hi).lo; omega) (by have := (h.own i hi).lo; omega), h.nea, h.dis⟩
  by_cases e : (Value.slice a n c).ownBlock = none
  · exact .inl e
  · refine .inr fun e2 => ?_
    have := (h.row.lt r e2).1
    omega
theorem held_ans {X n c k : Nat} {a : Option Addr} {R : List Q} {w : World} (hn : R.length = n) (h : OwnO X a n c (mqs k R) w) (hb : n ≤ 1048576) (hk : k + 2 * tot R n ≤ 100000000) :
    Calls Tryz.prog 32 #[.slice a n c, .int .i64 k] w fun e w' => e = .returned (.int .i64 ((k + 2 * tot R n : Nat) : Int)) ∧ Below w.heap.size w w' := by
  rcases h.cases with ⟨h1, h2, h3, h4⟩ | ⟨g, h1, h2⟩
  · subst h1 h2 h3
    refine (f32n k w).mono ?_
    rintro e w' ⟨rfl, rfl⟩
    exact ⟨rfl, Below.refl _ _⟩
  · subst h1
    exact f32 X g n c k R w hn hb hk h2
end Go.Proofs.YtjhdmghpklagkaaGreat.Srs
namespace Go.Proofs.YtjhdmghpklagkaaGreat.Blk
open Go.RowKit
open Go.Proofs.YtjhdmghpklagkaaGreat.Lab (Lb HasL cmpList)
open Go.Proofs.YtjhdmghpklagkaaGreat.Srs (hid q0 Pl pl hit)
open Go.Proofs.YtjhdmghpklagkaaGreat.Stn (T t0)
open Go.Proofs.YtjhdmghpklagkaaGreat.Pat (Mt goodM allM)

theorem spans_pl (ts : List T) (l : List Lb) : spans (own1 ts l) = ((ts.map Stn.pl).filter fun p => decide (cmpList p.1 l = 0)).map fun p => (p.2.1, p.2.2) := by
  unfold spans own1
  rw [List.filter_map, List.map_map]
  rfl
theorem SameB.stones {h h' : Bk} (s : SameB h h') : h'.ts.map Stn.pl = h.ts.map Stn.pl := by
  apply List.ext_getElem?
  intro i
  by_cases hi : i < h.ts.length
  · have e := s.st i hi
    have h1 : h.ts.getD i t0 = h.ts[i] := by simp [hi]
    have h2 : h'.ts.getD i t0 = h'.ts[i]'(by rw [s.lt]; exact hi) := by simp [show i < h'.ts.length by rw [s.lt]; exact hi]
    rw [h1, h2] at e
    simp [hi, show i < h'.ts.length by rw [s.lt]; exact hi, e]
  · simp [List.getElem?_eq_none (show h.ts.length ≤ i by omega), List.getElem?_eq_none (show h'.ts.length ≤ i by rw [s.lt]; omega)]
theorem SameB.spans {h h' : Bk} (s : SameB h h') (l : List Lb) : Blk.spans (own1 h'.ts l) = Blk.spans (own1 h.ts l) := by rw [spans_pl, spans_pl, s.stones]
theorem SameB.mdl {h h' : Bk} (s : SameB h h') (ms : List Mt) : ∀ k, k ≤ h.qs.length → Blk.mdl h' ms k = Blk.mdl h ms k := by
  intro k
  induction k with
  | zero => intro _; rfl
  | succ k ih =>
    intro hk
    rw [Blk.mdl, Blk.mdl, ih (by omega), s.lb (show k < h.qs.length by omega), s.smp (show k < h.qs.length by omega), s.spans]
theorem SameB.selF {h h' : Bk} (s : SameB h h') (ms : List Mt) (x y : Int) : Blk.selF h' ms x y = Blk.selF h ms x y := by
  unfold Blk.selF
  rw [s.gd]
  split
  · unfold ansM
    rw [s.lq, s.mdl ms _ (Nat.le_refl _)]
  · rfl
structure Cp (h h' : Bk) : Prop where
  same : SameB h h'
  room : h'.ts.length ≤ h'.d
  each : ∀ i, i < h'.qs.length → (h'.qs.getD i q0).s.length ≤ (h'.qs.getD i q0).d
theorem OwnB.cp {X g k S : Nat} {h h' : Bk} {w : World} (o : OwnB X g k S h h' w) : Cp h h' :=
  ⟨o.same, by rw [o.lt, o.ed]; exact Nat.le_refl _, fun i hi => by have := (o.sq i (by rw [← o.lq]; exact hi)).2.2; omega⟩
end Go.Proofs.YtjhdmghpklagkaaGreat.Blk
namespace Go.Proofs.YtjhdmghpklagkaaGreat.Hpl
open Go.RowKit
open Go.Proofs.YtjhdmghpklagkaaGreat.Stb
open Go.Proofs.YtjhdmghpklagkaaGreat.Lab (Lb HasL cmpList)
open Go.Proofs.YtjhdmghpklagkaaGreat.Smp (Sm HasS mrg)
open Go.Proofs.YtjhdmghpklagkaaGreat.Srs (Q q0 pl Pl OwnO MQb jF gdQ_iff fitq_of own_below okq_mem get_mem' good_goodP tot mrg_pos fit_mrg runs_all qOf GoodQ SmlQ)
open Go.Proofs.YtjhdmghpklagkaaGreat.Blk
open Go.Proofs.YtjhdmghpklagkaaGreat.Pat (Mt HasM goodM FitM)

theorem shl_one {L : List Pl} (h : ∀ v ∈ L, v.1 ≠ [] ∧ v.2 ≠ [] ∧ v.1.length ≤ 20 ∧ Lab.Fit v.1 ∧ Smp.Fit v.2) : ∀ z ∈ puts ltP jF [] L, z.1 ≠ [] ∧ z.2 ≠ [] ∧ z.1.length ≤ 20 ∧ Lab.Fit z.1 ∧ Smp.Fit z.2 := by
  rw [← runs_isort ordP (show Jn ltP jF from jnP mrg)]
  refine runs_all (P := fun z => z.1 ≠ [] ∧ z.2 ≠ [] ∧ z.1.length ≤ 20 ∧ Lab.Fit z.1 ∧ Smp.Fit z.2) (fun x y hx hy => ⟨hx.1, mrg_pos hx.2.1, hx.2.2.1, hx.2.2.2.1, fit_mrg hx.2.2.2.2 hy.2.2.2.2⟩) _ (fun y hy => h y (isort_mem.1 hy))
theorem sels_ok {bs : List Bk} {ms : List Mt} {x y : Int} (hok : ∀ i, i < bs.length → Okm (ansM (bs.getD i k0) ms x y)) : ∀ k, k ≤ bs.length → ∀ v ∈ sels bs ms x y k, v.1 ≠ [] ∧ v.2 ≠ [] ∧ v.1.length ≤ 20 ∧ Lab.Fit v.1 ∧ Smp.Fit v.2
  | 0, _, v, hv => by simp [sels] at hv
  | k + 1, hk, v, hv => by
    rw [sels_next (by omega)] at hv
    rcases List.mem_append.1 hv with hv | hv
    · exact sels_ok hok k (by omega) v hv
    · have := (hok k (by omega)).one v hv
      exact ⟨this.1, this.2.1, this.2.2.1, this.2.2.2.2.1, this.2.2.2.2.2⟩
theorem sels_lim {bs : List Bk} {ms : List Mt} {x y : Int} (hok : ∀ i, i < bs.length → Okm (ansM (bs.getD i k0) ms x y)) : ∀ k, k ≤ bs.length → ∀ z ∈ puts ltP jF [] (sels bs ms x y k), z.2.length ≤ 2000 * k
  | 0, _, z, hz => by simp [sels, puts] at hz
  | k + 1, hk, z, hz => by
    rw [sels_next (by omega), puts_append] at hz
    have := puts_len (lt := ltP) (f := jF) (fun _ _ => rfl) (fun u v => Smp.mrg_len u.2 v.2) eqv_key (B := 2000 * k) (N := 2000) (sels_lim hok k (by omega)) (fun v hv => ((hok k (by omega)).one v hv).2.2.2.1) (hok k (by omega)).dis z hz
    have e2 : 2000 * (k + 1) = 2000 * k + 2000 := by omega
    rw [e2]; exact this
theorem shl_fit {R : List Q} {bs : List Bk} {ms : List Mt} {x y : Int} (h : R.map pl = shl bs ms x y) (hn : bs.length ≤ 100) (hok : ∀ i, i < bs.length → Okm (ansM (bs.getD i k0) ms x y)) : Srs.FitQ R ∧ SmlQ R := by
  have key : ∀ q ∈ R, q.l.length ≤ 20 ∧ q.s.length ≤ 200000 ∧ Lab.Fit q.l ∧ Smp.Fit q.s := fun q hq => by
    have hm : pl q ∈ shl bs ms x y := by rw [← h]; exact List.mem_map_of_mem hq
    have h1 := shl_one (sels_ok hok bs.length (Nat.le_refl _)) _ hm
    have h2 := sels_lim hok bs.length (Nat.le_refl _) _ hm
    exact ⟨h1.2.2.1, Nat.le_trans h2 (by omega), h1.2.2.2.1, h1.2.2.2.2⟩
  refine ⟨fitq_of fun q hq => ?_, fun i hi => ?_⟩
  · have := key q hq
    exact ⟨this.2.2.1, by unfold maxLen; omega, this.2.2.2, by unfold maxLen; omega⟩
  · have := key _ (get_mem' hi)
    exact ⟨by omega, by omega⟩
theorem sels_same {ms : List Mt} {x y : Int} {n : Nat} {bs d : List Bk} (s : SameK n bs d) (hn : bs.length = n) (hl : d.length = n) (hg : ∀ i, i < n → GoodB (bs.getD i k0)) (hm : goodM ms = true) : ∀ k, k ≤ n → sels d ms x y k = sels bs ms x y k
  | 0, _ => by simp [sels]
  | k + 1, hk => by
    rw [sels_next (by omega), sels_next (by omega), sels_same s hn hl hg hm k (by omega)]
    have h1 := (s k (by omega)).selF ms x y
    have g1 : gdB (bs.getD k k0) = true := gdB_iff.2 (hg k (by omega))
    have g2 : gdB (d.getD k k0) = true := by rw [(s k (by omega)).gd]; exact g1
    rw [selF_yes g1 hm, selF_yes g2 hm] at h1
    rw [h1]
end Go.Proofs.YtjhdmghpklagkaaGreat.Hpl
