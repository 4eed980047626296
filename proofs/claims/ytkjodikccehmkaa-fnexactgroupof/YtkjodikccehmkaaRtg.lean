/- The program grows its tree of routes: the walk. -/
import Derived.Test.YtkjodikccehmkaaRtf
namespace Go.Proofs.Ytkjodikccehmkaa.Rou
open Go.RowKit
open Go.Proofs.Ytkjodikccehmkaa.Rwc
open Go.Proofs.Ytkjodikccehmkaa.Pat (ret_bool)

theorem infoN : (Try.prog.info? 81).map (fun i => (i.zero, i.size, i.bytes)) = some (some (.pointer none), 1, 8) := by kernel_rfl
def GrowOk (m : Nat) : Prop := ∀ (ts : List T) (a : Option Addr) (c : Nat) (Bn Bl Bg k : Nat) (w0 w : World), ts.length < k + m → k ≤ ts.length → ts.length ≤ 40 → Has w0 a ts → (∀ q ∈ ts, Rw w0 q ∧ 0 ≤ q.kd) → Below w0.heap.size w0 w → w0.heap.size ≤ Bn → Bl ≠ Bn → Bg ≠ Bn → Vars Bn Bl Bg a ts.length c k w →
  Calls Try.prog 108 #[ptr Bn, ptr Bl, ptr Bg] w (GrR w0 Bn ts k w)
theorem drop_one {ts : List T} {k : Nat} (h : k < ts.length) : (ts.map pl).drop k = pl (ts.getD k t0) :: (ts.map pl).drop (k + 1) := by
  rw [List.drop_eq_getElem_cons (by simpa using h)]
  simp [List.getD_eq_getElem?_getD, h]
theorem mem_getD {ts : List T} {k : Nat} (h : k < ts.length) : ts.getD k t0 ∈ ts := by
  simp [List.getD_eq_getElem?_getD, h]
set_option maxHeartbeats 8000000 in
set_option maxRecDepth 100000 in
theorem grow_step (m : Nat) (IH : GrowOk m) : GrowOk (m + 1) := by
  intro ts a c Bn Bl Bg k w0 w hm hk h40 hr hrw hb0 hBn hBl hBg hv
  have HIH := hid IH
  have HR := hid hr
  have HRW := hid hrw
  have HB0 := hid hb0
  have HV := hid hv
  have HNn := hid hBn
  have HNl := hid hBl
  have HNg := hid hBg
  obtain ⟨n, hn⟩ : ∃ n, n = ts.length := ⟨_, rfl⟩
  have HN := hid hn
  have n0 : w.cell? ⟨Bn, 0, none⟩ = some (.int .i64 k) := cell_at hv.next 0
  have n1 : w.cell? ⟨Bl, 0, none⟩ = some (.slice a n c) := by rw [hn]; exact cell_at hv.list 0
  have n2 := froz_at hv.next 0
  rw [← hn] at hm hk h40
  clear IH hr hrw hb0 hBn hBl hBg hv
  by_cases hlt : k < n
  rotate_left
  · obtain rfl : k = n := by omega
    clear hn hlt
    go_enter Try.func108, Try.ntmps108
    go_wp2
    go_ret
    refine ⟨Fb.refl _ _, .inl ⟨rfl, by have := HV.out.next; rw [← HN.out]; exact this, fun d t x e => ?_⟩⟩
    rw [List.drop_eq_nil_of_le (by simp; have := HN.out; omega)] at e
    exact no_rows t x e
  obtain ⟨b, off, hab, hbl, hcl, hlst⟩ := (HR.out.below HB0.out).at2 k (by rw [← hn]; exact hlt)
  have HQM := hid (mem_getD (ts := ts) (k := k) (by rw [← hn]; exact hlt))
  have HD1 := hid (drop_one (ts := ts) (k := k) (by rw [← hn]; exact hlt))
  have HAB := hid hab
  generalize ts.getD k t0 = q at *
  obtain ⟨c0, c1, c2, c3, c4, c5, c6, c7, c8⟩ := hcl.all
  have HRQ := hid (HRW.out q HQM.out).1
  have HKD := hid (HRW.out q HQM.out).2
  subst hab
  clear hlst hcl hn
  have HS : (fun x : World => x.cell? ⟨Bn, 0, none⟩ = some (.int .i64 k) ∧ x.cell? ⟨Bl, 0, none⟩ = some (.slice (some ⟨b, off, none⟩) n c) ∧ x.cell? ⟨b, off + k * 9, none⟩ = some (.string q.rv) ∧ x.cell? ⟨b, off + k * 9 + 1, none⟩ = some (.slice q.ma q.ms.length q.mc) ∧ x.cell? ⟨b, off + k * 9 + 2, none⟩ = some (.slice q.da q.ds.length q.dc) ∧ x.cell? ⟨b, off + k * 9 + 3, none⟩ = some (.int .i64 q.wa) ∧ x.cell? ⟨b, off + k * 9 + 4, none⟩ = some (.int .i64 q.ev) ∧ x.cell? ⟨b, off + k * 9 + 5, none⟩ = some (.int .i64 q.ag) ∧ x.cell? ⟨b, off + k * 9 + 6, none⟩ = some (.slice q.ua q.us.length q.uc) ∧ x.cell? ⟨b, off + k * 9 + 7, none⟩ = some (.bool q.on) ∧ x.cell? ⟨b, off + k * 9 + 8, none⟩ = some (.int .i64 q.kd)) w.drew := ⟨n0, n1, c0, c1, c2, c3, c4, c5, c6, c7, c8⟩
  have i1 : (k : Int) < (n : Int) := by omega
  go_enter Try.func108, Try.ntmps108
  go_upto_region 3 with fail
  go_region_held3 (fun x => x.cell? ⟨Bn, 0, none⟩ = some (.int .i64 k) ∧ x.cell? ⟨Bl, 0, none⟩ = some (.slice (some ⟨b, off, none⟩) n c) ∧ x.cell? ⟨b, off + k * 9, none⟩ = some (.string q.rv) ∧ x.cell? ⟨b, off + k * 9 + 1, none⟩ = some (.slice q.ma q.ms.length q.mc) ∧ x.cell? ⟨b, off + k * 9 + 2, none⟩ = some (.slice q.da q.ds.length q.dc) ∧ x.cell? ⟨b, off + k * 9 + 3, none⟩ = some (.int .i64 q.wa) ∧ x.cell? ⟨b, off + k * 9 + 4, none⟩ = some (.int .i64 q.ev) ∧ x.cell? ⟨b, off + k * 9 + 5, none⟩ = some (.int .i64 q.ag) ∧ x.cell? ⟨b, off + k * 9 + 6, none⟩ = some (.slice q.ua q.us.length q.uc) ∧ x.cell? ⟨b, off + k * 9 + 7, none⟩ = some (.bool q.on) ∧ x.cell? ⟨b, off + k * 9 + 8, none⟩ = some (.int .i64 q.kd)) (first | exact HS | go_keep) (first | fail)
  rename_i K1 hK1 hS1
  refine hK1 _ _ ?_
  clear hK1 hS1
  obtain ⟨W1, hW1⟩ : ∃ W, W = (w.alloc (.cells (nodeA q k none 0 0) 108)).drew := ⟨_, rfl⟩
  have HX1 : Hid (W1.heap[w.heap.size]? = some (.cells (nodeA q k none 0 0) 108)) := by rw [hW1]; exact heap_alloc_new w _
  have HB1 : Hid (Below w.heap.size w W1) := by rw [hW1]; exact ((Below.refl w.heap.size w).alloc (Nat.le_refl _) _).drew
  have HZ1 : Hid (W1.heap.size = w.heap.size + 1) := by rw [hW1]; unfold Hid; simp
  have hltn := lt_at HV.out.next
  have HV1 : Hid (Vars Bn Bl Bg (some ⟨b, off, none⟩) ts.length c k W1) := HV.out.fb (Fb.of HB1.out) HNl.out HNg.out (kept HV.out.next HB1.out)
  rw [← hW1]
  clear n0 n1 n2 c0 c1 c2 c3 c4 c5 c6 c7 c8 HS hW1
  have n0 : W1.cell? ⟨Bn, 0, none⟩ = some (.int .i64 k) := cell_at HV1.out.next 0
  have n2 := froz_at HV1.out.next 0
  obtain ⟨W2, hW2⟩ : ∃ W, W = W1.setCell ⟨Bn, 0, none⟩ (.int .i64 ((k : Int) + 1)) := ⟨_, rfl⟩
  have hkn : k + 1 ≤ n := by omega
  have HF2 : Hid (Fb Bn w W2) := by
    rw [hW2]
    exact (Fb.of HB1.out).trans (Fb.set Bn 0 _ W1)
  have HX2 : Hid (W2.heap[w.heap.size]? = some (.cells (nodeA q k none 0 0) 108)) := by rw [hW2]; exact set_else HX1.out (by simp only; omega)
  have HV2 : Hid (Vars Bn Bl Bg (some ⟨b, off, none⟩) ts.length c (k + 1) W2) := by
    refine HV.out.fb HF2.out HNl.out HNg.out ?_
    rw [hW2]; exact set_at HV1.out.next
  have HZ2 : Hid (W2.heap.size = w.heap.size + 1) := by rw [hW2]; unfold Hid; simp; exact HZ1.out
  have HW2 := hid hW2
  clear hW2 HB1 HX1 HV1 HZ1
  go_upto_region 5 with fail
  rw [← HW2.out]
  clear HW2 n0 n2
  obtain ⟨B, hB⟩ : ∃ B, B = w.heap.size := ⟨_, rfl⟩
  rw [← hB] at HX2 HZ2 hltn ⊢
  have HBB := hid hB
  clear hB
  obtain ⟨x0, x1, x2, x3, x4, x5, x6, x7, x8, x9, x10⟩ := cellsE HX2.out
  obtain ⟨i0', hi, hz0, hz1, hz2⟩ := info_parts infoN
  have HG0 : Hid (Gs w0 B (k + 1) [] [] none 0 W2) := ⟨World.ownsRow_nil _ _ _ _, by simp [NvL]⟩
  have HT0 : Hid ((ts.map pl).drop k = pl q :: (rowsL [] ++ (ts.map pl).drop (k + 1))) := by unfold Hid; rw [HD1.out]; simp [rowsL]
  rw [HBB.out] at HX2 HZ2 HG0
  rw [← HBB.out] at HX2 HZ2 HG0
  go_wp2
  go_loopw [24] (fun s24 wr => ∃ (ks : List Tr) (bs : List Nat) (ak : Option Addr) (ck : Nat) (k' : Nat), s24 = .int .i64 ks.length ∧ k' ≤ n ∧ k + 1 ≤ k' ∧ Hid (k' = k + 1 + (rowsL ks).length) ∧ Hid ((ts.map pl).drop k = pl q :: (rowsL ks ++ (ts.map pl).drop k')) ∧ Hid (GtL N0 1 ks) ∧ (ks.length : Int) ≤ q.kd ∧ ks.length ≤ n ∧ Hid (Gs w0 B (k + 1) ks bs ak ck wr) ∧ Hid (wr.heap[B]? = some (.cells (nodeA q k ak bs.length ck) 108)) ∧ Hid (Fb Bn w wr) ∧ Hid (Vars Bn Bl Bg (some ⟨b, off, none⟩) ts.length c k' wr)) (fun s24 _ => (q.kd - intOf s24).toNat)
  case atStart => exact ⟨[], [], none, 0, k + 1, rfl, hkn, Nat.le_refl _, by unfold Hid; simp [rowsL], HT0, by unfold Hid; simp [GtL], by simpa using HKD.out, by simp, HG0, HX2, HF2, HV2⟩
  case round =>
    obtain ⟨ks, bs, ak, ck, k', rfl, hk1, hk3, HK2, HT, HG, hj, hj2, HS1, HX, HF, HVr⟩ := hrel
    have HVL := hid (NvL.len _ _ _ HS1.out.nv)
    have hwr : B + 1 ≤ wr.heap.size := by have := lt_at HX.out; omega
    have HB0r : Hid (Below w0.heap.size w0 wr) := Fb.below HB0.out HF.out HNn.out HB0.out.size
    by_cases hlt2 : (ks.length : Int) < q.kd
    · have g0 : wr.cell? ⟨Bg, 0, none⟩ = some (.func (.func 108) #[] #[ptr Bn, ptr Bl, ptr Bg]) := cell_at HVr.out.grow 0
      have hNm : ts.length < k' + m := by have := HN.out; omega
      have hNk : k' ≤ ts.length := by have := HN.out; omega
      have hN4 : ts.length ≤ 40 := by have := HN.out; omega
      have HCALL := hid (HIH.out ts (some ⟨b, off, none⟩) c Bn Bl Bg k' w0 wr hNm hNk hN4 HR.out HRW.out HB0r.out HNn.out HNl.out HNg.out HVr.out)
      clear hNm hNk hN4
      go_wp2_with fail
      refine HCALL.out.mono ?_
      clear HCALL
      rintro e w2 ⟨hf2, hk⟩
      rcases hk with ⟨rfl, hn2, hno⟩ | ⟨t, b2, x, rfl, he2, hgt, hn2, hle, hnv⟩
      · have HNO := hid hno
        have HN2 := hid hn2
        have HF2' := hid (HF.out.trans hf2)
        clear hno hn2 hf2 g0
        go_wp2
        go_ret
        refine ⟨HF2'.out, .inl ⟨rfl, HN2.out, fun d t x e => ?_⟩⟩
        rw [HT.out] at e
        exact no_more (gtL0_any _ _ _ HG.out) hlt2 (fun t' x' e' hg' _ _ _ => HNO.out (d + 1) t' x' e' hg') t x e
      · have HF2' := hid hf2
        have HE2 := hid he2
        have HGT := hid hgt
        have HN2 := hid hn2
        have HNV := hid hnv
        have hle' : k' + (rows t).length ≤ n := by have := HN.out; omega
        have hrp := rows_pos t
        have hsz2 := hf2.size
        have hB2 : w2.heap[B]? = some (.cells (nodeA q k ak bs.length ck) 108) := hf2.kept HX.out (by omega)
        have HB2 := hid hB2
        have y10 : w2.cell? ⟨B, 10, none⟩ = some (.slice ak bs.length ck) := cell_at hB2 10
        have HOW : Hid ((w2.alloc (.cells #[ptr b2] 81)).ownsRow (B + 1) 81 1 (.slice ak bs.length ck) bs.length (vals bs)) := (Fb.own HS1.out.row hf2 (by omega)).alloc _
        have hbn : bs.length ≤ 40 := by have := HVL.out; omega
        clear hf2 he2 hgt hn2 hnv hB2 hle g0
        go_wp2_with (at_builtin; refine wpList_append_own_at _ rfl (.tmp 34) (.tmp 36) 106 rfl (B + 1) 81 i0' (.pointer none) 1 8 Try.underlying106 hi hz0 hz1 hz2 rfl (by decide) _ _ _ rfl HOW.out ⟨w2.heap.size, 0, none⟩ 1 1 [ptr b2] rfl rfl ?d1 ?d2 ?d3 ?d4 ?d5 ?_)
        case d1 => exact Pat.one_row _ _ _
        case d2 => intro u hu; simp at hu; subst hu; rfl
        case d3 => unfold maxLen; omega
        case d4 => omega
        case d5 => simp; omega
        intro v3 w4 hown3 hgr3 _ hdd
        obtain ⟨a3, c3, rfl⟩ := Pat.own_form hown3
        have hB4 : w4.heap[B]? = some (.cells (nodeA q k ak bs.length ck) 108) :=
          (hgr3.block B (by simp; omega) (fun e => by have := (HS1.out.row.lt B e.symm).1; omega)).trans ((Below.heap_alloc _ _ _ (by omega)).trans HB2.out)
        have z10 : w4.cell? ⟨B, 10, none⟩ = some (.slice ak bs.length ck) := cell_at hB4 10
        have zf := froz_at hB4 10
        have HS4 := hid (HS1.out.next hwr (by omega) HF2'.out (by have := HNV.out; rw [HK2.out] at this; exact this) rfl hgr3 hown3 (by simpa using hdd) (.slice a3 (bs.length + 1) c3))
        have HX4 : Hid ((w4.setCell ⟨B, 10, none⟩ (.slice a3 (bs.length + 1) c3)).heap[B]? = some (.cells (nodeA q k a3 (bs.length + 1) c3) 108)) := set_at hB4
        have hro : ∀ g, (Value.slice ak bs.length ck).ownBlock = some g → B + 1 ≤ g := fun g e => (HS1.out.row.lt g e).1
        have HF4 : Hid (Fb Bn w (w4.setCell ⟨B, 10, none⟩ (.slice a3 (bs.length + 1) c3))) := Fb.tail (HF.out.trans HF2'.out) HBB.out hgr3 hro
        have HV4 : Hid (Vars Bn Bl Bg (some ⟨b, off, none⟩) ts.length c (k' + (rows t).length) (w4.setCell ⟨B, 10, none⟩ (.slice a3 (bs.length + 1) c3))) := HV.out.fb HF4.out HNl.out HNg.out (at_tail HN2.out hltn hgr3 hro)
        have HT4 : Hid ((ts.map pl).drop k = pl q :: (rowsL (ks ++ [t]) ++ (ts.map pl).drop (k' + (rows t).length))) := by
          unfold Hid
          have e2 : (ts.map pl).drop (k' + (rows t).length) = x := by rw [← List.drop_drop, HE2.out, List.drop_left]
          rw [HT.out, HE2.out, e2, rowsL_append]; simp [rowsL]
        have HG4 : Hid (GtL N0 1 (ks ++ [t])) := by unfold Hid; rw [GtL_append]; exact ⟨HG.out, by simp only [GtL]; exact ⟨gt0_any _ _ _ HGT.out, trivial⟩⟩
        have HK4 : Hid (k' + (rows t).length = k + 1 + (rowsL (ks ++ [t])).length) := by unfold Hid; rw [rowsL_append, HK2.out]; simp [rowsL]; omega
        have hj4 : ks.length + 1 ≤ n := by have := HVL.out; have := HK4.out; rw [rowsL_append] at this; have := rowsL_len ks; simp [rowsL] at *; omega
        clear hown3 hgr3 hdd hB4 hro
        go_wp2
        go_roundw
        case rel => exact ⟨ks ++ [t], bs ++ [b2], a3, c3, k' + (rows t).length, by simp, hle', by omega, HK4, HT4, HG4, by simp; omega, by simpa using hj4, HS4, by unfold Hid; simpa using HX4.out, HF4, HV4⟩
        case measure => simp [intOf]; omega
    · go_wp2
      go_ret
      refine ⟨HF.out, .inr ⟨.nd (pl q) ks, B, (ts.map pl).drop k', rfl, ?_, ?_, ?_, ?_, ?_⟩⟩
      · rw [HT.out]; simp [rows]
      · simp only [Gt]; exact ⟨by show q.kd = _; omega, trivial, gtL0_any _ _ _ HG.out⟩
      · rw [HVr.out.next, HK2.out]; simp [rows]; omega
      · simp [rows]; have := HN.out; have := HK2.out; omega
      · simp only [Nv]
        obtain ⟨g1, g2⟩ := HS1.out.all
        rw [← HBB.out]
        exact ⟨⟨Nat.le_refl _, by omega⟩, by omega, q, bs, ak, ck, rfl, HRQ.out, HX.out, g2, g1⟩
end Go.Proofs.Ytkjodikccehmkaa.Rou
