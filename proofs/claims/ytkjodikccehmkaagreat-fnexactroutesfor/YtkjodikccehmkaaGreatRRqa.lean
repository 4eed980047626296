/- Which routes take labels, told plainly; the kids of a node that are come to. -/
import Derived.Test.YtkjodikccehmkaaGreatRRtj
import Derived.Test.YtkjodikccehmkaaGreatRFJ
namespace Go.Proofs.YtkjodikccehmkaaGreat.Rou
open Go.RowKit
open Go.Proofs.YtkjodikccehmkaaGreat.Lab (Lb HasL OfV goodL)
open Go.Proofs.YtkjodikccehmkaaGreat.Pat (goodM allM)
open Go.Proofs.YtkjodikccehmkaaGreat.Rwc

noncomputable def vl (ls : List Lb) (x : ByteArray) : ByteArray := Classical.choose (Lab.has_of ls x)
theorem vl_of (ls : List Lb) (x : ByteArray) : OfV ls x (vl ls x) := Classical.choose_spec (Lab.has_of ls x)
noncomputable def fitP (l : List Lb) (r : Pl) : Bool := allM r.ms (vl l)
mutual
/-- The numbers of the routes of a tree that take labels; its first route has the number i. -/
noncomputable def tak (l : List Lb) : Nat → Tr → List Int
  | i, .nd _ ks => match takL l true (i + 1) ks with
    | [] => [(i : Int)]
    | x :: xs => x :: xs
noncomputable def takL (l : List Lb) : Bool → Nat → List Tr → List Int
  | _, _, [] => []
  | on, i, t :: ts => if (on && fitP l t.r) = true then tak l i t ++ takL l t.r.on (i + (rows t).length) ts else takL l on (i + (rows t).length) ts
end
theorem tak_nil {l : List Lb} {i : Nat} {r : Pl} {ks : List Tr} (h : takL l true (i + 1) ks = []) : tak l i (.nd r ks) = [(i : Int)] := by simp only [tak, h]
theorem tak_some {l : List Lb} {i : Nat} {r : Pl} {ks : List Tr} (h : takL l true (i + 1) ks ≠ []) : tak l i (.nd r ks) = takL l true (i + 1) ks := by
  simp only [tak]
  cases hx : takL l true (i + 1) ks
  · exact absurd hx h
  · rfl
theorem tak_ne (l : List Lb) (i : Nat) (t : Tr) : tak l i t ≠ [] := by
  obtain ⟨r, ks⟩ := t
  by_cases h : takL l true (i + 1) ks = []
  · rw [tak_nil h]; simp
  · rw [tak_some h]; exact h
theorem takL_off (l : List Lb) : ∀ (ts : List Tr) (i : Nat), takL l false i ts = []
  | [], _ => by simp [takL]
  | t :: ts, i => by simp [takL, takL_off l ts]
/-- The kids that are come to: their numbers, their trees, their blocks. -/
noncomputable def chs (l : List Lb) : Bool → Nat → List Tr → List Nat → List (Nat × Tr × Nat)
  | _, _, [], _ => []
  | _, _, _ :: _, [] => []
  | on, i, t :: ts, b :: bs => if (on && fitP l t.r) = true then (i, t, b) :: chs l t.r.on (i + (rows t).length) ts bs else chs l on (i + (rows t).length) ts bs
theorem chs_off (l : List Lb) : ∀ (ts : List Tr) (i : Nat) (bs : List Nat), chs l false i ts bs = []
  | [], _, _ => by simp [chs]
  | _ :: _, _, [] => by simp [chs]
  | t :: ts, i, b :: bs => by simp [chs, chs_off l ts]
theorem takL_chs (l : List Lb) : ∀ (ts : List Tr) (on : Bool) (i : Nat) (bs : List Nat), bs.length = ts.length → takL l on i ts = (chs l on i ts bs).flatMap (fun x => tak l x.1 x.2.1)
  | [], _, _, _, _ => by simp [takL, chs]
  | _ :: _, _, _, [], h => by simp at h
  | t :: ts, on, i, b :: bs, h => by
    have e := fun o => takL_chs l ts o (i + (rows t).length) bs (by simpa using h)
    simp only [takL, chs]
    split
    · rw [List.flatMap_cons, e]
    · exact e on
theorem chs_nv {w0 w : World} {S : Nat → Prop} (l : List Lb) : ∀ (ts : List Tr) (on : Bool) (i : Nat) (bs : List Nat), NvL w0 S w i ts bs → ∀ x ∈ chs l on i ts bs, Nv w0 S w x.1 x.2.1 x.2.2 ∧ x.2.1 ∈ ts
  | [], _, _, _, _, x, hx => by simp [chs] at hx
  | t :: ts, on, i, bs, h, x, hx => by
    simp only [NvL] at h
    obtain ⟨b, bs', rfl, h2, h3⟩ := h
    have ih := fun o hx => chs_nv l ts o (i + (rows t).length) bs' h3 x hx
    simp only [chs] at hx
    split at hx
    · simp only [List.mem_cons] at hx
      rcases hx with rfl | hx
      · exact ⟨h2, by simp⟩
      · obtain ⟨a, b⟩ := ih _ hx; exact ⟨a, List.mem_cons_of_mem _ b⟩
    · obtain ⟨a, b⟩ := ih _ hx; exact ⟨a, List.mem_cons_of_mem _ b⟩
theorem chs_len (l : List Lb) : ∀ (ts : List Tr) (on : Bool) (i : Nat) (bs : List Nat), (chs l on i ts bs).length ≤ ts.length
  | [], _, _, _ => by simp [chs]
  | _ :: _, _, _, [] => by simp [chs]
  | t :: ts, on, i, b :: bs => by
    have e := fun o => chs_len l ts o (i + (rows t).length) bs
    simp only [chs]
    split
    · have := e t.r.on; simp; omega
    · have := e on; simp; omega
theorem ok_match {r : Pl} (h : okP r = true) : goodM r.ms = true := by
  unfold okP at h
  cases hh : goodM r.ms
  · simp [hh] at h
  · rfl
theorem infoP : (Tryz.prog.info? 56).map (fun i => (i.zero, i.size, i.bytes)) = some (some (.pointer none), 1, 8) := by kernel_rfl
theorem len_rows {t : Tr} {ts : List Tr} (h : t ∈ ts) : (rows t).length ≤ (rowsL ts).length := by
  obtain ⟨pre, post, rfl⟩ := List.append_of_mem h
  have := rows_mid pre post t
  omega
set_option maxHeartbeats 8000000 in
theorem f51 (la : Option Addr) (nl lc : Nat) (l : List Lb) (w0 w : World) (S : Nat → Prop) (i b d : Nat) (r : Pl) (ks : List Tr) (hn : Nv w0 S w i (.nd r ks) b) (hg : GtL NR d ks) (hz : (rowsL ks).length ≤ 1000) (hb0 : Below w0.heap.size w0 w) (hnl : l.length = nl) (hgl : goodL l = true) (hrl : HasL w la l) :
    Calls Tryz.prog 51 #[ptr b, .slice la nl lc] w fun e w' => ∃ (bs : List Nat) (v : Value), NvL w0 S w (i + 1) ks bs ∧ e = .returned v ∧ w'.ownsRow w.heap.size 56 1 v (chs l true (i + 1) ks bs).length (vals ((chs l true (i + 1) ks bs).map (·.2.2))) ∧ Below w.heap.size w w' := by
  simp only [Nv] at hn
  obtain ⟨hb1, hb2, q, bs, ak, ck, hp, hrw, hx, hhv, hl⟩ := hn
  have HX := hid hx
  have HHV := hid hhv
  have HL := hid hl
  have HLN := hid (NvL.len _ _ _ hl)
  have HG := hid hg
  have HB0 := hid hb0
  have HNL := hid hnl
  have HGL := hid hgl
  have HRL := hid hrl
  have hzk : ks.length ≤ 1000 := Nat.le_trans (rowsL_len ks) hz
  have hbl : bs.length ≤ 1000 := by have := HLN.out; omega
  have x10 : w.cell? ⟨b, 10, none⟩ = some (.slice ak bs.length ck) := cell_at hx 10
  obtain ⟨i0, hi, hz0, hz1, hz2⟩ := info_parts infoP
  have HO0 : Hid (w.ownsRow w.heap.size 56 1 (.slice none 0 0) 0 (vals (([] : List (Nat × Tr × Nat)).map (·.2.2)))) := World.ownsRow_nil _ _ _ _
  clear hx hhv hl hg hb0 hnl hgl hrl hp hrw hz
  go_enter Tryz.func51, Tryz.ntmps51
  go_wp2
  go_loopw [5, 13] (fun s5 s13 wr => ∃ (k i' : Nat) (ts' : List Tr) (bs' : List Nat) (outs : List (Nat × Tr × Nat)) (ao : Option Addr) (co : Nat), s5 = .slice ao outs.length co ∧ s13 = .int .i64 k ∧ k ≤ bs.length ∧ outs.length ≤ k ∧ Hid (k + ts'.length = ks.length) ∧ Hid (NvL w0 S w i' ts' bs') ∧ Hid (∀ j : Nat, bs'[j]? = bs[k + j]?) ∧ Hid (GtL NR d ts') ∧ Hid (chs l true (i + 1) ks bs = outs ++ chs l true i' ts' bs') ∧ Hid (wr.ownsRow w.heap.size 56 1 (.slice ao outs.length co) outs.length (vals (outs.map (·.2.2)))) ∧ Hid (Below w.heap.size w wr)) (fun _ s13 _ => bs.length - (intOf s13).toNat)
  case atStart => exact ⟨0, i + 1, ks, bs, [], none, 0, rfl, rfl, Nat.zero_le _, Nat.le_refl _, by unfold Hid; omega, HL, fun j => by rw [Nat.zero_add], HG, rfl, HO0, Below.refl _ _⟩
  case round =>
    clear HO0
    obtain ⟨k, i', ts', bs', outs, ao, co, rfl, rfl, hk, hol, HKT, HN, HBS, HGT, HCH, HO, HB⟩ := hrel
    by_cases hlt : k < bs.length
    · rcases HHV.out with hzv | ⟨g, off, rfl, hg1, hg2, hg3⟩
      · exact absurd hlt (by have := congrArg List.length hzv; rw [vals_len] at this; simp at this; rw [this]; simp)
      cases ts' with
      | nil => exact absurd HKT.out (by simp; have := HLN.out; omega)
      | cons t ts2 =>
      have hn2 := HN.out
      simp only [NvL] at hn2
      obtain ⟨b', bs2, hbe, hnv, hn3⟩ := hn2
      subst hbe
      have hbk : bs[k]? = some b' := by have := HBS.out 0; simpa using this.symm
      have y1 : wr.cell? ⟨g, off + k, none⟩ = some (ptr b') := by
        refine (HB.out.cell (by exact hg2)).trans ?_
        rw [hg3 k (by rw [vals_len]; exact hlt)]; exact vals_get hbk
      obtain ⟨rt, kt⟩ := t
      simp only [Nv] at hnv
      obtain ⟨_, hb2', q', bq, aq, cq, hpq, hrq, hxq, _, _⟩ := hnv
      obtain ⟨x0, x1, x2, x3, x4, x5, x6, x7, x8, x9, x10'⟩ := cellsE (kept hxq HB.out)
      have hok : okP rt = true := by have := HGT.out; simp only [GtL, Gt] at this; exact this.1.2.1.1
      have hms : q'.ms = rt.ms := congrArg Pl.ms hpq
      have hon : q'.on = rt.on := congrArg Pl.on hpq
      have HF : Hid (allM q'.ms (vl l) = fitP l rt) := by unfold Hid fitP; rw [hms]
      have HC := hid (Pat.f74 q'.ma la q'.ms.length q'.mc nl lc q'.ms l (vl l) wr rfl HNL.out (by rw [hms]; exact ok_match hok) HGL.out ((hrq.at_ HB0.out).m.below HB.out) (HRL.out.below HB.out) (vl_of l))
      rw [HF.out] at HC
      have HON := hid hon
      have HN3 := hid hn3
      have HGT2 : Hid (GtL NR d ts2) := by have := HGT.out; simp only [GtL] at this; exact this.2
      have HBS2 : Hid (∀ j : Nat, bs2[j]? = bs[k + 1 + j]?) := fun j => by have := HBS.out (j + 1); simpa [Nat.add_assoc, Nat.add_comm, Nat.add_left_comm] using this
      have HKT2 : Hid (k + 1 + ts2.length = ks.length) := by unfold Hid; have := HKT.out; simp at this; omega
      have HCY : Hid (fitP l rt = true → chs l true (i + 1) ks bs = (outs ++ [(i', .nd rt kt, b')]) ++ chs l rt.on (i' + (rows (.nd rt kt)).length) ts2 bs2) := fun h => by
        rw [HCH.out]; simp [chs, Tr.r, h]
      have HCN : Hid (fitP l rt = false → chs l true (i + 1) ks bs = outs ++ chs l true (i' + (rows (.nd rt kt)).length) ts2 bs2) := fun h => by
        rw [HCH.out]; simp [chs, Tr.r, h]
      clear hxq hrq hpq hn3 hms hok hbk HN HGT HBS HCH HKT hon
      generalize (rows (.nd rt kt)).length = L at *
      cases hfit : fitP l rt
      · rw [hfit] at HC
        have HCN2 := hid (HCN.out hfit)
        clear hfit
        go_wp2_with fail
        refine HC.out.mono ?_
        rintro e w2 ⟨rfl, hb2⟩
        have HB2 := hid (HB.out.trans (hb2.mono HB.out.size))
        have HO2 := hid (own_below HO.out hb2)
        clear hb2 HC
        go_wp2
        go_roundw
        case rel => exact ⟨k + 1, i' + L, ts2, bs2, outs, ao, co, rfl, by go_num, by omega, by omega, HKT2, HN3, HBS2, HGT2, HCN2, HO2, HB2⟩
        case measure => simp [intOf]; omega
      · rw [hfit] at HC
        have HCY2 := hid (HCY.out hfit)
        clear hfit
        go_wp2_with fail
        refine HC.out.mono ?_
        rintro e w2 ⟨rfl, hb2⟩
        have HB2 := hid (HB.out.trans (hb2.mono HB.out.size))
        have HO2 : Hid ((w2.alloc (.cells #[ptr b'] 56)).ownsRow w.heap.size 56 1 (.slice ao outs.length co) outs.length (vals (outs.map (·.2.2)))) := (own_below HO.out hb2).alloc _
        have hbw : b' < wr.heap.size := Nat.lt_of_lt_of_le hb2' HB.out.size
        have y7 : w2.cell? ⟨b', 7, none⟩ = some (.bool q'.on) := (hb2.cell (by exact hbw)).trans x7
        have hb2w : b' < w2.heap.size := Nat.lt_of_lt_of_le hbw hb2.size
        clear hb2 HC x0 x1 x2 x3 x4 x5 x6 x7 x8 x9 x10' y1
        go_wp2_with (at_builtin; refine wpList_append_own_at _ rfl (.tmp 25) (.tmp 27) 74 rfl w.heap.size 56 i0 (.pointer none) 1 8 Tryz.underlying74 hi hz0 hz1 hz2 rfl (by decide) _ _ _ rfl HO2.out ⟨w2.heap.size, 0, none⟩ 1 1 [ptr b'] rfl rfl ?d1 ?d2 ?d3 ?d4 ?d5 ?_)
        case d1 => exact Pat.one_row _ _ _
        case d2 => intro u hu; simp at hu; subst hu; rfl
        case d3 => unfold maxLen; omega
        case d4 => omega
        case d5 => have := HB2.out.size; simp; omega
        intro v3 w4 hown3 hgr3 _ _
        obtain ⟨a3, c3, rfl⟩ := Pat.own_form hown3
        have hro : ∀ g, (Value.slice ao outs.length co).ownBlock = some g → w.heap.size ≤ g := fun g e => (HO2.out.lt g e).1
        have HB4 : Hid (Below w.heap.size w w4) := (HB2.out.alloc HB2.out.size _).grown hgr3 (by have := HB2.out.size; simp; omega) hro
        have y7' : w4.cell? ⟨b', 7, none⟩ = some (.bool q'.on) := by
          have h1 : (w2.alloc (.cells #[ptr b'] 56)).cell? ⟨b', 7, none⟩ = some (.bool q'.on) := (((Below.refl w2.heap.size w2).alloc (Nat.le_refl _) _).cell (by exact hb2w)).trans y7
          refine (cell_of (p := ⟨b', 7, none⟩) (hgr3.block b' (by simp; omega) (fun e => ?_))).trans h1
          have := hro b' e.symm; omega
        have HO4 : Hid (w4.ownsRow w.heap.size 56 1 (.slice a3 (outs ++ [(i', Tr.nd rt kt, b')]).length c3) (outs ++ [(i', Tr.nd rt kt, b')]).length (vals ((outs ++ [(i', Tr.nd rt kt, b')]).map (·.2.2)))) := by
          unfold Hid; simpa [vals] using hown3
        clear hown3 hgr3 hro y7
        cases hon : rt.on
        · rw [hon, chs_off, List.append_nil] at HCY2
          rw [HON.out, hon] at y7'
          clear hon
          go_wp2
          go_ret
          exact ⟨bs, _, HL.out, rfl, by rw [HCY2.out]; simpa using HO4.out, HB4.out⟩
        · rw [hon] at HCY2
          rw [HON.out, hon] at y7'
          clear hon
          go_wp2
          go_roundw
          case rel => exact ⟨k + 1, i' + L, ts2, bs2, outs ++ [(i', Tr.nd rt kt, b')], a3, c3, by simp, by go_num, by omega, by simp; omega, HKT2, HN3, HBS2, HGT2, HCY2, HO4, HB4⟩
          case measure => simp [intOf]; omega
    · have ht0 : ts' = [] := List.length_eq_zero_iff.1 (by have := HKT.out; have := HLN.out; omega)
      subst ht0
      have HCE : Hid (chs l true (i + 1) ks bs = outs) := by unfold Hid; rw [HCH.out]; simp [chs]
      go_wp2
      go_ret
      exact ⟨bs, _, HL.out, rfl, by rw [HCE.out]; exact HO.out, HB.out⟩
end Go.Proofs.YtkjodikccehmkaaGreat.Rou
