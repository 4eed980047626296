/- The model's l20For. -/
import Derived.Test.YtkjodikccehmkaaGreatRRqb
import Derived.Test.YtkjodikccehmkaaGreatRRK
namespace Go.Proofs.YtkjodikccehmkaaGreat.Rou
open Go.RowKit
open Go.Proofs.YtkjodikccehmkaaGreat.Lab (Lb HasL OfV goodL)
open Go.Proofs.YtkjodikccehmkaaGreat.Pat (goodM allM)
open Go.Proofs.YtkjodikccehmkaaGreat.Rwc

/-- Only the row that is handed over is written. -/
structure OR (v : Value) (w : World) (v' : Value) (w' : World) : Prop where
  os : w'.os = w.os
  tape : w'.tape = w.tape
  output : w'.output = w.output
  size : w.heap.size ≤ w'.heap.size
  block : ∀ b, b < w.heap.size → v.ownBlock ≠ some b → w'.heap[b]? = w.heap[b]?
  nb : v'.ownBlock = v.ownBlock ∨ ∀ g, v'.ownBlock = some g → w.heap.size ≤ g
theorem OR.refl (v : Value) (w : World) : OR v w v w := ⟨rfl, rfl, rfl, Nat.le_refl _, fun _ _ _ => rfl, .inl rfl⟩
theorem OR.of {v : Value} {w w' : World} (h : Below w.heap.size w w') : OR v w v w' := ⟨h.os, h.tape, h.output, h.size, fun b hb _ => h.block b hb, .inl rfl⟩
theorem OR.trans {v v' v'' : Value} {w w' w'' : World} (h : OR v w v' w') (k : OR v' w' v'' w'') : OR v w v'' w'' := by
  have hs := h.size
  refine ⟨k.os.trans h.os, k.tape.trans h.tape, k.output.trans h.output, Nat.le_trans h.size k.size, fun b hb h2 => (k.block b (by omega) (fun e => ?_)).trans (h.block b hb h2), ?_⟩
  · rcases h.nb with hn | hn
    · rw [hn] at e; exact h2 e
    · have := hn b e; omega
  · rcases k.nb with kn | kn
    · rcases h.nb with hn | hn
      · exact .inl (kn.trans hn)
      · exact .inr (fun g hg => hn g (by rw [← kn]; exact hg))
    · exact .inr (fun g hg => Nat.le_trans hs (kn g hg))
theorem OR.below {U X : Nat} {v v' : Value} {w0 w w' : World} (h : Below U w0 w) (k : OR v w v' w') (hw : U ≤ w.heap.size) (hv : ∀ g, v.ownBlock = some g → X ≤ g) (hX : U ≤ X) : Below U w0 w' :=
  ⟨k.os.trans h.os, k.tape.trans h.tape, k.output.trans h.output, Nat.le_trans h.size k.size, fun b hb => (k.block b (by omega) (fun e => by have := hv b e; omega)).trans (h.block b hb)⟩
theorem gt_one {t : Tr} {d : Nat} (h : Gt NR d t) (hd : 1 ≤ d) : Gt NR 1 t := by
  obtain ⟨a, b, c⟩ := gt_take t d h
  exact gt_make t 1 (gt0_any t _ _ a) b (by omega)
/-- The row at a place is the tree's first one. -/
theorem row_at {ts : List T} {k : Nat} {t : Tr} {x : List Pl} (h : (ts.map pl).drop k = rows t ++ x) : k < ts.length ∧ pl (ts.getD k t0) = t.r := by
  have hk : k < ts.length := by
    have := congrArg List.length h
    have := rows_pos t
    simp at *; omega
  refine ⟨hk, ?_⟩
  rw [drop_at hk] at h
  obtain ⟨r, ks⟩ := t
  simp only [rows, List.cons_append, List.cons.injEq] at h
  exact h.1
theorem drop_rows {ts : List T} {k : Nat} {y x : List Pl} (h : (ts.map pl).drop k = y ++ x) : (ts.map pl).drop (k + y.length) = x := by rw [← List.drop_drop, h, List.drop_left]
def ForOk (dm : Nat) : Prop := ∀ (t : Tr), dp t ≤ dm → ∀ (ts : List T) (a la : Option Addr) (c at_ nl lc d base : Nat) (l : List Lb) (w0 w : World) (av : Option Addr) (cv : Nat) (D : List Int) (x : List Pl),
  ts.length ≤ 1000 → Has w0 a ts → Fit ts → Sml ts → l.length = nl → goodL l = true → HasL w0 la l → Below w0.heap.size w0 w → w0.heap.size ≤ base → base ≤ w.heap.size → (ts.map pl).drop at_ = rows t ++ x → Gt NR d t → 1 ≤ d → D.length + (rows t).length ≤ 100000 → w.ownsRow base 3 1 (.slice av D.length cv) D.length (valI D) →
  Calls Tryz.prog 21 #[.slice a ts.length c, .int .i64 at_, .slice la nl lc, .slice av D.length cv] w fun e w' => ∃ v', e = .returned v' ∧ w'.ownsRow base 3 1 v' (D ++ tak l at_ t).length (valI (D ++ tak l at_ t)) ∧ OR (.slice av D.length cv) w v' w'
set_option maxHeartbeats 8000000 in
set_option maxRecDepth 100000 in
theorem for_step (dm : Nat) (IH : ForOk dm) : ForOk (dm + 1) := by
  rintro ⟨r, ks⟩ hdm ts a la c at_ nl lc d base l w0 w av cv D x h1000 hr hf hz hnl hgl hrl hb0 hba hbw hdr hg hd1 hDb hrow
  have HIH := hid IH
  have HR := hid hr
  have HF := hid hf
  have HZ := hid hz
  have HNL := hid hnl
  have HGL := hid hgl
  have HRL := hid hrl
  have HB0 := hid hb0
  have HROW := hid hrow
  have HBA : Hid (w0.heap.size ≤ base) := hba
  have hgk : GtL NR (d + 1) ks := by simp only [Gt] at hg; exact hg.2.2
  have HKD0 : Hid (r.kd = ks.length) := by simp only [Gt] at hg; exact hg.1
  have HGK := hid hgk
  have HD1 := hid hd1
  have hdk : dpL ks ≤ dm := by simp only [dp] at hdm; omega
  obtain ⟨hat, hpl⟩ := row_at hdr
  have HDR : Hid ((ts.map pl).drop (at_ + 1) = rowsL ks ++ x) := by
    have e : (ts.map pl).drop at_ = [r] ++ (rowsL ks ++ x) := by rw [hdr]; simp [rows]
    exact drop_rows e
  have hDk : D.length + (rowsL ks).length + 1 ≤ 100000 := by simp [rows] at hDb; omega
  have hkl : ks.length ≤ 1000 := by
    have := rowsL_len ks
    have e := congrArg List.length HDR.out
    simp at e; omega
  obtain ⟨n, hn⟩ : ∃ n, n = ts.length := ⟨_, rfl⟩
  have HN := hid hn
  rw [← hn] at h1000 hat ⊢
  obtain ⟨b, off, hab, hbl, hcl, _⟩ := HR.out.at2 at_ (by rw [← hn]; exact hat)
  have HKD : Hid ((ts.getD at_ t0).kd = ks.length) := by unfold Hid; rw [← HKD0.out, ← show (Tr.nd r ks).r = r from rfl, ← hpl]; rfl
  have HCL := hid hcl
  subst hab
  generalize ts.getD at_ t0 = q at *
  have hlv : ∀ g, (Value.slice av D.length cv).ownBlock = some g → base ≤ g := fun g e => (hrow.lt g e).1
  have HLV := hid hlv
  clear IH hr hf hz hnl hgl hrl hb0 hdr hg hgk hdm hDb hrow hn hcl hpl hd1 hba hlv
  have i1 : (at_ : Int) < (n : Int) := by omega
  go_enter Tryz.func21, Tryz.ntmps21
  go_wp2
  go_loopw [3, 10, 11, 12] (fun s3 s10 s11 s12 wr => ∃ (post : List Tr) (on : Bool) (Dk : List Int) (ak : Option Addr) (ck next k : Nat), s3 = .slice ak Dk.length ck ∧ s10 = .int .i64 next ∧ s11 = .bool on ∧ s12 = .int .i64 k ∧ Hid (k + post.length = ks.length) ∧ k ≤ 1000 ∧ next ≤ n ∧ Hid ((ts.map pl).drop next = rowsL post ++ x) ∧ Hid (GtL NR (d + 1) post) ∧ Hid (∀ t ∈ post, dp t ≤ dm) ∧ Hid (D ++ takL l true (at_ + 1) ks = Dk ++ takL l on next post) ∧ D.length ≤ Dk.length ∧ Dk.length + (rowsL post).length ≤ D.length + (rowsL ks).length ∧ Hid (wr.ownsRow base 3 1 (.slice ak Dk.length ck) Dk.length (valI Dk)) ∧ Hid (OR (.slice av D.length cv) w (.slice ak Dk.length ck) wr)) (fun _ _ _ s12 _ => ks.length - (intOf s12).toNat)
  case atStart =>
    refine ⟨ks, true, D, av, cv, at_ + 1, 0, rfl, by go_num, rfl, rfl, by unfold Hid; omega, by omega, by omega, HDR, HGK, fun t ht => ?_, rfl, Nat.le_refl _, by omega, HROW, OR.refl _ _⟩
    obtain ⟨pre, post, e⟩ := List.append_of_mem ht
    have := dpL_mid pre post t
    rw [← e] at this; omega
  case round =>
    obtain ⟨post, on, Dk, ak, ck, next, k, rfl, rfl, rfl, rfl, HKL, hk, hnx, HDN, HGP, HDP, HTK, hDl, hDs, HO, HC⟩ := hrel
    have HB : Hid (Below w0.heap.size w0 wr) := OR.below HB0.out HC.out (by have := HBA.out; omega) HLV.out HBA.out
    have x8 : wr.cell? ⟨b, off + at_ * 9 + 8, none⟩ = some (.int .i64 ks.length) := by rw [← HKD.out]; exact (HCL.out.below HB.out hbl).all.2.2.2.2.2.2.2.2
    cases post with
    | nil =>
      have hk0 : k = ks.length := by have := HKL.out; simpa using this
      have hnk : ¬ (k : Int) < (ks.length : Int) := by omega
      have HTE : Hid (D ++ takL l true (at_ + 1) ks = Dk) := by unfold Hid; rw [HTK.out]; simp [takL]
      by_cases he : Dk.length = D.length
      · have e0 : ((Dk.length : Int) == (D.length : Int)) = true := by simp [he]
        have hnil : takL l true (at_ + 1) ks = [] := by
          have := congrArg List.length HTE.out
          simp at this; exact List.length_eq_zero_iff.1 (by omega)
        have HAN : Hid (D ++ tak l at_ (.nd r ks) = Dk ++ [(at_ : Int)]) := by unfold Hid; rw [tak_nil hnil, ← HTE.out, hnil]; simp
        obtain ⟨i0, hi, hz0, hz1, hz2⟩ := info_parts info3'
        have HOW : Hid ((wr.alloc (.cells #[.int .i64 at_] 3)).ownsRow base 3 1 (.slice ak Dk.length ck) Dk.length (valI Dk)) := HO.out.alloc _
        have hDb : Dk.length ≤ 100000 := by omega
        have hsz := HC.out.size
        clear hnil he
        go_wp2_with (at_builtin; refine wpList_append_own_at _ rfl (.tmp 55) (.tmp 57) 26 rfl base 3 i0 (.int .i64 0) 1 8 Tryz.underlying26 hi hz0 hz1 hz2 rfl (by decide) _ _ _ rfl HOW.out ⟨wr.heap.size, 0, none⟩ 1 1 [.int .i64 at_] rfl rfl ?d1 ?d2 ?d3 ?d4 ?d5 ?_)
        case d2 => rfl
        case d3 => unfold maxLen; omega
        case d4 => omega
        case d5 => first | omega | (simp; omega)
        intro v3 w4 hown3 hgr3 _ hdd
        obtain ⟨a3, c3, rfl⟩ := Pat.own_form hown3
        have HO4 := hid hown3
        have HC4 : Hid (OR (.slice av D.length cv) w (.slice a3 (Dk.length + 1) c3) w4) := by
          have hal : Below wr.heap.size wr (wr.alloc (.cells #[.int .i64 at_] 3)) := (Below.refl _ _).alloc (Nat.le_refl _) _
          have h2 : OR (.slice ak Dk.length ck) wr (.slice a3 (Dk.length + 1) c3) w4 := by
            refine ⟨hgr3.os.trans hal.os, hgr3.tape.trans hal.tape, hgr3.output.trans hal.output, Nat.le_trans hal.size hgr3.size, fun y hy hno => (hgr3.block y (by have := hal.size; omega) (fun e => hno e.symm)).trans (hal.block y hy), ?_⟩
            rcases hdd with hd | hd
            · exact .inl hd
            · refine .inr (fun g e => ?_)
              rw [hd] at e; simp at e; omega
          exact HC.out.trans h2
        clear hown3 hgr3 hdd
        go_wp2
        go_ret
        refine ⟨_, rfl, ?_, HC4.out⟩
        have HAL := congrArg List.length HAN.out
        rw [List.length_append] at HAL
        first | rw [HAL, HAN.out] | (rw [HAN.out])
        simpa [valI] using HO4.out
      · have e0 : ((Dk.length : Int) == (D.length : Int)) = false := by simp; omega
        have hnn : takL l true (at_ + 1) ks ≠ [] := by
          intro h; have := congrArg List.length HTE.out; rw [h] at this; simp at this; omega
        have HAN : Hid (D ++ tak l at_ (.nd r ks) = Dk) := by unfold Hid; rw [tak_some hnn]; exact HTE.out
        clear hnn
        go_wp2
        go_ret
        refine ⟨_, rfl, ?_, HC.out⟩
        have HAL := congrArg List.length HAN.out
        rw [List.length_append] at HAL
        first | rw [HAL, HAN.out] | (rw [HAN.out])
        exact HO.out
    | cons t post =>
      have hkk : k < ks.length := by have := HKL.out; simp at this; omega
      have hkk' : (k : Int) < (ks.length : Int) := by omega
      have hdn : (ts.map pl).drop next = rows t ++ (rowsL post ++ x) := by rw [HDN.out]; simp [rowsL]
      obtain ⟨hnlt, hpl2⟩ := row_at hdn
      have hgt : Gt NR (d + 1) t := by have := HGP.out; simp only [GtL] at this; exact this.1
      have HGP2 : Hid (GtL NR (d + 1) post) := by have := HGP.out; simp only [GtL] at this; exact this.2
      have HDN2 : Hid ((ts.map pl).drop (next + (rows t).length) = rowsL post ++ x) := drop_rows hdn
      have HKL2 : Hid (k + 1 + post.length = ks.length) := by unfold Hid; have := HKL.out; simp at this; omega
      have hrl : (rowsL (t :: post)).length = (rows t).length + (rowsL post).length := by simp [rowsL]
      have hln : next + (rows t).length ≤ n := by
        have e := congrArg List.length hdn
        have := HN.out
        simp at e; omega
      have HTAKE := hid (take_ok 8 ts (some ⟨b, off, none⟩) c next 1 wr (by omega) (by omega) (by have := HN.out; omega) (by have := HN.out; omega) (HR.out.below HB.out) HF.out HZ.out)
      have HGTT := hid hgt
      have hg1 := gt_one hgt (by omega)
      have HG1 := hid hg1
      have HDNN := hid hdn
      rw [← HN.out] at HTAKE
      have hnlt' : next < n := by have := HN.out; omega
      have i2 : (next : Int) < (n : Int) := by omega
      obtain ⟨b2, off2, hab2, hbl2, hcl2, hl2⟩ := HR.out.at2 next hnlt
      simp only [Option.some.injEq, Addr.mk.injEq] at hab2
      obtain ⟨rfl, rfl, _⟩ := hab2
      have HPL2 := hid hpl2
      have HCL2 := hid hcl2
      have HL2 := hid hl2
      generalize ts.getD next t0 = q2 at *
      have hdt : dp t ≤ dm := HDP.out t (by simp)
      have HDP2 : Hid (∀ t ∈ post, dp t ≤ dm) := fun u hu => HDP.out u (by simp [hu])
      clear hdn hgt hg1 hpl2 hcl2 hl2 hnlt HGP HDN HKL HDP
      go_wp2_with fail
      refine HTAKE.out.mono ?_
      clear HTAKE
      rintro e w2 ⟨hb2, hk2⟩
      have HB2 := hid (HB.out.trans (hb2.mono HB.out.size))
      have HO2 := hid (own_below HO.out hb2)
      have HC2 := hid (HC.out.trans (OR.of hb2))
      have hsz2 := HC2.out.size
      rcases hk2 with ⟨rfl, hno⟩ | ⟨t2, x2, rfl, he2, hgt2, hle2⟩
      · exact absurd HG1.out (hno t _ HDNN.out)
      obtain ⟨rfl, _⟩ := rows_one NR NR t t2 1 1 _ _ HG1.out hgt2 (HDNN.out.symm.trans he2)
      obtain ⟨y0, y1, y2, y3, y4, y5, y6, y7, y8⟩ := (HCL2.out.below HB2.out hbl).all
      clear hb2 he2 hgt2 hle2 x8 HO HC
      have HLT : Hid (next + (rows t).length ≤ n ∧ k + 1 ≤ 1000 ∧ D.length ≤ Dk.length ∧ Dk.length + (rows t).length + (rowsL post).length ≤ D.length + (rowsL ks).length) := ⟨hln, by omega, hDl, by omega⟩
      have HTN : Hid ((on && fitP l t.r) = false → D ++ takL l true (at_ + 1) ks = Dk ++ takL l on (next + (rows t).length) post) := by
        intro h; rw [HTK.out]; simp [takL, h]
      cases on
      · have HTN2 := hid (HTN.out rfl)
        generalize (rows t).length = L at *
        go_wp2
        go_roundw
        case rel => exact ⟨post, false, Dk, ak, ck, next + L, k + 1, rfl, by go_num, rfl, by go_num, HKL2, HLT.out.2.1, HLT.out.1, HDN2, HGP2, HDP2, HTN2, HLT.out.2.2.1, by have := HLT.out.2.2.2; omega, HO2, HC2⟩
        case measure => simp [intOf]; omega
      have hms : q2.ms = t.r.ms := congrArg Pl.ms HPL2.out
      have hon2 : q2.on = t.r.on := congrArg Pl.on HPL2.out
      have HF2 : Hid (allM q2.ms (vl l) = fitP l t.r) := by unfold Hid fitP; rw [hms]
      have hok : okP t.r = true := by
        obtain ⟨r', k'⟩ := t
        have := HGTT.out; simp only [Gt] at this; exact this.2.1.1
      have HCF := hid (Pat.f39 q2.ma la q2.ms.length q2.mc nl lc q2.ms l (vl l) w2 rfl HNL.out ((HL2.out.below HB2.out).m) (HRL.out.below HB2.out) (by rw [hms]; exact ok_match hok) (Lab.good_iff HGL.out) (vl_of l))
      rw [HF2.out] at HCF
      have HON := hid hon2
      clear hms hok hon2
      cases hfit : fitP l t.r
      · rw [hfit] at HCF
        have HTN2 := hid (HTN.out (by simp [hfit]))
        clear hfit
        generalize (rows t).length = L at *
        go_wp2_with fail
        refine HCF.out.mono ?_
        rintro e w3 ⟨rfl, hb3⟩
        have HO3 := hid (own_below HO2.out hb3)
        have HC3 := hid (HC2.out.trans (OR.of hb3))
        clear hb3 HCF
        go_wp2
        go_roundw
        case rel => exact ⟨post, true, Dk, ak, ck, next + L, k + 1, rfl, by go_num, rfl, by go_num, HKL2, HLT.out.2.1, HLT.out.1, HDN2, HGP2, HDP2, HTN2, HLT.out.2.2.1, by have := HLT.out.2.2.2; omega, HO3, HC3⟩
        case measure => simp [intOf]; omega
      · rw [hfit] at HCF
        have HTY : Hid (D ++ takL l true (at_ + 1) ks = (Dk ++ tak l next t) ++ takL l t.r.on (next + (rows t).length) post) := by
          unfold Hid; rw [HTK.out]; simp [takL, hfit]
        clear hfit
        have htl := tak_len l _ t next (Nat.le_refl _)
        have hDk3 : Dk.length + (rows t).length ≤ 100000 := by have := HLT.out.2.2.2; omega
        go_wp2_with fail
        refine HCF.out.mono ?_
        rintro e w3 ⟨rfl, hb3⟩
        have HB3 := hid (HB2.out.trans (hb3.mono HB2.out.size))
        have HO3 := hid (own_below HO2.out hb3)
        have HC3 := hid (HC2.out.trans (OR.of hb3))
        have hsz3 := HC3.out.size
        have HREC := hid (HIH.out t hdt ts (some ⟨b, off, none⟩) la c next nl lc (d + 1) base l w0 w3 ak ck Dk _ (by have := HN.out; omega) HR.out HF.out HZ.out HNL.out HGL.out HRL.out HB3.out HBA.out (by omega) HDNN.out HGTT.out (by omega) hDk3 HO3.out)
        rw [← HN.out] at HREC
        clear hb3 HCF y0 y1 y2 y3 y4 y5 y6 y7 y8
        go_wp2_with fail
        refine HREC.out.mono ?_
        clear HREC
        rintro e w4 ⟨v4, rfl, ho4, hc4⟩
        have HC4 := hid (HC3.out.trans hc4)
        have HB4 : Hid (Below w0.heap.size w0 w4) := OR.below HB0.out HC4.out (by have := HBA.out; omega) HLV.out HBA.out
        obtain ⟨a4, c4, hv4⟩ : ∃ a c, v4 = .slice a (Dk ++ tak l next t).length c := by
          obtain ⟨a', c', e⟩ := Pat.own_form ho4; exact ⟨a', c', e⟩
        subst hv4
        have HO4 := hid ho4
        obtain ⟨y0, y1, y2, y3, y4, y5, y6, y7, y8⟩ := (HCL2.out.below HB4.out hbl).all
        rw [HON.out] at y7
        have hbound : D.length ≤ (Dk ++ tak l next t).length ∧ (Dk ++ tak l next t).length + (rowsL post).length ≤ D.length + (rowsL ks).length := by
          have := HLT.out.2.2; rw [List.length_append]; omega
        clear ho4 hc4 htl
        generalize (Dk ++ tak l next t) = D4 at *
        generalize (rows t).length = L at *
        generalize t.r.on = on2 at *
        go_wp2
        go_roundw
        case rel => exact ⟨post, on2, D4, a4, c4, next + L, k + 1, rfl, by go_num, rfl, by go_num, HKL2, HLT.out.2.1, HLT.out.1, HDN2, HGP2, HDP2, HTY, hbound.1, hbound.2, HO4, HC4⟩
        case measure => simp [intOf]; omega
theorem for_ok : ∀ dm, ForOk dm
  | 0 => by rintro ⟨r, ks⟩ h; simp [dp] at h
  | dm + 1 => for_step dm (for_ok dm)
end Go.Proofs.YtkjodikccehmkaaGreat.Rou
