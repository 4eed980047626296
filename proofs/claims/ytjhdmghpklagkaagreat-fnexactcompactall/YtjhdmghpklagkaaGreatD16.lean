/- A heap of lanes of series: a lane sinks. -/
import Derived.Test.YtjhdmghpklagkaaGreatD07
import Derived.Test.YtjhdmghpklagkaaGreatD15
namespace Go.Proofs.YtjhdmghpklagkaaGreat.Hpl
open Go.RowKit
open Go.Proofs.YtjhdmghpklagkaaGreat.Stb
open Go.Proofs.YtjhdmghpklagkaaGreat.Lab (orC two0 two1)
open Go.Proofs.YtjhdmghpklagkaaGreat.Str (numC)
variable {α : Type}

abbrev RowL (Y : Lay α) (base g c n : Nat) (H : List α) (w : World) : Prop := w.ownsRow base 156 2 (.slice (some ⟨g, 0, none⟩) n c) n (flat2 Y.enc H)
theorem rowL_len {Y : Lay α} {base g c n : Nat} {H : List α} {w : World} (h : RowL Y base g c n H w) : H.length = n := by
  have := h.1
  rw [flat2_len] at this
  omega
theorem split_l {d : List α} {i : Nat} (x0 : α) (h : i < d.length) : d = d.take i ++ d.getD i x0 :: d.drop (i + 1) := by
  have e : d.getD i x0 = d[i] := by simp [h]
  rw [e, List.getElem_cons_drop, List.take_append_drop]
theorem get_mem {L : List α} {i : Nat} (x0 : α) (h : i < L.length) : L.getD i x0 ∈ L := by
  have e : L.getD i x0 = L[i] := by simp [h]
  rw [e]; exact List.getElem_mem h
theorem rowL_get {Y : Lay α} {base g c n : Nat} {H : List α} {w : World} (x0 : α) (h : RowL Y base g c n H w) {i : Nat} (hi : i < H.length) : w.cell? ⟨g, i * 2, none⟩ = some (Y.enc (H.getD i x0)).1 ∧ w.cell? ⟨g, i * 2 + 1, none⟩ = some (Y.enc (H.getD i x0)).2 := by
  have hl := rowL_len h
  have h2 : RowL Y base g c n (H.take i ++ H.getD i x0 :: H.drop (i + 1)) w := by rw [← split_l x0 hi]; exact h
  obtain ⟨e1, e2⟩ := flat2_get Y.enc (H.take i) (H.drop (i + 1)) (H.getD i x0)
  have hk : (H.take i).length = i := by simp; omega
  rw [hk] at e1 e2
  exact ⟨(h2.cellAt (i * 2) (by omega)).trans e1, (h2.cellAt (i * 2 + 1) (by omega)).trans e2⟩
theorem rowL_set {Y : Lay α} {base g c n : Nat} {H : List α} {w : World} (x0 : α) (h : RowL Y base g c n H w) {i : Nat} (hi : i < H.length) (y : α) : RowL Y base g c n (H.set i y) ((w.setCell ⟨g, i * 2, none⟩ (Y.enc y).1).setCell ⟨g, i * 2 + 1, none⟩ (Y.enc y).2) := by
  have h2 : RowL Y base g c n (H.take i ++ H.getD i x0 :: H.drop (i + 1)) w := by rw [← split_l x0 hi]; exact h
  have h3 := ((h2.stored (i * 2) (Y.enc y).1).1.stored (i * 2 + 1) (Y.enc y).2).1
  have hk : (H.take i).length = i := by simp; omega
  have e := flat2_set Y.enc (H.take i) (H.drop (i + 1)) (H.getD i x0) y
  rw [hk] at e
  rw [e] at h3
  have e2 : H.set i y = H.take i ++ y :: H.drop (i + 1) := by rw [List.set_eq_take_append_cons_drop, if_pos hi]
  rw [e2]; exact h3
theorem rowL_swp {Y : Lay α} {base g c n : Nat} {H : List α} {w : World} (d : α) (h : RowL Y base g c n H w) {i f : Nat} (hi : i < H.length) (hf : f < H.length) : RowL Y base g c n (swp d H i f) ((((w.setCell ⟨g, i * 2, none⟩ (Y.enc (H.getD f d)).1).setCell ⟨g, i * 2 + 1, none⟩ (Y.enc (H.getD f d)).2).setCell ⟨g, f * 2, none⟩ (Y.enc (H.getD i d)).1).setCell ⟨g, f * 2 + 1, none⟩ (Y.enc (H.getD i d)).2) :=
  rowL_set d (rowL_set d h hi (H.getD f d)) (by simpa using hf) (H.getD i d)
theorem rowL_drew {Y : Lay α} {base g c n : Nat} {H : List α} {w : World} (h : RowL Y base g c n H w) : RowL Y base g c n H w.drew := h
theorem rowL_below {Y : Lay α} {base g c n : Nat} {H : List α} {w w' : World} (h : RowL Y base g c n H w) (hb : Below w.heap.size w w') : RowL Y base g c n H w' :=
  h.kept (row := none) ⟨hb.os, hb.tape, hb.output, hb.size, fun k hk _ => hb.block k hk⟩ (.inr (by intro e; cases e))
theorem set_box {w : World} {hb g : Nat} {v : Value} (hne : hb ≠ g) (o1 o2 : Nat) (u1 u2 : Value) (h : w.cell? ⟨hb, 0, none⟩ = some v) : ((w.setCell ⟨g, o1, none⟩ u1).setCell ⟨g, o2, none⟩ u2).cell? ⟨hb, 0, none⟩ = some v := by
  have hg := gr_set (gr_set (gr_refl w g) o1 u1) o2 u2
  exact cell_gr hg hne h
structure Par (lt : α → α → Bool) (d : α) (H : List α) (i f b : Nat) : Prop where
  is : f = i ∨ Kid i f ∧ f < H.length
  self : lt (H.getD i d) (H.getD f d) = false
  kid : ∀ c, c < b → Kid i c → c < H.length → lt (H.getD c d) (H.getD f d) = false
theorem Par.start {lt : α → α → Bool} (O : Ord lt) {d : α} {H : List α} {i : Nat} : Par lt d H i i (2 * i + 1) := by
  refine ⟨.inl rfl, ?_, fun c hc hk _ => by unfold Kid at hk; omega⟩
  cases h1 : lt (H.getD i d) (H.getD i d) with
  | false => rfl
  | true => rw [O.asym _ _ h1] at h1; cases h1
theorem Par.go {lt : α → α → Bool} (O : Ord lt) {d : α} {H : List α} {i f b : Nat} (h : Par lt d H i f b) (hk : Kid i b) (hb : b < H.length) (e : lt (H.getD b d) (H.getD f d) = true) : Par lt d H i b (b + 1) := by
  have e2 := O.asym _ _ e
  refine ⟨.inr ⟨hk, hb⟩, O.ntrans _ _ _ h.self e2, fun c hc hkc hcl => ?_⟩
  by_cases hcb : c = b
  · subst hcb
    cases h1 : lt (H.getD c d) (H.getD c d) with
    | false => rfl
    | true => rw [O.asym _ _ h1] at h1; cases h1
  · exact O.ntrans _ _ _ (h.kid c (by omega) hkc hcl) e2
theorem Par.stay {lt : α → α → Bool} {d : α} {H : List α} {i f b : Nat} (h : Par lt d H i f b) (hk : Kid i b) (e : lt (H.getD b d) (H.getD f d) = false) : Par lt d H i f (b + 1) := by
  refine ⟨h.is, h.self, fun c hc hkc hcl => ?_⟩
  by_cases hcb : c = b
  · subst hcb; exact e
  · exact h.kid c (by omega) hkc hcl
theorem Par.done {lt : α → α → Bool} {d : α} {H : List α} {i f b : Nat} (h : Par lt d H i f b) (hb : 2 * i + 3 ≤ b ∨ H.length ≤ b) : Fst lt d H i f :=
  ⟨h.is, h.self, fun c hk hc => h.kid c (by unfold Kid at hk; omega) hk hc⟩
theorem Par.lt_len {lt : α → α → Bool} {d : α} {H : List α} {i f b : Nat} (h : Par lt d H i f b) (hi : i < H.length) : f < H.length := by
  rcases h.is with e | e
  · omega
  · exact e.2
theorem Par.zero {lt : α → α → Bool} {d : α} {H : List α} {i f b : Nat} (h : Par lt d H i f b) (hn : H.length = 0) : f = i := by
  rcases h.is with e | e
  · exact e
  · omega
abbrev S4 (Y : Lay α) (hb g c n b f : Nat) (xb xf : α) (w W : World) : Prop :=
  W.cell? ⟨hb, 0, none⟩ = some (.slice (some ⟨g, 0, none⟩) n c) ∧ W.cell? ⟨g, b * 2, none⟩ = some (Y.enc xb).1 ∧ W.cell? ⟨g, b * 2 + 1, none⟩ = some (Y.enc xb).2 ∧ W.cell? ⟨g, f * 2, none⟩ = some (Y.enc xf).1 ∧ W.cell? ⟨g, f * 2 + 1, none⟩ = some (Y.enc xf).2 ∧ Below w.heap.size w W
theorem S4.drew {Y : Lay α} {hb g c n b f : Nat} {xb xf : α} {w W : World} (h : S4 Y hb g c n b f xb xf w W) : S4 Y hb g c n b f xb xf w W.drew := ⟨h.1, h.2.1, h.2.2.1, h.2.2.2.1, h.2.2.2.2.1, h.2.2.2.2.2.trans ((Below.refl _ W).drew)⟩
theorem S4.below {Y : Lay α} {hb g c n b f : Nat} {xb xf : α} {w W W' : World} (h : S4 Y hb g c n b f xb xf w W) (k : Below W.heap.size W W') : S4 Y hb g c n b f xb xf w W' := ⟨cell_below k h.1, cell_below k h.2.1, cell_below k h.2.2.1, cell_below k h.2.2.2.1, cell_below k h.2.2.2.2.1, h.2.2.2.2.2.trans (k.mono h.2.2.2.2.2.size)⟩
theorem S4.bel {Y : Lay α} {hb g c n b f : Nat} {xb xf : α} {w W : World} (h : S4 Y hb g c n b f xb xf w W) : Below w.heap.size w W := h.2.2.2.2.2
set_option maxHeartbeats 4000000 in
set_option maxRecDepth 100000 in
theorem fSink (Y : Lay α) (O : Ord Y.lt) (d : α) (base g c n hb ii s : Nat) (H D : List α) (w0 w : World) (hn : n ≤ 1048576) (L : Lok Y w0 g D) (hD : ∀ x ∈ H, x ∈ D) (hg : w0.grownBy w (some g)) (hne : hb ≠ g) (b0 : w.cell? ⟨hb, 0, none⟩ = some (.slice (some ⟨g, 0, none⟩) n c)) (b1 : w.cell? ⟨hb, 1, none⟩ = some fvH) (hr : RowL Y base g c n H w) (hs : Sft Y.lt d H s ii) (hsi : s ≤ ii) (hi : ii < n ∨ n = 0) (hib : ii ≤ 1048576) :
    Calls Tryz.prog 133 #[.pointer (some ⟨hb, 0, none⟩), .int .i64 ii] w fun e w' => e = .returned (.tuple #[]) ∧ ∃ H', H'.Perm H ∧ Heap Y.lt d H' s ∧ RowL Y base g c n H' w' ∧ w.grownBy w' (some g) := by
  have HR := hid hr
  have HSF0 := hid hs
  have HSL0 := hid hsi
  have HIN0 := hid hi
  have HD := hid hD
  have L := hid L
  have O := hid O
  have HG0 := hid hg
  have HBG := hid hne
  have B0 := hid b0
  have B1 := hid b1
  have HL0 := hid (rowL_len hr)
  clear hr hs hsi hi hD hg hne b0 b1
  go_enter Tryz.func133, Tryz.ntmps133
  go_wp2
  go_loopw [1] (fun si wr => ∃ (i' : Nat) (H' : List α), si = .int .i64 i' ∧ (i' < n ∨ n = 0) ∧ i' ≤ 1048576 ∧ Hid (Sft Y.lt d H' s i') ∧ Hid (s ≤ i') ∧ Hid (H'.Perm H) ∧ Hid (RowL Y base g c n H' wr) ∧ Hid (w.grownBy wr (some g))) (fun si _ => n - (intOf si).toNat)
  case atStart => exact ⟨ii, H, rfl, HIN0.out, hib, HSF0.out, HSL0.out, List.Perm.refl _, HR.out, gr_refl _ _⟩
  case round =>
    clear HSF0 HSL0 HIN0 HR
    obtain ⟨i, H', rfl, hin, hiB, HSF, HSL, HPE, HRW0, HGW0⟩ := hrel
    have HLN : Hid (H'.length = n) := hid (rowL_len HRW0.out)
    have HIN := hid hin
    clear hin
    have HB0 : Hid (wr.cell? ⟨hb, 0, none⟩ = some (.slice (some ⟨g, 0, none⟩) n c)) := hid (cell_gr HGW0.out HBG.out B0.out)
    have HB1 : Hid (wr.cell? ⟨hb, 1, none⟩ = some fvH) := hid (cell_gr HGW0.out HBG.out B1.out)
    generalize wr = W1 at *
    go_wp2
    go_loopw [4, 5] (fun s4 s5 wq => ∃ f b : Nat, s4 = .int .i64 f ∧ s5 = .int .i64 b ∧ b ≤ 2 * i + 3 ∧ 2 * i + 1 ≤ b ∧ f ≤ 2 * i + 2 ∧ Hid (Par Y.lt d H' i f b) ∧ Hid (Below W1.heap.size W1 wq)) (fun _ s5 _ => 2 * i + 3 - (intOf s5).toNat)
    case atStart => exact ⟨i, 2 * i + 1, rfl, by go_num, by omega, by omega, by omega, Par.start O.out, Below.refl _ _⟩
    case round =>
      obtain ⟨f, b, rfl, rfl, hb1, hb2, hf2, HP, HB⟩ := hrel
      have c0 := cell_below HB.out HB0.out
      have c1 := cell_below HB.out HB1.out
      have HRW := hid (rowL_below HRW0.out HB.out)
      have HGW := hid (gr_below HGW0.out HB.out)
      by_cases q1 : b ≤ 2 * i + 2
      · have q1' : (b : Int) ≤ 2 * (i : Int) + 2 := by omega
        by_cases q2 : b < n
        · have q2' : (b : Int) < (n : Int) := by omega
          have hfn := Par.lt_len HP.out (by rw [HLN.out]; omega)
          rw [HLN.out] at hfn
          obtain ⟨a0, a1⟩ := rowL_get d HRW.out (i := b) (by rw [HLN.out]; exact q2)
          obtain ⟨d0, d1⟩ := rowL_get d HRW.out (i := f) (by rw [HLN.out]; exact hfn)
          have HCL : Hid (∀ W, Below wr.heap.size wr W → _) := hid (fun W h => fAhead Y w0 W g hb D (H'.getD b d) (H'.getD f d) L.out (HD.out _ (HPE.out.mem_iff.1 (get_mem d (by rw [HLN.out]; exact q2)))) (HD.out _ (HPE.out.mem_iff.1 (get_mem d (by rw [HLN.out]; exact hfn)))) (gr_below (gr_trans HG0.out HGW.out) h) (cell_below h c1))
          have HNXT : Hid (∀ r, Y.lt (H'.getD b d) (H'.getD f d) = r → Par Y.lt d H' i (if r then b else f) (b + 1)) := hid (fun r e => by cases r with | true => show Par Y.lt d H' i b (b + 1); exact Par.go O.out HP.out (by unfold Kid; omega) (by rw [HLN.out]; exact q2) e | false => show Par Y.lt d H' i f (b + 1); exact Par.stay HP.out (by unfold Kid; omega) e)
          generalize H'.getD b d = xb at *
          generalize H'.getD f d = xf at *
          have i1 : (f : Int) < (n : Int) := by omega
          have i0 : (0 : Int) ≤ (b : Int) := by omega
          have j0 : (0 : Int) ≤ (f : Int) := by omega
          have HS4 : Hid (S4 Y hb g c n b f xb xf wr wr) := ⟨c0, a0, a1, d0, d1, Below.refl _ _⟩
          obtain ⟨r, hr⟩ : ∃ r, Y.lt xb xf = r := ⟨_, rfl⟩
          have HNR := hid (HNXT.out r hr)
          rw [hr] at HCL
          clear a0 a1 d0 d1 HNXT hr c1
          cases r with
          | true =>
            go_wp2_with fail
            go_region_held3 (fun W => S4 Y hb g c n b f xb xf wr W) (first | exact HS4.out.drew | assumption) (first | (go_at_call 161; refine (HCL.out _ (S4.bel (by assumption))).mono ?_; rintro e w2 ⟨rfl, hb2⟩; have hs2 := S4.below (by assumption) hb2; have HB2 := hid (HB.out.trans ((S4.bel hs2).mono HB.out.size)); clear hb2))
            go_wp2
            go_roundw
            case rel => exact ⟨b, b + 1, rfl, by go_num, by omega, by omega, by omega, HNR.out, HB2.out⟩
            case measure => simp [intOf]; omega
          | false =>
            go_wp2_with fail
            go_region_held3 (fun W => S4 Y hb g c n b f xb xf wr W) (first | exact HS4.out.drew | assumption) (first | (go_at_call 161; refine (HCL.out _ (S4.bel (by assumption))).mono ?_; rintro e w2 ⟨rfl, hb2⟩; have hs2 := S4.below (by assumption) hb2; have HB2 := hid (HB.out.trans ((S4.bel hs2).mono HB.out.size)); clear hb2))
            go_wp2
            go_roundw
            case rel => exact ⟨f, b + 1, rfl, by go_num, by omega, by omega, by omega, HNR.out, HB2.out⟩
            case measure => simp [intOf]; omega
        · have q2' : ¬ (b : Int) < (n : Int) := by omega
          have HFS := hid (Par.done HP.out (.inr (by rw [HLN.out]; omega)))
          by_cases he : f = i
          · subst he
            have HHP := hid (Sft.done HSF.out HFS.out)
            go_wp2
            refine bodyPost_ret (results_none rfl _ _ _) rfl ?_
            exact ⟨rfl, H', HPE.out, HHP.out, HRW.out, HGW.out⟩
          · have hne : ((f : Int) == (i : Int)) = false := by simp; omega
            have hin : i < n := by rcases HIN.out with h | h; exact h; exact absurd (Par.zero HP.out (by rw [HLN.out]; exact h)) he
            obtain ⟨hsf, hif, hfl⟩ := Sft.go HSF.out HSL.out (by rw [HLN.out]; exact hin) HFS.out he
            rw [HLN.out] at hfl
            have HNX := hid hsf
            have HSI : Hid (s ≤ f) := by have := HSL.out; unfold Hid; omega
            have HFN : Hid (f < n ∨ n = 0) := .inl hfl
            have HPM : Hid ((swp d H' i f).Perm H) := (swp_perm (by rw [HLN.out]; exact hin) (by rw [HLN.out]; exact hfl) (fun e => he e.symm)).trans HPE.out
            obtain ⟨a0, a1⟩ := rowL_get d HRW.out (i := i) (by rw [HLN.out]; exact hin)
            obtain ⟨d0, d1⟩ := rowL_get d HRW.out (i := f) (by rw [HLN.out]; exact hfl)
            have HN2 := hid (rowL_swp d (rowL_drew HRW.out) (i := i) (f := f) (by rw [HLN.out]; exact hin) (by rw [HLN.out]; exact hfl))
            have HG2 := hid (gr_set (gr_set (gr_set (gr_set (gr_drew HGW.out) (i * 2) (Y.enc (H'.getD f d)).1) (i * 2 + 1) (Y.enc (H'.getD f d)).2) (f * 2) (Y.enc (H'.getD i d)).1) (f * 2 + 1) (Y.enc (H'.getD i d)).2)
            have fz := fun o => (rowL_drew HRW.out).frozenAt o
            have f1 := fz (i * 2)
            have f2 := fz (i * 2 + 1)
            have f3 := fz (f * 2)
            have f4 := fz (f * 2 + 1)
            have HS1 := hid (set_box (hb := hb) (g := g) HBG.out (i * 2) (i * 2 + 1) (Y.enc (H'.getD f d)).1 (Y.enc (H'.getD f d)).2 (show wr.drew.cell? ⟨hb, 0, none⟩ = _ from c0))
            have HS2 := hid (set_box (hb := hb) (g := g) HBG.out (f * 2) (f * 2 + 1) (Y.enc (H'.getD i d)).1 (Y.enc (H'.getD i d)).2 HS1.out)
            generalize H'.getD i d = xi at *
            generalize H'.getD f d = xf at *
            change wr.drew.cell? _ = _ at a0 a1 d0 d1
            have i1 : (i : Int) < (n : Int) := by omega
            have j1 : (f : Int) < (n : Int) := by omega
            have i0 : (0 : Int) ≤ (i : Int) := by omega
            have j0 : (0 : Int) ≤ (f : Int) := by omega
            simp only at a0 a1 d0 d1
            clear hsf fz
            go_wp2_with fail
            have HS0 : Hid (wr.drew.cell? ⟨hb, 0, none⟩ = some (.slice (some ⟨g, 0, none⟩) n c)) := hid c0
            refine wp_region_held_drew (S := fun W => W.cell? ⟨hb, 0, none⟩ = some (.slice (some ⟨g, 0, none⟩) n c)) rfl c0 (fun _ => ?_)
            generalize wr.drew = wd at *
            have hS0 := HS0.out
            refine wpAnyH_take (i := 0) (oi := { dst := some 46, op := _, type := _, pos := _, after := _, guard := _ }) (v := .pointer (some ⟨hb, 0, none⟩)) rfl (by kernel_rfl) (by kernel_rfl) (by kernel_rfl) (fun _ _ _ h => h) (Or.inl ⟨by rfl, fun w hSw => by (try dsimp only at hSw); go_simp⟩) (by assumption) ?_
            try simp only [Act.put, zzA, zzB, zzC]
            refine wpAnyH_take (i := 1) (oi := { dst := some 47, op := _, type := _, pos := _, after := _, guard := _ }) (v := .pointer (some ⟨hb, 0, none⟩)) rfl (by kernel_rfl) (by kernel_rfl) (by kernel_rfl) (fun _ _ _ h => h) (Or.inl ⟨by rfl, fun w hSw => by (try dsimp only at hSw); go_simp⟩) (by assumption) ?_
            try simp only [Act.put, zzA, zzB, zzC]
            refine wpAnyH_take (i := 2) (oi := { dst := some 48, op := _, type := _, pos := _, after := _, guard := _ }) (v := .pointer (some ⟨hb, 0, none⟩)) rfl (by kernel_rfl) (by kernel_rfl) (by kernel_rfl) (fun _ _ _ h => h) (Or.inl ⟨by rfl, fun w hSw => by (try dsimp only at hSw); go_simp⟩) (by assumption) ?_
            try simp only [Act.put, zzA, zzB, zzC]
            refine wpAnyH_take (i := 3) (oi := { dst := some 49, op := _, type := _, pos := _, after := _, guard := _ }) (v := .slice (some ⟨g, 0, none⟩) n c) rfl (by kernel_rfl) (by kernel_rfl) (by kernel_rfl) (fun _ _ _ h => h) (Or.inl ⟨by rfl, fun w hSw => by (try dsimp only at hSw); go_simp⟩) (by assumption) ?_
            try simp only [Act.put, zzA, zzB, zzC]
            refine wpAnyH_take (i := 4) (oi := { dst := some 50, op := _, type := _, pos := _, after := _, guard := _ }) (v := .int .i64 (i : Int)) rfl (by kernel_rfl) (by kernel_rfl) (by kernel_rfl) (fun _ _ _ h => h) (Or.inl ⟨by rfl, fun w hSw => by (try dsimp only at hSw); go_simp⟩) (by assumption) ?_
            try simp only [Act.put, zzA, zzB, zzC]
            refine wpAnyH_take (i := 5) (oi := { dst := some 51, op := _, type := _, pos := _, after := _, guard := _ }) (v := .pointer (some ⟨hb, 0, none⟩)) rfl (by kernel_rfl) (by kernel_rfl) (by kernel_rfl) (fun _ _ _ h => h) (Or.inl ⟨by rfl, fun w hSw => by (try dsimp only at hSw); go_simp⟩) (by assumption) ?_
            try simp only [Act.put, zzA, zzB, zzC]
            refine wpAnyH_take (i := 6) (oi := { dst := some 52, op := _, type := _, pos := _, after := _, guard := _ }) (v := .pointer (some ⟨hb, 0, none⟩)) rfl (by kernel_rfl) (by kernel_rfl) (by kernel_rfl) (fun _ _ _ h => h) (Or.inl ⟨by rfl, fun w hSw => by (try dsimp only at hSw); go_simp⟩) (by assumption) ?_
            try simp only [Act.put, zzA, zzB, zzC]
            refine wpAnyH_take (i := 7) (oi := { dst := some 53, op := _, type := _, pos := _, after := _, guard := _ }) (v := .pointer (some ⟨hb, 0, none⟩)) rfl (by kernel_rfl) (by kernel_rfl) (by kernel_rfl) (fun _ _ _ h => h) (Or.inl ⟨by rfl, fun w hSw => by (try dsimp only at hSw); go_simp⟩) (by assumption) ?_
            try simp only [Act.put, zzA, zzB, zzC]
            refine wpAnyH_take (i := 8) (oi := { dst := some 54, op := _, type := _, pos := _, after := _, guard := _ }) (v := .slice (some ⟨g, 0, none⟩) n c) rfl (by kernel_rfl) (by kernel_rfl) (by kernel_rfl) (fun _ _ _ h => h) (Or.inl ⟨by rfl, fun w hSw => by (try dsimp only at hSw); go_simp⟩) (by assumption) ?_
            try simp only [Act.put, zzA, zzB, zzC]
            refine wpAnyH_take (i := 9) (oi := { dst := some 55, op := _, type := _, pos := _, after := _, guard := _ }) (v := .int .i64 (f : Int)) rfl (by kernel_rfl) (by kernel_rfl) (by kernel_rfl) (fun _ _ _ h => h) (Or.inl ⟨by rfl, fun w hSw => by (try dsimp only at hSw); go_simp⟩) (by assumption) ?_
            try simp only [Act.put, zzA, zzB, zzC]
            refine wpAnyH_take (i := 10) (oi := { dst := some 56, op := _, type := _, pos := _, after := _, guard := _ }) (v := .pointer (some ⟨hb, 0, none⟩)) rfl (by kernel_rfl) (by kernel_rfl) (by kernel_rfl) (fun _ _ _ h => h) (Or.inl ⟨by rfl, fun w hSw => by (try dsimp only at hSw); go_simp⟩) (by assumption) ?_
            try simp only [Act.put, zzA, zzB, zzC]
            refine wpAnyH_take (i := 11) (oi := { dst := some 57, op := _, type := _, pos := _, after := _, guard := _ }) (v := .pointer (some ⟨hb, 0, none⟩)) rfl (by kernel_rfl) (by kernel_rfl) (by kernel_rfl) (fun _ _ _ h => h) (Or.inl ⟨by rfl, fun w hSw => by (try dsimp only at hSw); go_simp⟩) (by assumption) ?_
            try simp only [Act.put, zzA, zzB, zzC]
            refine wpAnyH_take (i := 12) (oi := { dst := some 58, op := _, type := _, pos := _, after := _, guard := _ }) (v := .pointer (some ⟨hb, 0, none⟩)) rfl (by kernel_rfl) (by kernel_rfl) (by kernel_rfl) (fun _ _ _ h => h) (Or.inl ⟨by rfl, fun w hSw => by (try dsimp only at hSw); go_simp⟩) (by assumption) ?_
            try simp only [Act.put, zzA, zzB, zzC]
            refine wpAnyH_take (i := 13) (oi := { dst := some 59, op := _, type := _, pos := _, after := _, guard := _ }) (v := .slice (some ⟨g, 0, none⟩) n c) rfl (by kernel_rfl) (by kernel_rfl) (by kernel_rfl) (fun _ _ _ h => h) (Or.inl ⟨by rfl, fun w hSw => by (try dsimp only at hSw); go_simp⟩) (by assumption) ?_
            try simp only [Act.put, zzA, zzB, zzC]
            refine wpAnyH_take (i := 14) (oi := { dst := some 60, op := _, type := _, pos := _, after := _, guard := _ }) (v := .int .i64 (f : Int)) rfl (by kernel_rfl) (by kernel_rfl) (by kernel_rfl) (fun _ _ _ h => h) (Or.inl ⟨by rfl, fun w hSw => by (try dsimp only at hSw); go_simp⟩) (by assumption) ?_
            try simp only [Act.put, zzA, zzB, zzC]
            refine wpAnyH_take (i := 15) (oi := { dst := some 61, op := _, type := _, pos := _, after := _, guard := _ }) (v := .pointer (some ⟨g, f * 2, none⟩)) rfl (by kernel_rfl) (by kernel_rfl) (by kernel_rfl) (fun _ _ _ h => h) (Or.inl ⟨by rfl, fun w hSw => by (try dsimp only at hSw); go_simp⟩) (by assumption) ?_
            try simp only [Act.put, zzA, zzB, zzC]
            refine wpAnyH_take (i := 17) (oi := { dst := some 63, op := _, type := _, pos := _, after := _, guard := _ }) (v := .pointer (some ⟨hb, 0, none⟩)) rfl (by kernel_rfl) (by kernel_rfl) (by kernel_rfl) (fun _ _ _ h => h) (Or.inl ⟨by rfl, fun w hSw => by (try dsimp only at hSw); go_simp⟩) (by assumption) ?_
            try simp only [Act.put, zzA, zzB, zzC]
            refine wpAnyH_take (i := 18) (oi := { dst := some 64, op := _, type := _, pos := _, after := _, guard := _ }) (v := .pointer (some ⟨hb, 0, none⟩)) rfl (by kernel_rfl) (by kernel_rfl) (by kernel_rfl) (fun _ _ _ h => h) (Or.inl ⟨by rfl, fun w hSw => by (try dsimp only at hSw); go_simp⟩) (by assumption) ?_
            try simp only [Act.put, zzA, zzB, zzC]
            refine wpAnyH_take (i := 19) (oi := { dst := some 65, op := _, type := _, pos := _, after := _, guard := _ }) (v := .pointer (some ⟨hb, 0, none⟩)) rfl (by kernel_rfl) (by kernel_rfl) (by kernel_rfl) (fun _ _ _ h => h) (Or.inl ⟨by rfl, fun w hSw => by (try dsimp only at hSw); go_simp⟩) (by assumption) ?_
            try simp only [Act.put, zzA, zzB, zzC]
            refine wpAnyH_take (i := 20) (oi := { dst := some 66, op := _, type := _, pos := _, after := _, guard := _ }) (v := .slice (some ⟨g, 0, none⟩) n c) rfl (by kernel_rfl) (by kernel_rfl) (by kernel_rfl) (fun _ _ _ h => h) (Or.inl ⟨by rfl, fun w hSw => by (try dsimp only at hSw); go_simp⟩) (by assumption) ?_
            try simp only [Act.put, zzA, zzB, zzC]
            refine wpAnyH_take (i := 21) (oi := { dst := some 67, op := _, type := _, pos := _, after := _, guard := _ }) (v := .int .i64 (i : Int)) rfl (by kernel_rfl) (by kernel_rfl) (by kernel_rfl) (fun _ _ _ h => h) (Or.inl ⟨by rfl, fun w hSw => by (try dsimp only at hSw); go_simp⟩) (by assumption) ?_
            try simp only [Act.put, zzA, zzB, zzC]
            refine wpAnyH_take (i := 22) (oi := { dst := some 68, op := _, type := _, pos := _, after := _, guard := _ }) (v := .pointer (some ⟨g, i * 2, none⟩)) rfl (by kernel_rfl) (by kernel_rfl) (by kernel_rfl) (fun _ _ _ h => h) (Or.inl ⟨by rfl, fun w hSw => by (try dsimp only at hSw); go_simp⟩) (by assumption) ?_
            try simp only [Act.put, zzA, zzB, zzC]
            refine wpAnyH_ready (rs := [16, 23]) (by kernel_rfl) (by simp) (AllReadyH.cons (o := { dst := some 62, op := _, type := _, pos := _, after := _, guard := _ }) rfl ?_ (AllReadyH.cons (o := { dst := some 69, op := _, type := _, pos := _, after := _, guard := _ }) rfl ?_ AllReadyH.nil))
            · intro K1 hK1
              go_simp
              refine hK1.out _ _ HS0.out (fun _ => ?_)
              clear hK1 K1
              try simp only [Act.put, zzA, zzB, zzC]
              refine wpAnyH_ready (rs := [23]) (by kernel_rfl) (by simp) (AllReadyH.cons (o := { dst := some 69, op := _, type := _, pos := _, after := _, guard := _ }) rfl ?_ AllReadyH.nil)
              intro K2 hK2
              go_simp
              refine hK2.out _ _ HS0.out (fun _ => ?_)
              clear hK2 K2
              try simp only [Act.put, zzA, zzB, zzC]
              refine wpAnyH_take (i := 24) (oi := { dst := some 70, op := _, type := _, pos := _, after := _, guard := _ }) (v := .pointer (some ⟨g, i * 2, none⟩)) rfl (by kernel_rfl) (by kernel_rfl) (by kernel_rfl) (fun _ _ _ h => h) (Or.inl ⟨by rfl, fun w hSw => by (try dsimp only at hSw); go_simp⟩) (by assumption) ?_
              try simp only [Act.put, zzA, zzB, zzC]
              refine wpAnyH_ready (rs := [25]) (by kernel_rfl) (by simp) (AllReadyH.cons (o := { dst := none, op := _, type := _, pos := _, after := _, guard := _ }) rfl ?_ AllReadyH.nil)
              intro K3 hK3
              go_simp
              refine hK3.out _ _ HS1.out (fun _ => ?_)
              clear hK3 K3
              try simp only [Act.put, zzA, zzB, zzC]
              have hS1 := HS1.out
              refine wpAnyH_take (i := 26) (oi := { dst := some 71, op := _, type := _, pos := _, after := _, guard := _ }) (v := .pointer (some ⟨g, f * 2, none⟩)) rfl (by kernel_rfl) (by kernel_rfl) (by kernel_rfl) (fun _ _ _ h => h) (Or.inl ⟨by rfl, fun w hSw => by (try dsimp only at hSw); go_simp⟩) (by assumption) ?_
              try simp only [Act.put, zzA, zzB, zzC]
              refine wpAnyH_ready (rs := [27]) (by kernel_rfl) (by simp) (AllReadyH.cons (o := { dst := none, op := _, type := _, pos := _, after := _, guard := _ }) rfl ?_ AllReadyH.nil)
              intro K4 hK4
              go_simp
              refine hK4.out _ _ HS2.out (fun _ => ?_)
              clear hK4 K4
              try simp only [Act.put, zzA, zzB, zzC]
              refine wpAnyH_done (by kernel_rfl) ?_ _
              go_wp2
              go_roundw
              case rel => exact ⟨f, _, rfl, HFN.out, by omega, HNX.out, HSI.out, HPM.out, HN2.out, HG2.out⟩
              case measure => simp [intOf]; omega
            · intro K5 hK5
              go_simp
              refine hK5.out _ _ HS0.out (fun _ => ?_)
              clear hK5 K5
              try simp only [Act.put, zzA, zzB, zzC]
              refine wpAnyH_ready (rs := [16]) (by kernel_rfl) (by simp) (AllReadyH.cons (o := { dst := some 62, op := _, type := _, pos := _, after := _, guard := _ }) rfl ?_ AllReadyH.nil)
              intro K6 hK6
              go_simp
              refine hK6.out _ _ HS0.out (fun _ => ?_)
              clear hK6 K6
              try simp only [Act.put, zzA, zzB, zzC]
              refine wpAnyH_take (i := 24) (oi := { dst := some 70, op := _, type := _, pos := _, after := _, guard := _ }) (v := .pointer (some ⟨g, i * 2, none⟩)) rfl (by kernel_rfl) (by kernel_rfl) (by kernel_rfl) (fun _ _ _ h => h) (Or.inl ⟨by rfl, fun w hSw => by (try dsimp only at hSw); go_simp⟩) (by assumption) ?_
              try simp only [Act.put, zzA, zzB, zzC]
              refine wpAnyH_ready (rs := [25]) (by kernel_rfl) (by simp) (AllReadyH.cons (o := { dst := none, op := _, type := _, pos := _, after := _, guard := _ }) rfl ?_ AllReadyH.nil)
              intro K7 hK7
              go_simp
              refine hK7.out _ _ HS1.out (fun _ => ?_)
              clear hK7 K7
              try simp only [Act.put, zzA, zzB, zzC]
              have hS1 := HS1.out
              refine wpAnyH_take (i := 26) (oi := { dst := some 71, op := _, type := _, pos := _, after := _, guard := _ }) (v := .pointer (some ⟨g, f * 2, none⟩)) rfl (by kernel_rfl) (by kernel_rfl) (by kernel_rfl) (fun _ _ _ h => h) (Or.inl ⟨by rfl, fun w hSw => by (try dsimp only at hSw); go_simp⟩) (by assumption) ?_
              try simp only [Act.put, zzA, zzB, zzC]
              refine wpAnyH_ready (rs := [27]) (by kernel_rfl) (by simp) (AllReadyH.cons (o := { dst := none, op := _, type := _, pos := _, after := _, guard := _ }) rfl ?_ AllReadyH.nil)
              intro K8 hK8
              go_simp
              refine hK8.out _ _ HS2.out (fun _ => ?_)
              clear hK8 K8
              try simp only [Act.put, zzA, zzB, zzC]
              refine wpAnyH_done (by kernel_rfl) ?_ _
              go_wp2
              go_roundw
              case rel => exact ⟨f, _, rfl, HFN.out, by omega, HNX.out, HSI.out, HPM.out, HN2.out, HG2.out⟩
              case measure => simp [intOf]; omega
      · have q1' : ¬ (b : Int) ≤ 2 * (i : Int) + 2 := by omega
        have HFS := hid (Par.done HP.out (.inl (by omega)))
        by_cases he : f = i
        · subst he
          have HHP := hid (Sft.done HSF.out HFS.out)
          go_wp2
          refine bodyPost_ret (results_none rfl _ _ _) rfl ?_
          exact ⟨rfl, H', HPE.out, HHP.out, HRW.out, HGW.out⟩
        · have hne : ((f : Int) == (i : Int)) = false := by simp; omega
          have hin : i < n := by rcases HIN.out with h | h; exact h; exact absurd (Par.zero HP.out (by rw [HLN.out]; exact h)) he
          obtain ⟨hsf, hif, hfl⟩ := Sft.go HSF.out HSL.out (by rw [HLN.out]; exact hin) HFS.out he
          rw [HLN.out] at hfl
          have HNX := hid hsf
          have HSI : Hid (s ≤ f) := by have := HSL.out; unfold Hid; omega
          have HFN : Hid (f < n ∨ n = 0) := .inl hfl
          have HPM : Hid ((swp d H' i f).Perm H) := (swp_perm (by rw [HLN.out]; exact hin) (by rw [HLN.out]; exact hfl) (fun e => he e.symm)).trans HPE.out
          obtain ⟨a0, a1⟩ := rowL_get d HRW.out (i := i) (by rw [HLN.out]; exact hin)
          obtain ⟨d0, d1⟩ := rowL_get d HRW.out (i := f) (by rw [HLN.out]; exact hfl)
          have HN2 := hid (rowL_swp d (rowL_drew HRW.out) (i := i) (f := f) (by rw [HLN.out]; exact hin) (by rw [HLN.out]; exact hfl))
          have HG2 := hid (gr_set (gr_set (gr_set (gr_set (gr_drew HGW.out) (i * 2) (Y.enc (H'.getD f d)).1) (i * 2 + 1) (Y.enc (H'.getD f d)).2) (f * 2) (Y.enc (H'.getD i d)).1) (f * 2 + 1) (Y.enc (H'.getD i d)).2)
          have fz := fun o => (rowL_drew HRW.out).frozenAt o
          have f1 := fz (i * 2)
          have f2 := fz (i * 2 + 1)
          have f3 := fz (f * 2)
          have f4 := fz (f * 2 + 1)
          have HS1 := hid (set_box (hb := hb) (g := g) HBG.out (i * 2) (i * 2 + 1) (Y.enc (H'.getD f d)).1 (Y.enc (H'.getD f d)).2 (show wr.drew.cell? ⟨hb, 0, none⟩ = _ from c0))
          have HS2 := hid (set_box (hb := hb) (g := g) HBG.out (f * 2) (f * 2 + 1) (Y.enc (H'.getD i d)).1 (Y.enc (H'.getD i d)).2 HS1.out)
          generalize H'.getD i d = xi at *
          generalize H'.getD f d = xf at *
          change wr.drew.cell? _ = _ at a0 a1 d0 d1
          have i1 : (i : Int) < (n : Int) := by omega
          have j1 : (f : Int) < (n : Int) := by omega
          have i0 : (0 : Int) ≤ (i : Int) := by omega
          have j0 : (0 : Int) ≤ (f : Int) := by omega
          simp only at a0 a1 d0 d1
          clear hsf fz
          go_wp2_with fail
          have HS0 : Hid (wr.drew.cell? ⟨hb, 0, none⟩ = some (.slice (some ⟨g, 0, none⟩) n c)) := hid c0
          refine wp_region_held_drew (S := fun W => W.cell? ⟨hb, 0, none⟩ = some (.slice (some ⟨g, 0, none⟩) n c)) rfl c0 (fun _ => ?_)
          generalize wr.drew = wd at *
          have hS0 := HS0.out
          refine wpAnyH_take (i := 0) (oi := { dst := some 46, op := _, type := _, pos := _, after := _, guard := _ }) (v := .pointer (some ⟨hb, 0, none⟩)) rfl (by kernel_rfl) (by kernel_rfl) (by kernel_rfl) (fun _ _ _ h => h) (Or.inl ⟨by rfl, fun w hSw => by (try dsimp only at hSw); go_simp⟩) (by assumption) ?_
          try simp only [Act.put, zzA, zzB, zzC]
          refine wpAnyH_take (i := 1) (oi := { dst := some 47, op := _, type := _, pos := _, after := _, guard := _ }) (v := .pointer (some ⟨hb, 0, none⟩)) rfl (by kernel_rfl) (by kernel_rfl) (by kernel_rfl) (fun _ _ _ h => h) (Or.inl ⟨by rfl, fun w hSw => by (try dsimp only at hSw); go_simp⟩) (by assumption) ?_
          try simp only [Act.put, zzA, zzB, zzC]
          refine wpAnyH_take (i := 2) (oi := { dst := some 48, op := _, type := _, pos := _, after := _, guard := _ }) (v := .pointer (some ⟨hb, 0, none⟩)) rfl (by kernel_rfl) (by kernel_rfl) (by kernel_rfl) (fun _ _ _ h => h) (Or.inl ⟨by rfl, fun w hSw => by (try dsimp only at hSw); go_simp⟩) (by assumption) ?_
          try simp only [Act.put, zzA, zzB, zzC]
          refine wpAnyH_take (i := 3) (oi := { dst := some 49, op := _, type := _, pos := _, after := _, guard := _ }) (v := .slice (some ⟨g, 0, none⟩) n c) rfl (by kernel_rfl) (by kernel_rfl) (by kernel_rfl) (fun _ _ _ h => h) (Or.inl ⟨by rfl, fun w hSw => by (try dsimp only at hSw); go_simp⟩) (by assumption) ?_
          try simp only [Act.put, zzA, zzB, zzC]
          refine wpAnyH_take (i := 4) (oi := { dst := some 50, op := _, type := _, pos := _, after := _, guard := _ }) (v := .int .i64 (i : Int)) rfl (by kernel_rfl) (by kernel_rfl) (by kernel_rfl) (fun _ _ _ h => h) (Or.inl ⟨by rfl, fun w hSw => by (try dsimp only at hSw); go_simp⟩) (by assumption) ?_
          try simp only [Act.put, zzA, zzB, zzC]
          refine wpAnyH_take (i := 5) (oi := { dst := some 51, op := _, type := _, pos := _, after := _, guard := _ }) (v := .pointer (some ⟨hb, 0, none⟩)) rfl (by kernel_rfl) (by kernel_rfl) (by kernel_rfl) (fun _ _ _ h => h) (Or.inl ⟨by rfl, fun w hSw => by (try dsimp only at hSw); go_simp⟩) (by assumption) ?_
          try simp only [Act.put, zzA, zzB, zzC]
          refine wpAnyH_take (i := 6) (oi := { dst := some 52, op := _, type := _, pos := _, after := _, guard := _ }) (v := .pointer (some ⟨hb, 0, none⟩)) rfl (by kernel_rfl) (by kernel_rfl) (by kernel_rfl) (fun _ _ _ h => h) (Or.inl ⟨by rfl, fun w hSw => by (try dsimp only at hSw); go_simp⟩) (by assumption) ?_
          try simp only [Act.put, zzA, zzB, zzC]
          refine wpAnyH_take (i := 7) (oi := { dst := some 53, op := _, type := _, pos := _, after := _, guard := _ }) (v := .pointer (some ⟨hb, 0, none⟩)) rfl (by kernel_rfl) (by kernel_rfl) (by kernel_rfl) (fun _ _ _ h => h) (Or.inl ⟨by rfl, fun w hSw => by (try dsimp only at hSw); go_simp⟩) (by assumption) ?_
          try simp only [Act.put, zzA, zzB, zzC]
          refine wpAnyH_take (i := 8) (oi := { dst := some 54, op := _, type := _, pos := _, after := _, guard := _ }) (v := .slice (some ⟨g, 0, none⟩) n c) rfl (by kernel_rfl) (by kernel_rfl) (by kernel_rfl) (fun _ _ _ h => h) (Or.inl ⟨by rfl, fun w hSw => by (try dsimp only at hSw); go_simp⟩) (by assumption) ?_
          try simp only [Act.put, zzA, zzB, zzC]
          refine wpAnyH_take (i := 9) (oi := { dst := some 55, op := _, type := _, pos := _, after := _, guard := _ }) (v := .int .i64 (f : Int)) rfl (by kernel_rfl) (by kernel_rfl) (by kernel_rfl) (fun _ _ _ h => h) (Or.inl ⟨by rfl, fun w hSw => by (try dsimp only at hSw); go_simp⟩) (by assumption) ?_
          try simp only [Act.put, zzA, zzB, zzC]
          refine wpAnyH_take (i := 10) (oi := { dst := some 56, op := _, type := _, pos := _, after := _, guard := _ }) (v := .pointer (some ⟨hb, 0, none⟩)) rfl (by kernel_rfl) (by kernel_rfl) (by kernel_rfl) (fun _ _ _ h => h) (Or.inl ⟨by rfl, fun w hSw => by (try dsimp only at hSw); go_simp⟩) (by assumption) ?_
          try simp only [Act.put, zzA, zzB, zzC]
          refine wpAnyH_take (i := 11) (oi := { dst := some 57, op := _, type := _, pos := _, after := _, guard := _ }) (v := .pointer (some ⟨hb, 0, none⟩)) rfl (by kernel_rfl) (by kernel_rfl) (by kernel_rfl) (fun _ _ _ h => h) (Or.inl ⟨by rfl, fun w hSw => by (try dsimp only at hSw); go_simp⟩) (by assumption) ?_
          try simp only [Act.put, zzA, zzB, zzC]
          refine wpAnyH_take (i := 12) (oi := { dst := some 58, op := _, type := _, pos := _, after := _, guard := _ }) (v := .pointer (some ⟨hb, 0, none⟩)) rfl (by kernel_rfl) (by kernel_rfl) (by kernel_rfl) (fun _ _ _ h => h) (Or.inl ⟨by rfl, fun w hSw => by (try dsimp only at hSw); go_simp⟩) (by assumption) ?_
          try simp only [Act.put, zzA, zzB, zzC]
          refine wpAnyH_take (i := 13) (oi := { dst := some 59, op := _, type := _, pos := _, after := _, guard := _ }) (v := .slice (some ⟨g, 0, none⟩) n c) rfl (by kernel_rfl) (by kernel_rfl) (by kernel_rfl) (fun _ _ _ h => h) (Or.inl ⟨by rfl, fun w hSw => by (try dsimp only at hSw); go_simp⟩) (by assumption) ?_
          try simp only [Act.put, zzA, zzB, zzC]
          refine wpAnyH_take (i := 14) (oi := { dst := some 60, op := _, type := _, pos := _, after := _, guard := _ }) (v := .int .i64 (f : Int)) rfl (by kernel_rfl) (by kernel_rfl) (by kernel_rfl) (fun _ _ _ h => h) (Or.inl ⟨by rfl, fun w hSw => by (try dsimp only at hSw); go_simp⟩) (by assumption) ?_
          try simp only [Act.put, zzA, zzB, zzC]
          refine wpAnyH_take (i := 15) (oi := { dst := some 61, op := _, type := _, pos := _, after := _, guard := _ }) (v := .pointer (some ⟨g, f * 2, none⟩)) rfl (by kernel_rfl) (by kernel_rfl) (by kernel_rfl) (fun _ _ _ h => h) (Or.inl ⟨by rfl, fun w hSw => by (try dsimp only at hSw); go_simp⟩) (by assumption) ?_
          try simp only [Act.put, zzA, zzB, zzC]
          refine wpAnyH_take (i := 17) (oi := { dst := some 63, op := _, type := _, pos := _, after := _, guard := _ }) (v := .pointer (some ⟨hb, 0, none⟩)) rfl (by kernel_rfl) (by kernel_rfl) (by kernel_rfl) (fun _ _ _ h => h) (Or.inl ⟨by rfl, fun w hSw => by (try dsimp only at hSw); go_simp⟩) (by assumption) ?_
          try simp only [Act.put, zzA, zzB, zzC]
          refine wpAnyH_take (i := 18) (oi := { dst := some 64, op := _, type := _, pos := _, after := _, guard := _ }) (v := .pointer (some ⟨hb, 0, none⟩)) rfl (by kernel_rfl) (by kernel_rfl) (by kernel_rfl) (fun _ _ _ h => h) (Or.inl ⟨by rfl, fun w hSw => by (try dsimp only at hSw); go_simp⟩) (by assumption) ?_
          try simp only [Act.put, zzA, zzB, zzC]
          refine wpAnyH_take (i := 19) (oi := { dst := some 65, op := _, type := _, pos := _, after := _, guard := _ }) (v := .pointer (some ⟨hb, 0, none⟩)) rfl (by kernel_rfl) (by kernel_rfl) (by kernel_rfl) (fun _ _ _ h => h) (Or.inl ⟨by rfl, fun w hSw => by (try dsimp only at hSw); go_simp⟩) (by assumption) ?_
          try simp only [Act.put, zzA, zzB, zzC]
          refine wpAnyH_take (i := 20) (oi := { dst := some 66, op := _, type := _, pos := _, after := _, guard := _ }) (v := .slice (some ⟨g, 0, none⟩) n c) rfl (by kernel_rfl) (by kernel_rfl) (by kernel_rfl) (fun _ _ _ h => h) (Or.inl ⟨by rfl, fun w hSw => by (try dsimp only at hSw); go_simp⟩) (by assumption) ?_
          try simp only [Act.put, zzA, zzB, zzC]
          refine wpAnyH_take (i := 21) (oi := { dst := some 67, op := _, type := _, pos := _, after := _, guard := _ }) (v := .int .i64 (i : Int)) rfl (by kernel_rfl) (by kernel_rfl) (by kernel_rfl) (fun _ _ _ h => h) (Or.inl ⟨by rfl, fun w hSw => by (try dsimp only at hSw); go_simp⟩) (by assumption) ?_
          try simp only [Act.put, zzA, zzB, zzC]
          refine wpAnyH_take (i := 22) (oi := { dst := some 68, op := _, type := _, pos := _, after := _, guard := _ }) (v := .pointer (some ⟨g, i * 2, none⟩)) rfl (by kernel_rfl) (by kernel_rfl) (by kernel_rfl) (fun _ _ _ h => h) (Or.inl ⟨by rfl, fun w hSw => by (try dsimp only at hSw); go_simp⟩) (by assumption) ?_
          try simp only [Act.put, zzA, zzB, zzC]
          refine wpAnyH_ready (rs := [16, 23]) (by kernel_rfl) (by simp) (AllReadyH.cons (o := { dst := some 62, op := _, type := _, pos := _, after := _, guard := _ }) rfl ?_ (AllReadyH.cons (o := { dst := some 69, op := _, type := _, pos := _, after := _, guard := _ }) rfl ?_ AllReadyH.nil))
          · intro K9 hK9
            go_simp
            refine hK9.out _ _ HS0.out (fun _ => ?_)
            clear hK9 K9
            try simp only [Act.put, zzA, zzB, zzC]
            refine wpAnyH_ready (rs := [23]) (by kernel_rfl) (by simp) (AllReadyH.cons (o := { dst := some 69, op := _, type := _, pos := _, after := _, guard := _ }) rfl ?_ AllReadyH.nil)
            intro K10 hK10
            go_simp
            refine hK10.out _ _ HS0.out (fun _ => ?_)
            clear hK10 K10
            try simp only [Act.put, zzA, zzB, zzC]
            refine wpAnyH_take (i := 24) (oi := { dst := some 70, op := _, type := _, pos := _, after := _, guard := _ }) (v := .pointer (some ⟨g, i * 2, none⟩)) rfl (by kernel_rfl) (by kernel_rfl) (by kernel_rfl) (fun _ _ _ h => h) (Or.inl ⟨by rfl, fun w hSw => by (try dsimp only at hSw); go_simp⟩) (by assumption) ?_
            try simp only [Act.put, zzA, zzB, zzC]
            refine wpAnyH_ready (rs := [25]) (by kernel_rfl) (by simp) (AllReadyH.cons (o := { dst := none, op := _, type := _, pos := _, after := _, guard := _ }) rfl ?_ AllReadyH.nil)
            intro K11 hK11
            go_simp
            refine hK11.out _ _ HS1.out (fun _ => ?_)
            clear hK11 K11
            try simp only [Act.put, zzA, zzB, zzC]
            have hS1 := HS1.out
            refine wpAnyH_take (i := 26) (oi := { dst := some 71, op := _, type := _, pos := _, after := _, guard := _ }) (v := .pointer (some ⟨g, f * 2, none⟩)) rfl (by kernel_rfl) (by kernel_rfl) (by kernel_rfl) (fun _ _ _ h => h) (Or.inl ⟨by rfl, fun w hSw => by (try dsimp only at hSw); go_simp⟩) (by assumption) ?_
            try simp only [Act.put, zzA, zzB, zzC]
            refine wpAnyH_ready (rs := [27]) (by kernel_rfl) (by simp) (AllReadyH.cons (o := { dst := none, op := _, type := _, pos := _, after := _, guard := _ }) rfl ?_ AllReadyH.nil)
            intro K12 hK12
            go_simp
            refine hK12.out _ _ HS2.out (fun _ => ?_)
            clear hK12 K12
            try simp only [Act.put, zzA, zzB, zzC]
            refine wpAnyH_done (by kernel_rfl) ?_ _
            go_wp2
            go_roundw
            case rel => exact ⟨f, _, rfl, HFN.out, by omega, HNX.out, HSI.out, HPM.out, HN2.out, HG2.out⟩
            case measure => simp [intOf]; omega
          · intro K13 hK13
            go_simp
            refine hK13.out _ _ HS0.out (fun _ => ?_)
            clear hK13 K13
            try simp only [Act.put, zzA, zzB, zzC]
            refine wpAnyH_ready (rs := [16]) (by kernel_rfl) (by simp) (AllReadyH.cons (o := { dst := some 62, op := _, type := _, pos := _, after := _, guard := _ }) rfl ?_ AllReadyH.nil)
            intro K14 hK14
            go_simp
            refine hK14.out _ _ HS0.out (fun _ => ?_)
            clear hK14 K14
            try simp only [Act.put, zzA, zzB, zzC]
            refine wpAnyH_take (i := 24) (oi := { dst := some 70, op := _, type := _, pos := _, after := _, guard := _ }) (v := .pointer (some ⟨g, i * 2, none⟩)) rfl (by kernel_rfl) (by kernel_rfl) (by kernel_rfl) (fun _ _ _ h => h) (Or.inl ⟨by rfl, fun w hSw => by (try dsimp only at hSw); go_simp⟩) (by assumption) ?_
            try simp only [Act.put, zzA, zzB, zzC]
            refine wpAnyH_ready (rs := [25]) (by kernel_rfl) (by simp) (AllReadyH.cons (o := { dst := none, op := _, type := _, pos := _, after := _, guard := _ }) rfl ?_ AllReadyH.nil)
            intro K15 hK15
            go_simp
            refine hK15.out _ _ HS1.out (fun _ => ?_)
            clear hK15 K15
            try simp only [Act.put, zzA, zzB, zzC]
            have hS1 := HS1.out
            refine wpAnyH_take (i := 26) (oi := { dst := some 71, op := _, type := _, pos := _, after := _, guard := _ }) (v := .pointer (some ⟨g, f * 2, none⟩)) rfl (by kernel_rfl) (by kernel_rfl) (by kernel_rfl) (fun _ _ _ h => h) (Or.inl ⟨by rfl, fun w hSw => by (try dsimp only at hSw); go_simp⟩) (by assumption) ?_
            try simp only [Act.put, zzA, zzB, zzC]
            refine wpAnyH_ready (rs := [27]) (by kernel_rfl) (by simp) (AllReadyH.cons (o := { dst := none, op := _, type := _, pos := _, after := _, guard := _ }) rfl ?_ AllReadyH.nil)
            intro K16 hK16
            go_simp
            refine hK16.out _ _ HS2.out (fun _ => ?_)
            clear hK16 K16
            try simp only [Act.put, zzA, zzB, zzC]
            refine wpAnyH_done (by kernel_rfl) ?_ _
            go_wp2
            go_roundw
            case rel => exact ⟨f, _, rfl, HFN.out, by omega, HNX.out, HSI.out, HPM.out, HN2.out, HG2.out⟩
            case measure => simp [intOf]; omega
end Go.Proofs.YtjhdmghpklagkaaGreat.Hpl
