/- Both Inhibited. -/
import Derived.Test.YthcogkoleiejgaaGreatRIhe
import Derived.Test.YthcogkoleiejgaaGreatRIhn
namespace Go.Proofs.YthcogkoleiejgaaGreat.Inh
open Go.RowKit
open Go.Proofs.YthcogkoleiejgaaGreat.Pat (Mt HasM FitM goodM allM)
open Go.Proofs.YthcogkoleiejgaaGreat.Lab (Lb HasL goodL GoodP OfV)
open Go.Proofs.YthcogkoleiejgaaGreat.Rwc

noncomputable def inhR (ts : List T) (fs : List Lss.T) (l : List Lb) : Bool := goodX ts && fires fs && goodL l && inh ts fs l
theorem hit_pl {q q' : T} (h : pl q' = pl q) (f l : List Lb) : hit q' f l = hit q f l := by
  have h1 : q'.ms = q.ms := congrArg Pl.ms h
  have h2 : q'.rs = q.rs := congrArg Pl.rs h
  have h3 : q'.es = q.es := congrArg Pl.es h
  unfold hit; rw [h1, h2, h3]
theorem inhP_same {n m : Nat} {ts ts' : List T} {fs fs' : List Lss.T} {l : List Lb} (h : Same n ts ts') (g : Lss.Same m fs fs') (hm : fs.length = m) (hm' : fs'.length = m) : InhP ts' fs' l n ↔ InhP ts fs l n := by
  constructor
  · rintro ⟨i, hi, h1, j, hj, h2⟩
    have e : (ts'.getD i t0).rs = (ts.getD i t0).rs := congrArg Pl.rs (h i hi)
    exact ⟨i, hi, by rw [← e]; exact h1, j, by omega, by rw [← hit_pl (h i hi), ← g j (by omega)]; exact h2⟩
  · rintro ⟨i, hi, h1, j, hj, h2⟩
    have e : (ts'.getD i t0).rs = (ts.getD i t0).rs := congrArg Pl.rs (h i hi)
    exact ⟨i, hi, by rw [e]; exact h1, j, by omega, by rw [hit_pl (h i hi), g j (by omega)]; exact h2⟩
theorem fires_same {m : Nat} {fs fs' : List Lss.T} (g : Lss.Same m fs fs') (hm : fs.length = m) (hm' : fs'.length = m) : fires fs' = fires fs := by
  unfold fires
  refine decide_eq_decide.2 ⟨fun k => ⟨by omega, fun i hi => ?_⟩, fun k => ⟨by omega, fun i hi => ?_⟩⟩
  · rw [← g i (by omega)]; exact k.2 i (by omega)
  · rw [g i (by omega)]; exact k.2 i (by omega)
theorem inhR_same {n m : Nat} {ts ts' : List T} {fs fs' : List Lss.T} {l : List Lb} (h : Same n ts ts') (hn : ts.length = n) (hn' : ts'.length = n) (g : Lss.Same m fs fs') (hm : fs.length = m) (hm' : fs'.length = m) : inhR ts' fs' l = inhR ts fs l := by
  have e : inh ts' fs' l = inh ts fs l := by
    unfold inh
    have := inhP_same (l := l) h g hm hm'
    rw [hn, hn']
    by_cases c : InhP ts fs l n
    · rw [@decide_eq_true _ (_) c, @decide_eq_true _ (_) (this.2 c)]
    · rw [@decide_eq_false _ (_) c, @decide_eq_false _ (_) fun x => c (this.1 x)]
  unfold inhR
  rw [goodX_same h hn hn', fires_same g hm hm', e]

set_option maxHeartbeats 8000000 in
theorem f11 (a fa la : Option Addr) (n c m fc nl lc : Nat) (ts : List T) (fs : List Lss.T) (l : List Lb) (w : World) (hn : ts.length = n) (hm : fs.length = m) (hnl : l.length = nl) (hb : n ≤ 1048576) (hb' : m ≤ 1048576) (hmax : nl ≤ maxLen) (hz : Sml ts) (hf : Fit ts) (hff : Lss.Fit fs) (hfl : Lab.Fit l) (hr : Has w a ts) (hrf : Lss.Has w fa fs) (hrl : HasL w la l) :
    Calls Tryz.prog 11 #[.slice a n c, .slice fa m fc, .slice la nl lc] w fun e w' => e = .returned (.bool (inhR ts fs l)) ∧ Below w.heap.size w w' := by
  have HR := hid hr
  have RF := hid hrf
  have RL := hid hrl
  have H1 := fun x p => hid (f22 a n c ts x hn hb p hf hz)
  have H2 := fun x p => hid (f23 fa m fc fs x hm hb' p hff)
  have H3 := fun x p => hid (Lab.f24 la nl lc l x hnl hmax p hfl)
  have H4 := fun x p q r g1 g2 g3 => hid (f25 a fa la n c m fc nl lc ts fs l x hn hm hnl hb hz g1 g2 g3 p q r)
  have HO : Hid (inhR ts fs l = (goodX ts && fires fs && goodL l && inh ts fs l)) := rfl
  clear hr hrf hrl hn hm hnl hb hb' hmax hz hf hff hfl
  generalize inhR ts fs l = R at *
  generalize inh ts fs l = b4 at *
  go_enter Tryz.func11, Tryz.ntmps11
  go_wp2_with fail
  refine (H1 _ HR.out).out.mono ?_
  rintro e w1 ⟨rfl, hb⟩
  have HB1 := hid hb
  clear hb H1
  cases hx : goodX ts
  · have HY : Hid (R = false) := by unfold Hid; rw [HO.out, hx]; simp
    clear hx
    go_wp2
    go_ret
    exact ⟨by rw [HY.out]; rfl, HB1.out⟩
  have K1 := hid hx
  clear hx
  go_wp2_with fail
  refine (H2 _ (RF.out.below HB1.out)).out.mono ?_
  rintro e w2 ⟨rfl, hb⟩
  have HB2 := hid (HB1.out.trans (hb.mono HB1.out.size))
  clear hb H2 HB1
  cases hx : fires fs
  · have HY : Hid (R = false) := by unfold Hid; rw [HO.out, hx]; simp
    clear hx
    go_wp2
    go_ret
    exact ⟨by rw [HY.out]; rfl, HB2.out⟩
  have K2 := hid hx
  clear hx
  go_wp2_with fail
  refine (H3 _ (RL.out.below HB2.out)).out.mono ?_
  rintro e w3 ⟨rfl, hb⟩
  have HB3 := hid (HB2.out.trans (hb.mono HB2.out.size))
  clear hb H3 HB2
  cases hx : goodL l
  · have HY : Hid (R = false) := by unfold Hid; rw [HO.out, hx]; simp
    clear hx
    go_wp2
    go_ret
    exact ⟨by rw [HY.out]; rfl, HB3.out⟩
  have K3 := hid hx
  have HY : Hid (R = b4) := by unfold Hid; rw [HO.out, K1.out, K2.out, K3.out]; simp
  clear hx
  go_wp2_with fail
  refine (H4 _ (HR.out.below HB3.out) (RF.out.below HB3.out) (RL.out.below HB3.out) K1.out K2.out K3.out).out.mono ?_
  rintro e w4 ⟨rfl, hb⟩
  have HB4 := hid (HB3.out.trans (hb.mono HB3.out.size))
  clear hb
  go_wp2
  go_ret
  exact ⟨by rw [HY.out]; first | rfl | simp, HB4.out⟩

set_option maxHeartbeats 8000000 in
theorem f7 (a fa la : Option Addr) (n c m fc nl lc : Nat) (ts : List T) (fs : List Lss.T) (l : List Lb) (w : World) (hn : ts.length = n) (hm : fs.length = m) (hnl : l.length = nl) (hb : n ≤ 1048576) (hb' : m ≤ 1048576) (hmax : nl ≤ maxLen) (hz : Sml ts) (hf : Fit ts) (hff : Lss.Fit fs) (hfl : Lab.Fit l) (hr : Has w a ts) (hrf : Lss.Has w fa fs) (hrl : HasL w la l) :
    Calls Tryz.prog 7 #[.slice a n c, .slice fa m fc, .slice la nl lc] w fun e w' => e = .returned (.bool (inhR ts fs l)) ∧ Below w.heap.size w w' := by
  have HR := hid hr
  have RF := hid hrf
  have RL := hid hrl
  have HM := hid hm
  have HF := hid hff
  have H1 := fun x p => hid (f17 a n c ts x hn hb p hf hz)
  have H3 := fun x p => hid (Lab.f18 la nl lc l x hnl hmax p hfl)
  have H4 := fun x p q r g1 g2 g3 => hid (f19 a fa la n c m fc nl lc ts fs l x hn hm hnl hb hz g1 g2 g3 p q r)
  have HO : Hid (inhR ts fs l = (goodX ts && fires fs && goodL l && inh ts fs l)) := rfl
  clear hr hrf hrl hn hm hnl hb hmax hz hf hff hfl
  generalize inhR ts fs l = R at *
  generalize inh ts fs l = b4 at *
  go_enter Tryz.func7, Tryz.ntmps7
  go_wp2_with fail
  refine (H1 _ HR.out).out.mono ?_
  rintro e w1 ⟨rfl, hb⟩
  have HB1 := hid hb
  clear hb H1
  cases hx : goodX ts
  · have HY : Hid (R = false) := by unfold Hid; rw [HO.out, hx]; simp
    clear hx
    go_wp2
    go_ret
    exact ⟨by rw [HY.out]; rfl, HB1.out⟩
  have K1 := hid hx
  clear hx
  by_cases g : (m : Int) > 200
  · have HY : Hid (R = false) := by unfold Hid; rw [HO.out, fires_long (fs := fs) (by have := HM.out; omega)]; simp
    go_wp2
    go_ret
    exact ⟨by rw [HY.out]; rfl, HB1.out⟩
  go_wp2_with fail
  refine (H3 _ (RL.out.below HB1.out)).out.mono ?_
  rintro e w3 ⟨rfl, hb⟩
  have HB3 := hid (HB1.out.trans (hb.mono HB1.out.size))
  clear hb H3 HB1
  cases hx : goodL l
  · have HY : Hid (R = false) := by unfold Hid; rw [HO.out, hx]; simp
    clear hx
    go_wp2
    go_ret
    exact ⟨by rw [HY.out]; rfl, HB3.out⟩
  have K3 := hid hx
  clear hx
  go_wp2
  go_loopw [24] (fun i wr => ∃ k : Nat, k ≤ m ∧ i = .int .i64 k ∧ Hid (∀ i, i < k → goodL (fs.getD i Lss.t0).l = true) ∧ Hid (Below w.heap.size w wr)) (fun i _ => m - (intOf i).toNat)
  case atStart => exact ⟨0, Nat.zero_le _, rfl, fun i hi => absurd hi (by omega), HB3⟩
  case round =>
    clear HB3
    obtain ⟨k, hk, rfl, HA, HB⟩ := hrel
    by_cases hlt : k < m
    · obtain ⟨b, off, rfl, hbl, hc, hl⟩ := (RF.out.below HB.out).at2 k (by rw [HM.out]; exact hlt)
      have HL := hid hl
      have G := hid (HF.out k)
      have HNo : Hid (goodL (fs.getD k Lss.t0).l = false → R = false) := fun h => by rw [HO.out, fires_no (by rw [HM.out]; exact hlt) h]; simp
      have HNx : Hid (goodL (fs.getD k Lss.t0).l = true → ∀ i, i < k + 1 → goodL (fs.getD i Lss.t0).l = true) := by
        intro h i hi
        by_cases e : i = k
        · subst e; exact h
        · exact HA.out i (by omega)
      have i1 : (k : Int) < (m : Int) := by omega
      clear hl hbl
      generalize fs.getD k Lss.t0 = q at *
      go_wp2_with fail
      refine (Lab.f18 q.a q.l.length q.c q.l _ rfl G.out.2 HL.out G.out.1).mono ?_
      rintro e w2 ⟨rfl, hb2⟩
      have HB2 := hid (HB.out.trans (hb2.mono HB.out.size))
      clear hb2
      cases hx : goodL q.l
      · have HY := hid (HNo.out hx)
        clear hx
        go_wp2
        go_ret
        exact ⟨by rw [HY.out]; rfl, HB2.out⟩
      · have HY := hid (HNx.out hx)
        clear hx
        go_wp2
        go_roundw
        case rel => exact ⟨k + 1, by omega, by go_num, HY, HB2⟩
        case measure => simp [intOf]; omega
    · have K2 := hid (fires_yes (fs := fs) (k := k) (by have := HM.out; omega) HA.out (by have := HM.out; omega))
      have HY : Hid (R = b4) := by unfold Hid; rw [HO.out, K1.out, K2.out, K3.out]; simp
      have i1 : ¬ (k : Int) < (m : Int) := by omega
      go_wp2_with fail
      refine (H4 _ (HR.out.below HB.out) (RF.out.below HB.out) (RL.out.below HB.out) K1.out K2.out K3.out).out.mono ?_
      rintro e w4 ⟨rfl, hb⟩
      have HB4 := hid (HB.out.trans (hb.mono HB.out.size))
      clear hb
      go_wp2
      go_ret
      exact ⟨by rw [HY.out]; first | rfl | simp, HB4.out⟩
end Go.Proofs.YthcogkoleiejgaaGreat.Inh
