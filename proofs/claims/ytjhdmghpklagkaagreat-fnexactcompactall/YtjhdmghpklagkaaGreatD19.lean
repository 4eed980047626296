/- A heap of lanes of series: its iterator. -/
import Derived.Test.YtjhdmghpklagkaaGreatD07
import Derived.Test.YtjhdmghpklagkaaGreatD18
namespace Go.Proofs.YtjhdmghpklagkaaGreat.Hpl
open Go.RowKit
open Go.Proofs.YtjhdmghpklagkaaGreat.Stb
open Go.Proofs.YtjhdmghpklagkaaGreat.Lab (orC two0 two1 cmpList)
open Go.Proofs.YtjhdmghpklagkaaGreat.Str (numC)
open Go.Proofs.YtjhdmghpklagkaaGreat.Srs (Q q0)
attribute [local go_sem] Oper.semAt_some
variable {α : Type}

structure Loopy (INV : List Q → World → Prop) (P : Ln → Prop) (T : List Q) (l hb g : Nat) (r : Loop) (p : Nat) : Prop where
  recd : ∀ pre W, INV pre W → W.heap[l]? = some (.loop r)
  par : r.params = #[p]
  lane : ∀ x, P x → x.L.length ≤ x.c ∧ x.c ≤ maxLen ∧ x.b ≠ g ∧ x.b ≠ hb ∧ (2 ≤ x.L.length → P x.tl)
  cel : ∀ pre W x, INV pre W → P x → W.cell? ⟨x.b, x.o, none⟩ = some (YQ.h1 x) ∧ W.cell? ⟨x.b, x.o + 1, none⟩ = some (YQ.h2 x)
  cmp : ∀ pre W x y, INV pre W → P x → P y → Calls Tryz.prog 92 #[.agg #[YQ.h1 x, YQ.h2 x], .agg #[YQ.h1 y, YQ.h2 y]] W fun e W' => e = .returned (.int .i64 (YQ.cz x y)) ∧ Below W.heap.size W W'
  stay : ∀ pre W W' k, INV pre W → (k = g ∨ k = hb) → W.grownBy W' (some k) → INV pre W'
  round : ∀ m pre W x, INV pre W → P x → x.L ≠ [] → (∃ rest, pre ++ x.L.headD q0 :: rest = T) → RoundIn Fence.wide m Tryz.prog l r.fn (r.tmps.setIfInBounds p (.agg #[YQ.h1 x, YQ.h2 x])) r.assign r.body W fun e W' => e = .returned (.bool true) ∧ INV (pre ++ [x.L.headD q0]) W' ∧ W'.heap[hb]? = W.heap[hb]? ∧ W'.heap[g]? = W.heap[g]?
theorem Loopy.lok {INV : List Q → World → Prop} {P : Ln → Prop} {T : List Q} {l hb g : Nat} {r : Loop} {p : Nat} (h : Loopy INV P T l hb g r p) {pre : List Q} {W : World} (hi : INV pre W) {H : List Ln} (hP : ∀ x ∈ H, P x) (hne : ∀ x ∈ H, x.L ≠ []) : Lok YQ W g H :=
  ⟨fun x hx => List.length_pos_iff.2 (hne x hx), fun x hx => h.cel pre W x hi (hP x hx), fun x hx => (h.lane x (hP x hx)).2.2.1, fun W' x y hx hy hg => h.cmp pre W' x y (h.stay pre W W' g hi (.inl rfl) hg) (hP x hx) (hP y hy)⟩

theorem all_perm (C : C3 cbQ) {H K : List Ln} (h : Lanes cbQ Ln.k Ln.L H) (p : H.Perm K) : all H = all K := by
  unfold all
  rw [isort_of_perm (ordI C) (exps_perm p) (h.total C)]
theorem stay_row {base g c n : Nat} {tk tb tf tc : Nat} {q q' : Q} {K2 : List Q} {R : List Ln} {w : World} (h : RowL YQ base g c n (⟨tk, tb, tf, tc, q :: q' :: K2⟩ :: R) w) : RowL YQ base g c n (⟨tk, tb, tf + 2, tc - 1, q' :: K2⟩ :: R) (w.setCell ⟨g, 1, none⟩ (.slice (some ⟨tb, tf + 2, none⟩) (K2.length + 1) (tc - 1))) ∧ w.grownBy (w.setCell ⟨g, 1, none⟩ (.slice (some ⟨tb, tf + 2, none⟩) (K2.length + 1) (tc - 1))) (some g) :=
  h.stored 1 (.slice (some ⟨tb, tf + 2, none⟩) (K2.length + 1) (tc - 1))
theorem gone_row {base g c n jo jc : Nat} {tk tb tf tc : Nat} {L : List Q} {R : List Ln} {w : World} (h : RowL YQ base g c n (⟨tk, tb, tf, tc, L⟩ :: R) w) : RowL YQ base g c n (⟨tk, tb, jo, jc, []⟩ :: R) (w.setCell ⟨g, 1, none⟩ (.slice (some ⟨tb, jo, none⟩) 0 jc)) ∧ w.grownBy (w.setCell ⟨g, 1, none⟩ (.slice (some ⟨tb, jo, none⟩) 0 jc)) (some g) :=
  h.stored 1 (.slice (some ⟨tb, jo, none⟩) 0 jc)
theorem junk_same {α : Type} (d t t' : α) (R : List α) (m : Nat) : ((t' :: R).set 0 ((t' :: R).getD m d)).take m = ((t :: R).set 0 ((t :: R).getD m d)).take m := by
  cases m with
  | zero => rfl
  | succ m => simp
theorem rowL_cap {Y : Lay α} {base g c n : Nat} {H : List α} {w : World} (h : RowL Y base g c n H w) : n ≤ c := by
  rcases h.2 with ⟨h1, h2⟩ | ⟨g', cap, cur, h1, h2, h3, h4, _⟩
  · simp at h1
  · simp only [Value.slice.injEq] at h1
    obtain ⟨_, _, rfl⟩ := h1
    exact h4
theorem flat2_take {α : Type} (enc : α → Value × Value) : ∀ (L : List α) (k : Nat), (flat2 enc L).take (k * 2) = flat2 enc (L.take k)
  | [], k => by simp [flat2]
  | x :: L, 0 => by simp [flat2]
  | x :: L, k + 1 => by
    have ih := flat2_take enc L k
    rw [flat2_cons, show (k + 1) * 2 = k * 2 + 1 + 1 by omega, List.take_succ_cons, List.take_succ_cons, ih, List.take_succ_cons, flat2_cons]
theorem rowL_first {Y : Lay α} {base g c n k : Nat} {H : List α} {w : World} (h : RowL Y base g c n H w) (hk : k ≤ n) : RowL Y base g c k (H.take k) w := by
  have := own_first h hk
  rw [flat2_take] at this
  exact this
theorem gr_alloc {w w' : World} {g : Nat} (h : w.grownBy w' (some g)) (o : Obj) : w.grownBy (w'.alloc o) (some g) := gr_below h ((Below.refl _ _).alloc (Nat.le_refl _) o)
theorem set_size (w : World) (a : Addr) (v : Value) : (w.setCell a v).heap.size = w.heap.size := by simp
theorem yields {INV : List Q → World → Prop} {P : Ln → Prop} {T : List Q} {l hb g : Nat} {r : Loop} {p : Nat} (K : Loopy INV P T l hb g r p) {pre : List Q} {W : World} (hi : INV pre W) (x : Value) : (Instr.yield l #[x]).run Tryz.prog W = .ok (.round l r.fn (r.tmps.setIfInBounds p x) r.assign r.body) W := by
  have h := run_yield (P := Tryz.prog) (args := #[x]) (K.recd pre W hi) (by rw [K.par]; rfl)
  rw [h, K.par]
  simp

set_option maxHeartbeats 4000000 in
set_option maxRecDepth 100000 in
theorem all_in {INV : List Q → World → Prop} {P : Ln → Prop} {T : List Q} {l hb g base n c p : Nat} {r : Loop} {H : List Ln} {pre : List Q} {W : World} (d : Ln) (C : C3 cbQ) (K : Loopy INV P T l hb g r p)
    (hne : hb ≠ g) (hn : n ≤ 1048576) (hx : Hbx W hb (some ⟨g, 0, none⟩) n c) (hr : RowL YQ base g c n H W) (hh : Heap YQ.lt d H 0) (hla : Lanes cbQ Ln.k Ln.L H) (hPH : ∀ x ∈ H, P x) (hi : INV pre W) (hT : pre ++ all H = T) :
    CallsIn Fence.wide 2 Tryz.prog 93 #[.pointer (some ⟨hb, 0, none⟩), .func (.yield l) #[] #[]] W fun e W' => (∃ v, e = .returned v) ∧ INV T W' := by
  have HX0 := hid hx
  have HR0 := hid hr
  have HH0 := hid hh
  have HLA0 := hid hla
  have HPH0 := hid hPH
  have HI0 := hid hi
  have HT0 := hid hT
  have K := hid K
  have C := hid C
  have HNE := hid hne
  clear hx hr hh hla hPH hi hT hne
  refine callsIn_of_wp Tryz.func93 rfl trivial ?_ rfl
  simp only [Tryz.ntmps93, List.size_toArray, List.length_cons, List.length_nil, Nat.reduceAdd, Nat.reduceSub, Array.replicate_succ, Array.replicate_zero, List.push_toArray, List.append_toArray, List.nil_append, List.cons_append]
  gi_wp2
  gi_loopw [4] (fun _ wr => ∃ (H : List Ln) (n c : Nat) (pre : List Q), n ≤ 1048576 ∧ Hid (Hbx wr hb (some ⟨g, 0, none⟩) n c) ∧ Hid (RowL YQ base g c n H wr) ∧ Hid (Heap YQ.lt d H 0) ∧ Hid (Lanes cbQ Ln.k Ln.L H) ∧ Hid (∀ x ∈ H, P x) ∧ Hid (INV pre wr) ∧ Hid (pre ++ all H = T)) (fun _ w => meas hb g w)
  case atStart => exact ⟨H, n, c, pre, hn, HX0.out, HR0.out, HH0.out, HLA0.out, HPH0.out, HI0.out, HT0.out⟩
  case round =>
    clear HX0 HR0 HH0 HLA0 HPH0 HI0 HT0 hn
    clear H n c pre
    obtain ⟨H, n, c, pre, hn, HX, HR, HH, HLA, HPH, HI, HT⟩ := hrel
    have x0 := two0 HX.out
    have HLN := hid (rowL_len HR.out)
    cases H with
    | nil =>
      have hn0 : n = 0 := HLN.out.symm
      subst hn0
      gi_wp2
      go_end0
      exact ⟨⟨_, rfl⟩, by have h := HT.out; have e : pre ++ all [] = pre := by simp [all, exps, isort]
                          rw [e] at h; rw [← h]; exact HI.out⟩
    | cons t R =>
      obtain ⟨m, rfl⟩ : ∃ m, n = m + 1 := ⟨R.length, HLN.out.symm⟩
      obtain ⟨tk, tb, tf, tc, tL⟩ := t
      cases tL with
      | nil => exact absurd rfl (HLA.out.ne _ (List.mem_cons_self))
      | cons q Kq =>
        have y0 : wr.cell? ⟨g, 0, none⟩ = some (.int .i64 (tk : Int)) := (rowL_get d HR.out (i := 0) (by simp)).1
        have y1 : wr.cell? ⟨g, 1, none⟩ = some (.slice (some ⟨tb, tf, none⟩) (Kq.length + 1) tc) := (rowL_get d HR.out (i := 0) (by simp)).2
        have z0 : wr.cell? ⟨tb, tf, none⟩ = some (.slice q.a q.l.length q.c) := (K.out.cel pre wr _ HI.out (HPH.out _ List.mem_cons_self)).1
        have z1 : wr.cell? ⟨tb, tf + 1, none⟩ = some (.slice q.b q.s.length q.d) := (K.out.cel pre wr _ HI.out (HPH.out _ List.mem_cons_self)).2
        have hfz := HR.out.frozenAt 1
        have lg : g < wr.heap.size := World.block_lt_of_cell? wr _ y0
        have lh : hb < wr.heap.size := World.block_lt_of_cell? wr _ x0
        have lt : tb < wr.heap.size := World.block_lt_of_cell? wr _ z0
        have HLT := hid (K.out.lane _ (HPH.out _ List.mem_cons_self))
        have hlc : Kq.length + 1 ≤ tc := HLT.out.1
        have hc20 : tc ≤ maxLen := HLT.out.2.1
        unfold maxLen at hc20
        cases Kq with
        | cons q' K2 =>
          simp only [List.length_cons] at y1 hlc
          have hc1 : 1 < tc := by omega
          have fz0 : (wr.alloc (.cells #[.slice q.a q.l.length q.c, .slice q.b q.s.length q.d] 80)).frozen? ⟨g, 1, none⟩ = false := (HR.out.alloc _).frozenAt 1
          obtain ⟨hr1, hg1⟩ := stay_row HR.out
          have hPt : P (Ln.tl ⟨tk, tb, tf, tc, q :: q' :: K2⟩) := HLT.out.2.2.2.2 (by simp)
          have hst := all_stay C.out HLA.out HH.out rfl
          have HALL := hid hst.1
          have HLA2 := hid hst.2
          have HSF : Hid (Sft YQ.lt d (Ln.tl ⟨tk, tb, tf, tc, q :: q' :: K2⟩ :: R) 0 0) := Heap.renew (x := Ln.tl ⟨tk, tb, tf, tc, q :: q' :: K2⟩) HH.out
          have HPH2 : Hid (∀ x ∈ Ln.tl ⟨tk, tb, tf, tc, q :: q' :: K2⟩ :: R, P x) := by
            intro x hx
            rcases List.mem_cons.1 hx with rfl | hx
            · exact hPt
            · exact HPH.out x (by simp [hx])
          have HG1 := hid (gr_alloc hg1 (.cells #[.slice q.a q.l.length q.c, .slice q.b q.s.length q.d] 80))
          have HR1 := hid (hr1.alloc (.cells #[.slice q.a q.l.length q.c, .slice q.b q.s.length q.d] 80))
          have HNB := hid (heap_alloc_new (wr.setCell ⟨g, 1, none⟩ (.slice (some ⟨tb, tf + 2, none⟩) (K2.length + 1) (tc - 1))) (.cells #[.slice q.a q.l.length q.c, .slice q.b q.s.length q.d] 80))
          have e0 := set_size wr ⟨g, 1, none⟩ (.slice (some ⟨tb, tf + 2, none⟩) (K2.length + 1) (tc - 1))
          rw [e0] at HNB
          clear hr1 hg1 hst hPt e0
          gi_wp2
          obtain ⟨X, hX⟩ : ∃ X, X = (wr.setCell ⟨g, 1, none⟩ (.slice (some ⟨tb, tf + 2, none⟩) (K2.length + 1) (tc - 1))).alloc (.cells #[.slice q.a q.l.length q.c, .slice q.b q.s.length q.d] 80) := ⟨_, rfl⟩
          rw [← hX] at HG1 HR1 HNB ⊢
          clear hX
          have HI1 := hid (K.out.stay pre wr X g HI.out (.inl rfl) HG1.out)
          have HX1 := hid (Hbx.kept HX.out HG1.out (fun e => HNE.out (Option.some.inj e).symm))
          have HC := hid (fSink YQ (ordY C.out) d base g c (m + 1) hb 0 0 _ _ X X hn (K.out.lok HI1.out HPH2.out (HLA2.out.ne)) (fun x hx => hx) (gr_refl _ _) HNE.out (two0 HX1.out) (two1 HX1.out) HR1.out HSF.out (Nat.le_refl _) (.inl (by omega)) (by omega))
          refine ⟨trivial, ?_⟩
          refine (callsIn_wide.2 HC.out).mono ?_
          rintro e w2 ⟨rfl, H2, hp2, hh2, hr2, hg2⟩
          have v0 : w2.cell? ⟨wr.heap.size, 0, none⟩ = some (.slice q.a q.l.length q.c) := cell_gr hg2 (by omega) (two0 HNB.out)
          have v1 : w2.cell? ⟨wr.heap.size, 1, none⟩ = some (.slice q.b q.s.length q.d) := cell_gr hg2 (by omega) (two1 HNB.out)
          have HI2 := hid (K.out.stay pre X w2 g HI1.out (.inl rfl) hg2)
          have HX2 := hid (Hbx.kept HX1.out hg2 (fun e => HNE.out (Option.some.inj e).symm))
          have HR2 := hid hr2
          have HH2 := hid hh2
          have HP2 := hid hp2
          have hy := yields K.out HI2.out (.agg #[.slice q.a q.l.length q.c, .slice q.b q.s.length q.d])
          clear hr2 hh2 hp2 hg2
          gi_wp2
          refine (K.out.round 1 pre w2 ⟨tk, tb, tf, tc, q :: q' :: K2⟩ HI2.out (HPH.out _ List.mem_cons_self) (by simp) ⟨_, by rw [← HT.out, HALL.out]; rfl⟩).mono ?_
          rintro e w3 ⟨rfl, hi3, hh3, hg3⟩
          have HRR : Hid (RowL YQ base g c (m + 1) H2 w3) := own_same HR2.out hg3
          have HXX : Hid (Hbx w3 hb (some ⟨g, 0, none⟩) (m + 1) c) := hh3.trans HX2.out
          have HII := hid hi3
          have HTT : Hid ((pre ++ [q]) ++ all H2 = T) := by
            unfold Hid
            rw [all_perm C.out (HLA2.out.perm HP2.out.symm) HP2.out, ← HT.out, HALL.out]; simp
          have HMS : Hid (meas hb g w3 < meas hb g wr) := by
            unfold Hid
            rw [meas_eq HRR.out HXX.out, meas_eq HR.out HX.out, (exps_perm HP2.out).length_eq]
            simp [exps_cons, Ln.tl]
          clear hi3 hh3 hg3
          gi_wp2
          go_roundw
          case rel => exact ⟨H2, (m + 1), c, pre ++ [q], by omega, HXX.out, HRR.out, HH2.out, HLA2.out.perm HP2.out.symm, fun x hx => HPH2.out x (HP2.out.mem_iff.1 hx), HII.out, HTT.out⟩
          case measure => exact HMS.out
        | nil =>
          by_cases hc1 : tc = 1
          · subst hc1
            simp only [List.length_nil, Nat.zero_add] at y1 hlc
            obtain ⟨hr1, hg1⟩ := gone_row (jo := tf) (jc := 0) HR.out
            have hgo := all_gone C.out HLA.out HH.out rfl HLN.out
            have HALL := hid hgo.1
            have HLA2 := hid hgo.2
            have HSF := hid (Heap.shrink HH.out HLN.out)
            have HPR := hid (last_perm d _ R m HLN.out)
            have HPH2 : Hid (∀ x ∈ ((⟨tk, tb, tf, 1, [q]⟩ :: R).set 0 ((⟨tk, tb, tf, 1, [q]⟩ :: R).getD m d)).take m, P x) := fun x hx => HPH.out x (List.mem_cons_of_mem _ (HPR.out.mem_iff.1 hx))
            have HEQ := hid (junk_same d ⟨tk, tb, tf, 1, [q]⟩ ⟨tk, tb, tf, 0, []⟩ R m)
            have HG1 := hid (gr_alloc hg1 (.cells #[.slice q.a q.l.length q.c, .slice q.b q.s.length q.d] 80))
            have HR1 := hid (hr1.alloc (.cells #[.slice q.a q.l.length q.c, .slice q.b q.s.length q.d] 80))
            have HNB := hid (heap_alloc_new (wr.setCell ⟨g, 1, none⟩ (.slice (some ⟨tb, tf, none⟩) 0 (0))) (.cells #[.slice q.a q.l.length q.c, .slice q.b q.s.length q.d] 80))
            have e0 := set_size wr ⟨g, 1, none⟩ (.slice (some ⟨tb, tf, none⟩) 0 (0))
            rw [e0] at HNB
            clear hr1 hg1 hgo e0
            gi_wp2
            obtain ⟨X, hX⟩ : ∃ X, X = (wr.setCell ⟨g, 1, none⟩ (.slice (some ⟨tb, tf, none⟩) 0 (0))).alloc (.cells #[.slice q.a q.l.length q.c, .slice q.b q.s.length q.d] 80) := ⟨_, rfl⟩
            rw [← hX] at HG1 HR1 HNB ⊢
            clear hX
            have HX1 := hid (Hbx.kept HX.out HG1.out (fun e => HNE.out (Option.some.inj e).symm))
            obtain ⟨k0, k1⟩ := rowL_get d HR1.out (i := m) (by rw [rowL_len HR1.out]; omega)
            have HR3 := hid (rowL_set d (rowL_drew HR1.out) (i := 0) (by simp) ((⟨tk, tb, tf, 0, []⟩ :: R).getD m d))
            have hcc := rowL_cap HR1.out
            generalize hxm : List.getD (⟨tk, tb, tf, 0, []⟩ :: R) m d = xm at *
            have k0 : X.drew.cell? ⟨g, m * 2, none⟩ = some (.int .i64 (xm.k : Int)) := k0
            have k1 : X.drew.cell? ⟨g, m * 2 + 1, none⟩ = some (.slice (some ⟨xm.b, xm.o, none⟩) xm.L.length xm.c) := k1
            have k2 : X.drew.cell? ⟨hb, 0, none⟩ = some (.slice (some ⟨g, 0, none⟩) (m + 1) c) := two0 HX1.out
            have f0 : X.drew.frozen? ⟨g, 0, none⟩ = false := (rowL_drew HR1.out).frozenAt 0
            have f1 : X.drew.frozen? ⟨g, 1, none⟩ = false := (rowL_drew HR1.out).frozenAt 1
            have g0 : X.drew.cell? ⟨g, 0, none⟩ = some (.int .i64 (tk : Int)) := (rowL_get d (rowL_drew HR1.out) (i := 0) (by simp)).1
            have g1 : X.drew.cell? ⟨g, 1, none⟩ = some (.slice (some ⟨tb, tf, none⟩) 0 (0)) := (rowL_get d (rowL_drew HR1.out) (i := 0) (by simp)).2
            have i1 : ¬ ((m : Int) + 1 ≤ (m : Int)) := by omega
            have HS3 := hid (set_box (hb := hb) (g := g) HNE.out 0 1 (.int .i64 (xm.k : Int)) (.slice (some ⟨xm.b, xm.o, none⟩) xm.L.length xm.c) k2)
            refine region_wide (S := fun W => W.cell? ⟨hb, 0, none⟩ = some (.slice (some ⟨g, 0, none⟩) (m + 1) c) ∧ W.cell? ⟨g, m * 2, none⟩ = some (.int .i64 (xm.k : Int)) ∧ W.cell? ⟨g, m * 2 + 1, none⟩ = some (.slice (some ⟨xm.b, xm.o, none⟩) xm.L.length xm.c)) rfl (by rintro ⟨_, _, h⟩; obtain ⟨⟨v, hv⟩, _⟩ := h; cases hv) ⟨k2, k0, k1⟩ (fun hHeld => ?_)
            have HXD : Hid (Hbx X.drew hb (some ⟨g, 0, none⟩) (m + 1) c) := HX1.out
            have HGD : Hid (X.grownBy X.drew (some g)) := gr_drew (gr_refl X g)
            have HXM := hid hxm
            clear hxm
            generalize X.drew = Xd at *
            refine tkH 0 (some 44) (.pointer (some ⟨hb, 0, none⟩)) rfl ?_
            try simp only [Act.put, zzA, zzB, zzC]
            refine tkH 1 (some 45) (.pointer (some ⟨hb, 0, none⟩)) rfl ?_
            try simp only [Act.put, zzA, zzB, zzC]
            refine tkH 2 (some 46) (.pointer (some ⟨hb, 0, none⟩)) rfl ?_
            try simp only [Act.put, zzA, zzB, zzC]
            refine tkH 3 (some 47) (.slice (some ⟨g, 0, none⟩) (m + 1) c) rfl ?_
            try simp only [Act.put, zzA, zzB, zzC]
            refine tkH 4 (some 48) (.pointer (some ⟨hb, 0, none⟩)) rfl ?_
            try simp only [Act.put, zzA, zzB, zzC]
            refine tkH 5 (some 49) (.pointer (some ⟨hb, 0, none⟩)) rfl ?_
            try simp only [Act.put, zzA, zzB, zzC]
            refine tkH 6 (some 50) (.pointer (some ⟨hb, 0, none⟩)) rfl ?_
            try simp only [Act.put, zzA, zzB, zzC]
            refine tkH 7 (some 51) (.slice (some ⟨g, 0, none⟩) (m + 1) c) rfl ?_
            try simp only [Act.put, zzA, zzB, zzC]
            refine tkH 8 (some 52) (.int .i64 (m : Int)) rfl ?_
            try simp only [Act.put, zzA, zzB, zzC]
            refine tkH 9 (some 53) (.pointer (some ⟨g, m * 2, none⟩)) rfl ?_
            try simp only [Act.put, zzA, zzB, zzC]
            refine tkH 10 (some 54) (.agg #[.int .i64 (xm.k : Int), .slice (some ⟨xm.b, xm.o, none⟩) xm.L.length xm.c]) rfl ?_
            try simp only [Act.put, zzA, zzB, zzC]
            refine tkH 11 (some 55) (.pointer (some ⟨g, 0, none⟩)) rfl ?_
            try simp only [Act.put, zzA, zzB, zzC]
            refine wpAnyH_ready (rs := [12]) (by kernel_rfl) (by simp) (AllReadyH.cons (o := { dst := none, op := _, type := _, pos := _, after := _, guard := _ }) rfl ?_ AllReadyH.nil)
            intro K1 hK1
            go_simp
            obtain ⟨X3, hX3⟩ : ∃ X3, X3 = (Xd.setCell ⟨g, 0, none⟩ (.int .i64 (xm.k : Int))).setCell ⟨g, 1, none⟩ (.slice (some ⟨xm.b, xm.o, none⟩) xm.L.length xm.c) := ⟨_, rfl⟩
            have HR3 : Hid (RowL YQ base g c (m + 1) ((⟨tk, tb, tf, 0, []⟩ :: R).set 0 xm) X3) := by unfold Hid; rw [hX3]; exact HR3.out
            have HG3 : Hid (Xd.grownBy X3 (some g)) := by unfold Hid; rw [hX3]; exact gr_set (set_gr _ _ _ _) _ _
            rw [← hX3] at HS3 ⊢
            clear hX3
            have HKM : Hid (((⟨tk, tb, tf, 0, []⟩ :: R).set 0 xm).getD m d = xm) := by
              unfold Hid
              cases m with
              | zero => rfl
              | succ m => rw [← HXM.out]; rfl
            obtain ⟨s0, s1⟩ := rowL_get d HR3.out (i := m) (by rw [rowL_len HR3.out]; omega)
            rw [HKM.out] at s0 s1
            refine hK1.out _ _ ⟨HS3.out, s0, s1⟩ (fun _ => ?_)
            clear hK1 K1 s0 s1 k0 k1 k2 f0 f1 g0 g1 hHeld HKM
            try simp only [Act.put, zzA, zzB, zzC]
            refine wpAnyH_done (by kernel_rfl) ?_ _
            have HX3 : Hid (Hbx X3 hb (some ⟨g, 0, none⟩) (m + 1) c) := Hbx.kept HXD.out HG3.out (fun e => HNE.out (Option.some.inj e).symm)
            have j0 := HS3.out
            have jf := bfrz HX3.out 0
            have hmc : m ≤ c := by omega
            have hc0 : 0 < c := by omega
            gi_wp2
            obtain ⟨X4, hX4⟩ : ∃ X4, X4 = X3.setCell ⟨hb, 0, none⟩ (.slice (some ⟨g, 0, none⟩) m c) := ⟨_, rfl⟩
            have HG4 : Hid (X3.grownBy X4 (some hb)) := by unfold Hid; rw [hX4]; exact set_gr _ _ _ _
            have HX4 : Hid (Hbx X4 hb (some ⟨g, 0, none⟩) m c) := by unfold Hid; rw [hX4]; exact bset HX3.out
            have HR4 : Hid (RowL YQ base g c m (((⟨tk, tb, tf, 1, [q]⟩ :: R).set 0 (List.getD (⟨tk, tb, tf, 1, [q]⟩ :: R) m d)).take m) X4) := by
              have h := rowL_first HR3.out (Nat.le_succ m)
              rw [HEQ.out] at h
              exact World.ownsRow.kept h HG4.out (.inr (fun e => HNE.out (Option.some.inj e).symm))
            rw [← hX4]
            clear hX4
            have HI1 := hid (K.out.stay pre wr X g HI.out (.inl rfl) HG1.out)
            have HID := hid (K.out.stay pre X Xd g HI1.out (.inl rfl) HGD.out)
            have HI3 := hid (K.out.stay pre Xd X3 g HID.out (.inl rfl) HG3.out)
            have HI4 := hid (K.out.stay pre X3 X4 hb HI3.out (.inr rfl) HG4.out)
            have HC := hid (fSink YQ (ordY C.out) d base g c m hb 0 0 _ _ X4 X4 (by omega) (K.out.lok HI4.out HPH2.out (HLA2.out.ne)) (fun x hx => hx) (gr_refl _ _) HNE.out (two0 HX4.out) (two1 HX4.out) HR4.out HSF.out (Nat.le_refl _) (by omega) (by omega))
            refine ⟨trivial, ?_⟩
            refine (callsIn_wide.2 HC.out).mono ?_
            rintro e w2 ⟨rfl, H2, hp2, hh2, hr2, hg2⟩
            have v0 : w2.cell? ⟨wr.heap.size, 0, none⟩ = some (.slice q.a q.l.length q.c) := cell_gr hg2 (by omega) (cell_gr HG4.out (by omega) (cell_gr HG3.out (by omega) (cell_gr HGD.out (by omega) (two0 HNB.out))))
            have v1 : w2.cell? ⟨wr.heap.size, 1, none⟩ = some (.slice q.b q.s.length q.d) := cell_gr hg2 (by omega) (cell_gr HG4.out (by omega) (cell_gr HG3.out (by omega) (cell_gr HGD.out (by omega) (two1 HNB.out))))
            have HI2 := hid (K.out.stay pre X4 w2 g HI4.out (.inl rfl) hg2)
            have HX2 := hid (Hbx.kept HX4.out hg2 (fun e => HNE.out (Option.some.inj e).symm))
            have HR2 := hid hr2
            have HH2 := hid hh2
            have HP2 := hid hp2
            have hy := yields K.out HI2.out (.agg #[.slice q.a q.l.length q.c, .slice q.b q.s.length q.d])
            clear hr2 hh2 hp2 hg2
            gi_wp2
            refine (K.out.round 1 pre w2 ⟨tk, tb, tf, 1, [q]⟩ HI2.out (HPH.out _ List.mem_cons_self) (by simp) ⟨_, by rw [← HT.out, HALL.out]; rfl⟩).mono ?_
            rintro e w3 ⟨rfl, hi3, hh3, hg3⟩
            have HRR : Hid (RowL YQ base g c m H2 w3) := own_same HR2.out hg3
            have HXX : Hid (Hbx w3 hb (some ⟨g, 0, none⟩) m c) := hh3.trans HX2.out
            have HII := hid hi3
            have HTT : Hid ((pre ++ [q]) ++ all H2 = T) := by
              unfold Hid
              rw [all_perm C.out (HLA2.out.perm HP2.out.symm) HP2.out, ← HT.out, HALL.out]; simp
            have HMS : Hid (meas hb g w3 < meas hb g wr) := by
              unfold Hid
              rw [meas_eq HRR.out HXX.out, meas_eq HR.out HX.out, (exps_perm HP2.out).length_eq]
              rw [(exps_perm HPR.out).length_eq]; simp [exps_cons]
            clear hi3 hh3 hg3
            gi_wp2
            go_roundw
            case rel => exact ⟨H2, m, c, pre ++ [q], by omega, HXX.out, HRR.out, HH2.out, HLA2.out.perm HP2.out.symm, fun x hx => HPH2.out x (HP2.out.mem_iff.1 hx), HII.out, HTT.out⟩
            case measure => exact HMS.out
          · have hc2 : 1 < tc := by simp at hlc; omega
            simp only [List.length_nil, Nat.zero_add] at y1 hlc
            obtain ⟨hr1, hg1⟩ := gone_row (jo := tf + 2) (jc := tc - 1) HR.out
            have hgo := all_gone C.out HLA.out HH.out rfl HLN.out
            have HALL := hid hgo.1
            have HLA2 := hid hgo.2
            have HSF := hid (Heap.shrink HH.out HLN.out)
            have HPR := hid (last_perm d _ R m HLN.out)
            have HPH2 : Hid (∀ x ∈ ((⟨tk, tb, tf, tc, [q]⟩ :: R).set 0 ((⟨tk, tb, tf, tc, [q]⟩ :: R).getD m d)).take m, P x) := fun x hx => HPH.out x (List.mem_cons_of_mem _ (HPR.out.mem_iff.1 hx))
            have HEQ := hid (junk_same d ⟨tk, tb, tf, tc, [q]⟩ ⟨tk, tb, tf + 2, tc - 1, []⟩ R m)
            have HG1 := hid (gr_alloc hg1 (.cells #[.slice q.a q.l.length q.c, .slice q.b q.s.length q.d] 80))
            have HR1 := hid (hr1.alloc (.cells #[.slice q.a q.l.length q.c, .slice q.b q.s.length q.d] 80))
            have HNB := hid (heap_alloc_new (wr.setCell ⟨g, 1, none⟩ (.slice (some ⟨tb, tf + 2, none⟩) 0 (tc - 1))) (.cells #[.slice q.a q.l.length q.c, .slice q.b q.s.length q.d] 80))
            have e0 := set_size wr ⟨g, 1, none⟩ (.slice (some ⟨tb, tf + 2, none⟩) 0 (tc - 1))
            rw [e0] at HNB
            clear hr1 hg1 hgo e0
            gi_wp2
            obtain ⟨X, hX⟩ : ∃ X, X = (wr.setCell ⟨g, 1, none⟩ (.slice (some ⟨tb, tf + 2, none⟩) 0 (tc - 1))).alloc (.cells #[.slice q.a q.l.length q.c, .slice q.b q.s.length q.d] 80) := ⟨_, rfl⟩
            rw [← hX] at HG1 HR1 HNB ⊢
            clear hX
            have HX1 := hid (Hbx.kept HX.out HG1.out (fun e => HNE.out (Option.some.inj e).symm))
            obtain ⟨k0, k1⟩ := rowL_get d HR1.out (i := m) (by rw [rowL_len HR1.out]; omega)
            have HR3 := hid (rowL_set d (rowL_drew HR1.out) (i := 0) (by simp) ((⟨tk, tb, tf + 2, tc - 1, []⟩ :: R).getD m d))
            have hcc := rowL_cap HR1.out
            generalize hxm : List.getD (⟨tk, tb, tf + 2, tc - 1, []⟩ :: R) m d = xm at *
            have k0 : X.drew.cell? ⟨g, m * 2, none⟩ = some (.int .i64 (xm.k : Int)) := k0
            have k1 : X.drew.cell? ⟨g, m * 2 + 1, none⟩ = some (.slice (some ⟨xm.b, xm.o, none⟩) xm.L.length xm.c) := k1
            have k2 : X.drew.cell? ⟨hb, 0, none⟩ = some (.slice (some ⟨g, 0, none⟩) (m + 1) c) := two0 HX1.out
            have f0 : X.drew.frozen? ⟨g, 0, none⟩ = false := (rowL_drew HR1.out).frozenAt 0
            have f1 : X.drew.frozen? ⟨g, 1, none⟩ = false := (rowL_drew HR1.out).frozenAt 1
            have g0 : X.drew.cell? ⟨g, 0, none⟩ = some (.int .i64 (tk : Int)) := (rowL_get d (rowL_drew HR1.out) (i := 0) (by simp)).1
            have g1 : X.drew.cell? ⟨g, 1, none⟩ = some (.slice (some ⟨tb, tf + 2, none⟩) 0 (tc - 1)) := (rowL_get d (rowL_drew HR1.out) (i := 0) (by simp)).2
            have i1 : ¬ ((m : Int) + 1 ≤ (m : Int)) := by omega
            have HS3 := hid (set_box (hb := hb) (g := g) HNE.out 0 1 (.int .i64 (xm.k : Int)) (.slice (some ⟨xm.b, xm.o, none⟩) xm.L.length xm.c) k2)
            refine region_wide (S := fun W => W.cell? ⟨hb, 0, none⟩ = some (.slice (some ⟨g, 0, none⟩) (m + 1) c) ∧ W.cell? ⟨g, m * 2, none⟩ = some (.int .i64 (xm.k : Int)) ∧ W.cell? ⟨g, m * 2 + 1, none⟩ = some (.slice (some ⟨xm.b, xm.o, none⟩) xm.L.length xm.c)) rfl (by rintro ⟨_, _, h⟩; obtain ⟨⟨v, hv⟩, _⟩ := h; cases hv) ⟨k2, k0, k1⟩ (fun hHeld => ?_)
            have HXD : Hid (Hbx X.drew hb (some ⟨g, 0, none⟩) (m + 1) c) := HX1.out
            have HGD : Hid (X.grownBy X.drew (some g)) := gr_drew (gr_refl X g)
            have HXM := hid hxm
            clear hxm
            generalize X.drew = Xd at *
            refine tkH 0 (some 44) (.pointer (some ⟨hb, 0, none⟩)) rfl ?_
            try simp only [Act.put, zzA, zzB, zzC]
            refine tkH 1 (some 45) (.pointer (some ⟨hb, 0, none⟩)) rfl ?_
            try simp only [Act.put, zzA, zzB, zzC]
            refine tkH 2 (some 46) (.pointer (some ⟨hb, 0, none⟩)) rfl ?_
            try simp only [Act.put, zzA, zzB, zzC]
            refine tkH 3 (some 47) (.slice (some ⟨g, 0, none⟩) (m + 1) c) rfl ?_
            try simp only [Act.put, zzA, zzB, zzC]
            refine tkH 4 (some 48) (.pointer (some ⟨hb, 0, none⟩)) rfl ?_
            try simp only [Act.put, zzA, zzB, zzC]
            refine tkH 5 (some 49) (.pointer (some ⟨hb, 0, none⟩)) rfl ?_
            try simp only [Act.put, zzA, zzB, zzC]
            refine tkH 6 (some 50) (.pointer (some ⟨hb, 0, none⟩)) rfl ?_
            try simp only [Act.put, zzA, zzB, zzC]
            refine tkH 7 (some 51) (.slice (some ⟨g, 0, none⟩) (m + 1) c) rfl ?_
            try simp only [Act.put, zzA, zzB, zzC]
            refine tkH 8 (some 52) (.int .i64 (m : Int)) rfl ?_
            try simp only [Act.put, zzA, zzB, zzC]
            refine tkH 9 (some 53) (.pointer (some ⟨g, m * 2, none⟩)) rfl ?_
            try simp only [Act.put, zzA, zzB, zzC]
            refine tkH 10 (some 54) (.agg #[.int .i64 (xm.k : Int), .slice (some ⟨xm.b, xm.o, none⟩) xm.L.length xm.c]) rfl ?_
            try simp only [Act.put, zzA, zzB, zzC]
            refine tkH 11 (some 55) (.pointer (some ⟨g, 0, none⟩)) rfl ?_
            try simp only [Act.put, zzA, zzB, zzC]
            refine wpAnyH_ready (rs := [12]) (by kernel_rfl) (by simp) (AllReadyH.cons (o := { dst := none, op := _, type := _, pos := _, after := _, guard := _ }) rfl ?_ AllReadyH.nil)
            intro K1 hK1
            go_simp
            obtain ⟨X3, hX3⟩ : ∃ X3, X3 = (Xd.setCell ⟨g, 0, none⟩ (.int .i64 (xm.k : Int))).setCell ⟨g, 1, none⟩ (.slice (some ⟨xm.b, xm.o, none⟩) xm.L.length xm.c) := ⟨_, rfl⟩
            have HR3 : Hid (RowL YQ base g c (m + 1) ((⟨tk, tb, tf + 2, tc - 1, []⟩ :: R).set 0 xm) X3) := by unfold Hid; rw [hX3]; exact HR3.out
            have HG3 : Hid (Xd.grownBy X3 (some g)) := by unfold Hid; rw [hX3]; exact gr_set (set_gr _ _ _ _) _ _
            rw [← hX3] at HS3 ⊢
            clear hX3
            have HKM : Hid (((⟨tk, tb, tf + 2, tc - 1, []⟩ :: R).set 0 xm).getD m d = xm) := by
              unfold Hid
              cases m with
              | zero => rfl
              | succ m => rw [← HXM.out]; rfl
            obtain ⟨s0, s1⟩ := rowL_get d HR3.out (i := m) (by rw [rowL_len HR3.out]; omega)
            rw [HKM.out] at s0 s1
            refine hK1.out _ _ ⟨HS3.out, s0, s1⟩ (fun _ => ?_)
            clear hK1 K1 s0 s1 k0 k1 k2 f0 f1 g0 g1 hHeld HKM
            try simp only [Act.put, zzA, zzB, zzC]
            refine wpAnyH_done (by kernel_rfl) ?_ _
            have HX3 : Hid (Hbx X3 hb (some ⟨g, 0, none⟩) (m + 1) c) := Hbx.kept HXD.out HG3.out (fun e => HNE.out (Option.some.inj e).symm)
            have j0 := HS3.out
            have jf := bfrz HX3.out 0
            have hmc : m ≤ c := by omega
            have hc0 : 0 < c := by omega
            gi_wp2
            obtain ⟨X4, hX4⟩ : ∃ X4, X4 = X3.setCell ⟨hb, 0, none⟩ (.slice (some ⟨g, 0, none⟩) m c) := ⟨_, rfl⟩
            have HG4 : Hid (X3.grownBy X4 (some hb)) := by unfold Hid; rw [hX4]; exact set_gr _ _ _ _
            have HX4 : Hid (Hbx X4 hb (some ⟨g, 0, none⟩) m c) := by unfold Hid; rw [hX4]; exact bset HX3.out
            have HR4 : Hid (RowL YQ base g c m (((⟨tk, tb, tf, tc, [q]⟩ :: R).set 0 (List.getD (⟨tk, tb, tf, tc, [q]⟩ :: R) m d)).take m) X4) := by
              have h := rowL_first HR3.out (Nat.le_succ m)
              rw [HEQ.out] at h
              exact World.ownsRow.kept h HG4.out (.inr (fun e => HNE.out (Option.some.inj e).symm))
            rw [← hX4]
            clear hX4
            have HI1 := hid (K.out.stay pre wr X g HI.out (.inl rfl) HG1.out)
            have HID := hid (K.out.stay pre X Xd g HI1.out (.inl rfl) HGD.out)
            have HI3 := hid (K.out.stay pre Xd X3 g HID.out (.inl rfl) HG3.out)
            have HI4 := hid (K.out.stay pre X3 X4 hb HI3.out (.inr rfl) HG4.out)
            have HC := hid (fSink YQ (ordY C.out) d base g c m hb 0 0 _ _ X4 X4 (by omega) (K.out.lok HI4.out HPH2.out (HLA2.out.ne)) (fun x hx => hx) (gr_refl _ _) HNE.out (two0 HX4.out) (two1 HX4.out) HR4.out HSF.out (Nat.le_refl _) (by omega) (by omega))
            refine ⟨trivial, ?_⟩
            refine (callsIn_wide.2 HC.out).mono ?_
            rintro e w2 ⟨rfl, H2, hp2, hh2, hr2, hg2⟩
            have v0 : w2.cell? ⟨wr.heap.size, 0, none⟩ = some (.slice q.a q.l.length q.c) := cell_gr hg2 (by omega) (cell_gr HG4.out (by omega) (cell_gr HG3.out (by omega) (cell_gr HGD.out (by omega) (two0 HNB.out))))
            have v1 : w2.cell? ⟨wr.heap.size, 1, none⟩ = some (.slice q.b q.s.length q.d) := cell_gr hg2 (by omega) (cell_gr HG4.out (by omega) (cell_gr HG3.out (by omega) (cell_gr HGD.out (by omega) (two1 HNB.out))))
            have HI2 := hid (K.out.stay pre X4 w2 g HI4.out (.inl rfl) hg2)
            have HX2 := hid (Hbx.kept HX4.out hg2 (fun e => HNE.out (Option.some.inj e).symm))
            have HR2 := hid hr2
            have HH2 := hid hh2
            have HP2 := hid hp2
            have hy := yields K.out HI2.out (.agg #[.slice q.a q.l.length q.c, .slice q.b q.s.length q.d])
            clear hr2 hh2 hp2 hg2
            gi_wp2
            refine (K.out.round 1 pre w2 ⟨tk, tb, tf, tc, [q]⟩ HI2.out (HPH.out _ List.mem_cons_self) (by simp) ⟨_, by rw [← HT.out, HALL.out]; rfl⟩).mono ?_
            rintro e w3 ⟨rfl, hi3, hh3, hg3⟩
            have HRR : Hid (RowL YQ base g c m H2 w3) := own_same HR2.out hg3
            have HXX : Hid (Hbx w3 hb (some ⟨g, 0, none⟩) m c) := hh3.trans HX2.out
            have HII := hid hi3
            have HTT : Hid ((pre ++ [q]) ++ all H2 = T) := by
              unfold Hid
              rw [all_perm C.out (HLA2.out.perm HP2.out.symm) HP2.out, ← HT.out, HALL.out]; simp
            have HMS : Hid (meas hb g w3 < meas hb g wr) := by
              unfold Hid
              rw [meas_eq HRR.out HXX.out, meas_eq HR.out HX.out, (exps_perm HP2.out).length_eq]
              rw [(exps_perm HPR.out).length_eq]; simp [exps_cons]
            clear hi3 hh3 hg3
            gi_wp2
            go_roundw
            case rel => exact ⟨H2, m, c, pre ++ [q], by omega, HXX.out, HRR.out, HH2.out, HLA2.out.perm HP2.out.symm, fun x hx => HPH2.out x (HP2.out.mem_iff.1 hx), HII.out, HTT.out⟩
            case measure => exact HMS.out
end Go.Proofs.YtjhdmghpklagkaaGreat.Hpl
