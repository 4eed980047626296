/- The model's KindOfQuery. -/
import Derived.Test.YtbdlahhejfamhaaGreatDoorRL4
import Derived.Test.YtbdlahhejfamhaaGreatDoorRA3
import Derived.Test.YtbdlahhejfamhaaGreatDoorRD0
import Derived.Test.YtbdlahhejfamhaaGreatDoorRL2
import Derived.Test.YtbdlahhejfamhaaGreatDoorRG3
import Derived.Test.YtbdlahhejfamhaaGreatDoorRG4
import Derived.Test.YtbdlahhejfamhaaGreatDoorRG1
import Derived.Lib.SmallJoins
import Derived.Deep.RegionHeld3
namespace Go.Proofs.YtbdlahhejfamhaaGreatDoor.Qry
open Go.RowKit

theorem kmOk : ∀ n, KmOk n := by
  intro n
  induction n with
  | zero =>
    intro t x w0 S w d hd hg
    obtain rfl : d = 13 := by omega
    obtain ⟨r, ks⟩ := t
    exact absurd (nm_parts hg).2.1 (by omega)
  | succ n ih =>
    intro t x w0 S w d hd hg hv hb
    obtain ⟨r, ks⟩ := t
    obtain ⟨q, a, m, c⟩ := x
    simp only [Ev] at hv
    obtain ⟨rfl, _, xs, hn, hh, hl⟩ := hv
    subst hn
    rw [kdT]
    exact kmStep n ih q a xs c ks w0 S w d hd hg hh hl hb
def KindM (ps : List Pl) (w : World) (e : Ending) (w' : World) : Prop :=
  Below w.heap.size w w' ∧ ((e = .returned (.string ⟨#[]⟩) ∧ ¬ GoodQ ps) ∨ ∃ t, e = .returned (.string (kdT t).s) ∧ ps = rows t ∧ GoodQ ps ∧ Gt NM 1 t)
set_option maxHeartbeats 8000000 in
set_option maxRecDepth 100000 in
theorem f9 (rs : List R) (a : Option Addr) (c : Nat) (w0 w : World) (hm : rs.length ≤ maxLen) (hr : HasR w0 a rs) (hrs : ∀ q ∈ rs, Rw w0 q) (hb0 : Below w0.heap.size w0 w) :
    Calls Tryz.prog 9 #[.slice a rs.length c] w (KindM (rs.map pl) w) := by
  have HT := hid (f30 rs a c w0 w hm hr hrs hb0)
  have HB0 := hid hb0
  clear hr hrs hb0
  go_enter Tryz.func9, Tryz.ntmps9
  go_wp2_with fail
  refine HT.out.mono ?_
  rintro e w1 ⟨hb1, z, b, rfl, hb, hz⟩
  cases b with
  | false =>
    have HN : Hid (¬ GoodQ (rs.map pl)) := fun h => by have := hb.2 h; cases this
    have HB1 := hid (hb1.alloc hb1.size (EO z.q z.a z.n z.c))
    clear hb hb1 hz HT
    go_wp2
    go_ret
    exact ⟨HB1.out, .inl ⟨rfl, HN.out⟩⟩
  | true =>
    obtain ⟨t, ht, hg, hv⟩ := hz rfl
    have HE := hid ht
    have HQ := hid (hb.1 rfl)
    have HG := hid hg
    obtain ⟨Y, hY⟩ : ∃ Y, Y = w1.alloc (EO z.q z.a z.n z.c) := ⟨_, rfl⟩
    have hYB : Below w1.heap.size w1 Y := by rw [hY]; exact (Below.refl _ _).alloc (Nat.le_refl _) _
    have hYN := congrArg (fun (x : World) => x.heap[w1.heap.size]?) hY
    rw [heap_alloc_new] at hYN
    obtain ⟨d0, d1, d2, d3, d4, d5, d6, d7, d8, d9, d10, d11, d12, d13, d14, d15⟩ := sixteen hYN
    have HYX := hid (hb1.trans (hYB.mono hb1.size))
    have HC := hid (kmOk 12 t z w0 _ Y 1 rfl hg (Ev.agr (Agr.below hYB) t z hv) (HB0.out.trans (HYX.out.mono HB0.out.size)))
    have HYY := hid hY
    clear hY hYB hYN hb hb1 hz hg hv ht HT HB0
    go_upto_region 4 with fail
    rw [← HYY.out]
    clear HYY
    go_wp2_with (go_at_call 31; refine HC.out.mono ?_; rintro e w2 ⟨rfl, hb2⟩; have HB2 := hid hb2; clear hb2)
    go_ret
    exact ⟨HYX.out.trans (HB2.out.mono HYX.out.size), .inr ⟨t, rfl, HE.out, HQ.out, HG.out⟩⟩
end Go.Proofs.YtbdlahhejfamhaaGreatDoor.Qry
/- The walk of FnExactGoodQuery. -/
namespace Go.Proofs.YtbdlahhejfamhaaGreatDoor.Qry
open Go.RowKit

theorem SameTo.same {n : Nat} {rs d : List R} (h : SameTo n rs d) : Same n rs d := fun i hi => (h i hi).1
theorem rows_rw {w : World} {a : Option Addr} {d : List R} (hr : HasR w a d) (hf : FitR d) (hz : SmlR d) : ∀ q ∈ d, Rw w q := by
  intro q hq
  obtain ⟨i, hi, rfl⟩ := List.mem_iff_getElem.1 hq
  have e : d.getD i r0 = d[i] := by simp [List.getD_eq_getElem?_getD, hi]
  obtain ⟨_, _, _, _, _, hl⟩ := hr.at2 i hi
  have h2 := hf i
  have h3 := hz i hi
  rw [e] at hl h2 h3
  exact ⟨hl, h2, h3⟩

end Go.Proofs.YtbdlahhejfamhaaGreatDoor.Qry
/- What makes rules good. -/
namespace Go.Proofs.YtbdlahhejfamhaaGreatDoor.Rul
open Go.RowKit
open Go.Proofs.YtbdlahhejfamhaaGreatDoor.Rwc
open Go.Proofs.YtbdlahhejfamhaaGreatDoor.Qry (K kdT rows Gt NM GoodQ KindR KindM Tabs isT)

abbrev xName : ByteArray := ⟨#[95, 110, 97, 109, 101]⟩
abbrev xAlert : ByteArray := ⟨#[97, 108, 101, 114, 116]⟩
def KV (ps : List Qry.Pl) : Prop := ∃ t, ps = rows t ∧ ps.length ≤ 60 ∧ Gt NM 1 t ∧ (kdT t).val = true
theorem kv_no {ps : List Qry.Pl} (h : ¬ GoodQ ps) : ¬ KV ps := fun ⟨t, h1, h2, h3, _⟩ => h ⟨h2, t, h1, h3⟩
theorem kv_t {ps : List Qry.Pl} {t : Qry.Tr} (h1 : ps = rows t) (h2 : ps.length ≤ 60) (h3 : Gt NM 1 t) : KV ps ↔ (kdT t).val = true := by
  constructor
  · rintro ⟨u, g1, g2, g3, g4⟩
    have e := (Qry.rows_one NM NM t u 1 1 [] [] h3 g3 (by rw [← h1, g1])).1
    rw [e]
    exact g4
  · intro h
    exact ⟨t, h1, h2, h3, h⟩
theorem kindP {ps : List Qry.Pl} {w w' : World} {e : Ending} (h : KindR ps w e w') : Below w.heap.size w w' ∧ ∃ k : K, e = .returned (.string k.s) ∧ (KV ps ↔ k.val = true) := by
  obtain ⟨hb, h⟩ := h
  rcases h with ⟨rfl, hn⟩ | ⟨t, rfl, h1, h2, h3⟩
  · exact ⟨hb, .e, rfl, fun h => absurd h (kv_no hn), fun h => by cases h⟩
  · exact ⟨hb, kdT t, rfl, kv_t h1 h2 h3⟩
theorem kindM {ps : List Qry.Pl} {w w' : World} {e : Ending} (h : KindM ps w e w') : Below w.heap.size w w' ∧ ∃ k : K, e = .returned (.string k.s) ∧ (KV ps ↔ k.val = true) := by
  obtain ⟨hb, h⟩ := h
  rcases h with ⟨rfl, hn⟩ | ⟨t, rfl, h1, h2, h3⟩
  · exact ⟨hb, .e, rfl, fun h => absurd h (kv_no hn), fun h => by cases h⟩
  · exact ⟨hb, kdT t, rfl, kv_t h1 h2.1 h3⟩
def GoodR (q : Pl) : Prop :=
  Pat.nameL q.n.data.toList = true ∧ KV q.es ∧ q.ls.length ≤ 10 ∧ Lab.goodL q.ls = true ∧ Lab.OfV q.ls xName ⟨#[]⟩ ∧
    (if q.al = true then isT q.fo = true ∧ isT q.ke = true ∧ Lab.OfV q.ls xAlert ⟨#[]⟩ ∧ Tpl.gdT q.tx = true else q.fo = 0 ∧ q.ke = 0 ∧ q.tx = ⟨#[]⟩)
def BR (P : Prop) (w : World) (e : Ending) (w' : World) : Prop := (∃ b : Bool, e = .returned (.bool b) ∧ (b = true ↔ P)) ∧ Below w.heap.size w w'
theorem br_of {P : Prop} {w w' : World} {b : Bool} (h : b = true ↔ P) (hb : Below w.heap.size w w') : BR P w (.returned (.bool b)) w' := ⟨⟨b, rfl, h⟩, hb⟩
theorem br_no {P : Prop} {w w' : World} (h : ¬ P) (hb : Below w.heap.size w w') : BR P w (.returned (.bool false)) w' := br_of ⟨fun h => by (cases h), fun g => absurd g h⟩ hb
theorem br_yes {P : Prop} {w w' : World} (h : P) (hb : Below w.heap.size w w') : BR P w (.returned (.bool true)) w' := br_of ⟨fun _ => h, fun _ => rfl⟩ hb
theorem str_e {s : ByteArray} (h : s.toList.isEmpty = true) : s = ⟨#[]⟩ := by
  apply Classical.byContradiction
  intro e
  rw [Qry.some_str e] at h
  cases h
theorem str_ne {s : ByteArray} (h : s.toList.isEmpty = false) : s ≠ ⟨#[]⟩ := by
  rintro rfl
  simp at h
structure Bx (w : World) (q : T) (W : World) : Prop where
  one : W.heap[w.heap.size]? = some (.cells (arT q) 94)
  lst : Lst W q
  bel : Below w.heap.size w W
theorem Bx.below {w : World} {q : T} {W W' : World} (h : Bx w q W) (hb : Below W.heap.size W W') : Bx w q W' := ⟨kept h.one hb, h.lst.below hb, h.bel.trans (hb.mono h.bel.size)⟩
theorem Bx.first {w : World} {q : T} (h : Lst w q) : Bx w q (w.alloc (.cells (arT q) 94)) := by
  have hb := (Below.refl w.heap.size w).alloc (Nat.le_refl _) (.cells (arT q) 94)
  exact ⟨heap_alloc_new w _, h.below hb, hb⟩
set_option maxHeartbeats 8000000 in
set_option maxRecDepth 100000 in
theorem f57 (q : T) (w : World) (hl : Lst w q) (hf : Ft q) (hs : wt q ≤ 1048576) (htg : q.ec = q.es.length) (ht : Tabs w) :
    Calls Tryz.prog 57 #[agT q] w (BR (GoodR (pl q)) w) := by
  have HTG := hid htg
  clear htg
  have HF := hid hf
  have HT := hid ht
  have HS := hid hs
  have H0 := hid (Bx.first hl)
  obtain ⟨W0, hW⟩ : ∃ W, W = w.alloc (.cells (arT q) 94) := ⟨_, rfl⟩
  rw [← hW] at H0
  have HW := hid hW
  have hnz : q.n.size ≤ maxLen := hf.n
  have htz : q.tx.size ≤ maxLen := hf.tx
  have h1 : wt q ≤ 1048576 := hs
  unfold wt at h1
  have hel : q.es.length ≤ 1048576 := by omega
  have hll : q.ls.length ≤ 1048576 := by omega
  have HSQ : Hid (Qry.SmlR q.es) := Qry.sml_tot (by omega)
  clear hW hl hf hs ht h1
  simp only [agT]
  go_enter Tryz.func57, Tryz.ntmps57
  go_upto_region 1 with fail
  rw [← HW.out]
  clear HW
  obtain ⟨c0, c1, c2, c3, c4, c5, c6⟩ := cellsN H0.out.one
  have HNM := hid (fun v => Pat.f95 q.n v hnz)
  go_wp2_with fail
  refine (HNM.out _).mono ?_
  rintro e w1 ⟨rfl, hw1⟩
  have hw2 := hw1.symm
  clear hw1 HNM
  subst hw2
  cases hnm : Pat.nameL q.n.data.toList with
  | false =>
    have HQ : Hid (¬ GoodR (pl q)) := fun h => by have := h.1; rw [show (pl q).n = q.n from rfl, hnm] at this; cases this
    clear hnm
    go_wp2
    go_ret
    exact br_no HQ.out H0.out.bel
  | true =>
    have HG1 : Hid (Pat.nameL (pl q).n.data.toList = true) := hnm
    clear hnm
    have HK := hid (Qry.f11 q.es q.ea q.ec W0 W0 (by unfold maxLen; omega) (by rw [HTG.out]; exact Nat.le_refl _) (by rw [HTG.out]; unfold maxLen; omega) H0.out.lst.e (Qry.rows_rw H0.out.lst.e HF.out.e.1 HSQ.out) (Below.refl _ _) (HT.out.below H0.out.bel))
    go_wp2_with fail
    refine HK.out.mono ?_
    rintro e w2 hk
    obtain ⟨hb2, k, rfl, hkv⟩ := kindP hk
    have H2 := hid (H0.out.below hb2)
    have HKV := hid hkv
    clear hk hb2 hkv HK c0 c1 c2 c3 c4 c5 c6
    have HV := hid (fun v => Qry.f68 k v)
    go_wp2_with fail
    refine (HV.out _).mono ?_
    rintro e w3 ⟨rfl, hw3⟩
    have hw4 := hw3.symm
    clear hw3 HV
    subst hw4
    obtain ⟨c0, c1, c2, c3, c4, c5, c6⟩ := cellsN H2.out.one
    cases hkk : k.val with
    | false =>
      have HQ : Hid (¬ GoodR (pl q)) := fun h => by have := HKV.out.1 h.2.1; rw [hkk] at this; cases this
      clear hkk
      go_wp2
      go_ret
      exact br_no HQ.out H2.out.bel
    | true =>
      have HG2 : Hid (KV (pl q).es) := HKV.out.2 hkk
      clear hkk HKV
      by_cases h10 : 10 < q.ls.length
      · have HQ : Hid (¬ GoodR (pl q)) := fun h => by have : q.ls.length ≤ 10 := h.2.2.1; omega
        go_wp2
        go_ret
        exact br_no HQ.out H2.out.bel
      have HG3 : Hid ((pl q).ls.length ≤ 10) := by show q.ls.length ≤ 10; omega
      have HL := hid (fun v hv => Lab.f96 q.la q.ls.length q.lc q.ls v rfl HF.out.l.2 hv HF.out.l.1)
      go_wp2_with fail
      refine (HL.out _ H2.out.lst.l).mono ?_
      rintro e w4 ⟨rfl, hb4⟩
      have H4 := hid (H2.out.below hb4)
      clear hb4 HL c0 c1 c2 c3 c4 c5 c6
      obtain ⟨c0, c1, c2, c3, c4, c5, c6⟩ := cellsN H4.out.one
      cases hgl : Lab.goodL q.ls with
      | false =>
        have HQ : Hid (¬ GoodR (pl q)) := fun h => by have := h.2.2.2.1; rw [show (pl q).ls = q.ls from rfl, hgl] at this; cases this
        clear hgl
        go_wp2
        go_ret
        exact br_no HQ.out H4.out.bel
      | true =>
        have HG4 : Hid (Lab.goodL (pl q).ls = true) := hgl
        have hgp : Lab.GoodP q.ls := by unfold Lab.goodL at hgl; exact of_decide_eq_true hgl
        have HGP := hid hgp
        clear hgp
        clear hgl
        go_wp2_with fail
        refine (Lab.f97 q.la q.ls.length q.lc q.ls xName _ rfl HGP.out H4.out.lst.l).mono ?_
        rintro e w5 ⟨vn, hvn, rfl, hb5⟩
        have H5 := hid (H4.out.below hb5)
        have HVN := hid hvn
        clear hb5 hvn c0 c1 c2 c3 c4 c5 c6
        obtain ⟨c0, c1, c2, c3, c4, c5, c6⟩ := cellsN H5.out.one
        cases hve : vn.toList.isEmpty with
        | false =>
          have HQ : Hid (¬ GoodR (pl q)) := fun h => str_ne hve (Lab.OfV.uniq HVN.out h.2.2.2.2.1)
          go_wp2
          go_ret
          exact br_no HQ.out H5.out.bel
        | true =>
          obtain rfl := str_e hve
          have HG5 : Hid (Lab.OfV (pl q).ls xName ⟨#[]⟩) := HVN.out
          clear hve HVN c0 c1 c2 c3 c4 c5 c6
          obtain ⟨c0, c1, c2, c3, c4, c5, c6⟩ := cellsN H5.out.one
          cases hal : q.al with
          | false =>
            rw [hal] at c1
            by_cases hfo : q.fo = 0
            case neg =>
              have e1 : (q.fo == 0) = false := by simpa using hfo
              have HQ : Hid (¬ GoodR (pl q)) := fun h => by have h2 := h.2.2.2.2.2; rw [if_neg (by show ¬ q.al = true; rw [hal]; simp)] at h2; exact hfo h2.1
              clear hfo hal
              go_wp2
              go_ret
              exact br_no HQ.out H5.out.bel
            by_cases hke : q.ke = 0
            case neg =>
              have e0 : (q.fo == 0) = true := by simpa using hfo
              have e1 : (q.ke == 0) = false := by simpa using hke
              have HQ : Hid (¬ GoodR (pl q)) := fun h => by have h2 := h.2.2.2.2.2; rw [if_neg (by show ¬ q.al = true; rw [hal]; simp)] at h2; exact hke h2.2.1
              clear hfo hke hal
              go_wp2
              go_ret
              exact br_no HQ.out H5.out.bel
            have e0 : (q.fo == 0) = true := by simpa using hfo
            have e1 : (q.ke == 0) = true := by simpa using hke
            cases htx : q.tx.toList.isEmpty with
            | false =>
              have HQ : Hid (¬ GoodR (pl q)) := fun h => by have h2 := h.2.2.2.2.2; rw [if_neg (by show ¬ q.al = true; rw [hal]; simp)] at h2; exact str_ne htx h2.2.2
              clear hfo hke hal
              go_wp2
              go_ret
              exact br_no HQ.out H5.out.bel
            | true =>
              have HQ : Hid (GoodR (pl q)) := ⟨HG1.out, HG2.out, HG3.out, HG4.out, HG5.out, by rw [if_neg (by show ¬ q.al = true; rw [hal]; simp)]; exact ⟨hfo, hke, str_e htx⟩⟩
              clear hfo hke hal
              go_wp2
              go_ret
              exact br_yes HQ.out H5.out.bel
          | true =>
            rw [hal] at c1
            have HAL := hid hal
            clear hal
            cases hfo : isT q.fo with
            | false =>
              have HQ : Hid (¬ GoodR (pl q)) := fun h => by have h2 := h.2.2.2.2.2; rw [if_pos (show (pl q).al = true from HAL.out)] at h2; have h3 : isT q.fo = true := h2.1; rw [hfo] at h3; cases h3
              have HI := hid (fun v => Qry.f48 q.fo v)
              rw [hfo] at HI
              clear hfo
              go_wp2_with fail
              refine (HI.out _).mono ?_
              rintro e wt1 ⟨rfl, hw1⟩
              have hw2 := hw1.symm
              clear hw1
              subst hw2
              go_wp2
              go_ret
              exact br_no HQ.out H5.out.bel
            | true =>
              have HI := hid (fun v => Qry.f48 q.fo v)
              rw [hfo] at HI
              go_wp2_with fail
              refine (HI.out _).mono ?_
              rintro e wt1 ⟨rfl, hw1⟩
              have hw2 := hw1.symm
              clear hw1
              subst hw2
              cases hke : isT q.ke with
              | false =>
                have HQ : Hid (¬ GoodR (pl q)) := fun h => by have h2 := h.2.2.2.2.2; rw [if_pos (show (pl q).al = true from HAL.out)] at h2; have h3 : isT q.ke = true := h2.2.1; rw [hke] at h3; cases h3
                have HJ := hid (fun v => Qry.f48 q.ke v)
                rw [hke] at HJ
                clear hke hfo
                go_wp2_with fail
                refine (HJ.out _).mono ?_
                rintro e wt1 ⟨rfl, hw1⟩
                have hw2 := hw1.symm
                clear hw1
                subst hw2
                go_wp2
                go_ret
                exact br_no HQ.out H5.out.bel
              | true =>
                have HJ := hid (fun v => Qry.f48 q.ke v)
                rw [hke] at HJ
                have HG6 := hid hfo
                have HG7 := hid hke
                clear hke hfo
                go_wp2_with fail
                refine (HJ.out _).mono ?_
                rintro e wt1 ⟨rfl, hw1⟩
                have hw2 := hw1.symm
                clear hw1
                subst hw2
                go_wp2_with fail
                refine (Lab.f97 q.la q.ls.length q.lc q.ls xAlert _ rfl HGP.out H5.out.lst.l).mono ?_
                rintro e w9 ⟨va, hva, rfl, hb9⟩
                have H9 := hid (H5.out.below hb9)
                have HVA := hid hva
                clear c0 c1 c2 c3 c4 c5 c6 hb9 hva
                obtain ⟨c0, c1, c2, c3, c4, c5, c6⟩ := cellsN H9.out.one
                cases hve : va.toList.isEmpty with
                | false =>
                  have HQ : Hid (¬ GoodR (pl q)) := fun h => by have h2 := h.2.2.2.2.2; rw [if_pos (show (pl q).al = true from HAL.out)] at h2; exact str_ne hve (Lab.OfV.uniq HVA.out h2.2.2.1)
                  go_wp2
                  go_ret
                  exact br_no HQ.out H9.out.bel
                | true =>
                  obtain rfl := str_e hve
                  have HG8 := HVA
                  clear hve HVA
                  go_wp2_with fail
                  refine (Tpl.f98 q.tx _ htz).mono ?_
                  rintro e w10 ⟨rfl, hb10⟩
                  have H10 := hid (H9.out.below hb10)
                  have HQ : Hid (Tpl.gdT q.tx = true ↔ GoodR (pl q)) := by
                    constructor
                    · intro h
                      exact ⟨HG1.out, HG2.out, HG3.out, HG4.out, HG5.out, by rw [if_pos (show (pl q).al = true from HAL.out)]; exact ⟨HG6.out, HG7.out, HG8.out, h⟩⟩
                    · intro h
                      have h2 := h.2.2.2.2.2
                      rw [if_pos (show (pl q).al = true from HAL.out)] at h2
                      exact h2.2.2.2
                  clear hb10
                  generalize Tpl.gdT q.tx = gg at HQ ⊢
                  go_wp2
                  go_ret
                  exact br_of HQ.out H10.out.bel
set_option maxHeartbeats 8000000 in
set_option maxRecDepth 100000 in
theorem f55 (q : T) (w : World) (hl : Lst w q) (hf : Ft q) (hs : wt q ≤ 1048576) (ht : True) :
    Calls Tryz.prog 55 #[agT q] w (BR (GoodR (pl q)) w) := by
  have HF := hid hf
  have HT := hid ht
  have HS := hid hs
  have H0 := hid (Bx.first hl)
  obtain ⟨W0, hW⟩ : ∃ W, W = w.alloc (.cells (arT q) 94) := ⟨_, rfl⟩
  rw [← hW] at H0
  have HW := hid hW
  have hnz : q.n.size ≤ maxLen := hf.n
  have htz : q.tx.size ≤ maxLen := hf.tx
  have h1 : wt q ≤ 1048576 := hs
  unfold wt at h1
  have hel : q.es.length ≤ 1048576 := by omega
  have hll : q.ls.length ≤ 1048576 := by omega
  have HSQ : Hid (Qry.SmlR q.es) := Qry.sml_tot (by omega)
  clear hW hl hf hs ht h1
  simp only [agT]
  go_enter Tryz.func55, Tryz.ntmps55
  go_upto_region 1 with fail
  rw [← HW.out]
  clear HW HT
  obtain ⟨c0, c1, c2, c3, c4, c5, c6⟩ := cellsN H0.out.one
  have HK := hid (Qry.f9 q.es q.ea q.ec W0 W0 (by unfold maxLen; omega) H0.out.lst.e (Qry.rows_rw H0.out.lst.e HF.out.e.1 HSQ.out) (Below.refl _ _))
  go_wp2_with fail
  refine HK.out.mono ?_
  rintro e w2 hk
  obtain ⟨hb2, k, rfl, hkv⟩ := kindM hk
  have H2 := hid (H0.out.below hb2)
  have HKV := hid hkv
  clear hk hb2 hkv HK c0 c1 c2 c3 c4 c5 c6
  obtain ⟨c0, c1, c2, c3, c4, c5, c6⟩ := cellsN H2.out.one
  have HNM := hid (fun v => Pat.f90 q.n v hnz)
  go_wp2_with fail
  refine (HNM.out _).mono ?_
  rintro e w3 ⟨rfl, hw3⟩
  have hw4 := hw3.symm
  clear hw3 HNM
  subst hw4
  cases hnm : Pat.nameL q.n.data.toList with
  | false =>
    have HQ : Hid (¬ GoodR (pl q)) := fun h => by have := h.1; rw [show (pl q).n = q.n from rfl, hnm] at this; cases this
    clear hnm
    go_wp2
    go_ret
    exact br_no HQ.out H2.out.bel
  | true =>
    have HG1 : Hid (Pat.nameL (pl q).n.data.toList = true) := hnm
    clear hnm
    have HKT : Hid (k.val = true → (k.s.toList == [110, 117, 109, 98, 101, 114]) = true ∨ ((k.s.toList == [110, 117, 109, 98, 101, 114]) = false ∧ (k.s.toList == [118, 101, 99, 116, 111, 114]) = true)) := fun h => by
      cases k
      · cases h
      · exact .inl (Qry.lit_eq (s := K.s .n) rfl)
      · cases h
      · exact .inr ⟨Qry.lit_ne (s := K.s .v) (by decide), Qry.lit_eq (s := K.s .v) rfl⟩
      · cases h
    have HKF : Hid (k.val = false → (k.s.toList == [110, 117, 109, 98, 101, 114]) = false ∧ (k.s.toList == [118, 101, 99, 116, 111, 114]) = false) := fun h => by
      cases k
      · exact ⟨Qry.lit_ne (s := K.s .e) (by decide), Qry.lit_ne (s := K.s .e) (by decide)⟩
      · cases h
      · exact ⟨Qry.lit_ne (s := K.s .t) (by decide), Qry.lit_ne (s := K.s .t) (by decide)⟩
      · cases h
      · exact ⟨Qry.lit_ne (s := K.s .r) (by decide), Qry.lit_ne (s := K.s .r) (by decide)⟩
    cases hkk : k.val with
    | false =>
      have HQ : Hid (¬ GoodR (pl q)) := fun h => by have := HKV.out.1 h.2.1; rw [hkk] at this; cases this
      obtain ⟨k1, k2⟩ := HKF.out hkk
      clear hkk HKT HKF
      go_wp2
      go_ret
      exact br_no HQ.out H2.out.bel
    | true =>
      have HG2 : Hid (KV (pl q).es) := HKV.out.2 hkk
      have HL := hid (fun v hv => Lab.f91 q.la q.ls.length q.lc q.ls v rfl HF.out.l.2 hv HF.out.l.1)
      have kt := HKT.out hkk
      clear hkk HKV HKT HKF
      rcases kt with k1 | ⟨k1, k2⟩
      all_goals
        go_wp2_with fail
        refine (HL.out _ H2.out.lst.l).mono ?_
        rintro e w4 ⟨rfl, hb4⟩
        have H4 := hid (H2.out.below hb4)
        clear hb4 HL c0 c1 c2 c3 c4 c5 c6
        obtain ⟨c0, c1, c2, c3, c4, c5, c6⟩ := cellsN H4.out.one
        cases hgl : Lab.goodL q.ls with
        | false =>
          have HQ : Hid (¬ GoodR (pl q)) := fun h => by have := h.2.2.2.1; rw [show (pl q).ls = q.ls from rfl, hgl] at this; cases this
          clear hgl
          go_wp2
          go_ret
          exact br_no HQ.out H4.out.bel
        | true =>
          have HG4 : Hid (Lab.goodL (pl q).ls = true) := hgl
          clear hgl
          by_cases h10 : 10 < q.ls.length
          · have HQ : Hid (¬ GoodR (pl q)) := fun h => by have : q.ls.length ≤ 10 := h.2.2.1; omega
            go_wp2
            go_ret
            exact br_no HQ.out H4.out.bel
          have HG3 : Hid ((pl q).ls.length ≤ 10) := by show q.ls.length ≤ 10; omega
          have h20 : q.ls.length ≤ 20 := by omega
          go_wp2_with fail
          refine (Lab.f92 q.la q.ls.length q.lc q.ls xName _ rfl h20 H4.out.lst.l).mono ?_
          rintro e w5 ⟨vn, hvn, rfl, hb5⟩
          have H5 := hid (H4.out.below hb5)
          have HVN := hid hvn
          clear hb5 hvn c0 c1 c2 c3 c4 c5 c6
          obtain ⟨c0, c1, c2, c3, c4, c5, c6⟩ := cellsN H5.out.one
          cases hve : vn.toList.isEmpty with
          | false =>
            have HQ : Hid (¬ GoodR (pl q)) := fun h => str_ne hve (Lab.OfV.uniq HVN.out h.2.2.2.2.1)
            go_wp2
            go_ret
            exact br_no HQ.out H5.out.bel
          | true =>
            obtain rfl := str_e hve
            have HG5 : Hid (Lab.OfV (pl q).ls xName ⟨#[]⟩) := HVN.out
            clear hve HVN c0 c1 c2 c3 c4 c5 c6
            obtain ⟨c0, c1, c2, c3, c4, c5, c6⟩ := cellsN H5.out.one
            cases hal : q.al with
            | false =>
              rw [hal] at c1
              by_cases hfo : q.fo = 0
              case neg =>
                have e1 : (q.fo == 0) = false := by simpa using hfo
                have HQ : Hid (¬ GoodR (pl q)) := fun h => by have h2 := h.2.2.2.2.2; rw [if_neg (by show ¬ q.al = true; rw [hal]; simp)] at h2; exact hfo h2.1
                clear hfo hal
                go_wp2
                go_ret
                exact br_no HQ.out H5.out.bel
              by_cases hke : q.ke = 0
              case neg =>
                have e0 : (q.fo == 0) = true := by simpa using hfo
                have e1 : (q.ke == 0) = false := by simpa using hke
                have HQ : Hid (¬ GoodR (pl q)) := fun h => by have h2 := h.2.2.2.2.2; rw [if_neg (by show ¬ q.al = true; rw [hal]; simp)] at h2; exact hke h2.2.1
                clear hfo hke hal
                go_wp2
                go_ret
                exact br_no HQ.out H5.out.bel
              have e0 : (q.fo == 0) = true := by simpa using hfo
              have e1 : (q.ke == 0) = true := by simpa using hke
              cases htx : q.tx.toList.isEmpty with
              | false =>
                have HQ : Hid (¬ GoodR (pl q)) := fun h => by have h2 := h.2.2.2.2.2; rw [if_neg (by show ¬ q.al = true; rw [hal]; simp)] at h2; exact str_ne htx h2.2.2
                clear hfo hke hal
                go_wp2
                go_ret
                exact br_no HQ.out H5.out.bel
              | true =>
                have HQ : Hid (GoodR (pl q)) := ⟨HG1.out, HG2.out, HG3.out, HG4.out, HG5.out, by rw [if_neg (by show ¬ q.al = true; rw [hal]; simp)]; exact ⟨hfo, hke, str_e htx⟩⟩
                clear hfo hke hal
                go_wp2
                go_ret
                exact br_yes HQ.out H5.out.bel
            | true =>
              rw [hal] at c1
              have HAL := hid hal
              clear hal
              cases hfo : isT q.fo with
              | false =>
                have HQ : Hid (¬ GoodR (pl q)) := fun h => by have h2 := h.2.2.2.2.2; rw [if_pos (show (pl q).al = true from HAL.out)] at h2; have h3 : isT q.fo = true := h2.1; rw [hfo] at h3; cases h3
                have HI := hid (fun v => Qry.f46 q.fo v)
                rw [hfo] at HI
                clear hfo
                go_wp2_with fail
                refine (HI.out _).mono ?_
                rintro e wt1 ⟨rfl, hw1⟩
                have hw2 := hw1.symm
                clear hw1
                subst hw2
                go_wp2
                go_ret
                exact br_no HQ.out H5.out.bel
              | true =>
                have HI := hid (fun v => Qry.f46 q.fo v)
                rw [hfo] at HI
                go_wp2_with fail
                refine (HI.out _).mono ?_
                rintro e wt1 ⟨rfl, hw1⟩
                have hw2 := hw1.symm
                clear hw1
                subst hw2
                cases hke : isT q.ke with
                | false =>
                  have HQ : Hid (¬ GoodR (pl q)) := fun h => by have h2 := h.2.2.2.2.2; rw [if_pos (show (pl q).al = true from HAL.out)] at h2; have h3 : isT q.ke = true := h2.2.1; rw [hke] at h3; cases h3
                  have HJ := hid (fun v => Qry.f46 q.ke v)
                  rw [hke] at HJ
                  clear hke hfo
                  go_wp2_with fail
                  refine (HJ.out _).mono ?_
                  rintro e wt1 ⟨rfl, hw1⟩
                  have hw2 := hw1.symm
                  clear hw1
                  subst hw2
                  go_wp2
                  go_ret
                  exact br_no HQ.out H5.out.bel
                | true =>
                  have HJ := hid (fun v => Qry.f46 q.ke v)
                  rw [hke] at HJ
                  have HG6 := hid hfo
                  have HG7 := hid hke
                  clear hke hfo
                  go_wp2_with fail
                  refine (HJ.out _).mono ?_
                  rintro e wt1 ⟨rfl, hw1⟩
                  have hw2 := hw1.symm
                  clear hw1
                  subst hw2
                  go_wp2_with fail
                  refine (Lab.f92 q.la q.ls.length q.lc q.ls xAlert _ rfl h20 H5.out.lst.l).mono ?_
                  rintro e w9 ⟨va, hva, rfl, hb9⟩
                  have H9 := hid (H5.out.below hb9)
                  have HVA := hid hva
                  clear c0 c1 c2 c3 c4 c5 c6 hb9 hva
                  obtain ⟨c0, c1, c2, c3, c4, c5, c6⟩ := cellsN H9.out.one
                  cases hve : va.toList.isEmpty with
                  | false =>
                    have HQ : Hid (¬ GoodR (pl q)) := fun h => by have h2 := h.2.2.2.2.2; rw [if_pos (show (pl q).al = true from HAL.out)] at h2; exact str_ne hve (Lab.OfV.uniq HVA.out h2.2.2.1)
                    go_wp2
                    go_ret
                    exact br_no HQ.out H9.out.bel
                  | true =>
                    obtain rfl := str_e hve
                    have HG8 := HVA
                    clear hve HVA
                    go_wp2_with fail
                    refine (Tpl.f93 q.tx _ htz).mono ?_
                    rintro e w10 ⟨rfl, hb10⟩
                    have H10 := hid (H9.out.below hb10)
                    have HQ : Hid (Tpl.gdT q.tx = true ↔ GoodR (pl q)) := by
                      constructor
                      · intro h
                        exact ⟨HG1.out, HG2.out, HG3.out, HG4.out, HG5.out, by rw [if_pos (show (pl q).al = true from HAL.out)]; exact ⟨HG6.out, HG7.out, HG8.out, h⟩⟩
                      · intro h
                        have h2 := h.2.2.2.2.2
                        rw [if_pos (show (pl q).al = true from HAL.out)] at h2
                        exact h2.2.2.2
                    clear hb10
                    generalize Tpl.gdT q.tx = gg at HQ ⊢
                    go_wp2
                    go_ret
                    exact br_of HQ.out H10.out.bel
end Go.Proofs.YtbdlahhejfamhaaGreatDoor.Rul
/- What makes groups of rules good. -/
namespace Go.Proofs.YtbdlahhejfamhaaGreatDoor.Grp
open Go.RowKit
open Go.Proofs.YtbdlahhejfamhaaGreatDoor.Rwc
open Go.Proofs.YtbdlahhejfamhaaGreatDoor.Qry (Tabs)
open Go.Proofs.YtbdlahhejfamhaaGreatDoor.Rul (BR br_of br_no br_yes GoodR)

def GoodG (ev : Int) (rs : List Rul.Pl) : Prop := 1 ≤ ev ∧ ev ≤ 3600 ∧ rs.length ≤ 30 ∧ ∀ i, i < rs.length → GoodR (rs.getD i (Rul.pl Rul.t0))
theorem getD_map (ts : List Rul.T) (i : Nat) : (ts.map Rul.pl).getD i (Rul.pl Rul.t0) = Rul.pl (ts.getD i Rul.t0) := by
  rw [List.getD_eq_getElem?_getD, List.getElem?_map, List.getD_eq_getElem?_getD]
  cases ts[i]? <;> rfl
theorem same_good {c d : C} (h : Same c d) : GoodG d.ev (d.r.map Rul.pl) ↔ GoodG c.ev (c.r.map Rul.pl) := by
  have e : d.r.map Rul.pl = c.r.map Rul.pl := by
    apply List.ext_getElem?
    intro i
    by_cases hi : i < c.r.length
    · have := h.r.2 i hi
      rw [List.getD_eq_getElem?_getD, List.getD_eq_getElem?_getD, List.getElem?_eq_getElem hi, List.getElem?_eq_getElem (by rw [h.r.1]; exact hi)] at this
      rw [List.getElem?_map, List.getElem?_map, List.getElem?_eq_getElem hi, List.getElem?_eq_getElem (by rw [h.r.1]; exact hi)]
      simpa using this
    · rw [List.getElem?_map, List.getElem?_map, List.getElem?_eq_none (by rw [h.r.1]; omega), List.getElem?_eq_none (by omega)]
  rw [h.ev, e]
abbrev arG (ev : Int) (ra : Option Addr) (n rc : Nat) : Array Value := #[.int .i64 ev, .slice ra n rc]
structure Bg (w : World) (ev : Int) (ra : Option Addr) (rc : Nat) (rs : List Rul.T) (W : World) : Prop where
  one : W.heap[w.heap.size]? = some (.cells (arG ev ra rs.length rc) 44)
  has : Rul.Has W ra rs
  bel : Below w.heap.size w W
theorem Bg.below {w : World} {ev : Int} {ra : Option Addr} {rc : Nat} {rs : List Rul.T} {W W' : World} (h : Bg w ev ra rc rs W) (hb : Below W.heap.size W W') : Bg w ev ra rc rs W' := ⟨kept h.one hb, h.has.below hb, h.bel.trans (hb.mono h.bel.size)⟩
theorem Bg.first {w : World} {ev : Int} {ra : Option Addr} {rc : Nat} {rs : List Rul.T} (h : Rul.Has w ra rs) : Bg w ev ra rc rs (w.alloc (.cells (arG ev ra rs.length rc) 44)) := by
  have hb := (Below.refl w.heap.size w).alloc (Nat.le_refl _) (.cells (arG ev ra rs.length rc) 44)
  exact ⟨heap_alloc_new w _, h.below hb, hb⟩
set_option maxHeartbeats 8000000 in
set_option maxRecDepth 100000 in
theorem gg25 (ev : Int) (rs : List Rul.T) (ra : Option Addr) (rc : Nat) (w : World) (hr : Rul.Has w ra rs) (hf : Rul.Fit rs) (hl : rs.length ≤ 1048576) (hs : Rul.Sml rs) :
    Calls Tryz.prog 25 #[.agg #[.int .i64 ev, .slice ra rs.length rc]] w (BR (GoodG ev (rs.map Rul.pl)) w) := by
  have HF := hid hf
  have HS := hid hs
  have H0 := hid (Bg.first (ev := ev) (rc := rc) hr)
  obtain ⟨W0, hW⟩ : ∃ W, W = w.alloc (.cells (arG ev ra rs.length rc) 44) := ⟨_, rfl⟩
  rw [← hW] at H0
  have HW := hid hW
  clear hW hr hf hs
  obtain ⟨x0, x1⟩ := cellsC H0.out.one
  by_cases e1 : ev < 1
  · have HN : Hid (¬ GoodG ev (rs.map Rul.pl)) := fun h => by have := h.1; omega
    go_enter Tryz.func25, Tryz.ntmps25
    go_upto_region 1 with fail
    rw [← HW.out]
    go_wp2
    go_ret
    exact br_no HN.out H0.out.bel
  by_cases e2 : 3600 < ev
  · have HN : Hid (¬ GoodG ev (rs.map Rul.pl)) := fun h => by have := h.2.1; omega
    go_enter Tryz.func25, Tryz.ntmps25
    go_upto_region 1 with fail
    rw [← HW.out]
    go_wp2
    go_ret
    exact br_no HN.out H0.out.bel
  by_cases e3 : 30 < rs.length
  · have HN : Hid (¬ GoodG ev (rs.map Rul.pl)) := fun h => by have := h.2.2.1; simp at this; omega
    go_enter Tryz.func25, Tryz.ntmps25
    go_upto_region 1 with fail
    rw [← HW.out]
    go_wp2
    go_ret
    exact br_no HN.out H0.out.bel
  have HE : Hid (1 ≤ ev ∧ ev ≤ 3600 ∧ (rs.map Rul.pl).length ≤ 30) := ⟨by omega, by omega, by simp; omega⟩
  go_enter Tryz.func25, Tryz.ntmps25
  go_upto_region 1 with fail
  rw [← HW.out]
  clear HW
  go_wp2
  clear x0 x1
  go_loopw [22] (fun i wr => ∃ k : Nat, k ≤ rs.length ∧ i = .int .i64 k ∧ Hid (Bg w ev ra rc rs wr) ∧ Hid (∀ j, j < k → GoodR (Rul.pl (rs.getD j Rul.t0)))) (fun i _ => rs.length - (intOf i).toNat)
  case atStart => exact ⟨0, Nat.zero_le _, rfl, H0.out, fun j hj => by omega⟩
  case round =>
    obtain ⟨k, hk, rfl, HX, HG⟩ := hrel
    by_cases hlt : k < rs.length
    · obtain ⟨b, off, hab, hbl, hc, hl1⟩ := (HX.out.has).at2 k hlt
      obtain ⟨q, hq⟩ : ∃ q, q = rs.getD k Rul.t0 := ⟨_, rfl⟩
      have HQ := hid hq
      rw [← hq] at hc hl1
      have HF1 : Hid (Rul.Ft q) := by rw [HQ.out]; exact HF.out k
      have HZ1 : Hid (Rul.wt q ≤ 1048576) := by rw [HQ.out]; exact HS.out k hlt
      obtain ⟨d0, d1, d2, d3, d4, d5, d6⟩ := hc.all
      obtain ⟨Y, hY⟩ : ∃ Y, Y = wr.alloc (.cells (Rul.arT q) 94) := ⟨_, rfl⟩
      have hYB : Below wr.heap.size wr Y := by rw [hY]; exact (Below.refl _ _).alloc (Nat.le_refl _) _
      have hYN : Y.heap[wr.heap.size]? = some (.cells (Rul.arT q) 94) := by rw [hY]; exact heap_alloc_new _ _
      obtain ⟨z0, z1, z2, z3, z4, z5, z6⟩ := Rul.cellsN hYN
      have HL1 := hid (hl1.below hYB)
      have HXY := hid (HX.out.below hYB)
      have HBY := hid HXY.out.bel
      have HYY := hid hY
      clear hq hc hl1 hY hYB hYN
      obtain rfl := hab
      have i1 : (k : Int) < (rs.length : Int) := by omega
      go_upto_region 6 with fail
      rw [← HYY.out]
      clear HYY d0 d1 d2 d3 d4 d5 d6
      go_wp2_with fail
      refine (Rul.f55 q _ HL1.out HF1.out HZ1.out trivial).mono ?_
      rintro e w2 ⟨⟨g, rfl, hg⟩, hb2⟩
      have HX2 := hid (HXY.out.below hb2)
      have HGG := hid hg
      clear hb2 hg z0 z1 z2 z3 z4 z5 z6
      cases g with
      | false =>
        have HN : Hid (¬ GoodG ev (rs.map Rul.pl)) := fun h => by
          have h2 := h.2.2.2 k (by simpa using hlt)
          rw [getD_map, ← HQ.out] at h2
          have := HGG.out.2 h2
          cases this
        go_wp2
        go_ret
        exact br_no HN.out HX2.out.bel
      | true =>
        have HGk : Hid (∀ j, j < k + 1 → GoodR (Rul.pl (rs.getD j Rul.t0))) := fun j hj => by
          by_cases e : j = k
          · rw [e, ← HQ.out]; exact HGG.out.1 rfl
          · exact HG.out j (by omega)
        go_wp2
        go_roundw
        case rel => exact ⟨k + 1, by omega, by go_num, HX2.out, HGk.out⟩
        case measure => simp [intOf]; omega
    · have HY : Hid (GoodG ev (rs.map Rul.pl)) := ⟨HE.out.1, HE.out.2.1, HE.out.2.2, fun i hi => by rw [getD_map]; exact HG.out i (by simp at hi; omega)⟩
      go_wp2
      go_ret
      exact br_yes HY.out HX.out.bel
set_option maxHeartbeats 8000000 in
set_option maxRecDepth 100000 in
theorem gg27 (ev : Int) (rs : List Rul.T) (ra : Option Addr) (rc : Nat) (w : World) (hr : Rul.Has w ra rs) (hf : Rul.Fit rs) (hl : rs.length ≤ 1048576) (hs : Rul.Sml rs) (htg : Rul.Tight rs) (ht : Tabs w) :
    Calls Tryz.prog 27 #[.agg #[.int .i64 ev, .slice ra rs.length rc]] w (BR (GoodG ev (rs.map Rul.pl)) w) := by
  have HTG := hid htg
  have HT := hid ht
  clear htg ht
  have HF := hid hf
  have HS := hid hs
  have H0 := hid (Bg.first (ev := ev) (rc := rc) hr)
  obtain ⟨W0, hW⟩ : ∃ W, W = w.alloc (.cells (arG ev ra rs.length rc) 44) := ⟨_, rfl⟩
  rw [← hW] at H0
  have HW := hid hW
  clear hW hr hf hs
  obtain ⟨x0, x1⟩ := cellsC H0.out.one
  by_cases e1 : ev < 1
  · have HN : Hid (¬ GoodG ev (rs.map Rul.pl)) := fun h => by have := h.1; omega
    go_enter Tryz.func27, Tryz.ntmps27
    go_upto_region 1 with fail
    rw [← HW.out]
    go_wp2
    go_ret
    exact br_no HN.out H0.out.bel
  by_cases e2 : 3600 < ev
  · have HN : Hid (¬ GoodG ev (rs.map Rul.pl)) := fun h => by have := h.2.1; omega
    go_enter Tryz.func27, Tryz.ntmps27
    go_upto_region 1 with fail
    rw [← HW.out]
    go_wp2
    go_ret
    exact br_no HN.out H0.out.bel
  by_cases e3 : 30 < rs.length
  · have HN : Hid (¬ GoodG ev (rs.map Rul.pl)) := fun h => by have := h.2.2.1; simp at this; omega
    go_enter Tryz.func27, Tryz.ntmps27
    go_upto_region 1 with fail
    rw [← HW.out]
    go_wp2
    go_ret
    exact br_no HN.out H0.out.bel
  have HE : Hid (1 ≤ ev ∧ ev ≤ 3600 ∧ (rs.map Rul.pl).length ≤ 30) := ⟨by omega, by omega, by simp; omega⟩
  go_enter Tryz.func27, Tryz.ntmps27
  go_upto_region 1 with fail
  rw [← HW.out]
  clear HW
  go_wp2
  clear x0 x1
  go_loopw [22] (fun i wr => ∃ k : Nat, k ≤ rs.length ∧ i = .int .i64 k ∧ Hid (Bg w ev ra rc rs wr) ∧ Hid (∀ j, j < k → GoodR (Rul.pl (rs.getD j Rul.t0)))) (fun i _ => rs.length - (intOf i).toNat)
  case atStart => exact ⟨0, Nat.zero_le _, rfl, H0.out, fun j hj => by omega⟩
  case round =>
    obtain ⟨k, hk, rfl, HX, HG⟩ := hrel
    by_cases hlt : k < rs.length
    · obtain ⟨b, off, hab, hbl, hc, hl1⟩ := (HX.out.has).at2 k hlt
      obtain ⟨q, hq⟩ : ∃ q, q = rs.getD k Rul.t0 := ⟨_, rfl⟩
      have HQ := hid hq
      rw [← hq] at hc hl1
      have HF1 : Hid (Rul.Ft q) := by rw [HQ.out]; exact HF.out k
      have HZ1 : Hid (Rul.wt q ≤ 1048576) := by rw [HQ.out]; exact HS.out k hlt
      obtain ⟨d0, d1, d2, d3, d4, d5, d6⟩ := hc.all
      obtain ⟨Y, hY⟩ : ∃ Y, Y = wr.alloc (.cells (Rul.arT q) 94) := ⟨_, rfl⟩
      have hYB : Below wr.heap.size wr Y := by rw [hY]; exact (Below.refl _ _).alloc (Nat.le_refl _) _
      have hYN : Y.heap[wr.heap.size]? = some (.cells (Rul.arT q) 94) := by rw [hY]; exact heap_alloc_new _ _
      obtain ⟨z0, z1, z2, z3, z4, z5, z6⟩ := Rul.cellsN hYN
      have HL1 := hid (hl1.below hYB)
      have HXY := hid (HX.out.below hYB)
      have HBY := hid HXY.out.bel
      have HTq : Hid (q.ec = q.es.length) := by rw [HQ.out]; exact HTG.out k hlt
      have HYY := hid hY
      clear hq hc hl1 hY hYB hYN
      obtain rfl := hab
      have i1 : (k : Int) < (rs.length : Int) := by omega
      go_upto_region 6 with fail
      rw [← HYY.out]
      clear HYY d0 d1 d2 d3 d4 d5 d6
      go_wp2_with fail
      refine (Rul.f57 q _ HL1.out HF1.out HZ1.out HTq.out (HT.out.below HBY.out)).mono ?_
      rintro e w2 ⟨⟨g, rfl, hg⟩, hb2⟩
      have HX2 := hid (HXY.out.below hb2)
      have HGG := hid hg
      clear hb2 hg z0 z1 z2 z3 z4 z5 z6
      cases g with
      | false =>
        have HN : Hid (¬ GoodG ev (rs.map Rul.pl)) := fun h => by
          have h2 := h.2.2.2 k (by simpa using hlt)
          rw [getD_map, ← HQ.out] at h2
          have := HGG.out.2 h2
          cases this
        go_wp2
        go_ret
        exact br_no HN.out HX2.out.bel
      | true =>
        have HGk : Hid (∀ j, j < k + 1 → GoodR (Rul.pl (rs.getD j Rul.t0))) := fun j hj => by
          by_cases e : j = k
          · rw [e, ← HQ.out]; exact HGG.out.1 rfl
          · exact HG.out j (by omega)
        go_wp2
        go_roundw
        case rel => exact ⟨k + 1, by omega, by go_num, HX2.out, HGk.out⟩
        case measure => simp [intOf]; omega
    · have HY : Hid (GoodG ev (rs.map Rul.pl)) := ⟨HE.out.1, HE.out.2.1, HE.out.2.2, fun i hi => by rw [getD_map]; exact HG.out i (by simp at hi; omega)⟩
      go_wp2
      go_ret
      exact br_yes HY.out HX.out.bel
theorem f25 (c : C) (w : World) (hr : Has w c) (hf : Fit c) (hs : Sml c) : Calls Tryz.prog 25 #[agC c] w (BR (GoodG c.ev (c.r.map Rul.pl)) w) := gg25 c.ev c.r c.ra c.rc w hr.r hf.r.1 hs.r.1 hs.r.2
theorem f27 (c : C) (w : World) (hr : Has w c) (hf : Fit c) (hs : Sml c) (htg : Rul.Tight c.r) (ht : Tabs w) : Calls Tryz.prog 27 #[agC c] w (BR (GoodG c.ev (c.r.map Rul.pl)) w) := gg27 c.ev c.r c.ra c.rc w hr.r hf.r.1 hs.r.1 hs.r.2 htg ht
end Go.Proofs.YtbdlahhejfamhaaGreatDoor.Grp
/- Groups of rules that came in; the walk of FnExactGoodGroup. -/
namespace Go.Proofs.YtbdlahhejfamhaaGreatDoor.Grp
open Go.ChangeShapes Go.WideShapes Go.ChangeAt Go.RowKit Go.Deep Go.WideElems Go.Maps
open Go.Proofs.YtbdlahhejfamhaaGreatDoor.Rwc
open Go.Proofs.YtbdlahhejfamhaaGreatDoor.Qry (Tabs)
open Go.Proofs.YtbdlahhejfamhaaGreatDoor.Rul (BR)

set_option maxRecDepth 100000 in
theorem open_conf {H : Type} {enc : TypeId × Value → H} {W : World} {base : Nat} {v : Value} {d : DataW H} {p : List MemPlace} (hv : Value.okWide Tryz.prog W .any base 39 v) (h : DataW.Trod enc Tryz.prog W 0 (fun _ => true) true 39 v d p) :
    ∃ c : C, v = agC c ∧ Has W c ∧ Fit c := by
  obtain ⟨v0, v1, u0, u1, n, rfl, rfl, rfl, h0, h1⟩ := Go.Joins.open_agg2 Tryz.underlying39 (by kernel_rfl) (by kernel_rfl) hv h
  obtain ⟨z0, ea0, _, w0⟩ := DataW.trod_int Tryz.underlying3 h0
  simp only [List.cons.injEq, and_true] at ea0
  subst ea0
  simp only [Lit.wf, Bool.and_eq_true, decide_eq_true_eq] at w0
  obtain ⟨a1, n1, c1, rfl⟩ : ∃ a len cap, v1 = .slice a len cap := by
    rcases Deep.open_slice Tryz.underlying37 h1 with ⟨hq, _⟩ | ⟨a, l, c, m, n', D, Pl, hq, _⟩
    · simp only [List.cons.injEq, and_true] at hq; exact ⟨_, _, _, hq⟩
    · simp only [List.cons.injEq, and_true] at hq; exact ⟨_, _, _, hq⟩
  obtain ⟨l1, q1, m1, x1, y1⟩ := Rul.open_list (enc := enc) (a0 := a1) (len0 := n1) (cap0 := c1) (W := W) (d := u1.1) (p := u1.2) ⟨n, by simpa [Value.cells] using h1⟩
  subst q1
  exact ⟨⟨z0, l1, a1, c1⟩, rfl, ⟨x1⟩, ⟨⟨w0.1, w0.2⟩, ⟨y1, m1⟩⟩⟩

abbrev BXL (c : C) : Obj := .cells (arC c) 39
abbrev BXC (c : C) : Obj := .cells (arC c) 44
structure Wx (w : World) (c d : C) (A B : Nat) (x : World) : Prop where
  one : x.heap[A]? = some (BXL c)
  two : x.heap[B]? = some (BXC d)
  arg : Has x c
  has : Has x d
  bel : Below w.heap.size w x
theorem Wx.below {w : World} {c d : C} {A B : Nat} {x y : World} (h : Wx w c d A B x) (hb : Below x.heap.size x y) : Wx w c d A B y := ⟨kept h.one hb, kept h.two hb, h.arg.below hb, h.has.below hb, h.bel.trans (hb.mono h.bel.size)⟩
abbrev WS (w : World) (c d : C) (A B : Nat) (x : World) : Prop :=
  x.cell? ⟨A, 0, none⟩ = some (.int .i64 c.ev) ∧ x.cell? ⟨A, 1, none⟩ = some (.slice c.ra c.r.length c.rc) ∧ x.cell? ⟨B, 0, none⟩ = some (.int .i64 d.ev) ∧ x.cell? ⟨B, 1, none⟩ = some (.slice d.ra d.r.length d.rc) ∧ Wx w c d A B x
theorem Wx.cells {w : World} {c d : C} {A B : Nat} {x : World} (h : Wx w c d A B x) : WS w c d A B x := by
  obtain ⟨b0, b1⟩ := cellsC h.one
  obtain ⟨c0, c1⟩ := cellsC h.two
  exact ⟨b0, b1, c0, c1, h⟩
theorem WS.wx {w : World} {c d : C} {A B : Nat} {x : World} (h : WS w c d A B x) : Wx w c d A B x := h.2.2.2.2
theorem WS.below {w : World} {c d : C} {A B : Nat} {x y : World} (h : WS w c d A B x) (hb : Below x.heap.size x y) : WS w c d A B y := (h.wx.below hb).cells
structure Wa (w : World) (c : C) (x : World) : Prop where
  one : x.heap[w.heap.size]? = some (BXL c)
  arg : Has x c
  bel : Below w.heap.size w x
theorem Wa.below {w : World} {c : C} {x y : World} (h : Wa w c x) (hb : Below x.heap.size x y) : Wa w c y := ⟨kept h.one hb, h.arg.below hb, h.bel.trans (hb.mono h.bel.size)⟩
theorem Wa.wx {w : World} {c d : C} {x : World} (h : Wa w c x) (hd : Has x d) : Wx w c d w.heap.size x.heap.size (x.alloc (BXC d)) := by
  have hb := (Below.refl x.heap.size x).alloc (Nat.le_refl _) (BXC d)
  exact ⟨kept h.one hb, heap_alloc_new x _, h.arg.below hb, hd.below hb, h.bel.trans (hb.mono h.bel.size)⟩

set_option maxHeartbeats 4000000 in
theorem walkGroup (c : C) (w : World) (hr : Has w c) (hm : Fit c) (hR : Tabs w) :
    Calls Tryz.prog 7 #[agC c] w fun e w' => e = .returned (.bool true) ∧ Below w.heap.size w w' := by
  have H0 : Hid (Wa w c (w.alloc (BXL c))) := by
    have hb := (Below.refl w.heap.size w).alloc (Nat.le_refl _) (BXL c)
    exact ⟨heap_alloc_new w _, hr.below hb, hb⟩
  have HF := hid hm
  have HTR := hid hR
  clear hr hm hR
  simp only [agC]
  go_enter Tryz.func7, Tryz.ntmps7
  obtain ⟨x0, x1⟩ := cellsC H0.out.one
  go_wp2_with fail
  refine (f24 c 1048576 _ (by omega) (by omega) H0.out.arg HF.out).mono ?_
  rintro e w1 ⟨y, rfl, y0, y1, hy, hb1⟩
  have H1 := hid (H0.out.below hb1)
  clear hb1 H0 x0 x1
  by_cases g0 : y < 0
  · go_wp2
    go_ret
    exact ⟨rfl, H1.out.bel⟩
  have HZ := hid (hy (by omega))
  clear hy
  obtain ⟨x0, x1⟩ := cellsC H1.out.one
  go_wp2_with fail
  refine (f26 c _ H1.out.arg HZ.out).mono ?_
  rintro e w2 ⟨t2, rfl, hs2, htg2, hh2, hb2⟩
  have H2 := hid (H1.out.below hb2)
  have HS2 := hid hs2
  have HH2 := hid hh2
  clear hb2 hs2 hh2 htg2 H1 x0 x1
  go_wp2_with fail
  refine (f25 t2 _ HH2.out (HS2.out.fit HF.out) (HS2.out.sml HZ.out)).mono ?_
  rintro e w3 ⟨⟨R1, rfl, hR1⟩, hb3⟩
  have H3 := hid (H2.out.below hb3)
  have HRa := hid (hR1.trans (same_good HS2.out))
  clear hb3 hR1 H2 HH2 HS2
  obtain ⟨x0, x1⟩ := cellsC H3.out.one
  go_wp2_with fail
  refine (f26 c _ H3.out.arg HZ.out).mono ?_
  rintro e w4 ⟨d, rfl, hs4, htg, hh4, hb4⟩
  have H5 := hid ((H3.out.below hb4).wx hh4)
  have HS4 := hid hs4
  have HTG := hid htg
  clear hb4 hs4 hh4 htg H3 x0 x1
  have HTR5 := hid (HTR.out.below H5.out.bel)
  obtain ⟨W5, hW5⟩ : ∃ W, W = w4.alloc (BXC d) := ⟨_, rfl⟩
  rw [← hW5] at H5 HTR5
  have HW5 := hid hW5
  clear hW5
  go_upto_region 7 with fail
  rw [← HW5.out]
  clear HW5
  generalize w4.heap.size = BB at *
  obtain ⟨c0, c1⟩ := cellsC H5.out.two
  go_wp2_with fail
  refine (f27 d _ H5.out.has (HS4.out.fit HF.out) (HS4.out.sml HZ.out) HTG.out HTR5.out).mono ?_
  rintro e w6 ⟨⟨R2, rfl, hR2⟩, hb6⟩
  have e12 : R2 = R1 := by
    have h1 := HRa.out
    have h2 := hR2.trans (same_good HS4.out)
    cases R1 <;> cases R2 <;> first | rfl | (have := h2.2 (h1.1 rfl); cases this) | (have := h1.2 (h2.1 rfl); cases this)
  subst e12
  have H6 := hid (H5.out.below hb6)
  clear hb6 hR2 HRa H5 HTR5 c0 c1
  have HZ4 := hid (HS4.out.sml HZ.out)
  have gR : (R2 != R2) = false := by simp
  go_wp2_with fail
  go_region_held3 (fun x => WS w c d w.heap.size BB x) (first | exact (H6.out.below (below_drew _)).cells | assumption) (first | (go_at_call 26; refine (f26 c _ (Wx.arg (WS.wx (by assumption))) HZ.out).mono ?_; rintro e w7 ⟨t7, rfl, hs7, htg7, hh7, hb7⟩; have hq7 := WS.below (by assumption) hb7; clear hb7 htg7) | (go_at_call 28; refine (f28 d t7 _ (Wx.has (WS.wx (by assumption))) (by assumption) HZ4.out (HS4.out.trans' (by assumption))).mono ?_; rintro e w8 ⟨rfl, hb8⟩; have hq8 := WS.below (by assumption) hb8; clear hb8))
  have HX8 := hid hq8.wx
  clear hq8
  go_wp2
  go_ret
  exact ⟨rfl, HX8.out.bel⟩
end Go.Proofs.YtbdlahhejfamhaaGreatDoor.Grp
