/- What is selected of series, good or not: the model's l7Select. -/
import Derived.Test.YtjhdmghpklagkaaGreatD23
import Derived.Test.YtjhdmghpklagkaaGreatD07
import Derived.Test.YtjhdmghpklagkaaGreatD20
namespace Go.Proofs.YtjhdmghpklagkaaGreat.Srs
open Go.RowKit
open Go.Proofs.YtjhdmghpklagkaaGreat.Lab (Lb HasL OfV GoodP)
open Go.Proofs.YtjhdmghpklagkaaGreat.Smp (Sm HasS cut)
open Go.Proofs.YtjhdmghpklagkaaGreat.Pat (Mt HasM goodM allM FitM)

abbrev Vf := List Lb → ByteArray → ByteArray
def hit (val : Vf) (ms : List Mt) (x y : Int) (p : Pl) : List Pl := if cut p.2 x y = [] then [] else if allM ms (val p.1) = true then [(p.1, cut p.2 x y)] else []
def sl (val : Vf) (ms : List Mt) (qs : List Q) (x y : Int) : Nat → List Pl
  | 0 => []
  | k + 1 => sl val ms qs x y k ++ hit val ms x y (pl (qs.getD k q0))
theorem hit_len (val : Vf) (ms : List Mt) (x y : Int) (p : Pl) : (hit val ms x y p).length ≤ 1 := by
  unfold hit
  split
  · simp
  · split <;> simp
theorem hit_no {val : Vf} {ms : List Mt} {x y : Int} {q : Q} (hc : cut q.s x y = []) : hit val ms x y (pl q) = [] := if_pos hc
theorem hit_yes {val : Vf} {ms : List Mt} {x y : Int} {q : Q} (hc : ¬ cut q.s x y = []) : hit val ms x y (pl q) = if allM ms (val q.l) = true then [(q.l, cut q.s x y)] else [] := if_neg hc
theorem sl_len (val : Vf) (ms : List Mt) (qs : List Q) (x y : Int) : ∀ k, (sl val ms qs x y k).length ≤ k := by
  intro k
  induction k with
  | zero => exact Nat.le_refl _
  | succ k ih => rw [sl, List.length_append]; have := hit_len val ms x y (pl (qs.getD k q0)); omega
theorem infoQ' : (Tryz.prog.info? 80).map (fun i => (i.zero, i.size, i.bytes)) = some (some (.agg #[.slice none 0 0, .slice none 0 0]), 2, 48) := by kernel_rfl
theorem two_new (w : World) (x y : Value) (t : TypeId) : ∀ j u, [x, y][j]? = some u → (w.alloc (.cells #[x, y] t)).cell? ((⟨w.heap.size, 0, none⟩ : Addr).add j) = some u := Smp.two_new w x y t
theorem own_form' {w : World} {base e size n : Nat} {v : Value} {xs : List Value} (h : w.ownsRow base e size v n xs) (hp : 0 < n) : ∃ g c, v = .slice (some ⟨g, 0, none⟩) n c := by
  rcases h.2 with ⟨_, h2⟩ | ⟨g, cap, cur, h1, _⟩
  · omega
  · exact ⟨g, cap, h1⟩
theorem sel_len {R : List Q} {L : List Pl} (h : R.map pl = L) : R.length = L.length := by rw [← h]; simp
theorem named_ne {ls : List Lb} (h : Named ls) : ls ≠ [] := by
  rintro rfl
  exact h.2 (.inr ⟨fun k hk => by simp at hk, rfl⟩)
def LowQ (qs : List Q) : Prop := qs.length ≤ 200 ∧ ∀ i, i < qs.length → Named (qs.getD i q0).l ∧ (qs.getD i q0).s.length ≤ 2000
set_option maxHeartbeats 4000000 in
theorem f115w (val : Vf) (hv : ∀ ls x, OfV ls x (val ls x)) (a am : Option Addr) (n c nm cm : Nat) (qs : List Q) (ms : List Mt) (x y : Int) (w : World) (hn : qs.length = n) (hnm : ms.length = nm) (hr : HasQ w a qs) (hm : HasM w am ms) (hg : LowQ qs) (hgm : goodM ms = true) :
    Calls Tryz.prog 115 #[.slice a n c, .slice am nm cm, .int .i64 x, .int .i64 y] w fun e w' => ∃ a' m' c' R, e = .returned (.slice a' m' c') ∧ OwnO w.heap.size a' m' c' R w' ∧ R.map pl = sl val ms qs x y n ∧ Below w.heap.size w w' := by
  obtain ⟨i0, hi, hz0, hz1, hz2⟩ := info_parts infoQ'
  have HN := hid hn
  have HNM := hid hnm
  have HR := hid hr
  have HMs := hid hm
  have HG := hid hg
  have HGM := hid hgm
  have HV := hid hv
  have h200 : n ≤ 200 := by rw [← HN.out]; exact HG.out.1
  clear hn hnm hr hm hg hgm hv
  go_enter Tryz.func115, Tryz.ntmps115
  go_wp2
  go_loopw [9, 15] (fun so si wr => ∃ (k m c' : Nat) (a' : Option Addr) (R : List Q), k ≤ n ∧ si = .int .i64 k ∧ so = .slice a' m c' ∧ Hid (OwnO w.heap.size a' m c' R wr) ∧ Hid (R.map pl = sl val ms qs x y k) ∧ Hid (Below w.heap.size w wr)) (fun _ si _ => n - (intOf si).toNat)
  case atStart => exact ⟨0, 0, 0, none, [], Nat.zero_le _, rfl, rfl, OwnO.nil _ _, rfl, Below.refl _ _⟩
  case round =>
    obtain ⟨k, m, c', a', R, hk, rfl, rfl, HO, HS, HX⟩ := hrel
    by_cases hlt : k < n
    rotate_left
    · obtain rfl : k = n := by omega
      go_wp2
      go_ret
      exact ⟨a', m, c', R, rfl, HO.out, HS.out, HX.out⟩
    obtain ⟨b, off, rfl, hbl, c0, c1, t1, t2⟩ := (HR.out.below HX.out).at2 k (by rw [HN.out]; exact hlt)
    have HQ := hid (HG.out.2 k (by rw [HN.out]; exact hlt))
    have hm : m ≤ 200 := by have := HO.out.len; have := sel_len HS.out; have := sl_len val ms qs x y k; omega
    have HSl : Hid (sl val ms qs x y (k + 1) = sl val ms qs x y k ++ hit val ms x y (pl (qs.getD k q0))) := rfl
    generalize qs.getD k q0 = q at *
    have HGp := hid (good_goodP HQ.out.1.1)
    have hs2k : q.s.length ≤ 2000 := HQ.out.2
    have HNe := hid (named_ne HQ.out.1)
    have HG1 := hid (box_gg (w := w) (q := q) (p := q) c0 t1 t2 t1 hbl HX.out)
    have HW0 := hid ((Below.refl wr.heap.size wr).alloc (Nat.le_refl _) (.cells #[.slice q.a q.l.length q.c, .slice q.b q.s.length q.d] 80))
    clear t1 t2 hbl
    go_wp2_with fail
    refine (Smp.f148 q.b q.d q.s x y _ (by omega) (GG.t2 HG1.out)).mono ?_
    rintro e w2 ⟨v2, rfl, hv2, hb2⟩
    have HG2 := hid (GG.below HG1.out hb2)
    have HW2 := hid (HW0.out.trans (hb2.mono HW0.out.size))
    have HV2 : Hid (Smp.Own w2 wr.heap.size v2 (cut q.s x y)) := own_base hv2 HW0.out.size
    clear hb2 hv2 HG1 c0 c1
    obtain ⟨e0, e1, _⟩ := id HG2.out
    have HMs2 := hid (HMs.out.below HG2.out.bel)
    by_cases hc : cut q.s x y = []
    · have HE2 : Hid (sl val ms qs x y (k + 1) = sl val ms qs x y k) := by unfold Hid; rw [HSl.out, hit_no hc, List.append_nil]
      have HO2 := hid (HO.out.below HW2.out)
      have HX2 := hid HG2.out.bel
      obtain ⟨a2, c2, rfl⟩ := Smp.own_form HV2.out
      have hl2 : (cut q.s x y).length = 0 := by rw [hc]; rfl
      rw [hl2] at *
      go_wp2
      go_roundw
      case rel => exact ⟨k + 1, m, c', a', R, by omega, by go_num, rfl, HO2.out, by unfold Hid; rw [HE2.out]; exact HS.out, HX2.out⟩
      case measure => simp [intOf]; omega
    have hpos : 0 < (cut q.s x y).length := List.length_pos_iff.2 hc
    obtain ⟨gs, c2, rfl⟩ := own_form' HV2.out hpos
    have hle2 : (cut q.s x y).length ≤ 2000 := Nat.le_trans (Smp.cut_len _ _ _) hs2k
    have HHit : Hid (hit val ms x y (pl q) = if allM ms (val q.l) = true then [(q.l, cut q.s x y)] else []) := hid (hit_yes hc)
    clear hc
    generalize cut q.s x y = C at *
    have hpi : (0 : Int) < (C.length : Int) := by omega
    go_wp2_with fail
    refine (Pat.f113 am q.a nm cm q.l.length q.c ms q.l (val q.l) _ HNM.out rfl HMs2.out (GG.t1 HG2.out) HGM.out HGp.out (HV.out q.l)).mono ?_
    rintro e w3 ⟨rfl, hb3⟩
    have HG3 := hid (GG.below HG2.out hb3)
    have HW3 := hid (HW2.out.trans (hb3.mono HW2.out.size))
    have HV3 : Hid (Smp.Own w3 wr.heap.size (.slice (some ⟨gs, 0, none⟩) C.length c2) C) := own_below HV2.out hb3
    clear hb3 HG2 HV2 e0 e1 HMs2
    obtain ⟨e0, e1, _⟩ := id HG3.out
    cases hA : allM ms (val q.l)
    · have HE3 : Hid (sl val ms qs x y (k + 1) = sl val ms qs x y k) := by unfold Hid; rw [HSl.out, HHit.out, hA]; simp
      have HO3 := hid (HO.out.below HW3.out)
      have HX3 := hid HG3.out.bel
      go_wp2
      go_roundw
      case rel => exact ⟨k + 1, m, c', a', R, by omega, by go_num, rfl, HO3.out, by unfold Hid; rw [HE3.out]; exact HS.out, HX3.out⟩
      case measure => simp [intOf]; omega
    have HE3 : Hid (sl val ms qs x y (k + 1) = sl val ms qs x y k ++ [(q.l, C)]) := by unfold Hid; rw [HSl.out, HHit.out, hA]; simp
    obtain ⟨bl, ol, hql⟩ : ∃ b o, q.a = some ⟨b, o, none⟩ := by
      rcases GG.t1 HG3.out with h | ⟨b, o, h, _⟩
      · exact absurd h HNe.out
      · exact ⟨b, o, h⟩
    have HT3 := hid (GG.t1 HG3.out)
    rw [hql] at HT3 e0
    clear hql
    have hll : q.l.length ≤ 20 := HGp.out.1
    have hlp : 0 < q.l.length := List.length_pos_iff.2 HNe.out
    go_wp2_with fail
    refine (f111 bl ol q.c q.l _ (by omega) HT3.out).mono ?_
    rintro e w4 ⟨v4, rfl, ho4, hb4⟩
    have HG4 := hid (GG.below HG3.out hb4)
    have HW4 := hid (HW3.out.trans (hb4.mono HW3.out.size))
    obtain ⟨gl, cl4, rfl⟩ := own_form' ho4 hlp
    have HL4 : Hid (OwnL w4 wr.heap.size (.slice (some ⟨gl, 0, none⟩) q.l.length cl4) q.l) := own_base ho4 HW3.out.size
    have hgl : w3.heap.size ≤ gl := (ho4.lt gl rfl).1
    have HV4 : Hid (Smp.Own w4 wr.heap.size (.slice (some ⟨gs, 0, none⟩) C.length c2) C) := own_below HV3.out hb4
    have hgs : wr.heap.size ≤ gs ∧ gs < w3.heap.size := HV3.out.lt gs rfl
    clear ho4 hb4 HG3 HV3 HT3 e0 e1
    have hne : gl ≠ gs := by omega
    obtain ⟨q', hq'⟩ : ∃ q' : Q, q' = ⟨q.l, some ⟨gl, 0, none⟩, cl4, C, some ⟨gs, 0, none⟩, c2⟩ := ⟨_, rfl⟩
    have HQ4 : Hid (Own2 w.heap.size q' w4 ∧ wr.heap.size ≤ blk q'.a ∧ wr.heap.size ≤ blk q'.b ∧ pl q' = (q.l, C) ∧ cl q' = [.slice (some ⟨gl, 0, none⟩) q.l.length cl4, .slice (some ⟨gs, 0, none⟩) C.length c2]) := by
      rw [hq']
      exact ⟨⟨rfl, rfl, own_base HL4.out HX.out.size, own_base HV4.out HX.out.size, hne⟩, Nat.le_trans HW3.out.size hgl, hgs.1, rfl, rfl⟩
    clear hq' HL4 HV4
    have HO4 := hid (HO.out.below HW4.out)
    go_wp2_with (at_builtin; refine wpList_append_own_at _ rfl (.tmp 33) (.tmp 39) 33 rfl w.heap.size 80 i0 (.agg #[.slice none 0 0, .slice none 0 0]) 2 48 Tryz.underlying33 hi hz0 hz1 hz2 rfl (by decide) _ _ _ rfl (HO4.out.row.alloc _) ⟨w4.heap.size, 0, none⟩ 1 1 [.slice (some ⟨gl, 0, none⟩) q.l.length cl4, .slice (some ⟨gs, 0, none⟩) C.length c2] rfl rfl ?d1 ?d2 ?d3 ?d4 ?d5 ?_)
    case d1 => first | exact two_new w4 _ _ _ | exact fun j u h => h
    case d2 => first | (intro u hu; simp at hu; rcases hu with rfl | rfl <;> rfl) | (refine ⟨?_, ?_⟩ <;> rfl) | rfl
    case d3 => unfold maxLen; omega
    case d4 => omega
    case d5 => have := HG4.out.bel.size; simp; omega
    intro v6 w6 hown6 hgr6 _ hat6
    obtain ⟨a6, c6, rfl⟩ := Smp.own_form hown6
    have HX6 := hid ((HG4.out.bel.alloc HG4.out.bel.size (.cells #[.slice (some ⟨gl, 0, none⟩) q.l.length cl4, .slice (some ⟨gs, 0, none⟩) C.length c2] 80)).grown hgr6 (by have := HG4.out.bel.size; simp; omega) (fun j hj => (HO4.out.row.lt j hj).1))
    have HO6 : Hid (OwnO w.heap.size a6 (m + 1) c6 (R ++ [q']) w6) := by
      have hba := (Below.refl w4.heap.size w4).alloc (Nat.le_refl _) (.cells #[.slice (some ⟨gl, 0, none⟩) q.l.length cl4, .slice (some ⟨gs, 0, none⟩) C.length c2] 80)
      refine HO.out.push (HW4.out.trans (hba.mono HW4.out.size)) (HQ4.out.1.below hba) HQ4.out.2.1 HQ4.out.2.2.1 hgr6 ?_ (by rw [World.size_alloc]; exact hat6)
      have e : flat (R ++ [q']) = flat R ++ [.slice (some ⟨gl, 0, none⟩) q.l.length cl4, .slice (some ⟨gs, 0, none⟩) C.length c2] := by
        rw [flat_append]
        show flat R ++ (cl q' ++ []) = _
        rw [HQ4.out.2.2.2.2, List.append_nil]
      rw [e]
      exact hown6
    have HS6 : Hid ((R ++ [q']).map pl = sl val ms qs x y (k + 1)) := by unfold Hid; rw [HE3.out, List.map_append, HS.out, List.map_singleton, HQ4.out.2.2.2.1]
    clear hown6 hgr6 hat6
    go_wp2
    go_roundw
    case rel => exact ⟨k + 1, m + 1, c6, a6, R ++ [q'], by omega, by go_num, rfl, HO6.out, HS6.out, HX6.out⟩
    case measure => simp [intOf]; omega
end Go.Proofs.YtjhdmghpklagkaaGreat.Srs
