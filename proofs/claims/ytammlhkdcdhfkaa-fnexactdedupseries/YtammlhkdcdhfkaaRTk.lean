/- Merged samples: the program's joinSamples, the first one being chosen. -/
import Derived.Test.YtammlhkdcdhfkaaRTj
import Derived.Test.YtammlhkdcdhfkaaRTh
namespace Go.Proofs.Ytammlhkdcdhfkaa.Smp
open Go.RowKit

theorem has_first {w : World} {a : Option Addr} {L : List Sm} (h : HasS w a L) (hp : 0 < L.length) : ∃ b off, a = some ⟨b, off, none⟩ ∧ b < w.heap.size ∧ w.cell? ⟨b, off, none⟩ = some (.int .i64 (L.getD 0 e0).1) ∧ w.cell? ⟨b, off + 1, none⟩ = some (.int .i64 (L.getD 0 e0).2) := by
  rcases h with h | ⟨b, off, h1, h2, h3⟩
  · rw [h] at hp; simp at hp
  · have := h3 0 hp
    simp only [Nat.zero_mul, Nat.add_zero] at this
    exact ⟨b, off, h1, h2, this.1, this.2⟩
theorem has_tail {w : World} {b off : Nat} {L : List Sm} (h : HasS w (some ⟨b, off, none⟩) L) : HasS w (some ⟨b, off + 2, none⟩) (L.drop 1) := by
  rcases h with h | ⟨b', off', hbo, h2, h3⟩
  · subst h; exact .inl rfl
  · simp only [Option.some.injEq, Addr.mk.injEq, and_true] at hbo
    obtain ⟨rfl, rfl⟩ := hbo
    refine .inr ⟨b, off + 2, rfl, h2, fun i hi => ?_⟩
    have hi' : i + 1 < L.length := by simp at hi; omega
    have h1 : (L.drop 1).getD i e0 = L.getD (i + 1) e0 := by simp [List.getD_eq_getElem?_getD]
    rw [h1, show off + 2 + i * 2 = off + (i + 1) * 2 from by omega]
    exact h3 (i + 1) hi'
theorem drop_getD (L : List Sm) (k : Nat) : (L.drop k).getD 0 e0 = L.getD k e0 := by simp [List.getD_eq_getElem?_getD]

/-- What is left of a list: a slice value, its row in the world ahead of the call. -/
structure Rest (w : World) (ys : List Sm) (k : Nat) (v : Value) : Prop where
  le : k ≤ ys.length
  form : (ys.length ≤ k ∧ v = .slice none 0 0) ∨ ∃ ad c, v = .slice (some ad) (ys.length - k) c ∧ ys.length - k ≤ c ∧ HasS w (some ad) (ys.drop k)
theorem Rest.init {w : World} {a : Option Addr} {c : Nat} {ys : List Sm} (h : HasS w a ys) (hc : ys.length ≤ c) (hn : a = none → c = 0) : Rest w ys 0 (.slice a ys.length c) := by
  refine ⟨Nat.zero_le _, ?_⟩
  cases a with
  | none =>
    have h1 := hn rfl
    subst h1
    have : ys.length = 0 := by omega
    exact .inl ⟨by omega, by rw [this]⟩
  | some x => exact .inr ⟨x, c, rfl, hc, h⟩
theorem Rest.len {w : World} {ys : List Sm} {k : Nat} {v : Value} (h : Rest w ys k v) : ∃ a c, v = .slice a (ys.length - k) c := by
  rcases h.form with ⟨h1, h2⟩ | ⟨ad, c, h1, _⟩
  · exact ⟨none, 0, by rw [h2, show ys.length - k = 0 from by omega]⟩
  · exact ⟨_, _, h1⟩
/-- One is left, and its cells. -/
theorem Rest.head {w : World} {ys : List Sm} {k : Nat} {v : Value} (h : Rest w ys k v) (hk : k < ys.length) : ∃ b off r c, ys.length - k = r + 1 ∧ r ≤ c ∧ v = .slice (some ⟨b, off, none⟩) (r + 1) (c + 1) ∧ b < w.heap.size ∧ w.cell? ⟨b, off, none⟩ = some (.int .i64 (ys.getD k e0).1) ∧ w.cell? ⟨b, off + 1, none⟩ = some (.int .i64 (ys.getD k e0).2) ∧
    Rest w ys (k + 1) (.slice (some ⟨b, off + 2, none⟩) r c) ∧ (r = 0 → Rest w ys (k + 1) (.slice (some ⟨b, off, none⟩) 0 0)) := by
  rcases h.form with ⟨h1, _⟩ | ⟨ad, c, h1, h2, h3⟩
  · omega
  · obtain ⟨b, off, hbo, hb, d0, d1⟩ := has_first h3 (by simp; omega)
    simp only [Option.some.injEq] at hbo
    subst hbo
    rw [drop_getD] at d0 d1
    have ht := has_tail h3
    rw [List.drop_drop] at ht
    refine ⟨b, off, ys.length - k - 1, c - 1, by omega, by omega, ?_, hb, d0, d1, ⟨by omega, .inr ⟨_, _, rfl, by omega, ht⟩⟩, fun h0 => ⟨by omega, .inr ⟨⟨b, off, none⟩, 0, ?_, by omega, .inl ?_⟩⟩⟩
    · rw [h1, show ys.length - k - 1 + 1 = ys.length - k from by omega, show c - 1 + 1 = c from by omega]
    · rw [show ys.length - (k + 1) = 0 from by omega]
    · exact List.drop_eq_nil_of_le (by omega)

def lenOf (v : Value) : Nat := match v with | .slice _ n _ => n | _ => 0
theorem box_grown {w w' : World} {b : Nat} {o : Obj} {r : Option Nat} (h : w.heap[b]? = some o) (hg : w.grownBy w' r) (hne : ∀ g, r = some g → g ≠ b) : w'.heap[b]? = some o := by
  have : b < w.heap.size := (Array.getElem?_eq_some_iff.1 h).1
  rw [hg.block b this (by intro e; exact hne _ e.symm rfl)]; exact h
theorem ne_grown {v v' : Value} {B S : Nat} (hat : v'.ownBlock = v.ownBlock ∨ v'.ownBlock = some S) (hB : B < S) (h : ∀ g, v.ownBlock = some g → g ≠ B) : ∀ g, v'.ownBlock = some g → g ≠ B := by
  intro g hg
  rcases hat with e | e
  · exact h g (by rw [← e]; exact hg)
  · rw [e] at hg; cases hg; omega

set_option maxHeartbeats 2000000 in
theorem f37 (s t s' t' : Int) (w : World) :
    Calls Try.prog 37 #[.agg #[.int .i64 s, .int .i64 t], .agg #[.int .i64 s', .int .i64 t']] w fun e w' => e = .returned (.agg #[.int .i64 s, .int .i64 t]) ∧ Below w.heap.size w w' := by
  go_enter Try.func37, Try.ntmps37
  go_wp2
  refine bodyPost_ret (v := .agg #[.int .i64 s, .int .i64 t]) (by simp [results, Try.results37, go_sem]) rfl ⟨rfl, ?_⟩
  exact (((Below.refl w.heap.size w).alloc (Nat.le_refl _) _).alloc (by simp) _).alloc (by simp; omega) _

theorem below_drewT {w w' : World} (h : Below w.drew.heap.size w.drew w') : Below w.heap.size w w' := (Below.refl _ w).drew.trans h
theorem fr0 {w : World} {b t o : Nat} {cs : Array Value} (h : w.heap[b]? = some (.cells cs t (0, 0))) : w.frozen? ⟨b, o, none⟩ = false := by simp [World.frozen?, h]

/-- What is read where one is chosen. -/
abbrev SJ (w0 : World) (B bb ob : Nat) (s t s' t' : Int) (w : World) : Prop := w.cell? ⟨B, 0, none⟩ = some (.int .i64 s) ∧ w.cell? ⟨B, 1, none⟩ = some (.int .i64 t) ∧ w.cell? ⟨bb, ob, none⟩ = some (.int .i64 s') ∧ w.cell? ⟨bb, ob + 1, none⟩ = some (.int .i64 t') ∧ Below w0.heap.size w0 w
theorem SJ.drew {w0 w : World} {B bb ob : Nat} {s t s' t' : Int} (h : SJ w0 B bb ob s t s' t' w) : SJ w0 B bb ob s t s' t' w.drew := ⟨h.1, h.2.1, h.2.2.1, h.2.2.2.1, h.2.2.2.2.drew⟩
theorem SJ.below {w0 w w' : World} {B bb ob : Nat} {s t s' t' : Int} (hB : B < w.heap.size) (hb : bb < w0.heap.size) (h : SJ w0 B bb ob s t s' t' w) (hw : Below w.heap.size w w') : SJ w0 B bb ob s t s' t' w' := by
  have hs := h.2.2.2.2.size
  exact ⟨(hw.cell (p := ⟨B, 0, none⟩) hB).trans h.1, (hw.cell (p := ⟨B, 1, none⟩) hB).trans h.2.1, (hw.cell (p := ⟨bb, ob, none⟩) (by show bb < _; omega)).trans h.2.2.1, (hw.cell (p := ⟨bb, ob + 1, none⟩) (by show bb < _; omega)).trans h.2.2.2.1, h.2.2.2.2.trans (hw.mono hs)⟩
theorem SJ.set {w0 w : World} {B bb ob T : Nat} {s t s' t' x y : Int} (hB : w0.heap.size ≤ B) (hb : bb < w0.heap.size) (h : SJ w0 B bb ob s t s' t' w) (hx : w.heap[B]? = some (.cells #[.int .i64 s, .int .i64 t] T (0, 0))) : SJ w0 B bb ob x y s' t' ((w.setCell ⟨B, 0, none⟩ (.int .i64 x)).setCell ⟨B, 1, none⟩ (.int .i64 y)) := by
  have hbb := (h.2.2.2.2.setCell (p := ⟨B, 0, none⟩) hB (.int .i64 x)).setCell (p := ⟨B, 1, none⟩) hB (.int .i64 y)
  refine ⟨two0 (two_set _ _ hx), two1 (two_set _ _ hx), ?_, ?_, hbb⟩
  · exact ((hbb.cell (p := ⟨bb, ob, none⟩) hb).trans (h.2.2.2.2.cell (p := ⟨bb, ob, none⟩) hb).symm).trans h.2.2.1
  · exact ((hbb.cell (p := ⟨bb, ob + 1, none⟩) hb).trans (h.2.2.2.2.cell (p := ⟨bb, ob + 1, none⟩) hb).symm).trans h.2.2.2.1

set_option maxRecDepth 10000 in
set_option maxHeartbeats 8000000 in
theorem f65 (a b : Option Addr) (c d : Nat) (xs ys : List Sm) (w : World) (h20 : xs.length ≤ 1048576) (h21 : ys.length ≤ 1048576) (hr : HasS w a xs) (hs : HasS w b ys) (hd : ys.length ≤ d) (hnb : b = none → d = 0) :
    Calls Try.prog 65 #[.func (.func 37) #[] #[], .slice a xs.length c, .slice b ys.length d] w fun e w' => ∃ v, e = .returned v ∧ Own w' w.heap.size v (mrg xs ys) ∧ Below w.heap.size w w' := by
  obtain ⟨i0, hi, hz0, hz1, hz2⟩ := info_parts infoS
  have HRI := hid (Rest.init hs hd hnb)
  generalize hn : xs.length = n at *
  have HN := hid hn
  generalize hm : ys.length = m at *
  have HM := hid hm
  clear hn hm
  go_enter Try.func65, Try.ntmps65
  go_wp2_with (at_make; refine wpList_make_own _ rfl _ _ 40 rfl w.heap.size 55 i0 (.agg #[.int .i64 0, .int .i64 0]) 2 Try.underlying40 hi hz0 hz1 _ _ _ (n + m) rfl rfl (by omega) ?b2 ?b3 (Nat.le_refl _) ?_)
  case b2 => rw [hz2]; omega
  case b3 => unfold maxLen; omega
  intro w0 hown0 hgrow0
  have HO0 : Hid (Own w0 w.heap.size (.slice (some ⟨w.heap.size, 0, none⟩) 0 (n + m)) []) := hown0
  have HB0 := hid ((Below.refl w.heap.size w).grown hgrow0 (Nat.le_refl _) (fun k h => by cases h))
  clear hown0 hgrow0
  go_wp2
  go_loopw [2, 7, 18] (fun sb so si wr => ∃ (i k : Nat) (O : List Sm), i ≤ n ∧ k ≤ m ∧ si = .int .i64 i ∧ Rest w ys k sb ∧ Own wr w.heap.size so O ∧ Hid (Mrg xs ys O i k) ∧ O.length ≤ i + k ∧ Below w.heap.size w wr) (fun _ _ si _ => n - (intOf si).toNat)
  case atStart => exact ⟨0, 0, [], Nat.zero_le _, Nat.zero_le _, rfl, HRI.out, HO0.out, Mrg.init xs ys, by simp, HB0.out⟩
  case round =>
    obtain ⟨wo, rfl⟩ : ∃ wo, wo = wr := ⟨_, rfl⟩
    obtain ⟨i, k, O, hin, hkm, rfl, hrest, hown, hmr, hol, hnx⟩ := hrel
    have HX := hid hnx
    have HXW := hid hnx
    have HO := hid hown
    have HRS := hid hrest
    obtain ⟨ao, co, rfl⟩ := own_form hown
    obtain ⟨ab, cb, rfl⟩ := hrest.len
    rw [HM.out] at HRS ⊢
    clear hown hnx HO0 HB0 hrest
    by_cases hlt : i < n
    · rcases hr with hr | ⟨ba, oa, rfl, hba, hca⟩
      · exact absurd HN.out (by rw [hr]; simp; omega)
      obtain ⟨c0, c1⟩ := hca i (by rw [HN.out]; exact hlt)
      have d0 := (HX.out.cell (p := ⟨ba, oa + i * 2, none⟩) hba).trans c0
      have d1 := (HX.out.cell (p := ⟨ba, oa + i * 2 + 1, none⟩) hba).trans c1
      have i1 : (i : Int) < (n : Int) := by omega
      clear c0 c1 hca
      generalize hp : xs.getD i e0 = p at *
      have HP := hid hp
      obtain ⟨s, t⟩ := p
      simp only at d0 d1
      clear hp
      have HBX := hid (heap_alloc_new wo (.cells #[.int .i64 s, .int .i64 t] 55))
      have HXA := hid (HX.out.alloc HX.out.size (.cells #[.int .i64 s, .int .i64 t] 55))
      have HOA : Hid (Own (wo.alloc (.cells #[.int .i64 s, .int .i64 t] 55)) w.heap.size (.slice ao O.length co) O) := World.ownsRow.alloc HO.out _
      have HNE : Hid (∀ g, (Value.slice ao O.length co).ownBlock = some g → g ≠ wo.heap.size) := fun g hg e => by have := (World.ownsRow.lt HO.out g hg).2; omega
      go_wp2
      go_loopw [2, 7] (fun sb so wq => ∃ (k : Nat) (O : List Sm), k ≤ m ∧ Rest w ys k sb ∧ Own wq w.heap.size so O ∧ Hid (∀ g, so.ownBlock = some g → g ≠ wo.heap.size) ∧ Hid (Mrg xs ys O i k) ∧ O.length ≤ i + k ∧ wq.heap[wo.heap.size]? = some (.cells #[.int .i64 s, .int .i64 t] 55 (0, 0)) ∧ Below w.heap.size w wq) (fun sb _ _ => lenOf sb)
      case atStart => exact ⟨k, O, hkm, HRS.out, HOA.out, HNE.out, hmr, hol, HBX.out, HXA.out⟩
      case round =>
        obtain ⟨k', O', hkm', hrest', hown', hne', hmr', hol', hbx, hnx'⟩ := hrel
        have HX := hid hnx'
        have HO := hid hown'
        have HBX := hid hbx
        have HNE := hid hne'.out
        have x0 := two0 hbx
        have x1 := two1 hbx
        have lx : wo.heap.size < wr.heap.size := (Array.getElem?_eq_some_iff.1 hbx).1
        have LWO := hid HXW.out.size
        have HMR := hid hmr'.out.right
        have HML := hid hmr'.out.left
        have HMB := hid hmr'.out.both
        rw [HN.out, HM.out, HP.out] at HMR
        rw [HN.out, HM.out, HP.out] at HML
        rw [HN.out, HM.out, HP.out] at HMB
        obtain ⟨ao', co', rfl⟩ := own_form hown'
        clear hbx hnx' hown' hmr hol HRS HXA HOA hne' d0 d1
        by_cases hkt : k' < m
        · obtain ⟨bb, ob, r, cb', hr1, hrc, hsb, hbb, g0, g1, hnext, hnext0⟩ := hrest'.head (by rw [HM.out]; exact hkt)
          subst hsb
          have e0' := (HX.out.cell (p := ⟨bb, ob, none⟩) hbb).trans g0
          have e1' := (HX.out.cell (p := ⟨bb, ob + 1, none⟩) hbb).trans g1
          have HNX := hid hnext
          have HNX0 := hid hnext0
          have HRS' := hid hrest'
          clear hrest' hnext hnext0 g0 g1
          have hr2 : r ≤ 1048576 := by rw [HM.out] at hr1; omega
          clear hr1
          generalize hq : ys.getD k' e0 = q at *
          obtain ⟨s', t'⟩ := q
          simp only at e0' e1' HMR HML HMB
          clear hq
          by_cases h1 : s' < s
          · by_cases hcc : 0 < cb'
            · go_wp2
              go_quiet (fail)
              go_wp2_with (at_builtin; refine wpList_append_own_at _ rfl (.tmp 34) (.tmp 38) 40 rfl w.heap.size 55 i0 (.agg #[.int .i64 0, .int .i64 0]) 2 16 Try.underlying40 hi hz0 hz1 hz2 rfl (by decide) _ _ _ rfl (World.ownsRow.alloc (own_drewN HO.out _) _) ⟨wr.heap.size, 0, none⟩ 1 1 [.int .i64 s', .int .i64 t'] rfl rfl ?d1 ?d2 ?d3 ?d4 ?d5 ?_)
              case d1 => exact two_new _ _ _ _
              case d2 => intro u hu; simp at hu; rcases hu with rfl | rfl <;> rfl
              case d3 => unfold maxLen; omega
              case d4 => omega
              case d5 => have := HX.out.size; simp; omega
              intro v1 w3 hown1 hgr1 _ hat1
              have HO2 := hid (Own.snoc (p := (s', t')) hown1)
              have HX2 := hid ((Below.alloc (below_drewN HX.out _) HX.out.size (.cells #[.int .i64 s', .int .i64 t'] 55)).grown hgr1 (by have := HX.out.size; simp; omega) (fun k hk => (World.ownsRow.lt HO.out k hk).1))
              have HNE2 := hid (ne_grown (B := wo.heap.size) hat1 (by omega) HNE.out)
              have HBX2 := hid (box_grown (box_alloc (w := wr.drewN _) HBX.out _) hgr1 HNE.out)
              clear hown1 hgr1 hat1
              go_wp2
              go_roundw
              case rel => exact ⟨k' + 1, O' ++ [(s', t')], by omega, HNX.out, HO2.out, HNE2.out, HMR.out hkt (fun _ => h1), by simp; omega, HBX2.out, HX2.out⟩
              case measure => simp [lenOf]
            · obtain rfl : cb' = 0 := by omega
              obtain rfl : r = 0 := by omega
              go_wp2
              go_quiet (fail)
              go_wp2_with (at_builtin; refine wpList_append_own_at _ rfl (.tmp 34) (.tmp 38) 40 rfl w.heap.size 55 i0 (.agg #[.int .i64 0, .int .i64 0]) 2 16 Try.underlying40 hi hz0 hz1 hz2 rfl (by decide) _ _ _ rfl (World.ownsRow.alloc (own_drewN HO.out _) _) ⟨wr.heap.size, 0, none⟩ 1 1 [.int .i64 s', .int .i64 t'] rfl rfl ?d1 ?d2 ?d3 ?d4 ?d5 ?_)
              case d1 => exact two_new _ _ _ _
              case d2 => intro u hu; simp at hu; rcases hu with rfl | rfl <;> rfl
              case d3 => unfold maxLen; omega
              case d4 => omega
              case d5 => have := HX.out.size; simp; omega
              intro v1 w3 hown1 hgr1 _ hat1
              have HO2 := hid (Own.snoc (p := (s', t')) hown1)
              have HX2 := hid ((Below.alloc (below_drewN HX.out _) HX.out.size (.cells #[.int .i64 s', .int .i64 t'] 55)).grown hgr1 (by have := HX.out.size; simp; omega) (fun k hk => (World.ownsRow.lt HO.out k hk).1))
              have HNE2 := hid (ne_grown (B := wo.heap.size) hat1 (by omega) HNE.out)
              have HBX2 := hid (box_grown (box_alloc (w := wr.drewN _) HBX.out _) hgr1 HNE.out)
              clear hown1 hgr1 hat1
              go_wp2
              go_roundw
              case rel => exact ⟨k' + 1, O' ++ [(s', t')], by omega, HNX0.out trivial, HO2.out, HNE2.out, HMR.out hkt (fun _ => h1), by simp; omega, HBX2.out, HX2.out⟩
              case measure => simp [lenOf]
          · by_cases h3 : s = s'
            · have h2 : (s' == s) = true := by simp [h3]
              have HEQ := hid h3
              clear h3
              by_cases hcc : 0 < cb'
              · go_wp2
                go_quiet (fail)
                go_wp2
                go_quiet (fail)
                go_wp2_with fail
                generalize hwn : World.drewN _ nq = wn
                have HXn : Hid (Below w.heap.size w wn) := by rw [← hwn]; exact below_drewN (below_drewN HX.out _) _
                have HOn : Hid (Own wn w.heap.size (.slice ao' O'.length co') O') := by rw [← hwn]; exact own_drewN (own_drewN HO.out _) _
                have HBn : Hid (wn.heap[wo.heap.size]? = some (.cells #[.int .i64 s, .int .i64 t] 55 (0, 0))) := by rw [← hwn]; exact HBX.out
                have e0n : wn.cell? ⟨bb, ob, none⟩ = some (.int .i64 s') := by rw [← hwn]; exact e0'
                have e1n : wn.cell? ⟨bb, ob + 1, none⟩ = some (.int .i64 t') := by rw [← hwn]; exact e1'
                have HLn : Hid (wo.heap.size < wn.heap.size) := (Array.getElem?_eq_some_iff.1 HBn.out).1
                have HLb : Hid (bb < wn.heap.size) := Nat.lt_of_lt_of_le hbb HXn.out.size
                have HSn : Hid (SJ w wo.heap.size bb ob s t s' t' wn) := ⟨two0 HBn.out, two1 HBn.out, e0n, e1n, HXn.out⟩
                clear hwn e0n e1n e0' e1' x0 x1
                go_region_held3 (fun x => SJ w wo.heap.size bb ob s t s' t' x) (first | exact HSn.out.drew | assumption | exact SJ.set LWO.out hbb hs2 hX2) (first | (go_at_call 37; refine (f37 s t s' t' (World.drew _)).mono ?_; rintro e w2 ⟨rfl, hb2⟩; have hq2 : Below wn.heap.size wn w2 := below_drewT hb2; have hs2 := SJ.below HLn.out hbb HSn.out hq2; have hX2 := box_below HBn.out hq2; have hx0 := two0 hX2; have hx1 := two1 hX2; have hf0 := fr0 (o := 0) hX2; have hf1 := fr0 (o := 1) hX2; clear hb2))
                go_upto_region 11 with fail
                have HGW := hid (grown_setRow (o := 1) (grown_setRow (o := 0) (w := w2) (g := wo.heap.size) ⟨rfl, rfl, rfl, Nat.le_refl _, fun _ _ _ => rfl⟩ (.int .i64 s)) (.int .i64 t))
                have HBW := hid (two_set (.int .i64 s) (.int .i64 t) hX2)
                generalize ((w2.setCell ⟨wo.heap.size, 0, none⟩ (.int .i64 s)).setCell ⟨wo.heap.size, 1, none⟩ (.int .i64 t)) = W at *
                have HX : Hid (Below w.heap.size w W) := below_grown hs2.2.2.2.2 HGW.out hs2.2.2.2.2.size LWO.out
                have HOW : Hid (Own W w.heap.size (.slice ao' O'.length co') O') := Own.kept (Own.below HOn.out hq2) HGW.out (fun g hg e => HNE.out g hg (Option.some.inj e).symm)
                have x0 := two0 HBW.out
                have x1 := two1 HBW.out
                clear hx0 hx1 hf0 hf1 hs2 hX2 HGW hq2
                go_wp2_with (at_builtin; refine wpList_append_own_at _ rfl (.tmp 62) (.tmp 64) 40 rfl w.heap.size 55 i0 (.agg #[.int .i64 0, .int .i64 0]) 2 16 Try.underlying40 hi hz0 hz1 hz2 rfl (by decide) _ _ _ rfl (World.ownsRow.alloc HOW.out _) ⟨W.heap.size, 0, none⟩ 1 1 [.int .i64 s, .int .i64 t] rfl rfl ?d1 ?d2 ?d3 ?d4 ?d5 ?_)
                case d1 => exact two_new _ _ _ _
                case d2 => intro u hu; simp at hu; rcases hu with rfl | rfl <;> rfl
                case d3 => unfold maxLen; omega
                case d4 => omega
                case d5 => have := HX.out.size; simp; omega
                intro v1 w3 hown1 hgr1 _ hat1
                have HO2 := hid (Own.snoc (p := (s, t)) hown1)
                have HX2 := hid ((Below.alloc HX.out HX.out.size (.cells #[.int .i64 s, .int .i64 t] 55)).grown hgr1 (by have := HX.out.size; simp; omega) (fun k hk => (World.ownsRow.lt HO.out k hk).1))
                clear hown1 hgr1 hat1
                go_wp2
                go_roundw
                case rel => exact ⟨i + 1, k' + 1, O' ++ [(s, t)], by omega, by omega, by go_num, HNX.out, HO2.out, HMB.out hlt hkt HEQ.out, by simp; omega, HX2.out⟩
                case measure => simp [intOf]; omega
              · obtain rfl : cb' = 0 := by omega
                obtain rfl : r = 0 := by omega
                go_wp2
                go_quiet (fail)
                go_wp2
                go_quiet (fail)
                go_wp2_with fail
                generalize hwn : World.drewN _ nq = wn
                have HXn : Hid (Below w.heap.size w wn) := by rw [← hwn]; exact below_drewN (below_drewN HX.out _) _
                have HOn : Hid (Own wn w.heap.size (.slice ao' O'.length co') O') := by rw [← hwn]; exact own_drewN (own_drewN HO.out _) _
                have HBn : Hid (wn.heap[wo.heap.size]? = some (.cells #[.int .i64 s, .int .i64 t] 55 (0, 0))) := by rw [← hwn]; exact HBX.out
                have e0n : wn.cell? ⟨bb, ob, none⟩ = some (.int .i64 s') := by rw [← hwn]; exact e0'
                have e1n : wn.cell? ⟨bb, ob + 1, none⟩ = some (.int .i64 t') := by rw [← hwn]; exact e1'
                have HLn : Hid (wo.heap.size < wn.heap.size) := (Array.getElem?_eq_some_iff.1 HBn.out).1
                have HLb : Hid (bb < wn.heap.size) := Nat.lt_of_lt_of_le hbb HXn.out.size
                have HSn : Hid (SJ w wo.heap.size bb ob s t s' t' wn) := ⟨two0 HBn.out, two1 HBn.out, e0n, e1n, HXn.out⟩
                clear hwn e0n e1n e0' e1' x0 x1
                go_region_held3 (fun x => SJ w wo.heap.size bb ob s t s' t' x) (first | exact HSn.out.drew | assumption | exact SJ.set LWO.out hbb hs2 hX2) (first | (go_at_call 37; refine (f37 s t s' t' (World.drew _)).mono ?_; rintro e w2 ⟨rfl, hb2⟩; have hq2 : Below wn.heap.size wn w2 := below_drewT hb2; have hs2 := SJ.below HLn.out hbb HSn.out hq2; have hX2 := box_below HBn.out hq2; have hx0 := two0 hX2; have hx1 := two1 hX2; have hf0 := fr0 (o := 0) hX2; have hf1 := fr0 (o := 1) hX2; clear hb2))
                go_upto_region 11 with fail
                have HGW := hid (grown_setRow (o := 1) (grown_setRow (o := 0) (w := w2) (g := wo.heap.size) ⟨rfl, rfl, rfl, Nat.le_refl _, fun _ _ _ => rfl⟩ (.int .i64 s)) (.int .i64 t))
                have HBW := hid (two_set (.int .i64 s) (.int .i64 t) hX2)
                generalize ((w2.setCell ⟨wo.heap.size, 0, none⟩ (.int .i64 s)).setCell ⟨wo.heap.size, 1, none⟩ (.int .i64 t)) = W at *
                have HX : Hid (Below w.heap.size w W) := below_grown hs2.2.2.2.2 HGW.out hs2.2.2.2.2.size LWO.out
                have HOW : Hid (Own W w.heap.size (.slice ao' O'.length co') O') := Own.kept (Own.below HOn.out hq2) HGW.out (fun g hg e => HNE.out g hg (Option.some.inj e).symm)
                have x0 := two0 HBW.out
                have x1 := two1 HBW.out
                clear hx0 hx1 hf0 hf1 hs2 hX2 HGW hq2
                go_wp2_with (at_builtin; refine wpList_append_own_at _ rfl (.tmp 62) (.tmp 64) 40 rfl w.heap.size 55 i0 (.agg #[.int .i64 0, .int .i64 0]) 2 16 Try.underlying40 hi hz0 hz1 hz2 rfl (by decide) _ _ _ rfl (World.ownsRow.alloc HOW.out _) ⟨W.heap.size, 0, none⟩ 1 1 [.int .i64 s, .int .i64 t] rfl rfl ?d1 ?d2 ?d3 ?d4 ?d5 ?_)
                case d1 => exact two_new _ _ _ _
                case d2 => intro u hu; simp at hu; rcases hu with rfl | rfl <;> rfl
                case d3 => unfold maxLen; omega
                case d4 => omega
                case d5 => have := HX.out.size; simp; omega
                intro v1 w3 hown1 hgr1 _ hat1
                have HO2 := hid (Own.snoc (p := (s, t)) hown1)
                have HX2 := hid ((Below.alloc HX.out HX.out.size (.cells #[.int .i64 s, .int .i64 t] 55)).grown hgr1 (by have := HX.out.size; simp; omega) (fun k hk => (World.ownsRow.lt HO.out k hk).1))
                clear hown1 hgr1 hat1
                go_wp2
                go_roundw
                case rel => exact ⟨i + 1, k' + 1, O' ++ [(s, t)], by omega, by omega, by go_num, HNX0.out trivial, HO2.out, HMB.out hlt hkt HEQ.out, by simp; omega, HX2.out⟩
                case measure => simp [intOf]; omega
            · have h2 : (s' == s) = false := beq_eq_false_iff_ne.2 (by omega)
              go_wp2
              go_quiet (fail)
              go_wp2
              go_quiet (fail)
              go_wp2_with (at_builtin; refine wpList_append_own_at _ rfl (.tmp 62) (.tmp 64) 40 rfl w.heap.size 55 i0 (.agg #[.int .i64 0, .int .i64 0]) 2 16 Try.underlying40 hi hz0 hz1 hz2 rfl (by decide) _ _ _ rfl (World.ownsRow.alloc (own_drewN HO.out _) _) ⟨wr.heap.size, 0, none⟩ 1 1 [.int .i64 s, .int .i64 t] rfl rfl ?d1 ?d2 ?d3 ?d4 ?d5 ?_)
              case d1 => exact two_new _ _ _ _
              case d2 => intro u hu; simp at hu; rcases hu with rfl | rfl <;> rfl
              case d3 => unfold maxLen; omega
              case d4 => omega
              case d5 => have := HX.out.size; simp; omega
              intro v1 w3 hown1 hgr1 _ hat1
              have HO2 := hid (Own.snoc (p := (s, t)) hown1)
              have HX2 := hid ((Below.alloc (below_drewN HX.out _) HX.out.size (.cells #[.int .i64 s, .int .i64 t] 55)).grown hgr1 (by have := HX.out.size; simp; omega) (fun k hk => (World.ownsRow.lt HO.out k hk).1))
              clear hown1 hgr1 hat1
              go_wp2
              go_roundw
              case rel => exact ⟨i + 1, k', O' ++ [(s, t)], by omega, by omega, by go_num, HRS'.out, HO2.out, HML.out hlt (fun _ => by omega), by simp; omega, HX2.out⟩
              case measure => simp [intOf]; omega
        · obtain ⟨ab', cb', hsb⟩ := hrest'.len
          have hz : ys.length - k' = 0 := by rw [HM.out]; omega
          rw [hz] at hsb
          subst hsb
          have HRS' := hid hrest'
          clear hrest' hz
          go_wp2
          go_quiet (fail)
          go_wp2
          go_quiet (fail)
          go_wp2_with (at_builtin; refine wpList_append_own_at _ rfl (.tmp 62) (.tmp 64) 40 rfl w.heap.size 55 i0 (.agg #[.int .i64 0, .int .i64 0]) 2 16 Try.underlying40 hi hz0 hz1 hz2 rfl (by decide) _ _ _ rfl (World.ownsRow.alloc (own_drewN HO.out _) _) ⟨wr.heap.size, 0, none⟩ 1 1 [.int .i64 s, .int .i64 t] rfl rfl ?d1 ?d2 ?d3 ?d4 ?d5 ?_)
          case d1 => exact two_new _ _ _ _
          case d2 => intro u hu; simp at hu; rcases hu with rfl | rfl <;> rfl
          case d3 => unfold maxLen; omega
          case d4 => omega
          case d5 => have := HX.out.size; simp; omega
          intro v1 w3 hown1 hgr1 _ hat1
          have HO2 := hid (Own.snoc (p := (s, t)) hown1)
          have HX2 := hid ((Below.alloc (below_drewN HX.out _) HX.out.size (.cells #[.int .i64 s, .int .i64 t] 55)).grown hgr1 (by have := HX.out.size; simp; omega) (fun k hk => (World.ownsRow.lt HO.out k hk).1))
          clear hown1 hgr1 hat1
          go_wp2
          go_roundw
          case rel => exact ⟨i + 1, k', O' ++ [(s, t)], by omega, by omega, by go_num, HRS'.out, HO2.out, HML.out hlt (fun h => absurd h hkt), by simp; omega, HX2.out⟩
          case measure => simp [intOf]; omega
    · have HMD := hid (hmr.out.done (by rw [HN.out]; omega))
      have i1 : ¬ (i : Int) < (n : Int) := by omega
      have HDL : Hid ((ys.drop k).length = m - k) := by unfold Hid; rw [List.length_drop, HM.out]
      rcases HRS.out.form with ⟨h1, h2⟩ | ⟨ad, c', h1, h2, h3⟩
      · simp only [Value.slice.injEq] at h2
        obtain ⟨rfl, h2, rfl⟩ := h2
        have HF : Hid (mrg xs ys = O) := by unfold Hid; rw [HMD.out, List.drop_eq_nil_of_le h1, List.append_nil]
        rw [h2]
        go_wp2_with (at_builtin; refine wpList_append_own_none rfl (.tmp 67) (.tmp 68) 40 rfl w.heap.size 55 i0 2 Try.underlying40 hi _ _ _ rfl HO.out rfl ?_)
        go_ret
        exact ⟨_, rfl, by rw [HF.out]; exact HO.out, HX.out⟩
      · rw [HM.out] at h1 h2
        simp only [Value.slice.injEq] at h1
        obtain ⟨rfl, -, rfl⟩ := h1
        have HCS : Hid (∀ j u, (flat (ys.drop k))[j]? = some u → wo.cell? (ad.add j) = some u) := by
          intro j u hj
          rcases h3 with h | ⟨bb, ob, hbo, hb, hc⟩
          · rw [h] at hj; simp [flat] at hj
          · simp only [Option.some.injEq] at hbo
            subst hbo
            exact flat_cells (HasS.below (.inr ⟨bb, ob, rfl, hb, hc⟩) HX.out) j u hj
        have HOC := hid (flat_oneCell (ys.drop k))
        have HFL := hid (flat_len (ys.drop k))
        rw [HDL.out] at HFL
        have HAP := hid (flat_append O (ys.drop k))
        generalize hdk : ys.drop k = dk at *
        go_wp2_with (at_builtin; refine wpList_append_own _ rfl (.tmp 67) (.tmp 68) 40 rfl w.heap.size 55 i0 (.agg #[.int .i64 0, .int .i64 0]) 2 16 Try.underlying40 hi hz0 hz1 hz2 rfl (by decide) _ _ _ rfl HO.out ad (m - k) cb (flat dk) rfl HFL.out HCS.out HOC.out ?d3 ?d4 HX.out.size ?_)
        case d3 => unfold maxLen; omega
        case d4 => omega
        intro v1 w3 hown1 hgr1 _
        go_wp2
        go_ret
        refine ⟨v1, rfl, ?_, HX.out.grown hgr1 HX.out.size (fun k hk => (World.ownsRow.lt HO.out k hk).1)⟩
        rw [HMD.out]
        unfold Own
        rw [HAP.out, List.length_append, HDL.out]
        exact hown1
end Go.Proofs.Ytammlhkdcdhfkaa.Smp
