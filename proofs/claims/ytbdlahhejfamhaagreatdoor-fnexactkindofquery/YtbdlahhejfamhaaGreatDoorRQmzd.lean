/- The model takes a tree off a list: its kids, one by one. -/
import Derived.Test.YtbdlahhejfamhaaGreatDoorRB9
import Derived.Maps.AppendAt
namespace Go.Proofs.YtbdlahhejfamhaaGreatDoor.Qry
open Go.RowKit

theorem rowsL_len : ∀ ks : List Tr, ks.length ≤ (rowsL ks).length
  | [] => Nat.zero_le _
  | .nd r kk :: ks => by
    have := rowsL_len ks
    simp only [rowsL, rows, List.length_append, List.length_cons]
    omega
theorem own_formQ {w : World} {base e size n : Nat} {v : Value} {xs : List Value} (h : w.ownsRow base e size v n xs) : ∃ a c, v = .slice a n c := by
  rcases h.2 with ⟨h1, h2⟩ | ⟨g, cap, cur, h1, _⟩
  · subst h2; exact ⟨none, 0, h1⟩
  · exact ⟨_, _, h1⟩
theorem cell16 {x : World} {b : Nat} {q : R} {ak : Option Addr} {n ck : Nat} (h : x.heap[b]? = some (EO q ak n ck)) : x.cell? ⟨b, 15, none⟩ = some (.slice ak n ck) := (sixteen h).2.2.2.2.2.2.2.2.2.2.2.2.2.2.2
/-- Where the kids stand: m is next on the list, ks have been taken. -/
structure Sk (w0 : World) (rs : List R) (k d : Nat) (w : World) (q : R) (B : Nat) (m : Nat) (ks : List Tr) (xs : List E) (ak : Option Addr) (ck : Nat) (wr : World) : Prop where
  km : k < m
  mn : m ≤ rs.length
  kc : (ks.length : Int) ≤ q.kc
  len : xs.length = ks.length
  tq : Tq w0 B ks xs ak ck wr
  box : wr.heap[B]? = some (EO q ak xs.length ck)
  res : wr.heap[w.heap.size]? = some ZE
  bel : Below w.heap.size w wr
  ord : w.heap.size < B
  ps : (rs.drop k).map pl = pl q :: (rowsL ks ++ (rs.drop m).map pl)
  gt : GtL NM (d + 1) ks
  sel : q.kd = 4 → ∀ t ∈ ks, t.r.kd = 3
set_option maxHeartbeats 16000000 in
set_option maxRecDepth 100000 in
theorem take_step (D : Nat) (ih : TakeOkQ D) (rs : List R) (b off c k d : Nat) (w0 w : World) (q : R) (hq : q = rs.getD k r0) (hD : 12 ≤ d + D) (hd : d ≤ 12) (hk : k < rs.length) (h60 : rs.length ≤ 60) (hr : HasR w0 (some ⟨b, off, none⟩) rs) (hrs : ∀ q ∈ rs, Rw w0 q) (hb0 : Below w0.heap.size w0 w) (hbl : b < w0.heap.size) (hcl : Cells w0 b (off + k * 15) q) (hn : told (pl q) ∧ right (pl q) = true ∧ kidsM (pl q)) :
    Calls Tryz.prog 61 #[.slice (some ⟨b, off, none⟩) rs.length c, .int .i64 k, .int .i64 d] w (TkR w0 rs k d w) := by
  have hrw : Rw w0 q := by rw [hq]; exact hrs _ (mem_q hk)
  have hps0 : (rs.drop k).map pl = pl q :: (rs.drop (k + 1)).map pl := by rw [hq]; exact drop_q hk
  have i1 : ¬ (k : Int) ≥ (rs.length : Int) := by omega
  have i2 : ¬ (d : Int) > 12 := by omega
  have i3 : (k : Int) < (rs.length : Int) := by omega
  obtain ⟨X, hX⟩ : ∃ X, X = w.alloc ZE := ⟨_, rfl⟩
  have h1 : X.heap[w.heap.size]? = some ZE := by rw [hX]; exact heap_alloc_new w _
  have hbx : Below w.heap.size w X := by rw [hX]; exact (Below.refl _ _).alloc (Nat.le_refl _) _
  have hbd0 := bde0
  have hbd := bde q
  have hw0 := hb0.size
  have hclw := hcl.below hb0 hbl
  have hblw : b < w.heap.size := by omega
  obtain ⟨c0, c1, c2, c3, c4, c5, c6, c7, c8, c9, c10, c11, c12, c13, c14⟩ := (hclw.below hbx hblw).all
  have HND := hid (f101 q X ((hrw.at_ hb0).below hbx) hrw.ft hrw.sm)
  have HX1 := hid h1
  have HBX := hid hbx
  have HH := hid hn
  have HX := hid hX
  have HCL := hid hclw
  have HB0 := hid hb0
  have HRS := hid hrs
  have HR := hid hr
  have HQ := hid hrw
  have HP0 := hid hps0
  have IH := hid ih
  clear hX h1 hbx hrw hb0 hcl hn hclw hrs hr hq hps0 ih
  go_enter Tryz.func61, Tryz.ntmps61
  go_upto_region 1 with fail
  rw [← HX.out]
  go_wp2_with fail
  refine HND.out.mono ?_
  rintro e w2 ⟨⟨bb, rfl, hbb⟩, hb2⟩
  cases bb
  · exact absurd (hbb.2 HH.out) (by simp)
  have hbx2 := HBX.out.trans (hb2.mono HBX.out.size)
  have H2 := hid (kept HX1.out hb2)
  have HBX2 := hid hbx2
  clear hb2 hbb HND c0 c1 c2 c3 c4 c5 c6 c7 c8 c9 c10 c11 c12 c13 c14
  obtain ⟨c0, c1, c2, c3, c4, c5, c6, c7, c8, c9, c10, c11, c12, c13, c14⟩ := (HCL.out.below hbx2 hblw).all
  obtain ⟨W3, hW3⟩ : ∃ W, W = w2.alloc (EO q none 0 0) := ⟨_, rfl⟩
  have HS3 : Hid (Sk w0 rs k d w q w2.heap.size (k + 1) [] [] none 0 W3) := by
    have hb3 : Below w2.heap.size w2 W3 := by rw [hW3]; exact (Below.refl _ _).alloc (Nat.le_refl _) _
    have hk0 := kids_pos HH.out.2.2 HH.out.2.1
    exact ⟨by omega, by omega, by simpa using hk0, rfl, ⟨by simpa [flatE] using World.ownsRow_nil _ _ _ _, by simp [EvL]⟩, by rw [hW3]; exact heap_alloc_new w2 _, kept H2.out hb3, hbx2.trans (hb3.mono hbx2.size), (Array.getElem?_eq_some_iff.1 H2.out).1, by simpa [rowsL] using HP0.out, by simp [GtL], by simp⟩
  have HW3 := hid hW3
  clear hW3 hbx2
  go_upto_region 4 with fail
  rw [← HW3.out]
  clear HW3 c0 c1 c2 c3 c4 c5 c6 c7 c8 c9 c10 c11 c12 c13 c14 hbd HBX HX HX1 HCL H2 HBX2
  generalize w2.heap.size = B at *
  generalize (Value.agg #[.int .i64 q.kd, .int .i64 q.nu, .int .i64 q.st, .string q.tx, .int .i64 q.op, .slice q.ma q.ms.length q.mc, .int .i64 q.off, .bool q.fx, .int .i64 q.att, .bool q.bo, .int .i64 q.byy, .slice q.na q.ns.length q.nc, .int .i64 q.sd, .slice q.ea q.es.length q.ec, .int .i64 q.kc, .slice none 0 0]) = A16
  generalize (Value.agg #[.int .i64 q.kd, .int .i64 q.nu, .int .i64 q.st, .string q.tx, .int .i64 q.op, .slice q.ma q.ms.length q.mc, .int .i64 q.off, .bool q.fx, .int .i64 q.att, .bool q.bo, .int .i64 q.byy, .slice q.na q.ns.length q.nc, .int .i64 q.sd, .slice q.ea q.es.length q.ec, .int .i64 q.kc]) = A15
  go_wp2
  go_loopw [1, 9] (fun s1 s9 wr => ∃ (m : Nat) (ks : List Tr) (xs : List E) (ak : Option Addr) (ck : Nat), s1 = .int .i64 (m : Int) ∧ s9 = .int .i64 ((ks.length : Nat) : Int) ∧ Hid (Sk w0 rs k d w q B m ks xs ak ck wr)) (fun _ s9 _ => (q.kc - intOf s9).toNat)
  case atStart => exact ⟨k + 1, [], [], none, 0, by congr 1, rfl, HS3⟩
  case round =>
    clear HS3
    obtain ⟨m, ks, xs, ak, ck, rfl, rfl, HS⟩ := hrel
    have hbox := HS.out.box
    obtain ⟨z0, z1, z2, z3, z4, z5, z6, z7, z8, z9, z10, z11, z12, z13, z14, z15⟩ := sixteen hbox
    clear hbox
    by_cases hm : (ks.length : Int) < q.kc
    rotate_left
    · have HKC : Hid (q.kc = (ks.length : Int)) := by have := HS.out.kc; unfold Hid; omega
      have HAH : Hid ((∀ y, y ≠ w.heap.size → (wr.setRow w.heap.size (arX ⟨q, ak, xs.length, ck⟩)).heap[y]? = wr.heap[y]?) ∧ (wr.setRow w.heap.size (arX ⟨q, ak, xs.length, ck⟩)).heap.size = wr.heap.size) := ⟨fun y hy => row_far hy, size_setRow _ _ _⟩
      have HBP2 := hid (row_below HS.out.bel (Nat.le_refl _) (arX ⟨q, ak, xs.length, ck⟩))
      have HBV := hid (row_at (c := arX ⟨q, ak, xs.length, ck⟩) HS.out.res)
      go_upto_region 13 with fail
      clear z0 z1 z2 z3 z4 z5 z6 z7 z8 z9 z10 z11 z12 z13 z14 z15
      refine wp_region_lit ?_
      refine step_loadE rfl rfl rfl HS.out.box rfl ?_
      try simp only [Act.put, List.setIfInBounds_toArray, List.set_cons_zero, List.set_cons_succ]
      refine step_move rfl rfl ?_
      try simp only [Act.put, List.setIfInBounds_toArray, List.set_cons_zero, List.set_cons_succ]
      refine step_storeE (c := arX ⟨q, ak, xs.length, ck⟩) rfl rfl rfl rfl HS.out.res rfl rfl (oneX _) ?_
      try simp only [Act.put]
      obtain ⟨V, hV⟩ : ∃ V, V = wr.setRow w.heap.size (arX ⟨q, ak, xs.length, ck⟩) := ⟨_, rfl⟩
      rw [← hV] at HAH HBP2 HBV ⊢
      clear hV
      go_wp2
      refine bodyPost_ret (v := .tuple #[agX ⟨q, ak, xs.length, ck⟩, .int .i64 ((m : Nat) : Int)]) ((res_row (fn := Tryz.f61) (p := 6) (u := 7) rfl _ _ _ _ rfl HBV.out rfl).trans rfl) rfl ?_
      refine ⟨HBP2.out, .inr ⟨.nd (pl q) ks, ⟨q, ak, xs.length, ck⟩, m, rfl, HS.out.km, HS.out.mn, by rw [HS.out.ps]; simp [rows], isM hd HH.out HKC.out HS.out.gt HS.out.sel, ?_⟩⟩
      have hord := HS.out.ord
      have hag : Agr (fun y => B ≤ y ∧ y < wr.heap.size) (fun y => w.heap.size ≤ y ∧ y < V.heap.size) wr V := ⟨by rw [HAH.out.2]; exact Nat.le_refl _, fun y hy _ => HAH.out.1 y (by omega), fun y hy => ⟨by omega, by rw [HAH.out.2]; exact hy.2⟩⟩
      simp only [Ev]
      exact ⟨trivial, HQ.out, xs, rfl, HS.out.tq.has.2.agr hag, EvL.agr hag ks xs HS.out.tq.has.1⟩
    · go_wp2_with fail
      clear z0 z1 z2 z3 z4 z5 z6 z7 z8 z9 z10 z11 z12 z13 z14 z15
      have hcall := IH.out rs (some ⟨b, off, none⟩) c m (d + 1) w0 wr (by omega) (by omega) HS.out.mn h60 HR.out HRS.out (HB0.out.trans (HS.out.bel.mono hw0))
      rw [show (((d + 1 : Nat)) : Int) = (d : Int) + 1 by omega] at hcall
      refine hcall.mono ?_
      rintro e w5 ⟨hb5, h5⟩
      clear hcall
      have hbox5 := kept HS.out.box hb5
      have hres5 := kept HS.out.res hb5
      have hbel5 := HS.out.bel.trans (hb5.mono HS.out.bel.size)
      rcases h5 with ⟨x, rfl, hno⟩ | ⟨t, x, m', rfl, hm1, hm2, hps, hgt, hev⟩
      · have hal := (Below.refl w5.heap.size w5).alloc (Nat.le_refl _) (EO x.q x.a x.n x.c)
        obtain ⟨W6, hW6⟩ : ∃ W, W = w5.alloc (EO x.q x.a x.n x.c) := ⟨_, rfl⟩
        rw [← hW6] at hal
        have hres := kept hres5 hal
        have hbel := hbel5.trans (hal.mono hbel5.size)
        have HNO := hid (fun (tt : Tr) (xx : List Pl) => no_more (N := NM) (d := d) (r := pl q) (ts := ks) (rest := (rs.drop m).map pl) HS.out.gt hm (fun t x e hg _ _ _ => hno t x e hg) tt xx)
        have HPS := hid HS.out.ps
        have HW6 := hid hW6
        clear hW6 hal hbox5 hres5 hbel5 hb5 hno HS
        go_upto_region 9 with fail
        rw [← HW6.out]
        clear HW6
        have HBP := hid (row_below hbel (Nat.le_refl _) arZ)
        have HBV := hid (row_at (c := arZ) hres)
        go_upto_region 10 with fail
        refine wp_region_lit ?_
        refine step_zeroE rfl rfl ?_
        try simp only [Act.put, List.setIfInBounds_toArray, List.set_cons_zero, List.set_cons_succ]
        refine step_storeE (c := arZ) rfl rfl rfl rfl hres rfl rfl oneZ ?_
        try simp only [Act.put]
        obtain ⟨V, hV⟩ : ∃ V, V = W6.setRow w.heap.size arZ := ⟨_, rfl⟩
        rw [← hV] at HBP HBV ⊢
        clear hV hres hbel
        go_wp2
        refine bodyPost_ret (v := .tuple #[agX ⟨r0, none, 0, 0⟩, .int .i64 (-1)]) ((res_row (fn := Tryz.f61) (p := 6) (u := 7) rfl _ _ _ _ rfl HBV.out rfl).trans rfl) rfl ?_
        exact ⟨HBP.out, .inl ⟨_, rfl, by rw [HPS.out]; exact HNO.out⟩⟩
      · have hpl : pl x.q = t.r := by
          have h := hev
          obtain ⟨r, kk⟩ := t
          simp only [Ev] at h
          exact h.1
        have hal := (Below.refl w5.heap.size w5).alloc (Nat.le_refl _) (EO x.q x.a x.n x.c)
        obtain ⟨W6, hW6⟩ : ∃ W, W = w5.alloc (EO x.q x.a x.n x.c) := ⟨_, rfl⟩
        have hx6 : W6.heap[w5.heap.size]? = some (EO x.q x.a x.n x.c) := by rw [hW6]; exact heap_alloc_new w5 _
        rw [← hW6] at hal
        have HB6 := hid (kept hbox5 hal)
        have HR6 := hid (kept hres5 hal)
        have HL6 := hid (hbel5.trans (hal.mono hbel5.size))
        have HX6 := hid hx6
        have HW6 := hid hW6
        have HA6 := hid hal
        have HB5 := hid hb5
        have HEV := hid hev
        have HGT := hid hgt
        have HPT := hid hps
        have HPL := hid hpl
        clear hW6 hal hx6 hbox5 hres5 hbel5 hb5 hev hgt hps hpl
        have i5 : ¬ ((m' : Nat) : Int) < 0 := by omega
        go_upto_region 9 with fail
        rw [← HW6.out]
        clear HW6
        generalize hXB : w5.heap.size = XB at *
        have HXB := hid hXB
        clear hXB
        have b0 := (sixteen HB6.out).1
        have z0 := (sixteen HX6.out).1
        by_cases hbad : q.kd = 4 ∧ x.q.kd ≠ 3
        · have e4 : (q.kd == 4) = true := by simp [hbad.1]
          have e3 : (x.q.kd != 3) = true := by simp [hbad.2]
          have HNO : Hid (∀ tt xx, (rs.drop k).map pl = rows tt ++ xx → ¬ Gt NM d tt) := by
            unfold Hid
            rw [HS.out.ps]
            exact no_selM HS.out.gt hm hbad.1 HGT.out HPT.out (by rw [← HPL.out]; exact hbad.2)
          have HBP := hid (row_below HL6.out (Nat.le_refl _) arZ)
          have HBV := hid (row_at (c := arZ) HR6.out)
          clear hbad
          go_upto_region 10 with fail
          refine wp_region_lit ?_
          refine step_zeroE rfl rfl ?_
          try simp only [Act.put, List.setIfInBounds_toArray, List.set_cons_zero, List.set_cons_succ]
          refine step_storeE (c := arZ) rfl rfl rfl rfl HR6.out rfl rfl oneZ ?_
          try simp only [Act.put]
          obtain ⟨V, hV⟩ : ∃ V, V = W6.setRow w.heap.size arZ := ⟨_, rfl⟩
          rw [← hV] at HBP HBV ⊢
          clear hV
          go_wp2
          refine bodyPost_ret (v := .tuple #[agX ⟨r0, none, 0, 0⟩, .int .i64 (-1)]) ((res_row (fn := Tryz.f61) (p := 6) (u := 7) rfl _ _ _ _ rfl HBV.out rfl).trans rfl) rfl ?_
          exact ⟨HBP.out, .inl ⟨_, rfl, HNO.out⟩⟩
        · have HSL : Hid (q.kd = 4 → t.r.kd = 3) := fun h => by rw [← HPL.out]; exact Classical.byContradiction fun g => hbad ⟨h, g⟩
          have hbd2 : q.kd ≠ 4 ∨ x.q.kd = 3 := by
            by_cases h : q.kd = 4
            · exact .inr (Classical.byContradiction fun g => hbad ⟨h, g⟩)
            · exact .inl h
          clear hbad
          go_cut [64] from 51 to 65 (fun s64 wx => s64 = .bool false ∧ Hid (W6 = wx))
          case first =>
            rcases hbd2 with h | h
            · have e4 : (q.kd == 4) = false := by simp [h]
              clear h
              go_wp2
              go_meet
              exact ⟨rfl, rfl⟩
            · have e3 : (x.q.kd != 3) = false := by simp [h]
              by_cases h4 : q.kd = 4
              · have e4 : (q.kd == 4) = true := by simp [h4]
                clear h h4
                go_wp2
                go_meet
                exact ⟨rfl, rfl⟩
              · have e4 : (q.kd == 4) = false := by simp [h4]
                clear h h4
                go_wp2
                go_meet
                exact ⟨rfl, rfl⟩
          case rest =>
          obtain ⟨rfl, hw⟩ := hcut
          have hw := hw.out
          subst hw
          clear hbd2 b0 z0
          have hks : ks.length ≤ 60 := by
            have h := congrArg List.length HS.out.ps
            have h2 := rowsL_len ks
            simp only [List.length_map, List.length_drop, List.length_cons, List.length_append] at h
            omega
          have HXL : Hid (xs.length ≤ 60) := by have := HS.out.len; unfold Hid; omega
          obtain ⟨i0, hi, hz0, hz1, hz2⟩ := info_parts infoE
          have hord := HS.out.ord
          have hs1 : B + 1 ≤ wr.heap.size := (Array.getElem?_eq_some_iff.1 HS.out.box).1
          have hs5 := HB5.out.size
          have hs6 : wr.heap.size ≤ W6.heap.size := Nat.le_trans hs5 HA6.out.size
          have HOW : Hid (W6.ownsRow (B + 1) 58 16 (.slice ak xs.length ck) xs.length (flatE xs)) := by
            refine own_below HS.out.tq.row (HB5.out.trans ?_)
            exact HA6.out.mono (by rw [← HXB.out]; exact hs5)
          have H7 : Hid (Below XB w5 (W6.alloc (EO x.q x.a x.n x.c))) := HA6.out.alloc (by rw [← HXB.out]; exact HA6.out.size) _
          have HB7 := hid (kept HB6.out ((Below.refl W6.heap.size W6).alloc (Nat.le_refl _) (EO x.q x.a x.n x.c)))
          have HR7 := hid (kept HR6.out ((Below.refl W6.heap.size W6).alloc (Nat.le_refl _) (EO x.q x.a x.n x.c)))
          have HL7 := hid (HL6.out.alloc HL6.out.size (EO x.q x.a x.n x.c))
          have b15 := (cell16 HB6.out)
          obtain ⟨z0, z1, z2, z3, z4, z5, z6, z7, z8, z9, z10, z11, z12, z13, z14, z15⟩ := sixteen HX6.out
          go_wp2_with (at_builtin; go_loud (refine wpList_append_own_at _ rfl (.tmp 67) (.tmp 69) 56 rfl (B + 1) 58 i0 (.agg #[.int .i64 0, .int .i64 0, .int .i64 0, .string ⟨#[]⟩, .int .i64 0, .slice none 0 0, .int .i64 0, .bool false, .int .i64 0, .bool false, .int .i64 0, .slice none 0 0, .int .i64 0, .slice none 0 0, .int .i64 0, .slice none 0 0]) 16 200 Tryz.underlying56 hi hz0 hz1 hz2 rfl (by decide) (.slice ak xs.length ck) xs.length (flatE xs) (by rfl) (HOW.out.alloc _) ⟨W6.heap.size, 0, none⟩ 1 1 (clE x) rfl rfl ?d1 ?d2 ?d3 ?d4 ?d5 ?_))
          case d1 => exact fun j u h => h
          case d2 => exact fun u hu => (Array.all_eq_true_iff_forall_mem.1 (oneX x)) u (by simpa [clE, cl] using hu)
          case d3 => have := HXL.out; unfold maxLen; omega
          case d4 => have := HXL.out; omega
          case d5 => first | omega | (simp; omega)
          intro v1 w8 hown1 hg1 _ hd1
          obtain ⟨a3, c3, rfl⟩ := own_formQ hown1
          have hlt : ∀ g, (Value.slice ak xs.length ck).ownBlock = some g → B + 1 ≤ g := fun g e => (HOW.out.lt g e).1
          have hb7 : B < (W6.alloc (EO x.q x.a x.n x.c)).heap.size := by simp; omega
          have HB8 : Hid (w8.heap[B]? = some (EO q ak xs.length ck)) := (hg1.block B hb7 (fun e => by have := hlt B e.symm; omega)).trans HB7.out
          have HR8 : Hid (w8.heap[w.heap.size]? = some ZE) := (hg1.block w.heap.size (Nat.lt_trans hord hb7) (fun e => by have := hlt _ e.symm; omega)).trans HR7.out
          have HL8 := hid (HL7.out.grown hg1 HL7.out.size (fun g e => by have := hlt g e; omega))
          have HTQ : Hid (Tq w0 B (ks ++ [t]) (xs ++ [x]) a3 c3 (w8.setCell ⟨B, 15, none⟩ (.slice a3 (xs.length + 1) c3))) := by
            have h5 := HEV.out
            have h7 := H7.out
            rw [← HXB.out] at h5 h7
            exact HS.out.tq.next hs1 HB5.out h5 h7 hg1 hown1 (by simpa using hd1) _
          have HN : Hid (Sk w0 rs k d w q B m' (ks ++ [t]) (xs ++ [x]) a3 c3 (w8.setCell ⟨B, 15, none⟩ (.slice a3 (xs.length + 1) c3))) := by
            refine ⟨by have := HS.out.km; omega, hm2, by simp; omega, by simp [HS.out.len], HTQ.out, ?_, ?_, ?_, hord, ?_, ?_, ?_⟩
            · rw [List.length_append]
              exact set_at HB8.out
            · exact (Below.heap_setCell w8 ⟨B, 15, none⟩ _ _ (by simp only; omega)).trans HR8.out
            · exact HL8.out.setCell (by simp only; omega) _
            · rw [HS.out.ps, HPT.out, rowsL_append]
              simp [rowsL]
            · rw [GtL_append]
              exact ⟨HS.out.gt, by simp only [GtL]; exact ⟨HGT.out, trivial⟩⟩
            · intro h tt htt
              rcases List.mem_append.1 htt with h1 | h1
              · exact HS.out.sel h tt h1
              · rw [List.mem_singleton.1 h1]; exact HSL.out h
          have b15 := cell16 HB8.out
          have f15 := fifteen_frz (o := 15) HB8.out
          clear z0 z1 z2 z3 z4 z5 z6 z7 z8 z9 z10 z11 z12 z13 z14 z15 hown1 hg1 hd1
          go_wp2
          go_roundw
          case rel => exact ⟨m', ks ++ [t], xs ++ [x], a3, c3, rfl, by congr 1; simp, HN⟩
          case measure => simp [intOf]; omega
end Go.Proofs.YtbdlahhejfamhaaGreatDoor.Qry
