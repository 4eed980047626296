/- Templates: the model's reader. -/
import Derived.Test.YtpeffjkagaegjaaDoorGtb
namespace Go.Proofs.YtpeffjkagaegjaaDoor.Tpl
open Go.RowKit Go.Proofs.YtpeffjkagaegjaaDoor.Pat Go.Proofs.YtpeffjkagaegjaaDoor.Rdd

theorem f34 (s : ByteArray) (t : Nat) (w : World) (hs : s.size ≤ 1048576) (ht : t ≤ s.size) : Calls Tryd.prog 34 #[.string s, .int .i64 t] w fun e w' => e = .returned (.int .i64 (nmE (by' s) t)) ∧ w' = w := by
  go_enter Tryd.func34, Tryd.ntmps34
  go_wp2
  go_loop [1] (fun i => ∃ k : Nat, k ≤ s.size ∧ i = .int .i64 k ∧ Hid (nmE (by' s) t = nmE (by' s) k)) (fun i => s.size - (intOf i).toNat)
  case atStart => exact ⟨t, ht, rfl, rfl⟩
  case round =>
    obtain ⟨k, hk, rfl, HN⟩ := hrel
    by_cases hlt : k < s.size
    · have HA := hid (at_byte s k hlt)
      by_cases h1 : letB (s[k].toNat : Int) = true
      · have HE := hid (nmE_step HA.out (by simp [nbC, nbB, h1]))
        go_wp2_with (first | (go_at_call 36; refine (f36 _ _).mono ?_; rintro e w' ⟨rfl, rfl⟩) | (go_at_call 35; refine (f35 _ _).mono ?_; rintro e w' ⟨rfl, rfl⟩))
        go_round
        case rel => exact ⟨k + 1, by omega, by go_num, by unfold Hid; rw [HN.out, HE.out]⟩
        case measure => simp [intOf]; omega
      · have h1' : letB (s[k].toNat : Int) = false := by simpa using h1
        by_cases h2 : digB (s[k].toNat : Int) = true
        · have HE := hid (nmE_step HA.out (by simp [nbC, nbB, h2]))
          go_wp2_with (first | (go_at_call 36; refine (f36 _ _).mono ?_; rintro e w' ⟨rfl, rfl⟩) | (go_at_call 35; refine (f35 _ _).mono ?_; rintro e w' ⟨rfl, rfl⟩))
          go_round
          case rel => exact ⟨k + 1, by omega, by go_num, by unfold Hid; rw [HN.out, HE.out]⟩
          case measure => simp [intOf]; omega
        · have h2' : digB (s[k].toNat : Int) = false := by simpa using h2
          by_cases h3 : (s[k].toNat : Int) = 95
          · have HE := hid (nmE_step HA.out (by unfold nbC nbB; rw [h3]; simp))
            have h3' : ((s[k].toNat : Int) == 95) = true := by simp [h3]
            clear h3
            go_wp2_with (first | (go_at_call 36; refine (f36 _ _).mono ?_; rintro e w' ⟨rfl, rfl⟩) | (go_at_call 35; refine (f35 _ _).mono ?_; rintro e w' ⟨rfl, rfl⟩))
            go_round
            case rel => exact ⟨k + 1, by omega, by go_num, by unfold Hid; rw [HN.out, HE.out]⟩
            case measure => simp [intOf]; omega
          · have HE := hid (nmE_stop HA.out (by unfold nbC nbB; rw [h1', h2']; simpa using h3))
            have h3' : ((s[k].toNat : Int) == 95) = false := by simp [h3]
            clear h3
            go_wp2_with (first | (go_at_call 36; refine (f36 _ _).mono ?_; rintro e w' ⟨rfl, rfl⟩) | (go_at_call 35; refine (f35 _ _).mono ?_; rintro e w' ⟨rfl, rfl⟩))
            go_ret
            exact ⟨by rw [HN.out, HE.out]; rfl, rfl⟩
    · have HE := hid (nmE_end (l := by' s) (i := k) (by simp; omega))
      go_wp2
      go_ret
      exact ⟨by rw [HN.out, HE.out]; rfl, rfl⟩

theorem byte_eq {c d : UInt8} (h : c = d) : ((c.toNat : Int) == (d.toNat : Int)) = true := by rw [h]; simp
theorem byte_neq {c d : UInt8} (h : c ≠ d) : ((c.toNat : Int) == (d.toNat : Int)) = false := by
  rw [beq_eq_false_iff_ne]
  intro e
  exact h (UInt8.toNat_inj.1 (by omega))
theorem byte_ne {c d : UInt8} (h : c ≠ d) : ((c.toNat : Int) != (d.toNat : Int)) = true := by
  rw [bne_iff_ne]
  intro e
  exact h (UInt8.toNat_inj.1 (by omega))
theorem byte_ne' {c d : UInt8} (h : c = d) : ((c.toNat : Int) != (d.toNat : Int)) = false := by rw [h]; simp
theorem at_is {s : ByteArray} {k : Nat} (hk : k < s.size) {c : UInt8} : (by' s)[k]? = some c ↔ s[k] = c := by rw [at_byte s k hk]; simp
theorem infoS : (Tryd.prog.info? 9).map (fun i => (i.zero, i.size, i.bytes)) = some (some (.string ⟨#[]⟩), 1, 16) := by kernel_rfl
theorem infoB : (Tryd.prog.info? 4).map (fun i => (i.zero, i.size, i.bytes)) = some (some (.bool false), 1, 1) := by kernel_rfl
def fs (ps : List Pc) : List Value := ps.map fun p => .string p.1
def fb (ps : List Pc) : List Value := ps.map fun p => .bool p.2
/-- The rows of what was read: texts, and whether they are names. -/
structure Ms2 (w0 : World) (n1 n2 : Nat) (x1 x2 : List Value) (a1 : Option Addr) (c1 : Nat) (a2 : Option Addr) (c2 : Nat) (w : World) : Prop where
  row1 : w.ownsRow w0.heap.size 9 1 (.slice a1 n1 c1) n1 x1
  row2 : w.ownsRow w0.heap.size 4 1 (.slice a2 n2 c2) n2 x2
  bel : Below w0.heap.size w0 w
theorem Ms2.alloc {w0 w : World} {n1 n2 : Nat} {x1 x2 : List Value} {a1 a2 : Option Addr} {c1 c2 : Nat} (h : Ms2 w0 n1 n2 x1 x2 a1 c1 a2 c2 w) (o : Obj) : Ms2 w0 n1 n2 x1 x2 a1 c1 a2 c2 (w.alloc o) := ⟨h.row1.alloc _, h.row2.alloc _, h.bel.alloc h.bel.size _⟩
theorem Ms2.app1 {w0 w w' : World} {n1 n2 m : Nat} {x1 x2 y : List Value} {a1 a2 a3 : Option Addr} {c1 c2 c3 : Nat} (h : Ms2 w0 n1 n2 x1 x2 a1 c1 a2 c2 w) (hg : w.grownBy w' (Value.slice a1 n1 c1).ownBlock) (ho : w'.ownsRow w0.heap.size 9 1 (.slice a3 m c3) m y) : Ms2 w0 m n2 y x2 a3 c3 a2 c2 w' :=
  ⟨ho, h.row2.kept hg (own_apart h.row2 h.row1 (by decide)), h.bel.grown hg h.bel.size (fun j hj => (h.row1.lt j hj).1)⟩
theorem Ms2.app2 {w0 w w' : World} {n1 n2 m : Nat} {x1 x2 y : List Value} {a1 a2 a3 : Option Addr} {c1 c2 c3 : Nat} (h : Ms2 w0 n1 n2 x1 x2 a1 c1 a2 c2 w) (hg : w.grownBy w' (Value.slice a2 n2 c2).ownBlock) (ho : w'.ownsRow w0.heap.size 4 1 (.slice a3 m c3) m y) : Ms2 w0 n1 m x1 y a1 c1 a3 c3 w' :=
  ⟨h.row1.kept hg (own_apart h.row1 h.row2 (by decide)), ho, h.bel.grown hg h.bel.size (fun j hj => (h.row2.lt j hj).1)⟩
def Ms (w0 : World) (ps : List Pc) (a1 : Option Addr) (c1 : Nat) (a2 : Option Addr) (c2 : Nat) (w : World) : Prop := Ms2 w0 ps.length ps.length (fs ps) (fb ps) a1 c1 a2 c2 w
theorem Ms2.snoc {w0 w : World} {ps : List Pc} {t : ByteArray} {b : Bool} {a1 a2 : Option Addr} {c1 c2 : Nat} (h : Ms2 w0 (ps.length + 1) (ps.length + 1) (fs ps ++ [.string t]) (fb ps ++ [.bool b]) a1 c1 a2 c2 w) : Ms w0 (ps ++ [(t, b)]) a1 c1 a2 c2 w := by
  unfold Ms
  rw [show fs (ps ++ [(t, b)]) = fs ps ++ [.string t] from by simp [fs], show fb (ps ++ [(t, b)]) = fb ps ++ [.bool b] from by simp [fb], List.length_append]
  exact h
/-- What the call of l18Parts leaves. -/
def PrtR (s : ByteArray) (w : World) (e : Ending) (w' : World) : Prop :=
  Below w.heap.size w w' ∧ ((tpl s = none ∧ e = .returned (.tuple #[.slice none 0 0, .slice none 0 0, .bool false])) ∨ ∃ ps a1 c1 a2 c2, tpl s = some ps ∧ e = .returned (.tuple #[.slice a1 ps.length c1, .slice a2 ps.length c2, .bool true]) ∧ Ms w ps a1 c1 a2 c2 w' ∧ ps.length ≤ 200 ∧ ∀ p ∈ ps, p.1.size ≤ 200)
set_option maxHeartbeats 8000000 in
set_option maxRecDepth 100000 in
theorem f18 (s : ByteArray) (w : World) (hs : s.size ≤ maxLen) : Calls Tryd.prog 18 #[.string s] w (PrtR s w) := by
  have hs' := hs
  unfold maxLen at hs'
  by_cases h200 : 200 < s.size
  · go_enter Tryd.func18, Tryd.ntmps18
    go_wp2
    refine bodyPost_ret (results_tmp3 rfl _ _ _) rfl ?_
    exact ⟨Below.refl _ _, .inl ⟨tpl_long h200, rfl⟩⟩
  cases hpr : printL s.data.toList
  · have HT := hid (tpl_unprinted hpr)
    go_enter Tryd.func18, Tryd.ntmps18
    go_wp2_with (go_at_call 33; refine (f33 s _ hs).mono ?_; rintro e w' ⟨rfl, hw'⟩; have hw2 := hw'.symm; clear hw'; subst hw2)
    refine bodyPost_ret (results_tmp3 rfl _ _ _) rfl ?_
    exact ⟨Below.refl _ _, .inl ⟨HT.out, rfl⟩⟩
  have HT := hid (tpl_ok (s := s) (by omega) hpr)
  obtain ⟨i0, hi, hz0, hz1, hz2⟩ := info_parts infoS
  obtain ⟨j0, hj, hy0, hy1, hy2⟩ := info_parts infoB
  have H0 : Hid (Ms w [] none 0 none 0 w) := ⟨World.ownsRow_nil _ _ _ _, World.ownsRow_nil _ _ _ _, Below.refl _ _⟩
  go_enter Tryd.func18, Tryd.ntmps18
  go_wp2_with (go_at_call 33; refine (f33 s _ hs).mono ?_; rintro e w' ⟨rfl, hw'⟩; have hw2 := hw'.symm; clear hw'; subst hw2)
  go_loopw [5, 6, 7] (fun so sn si wr => ∃ (k : Nat) (ps : List Pc) (a1 : Option Addr) (c1 : Nat) (a2 : Option Addr) (c2 : Nat), k ≤ s.size ∧ si = .int .i64 k ∧ so = .slice a1 ps.length c1 ∧ sn = .slice a2 ps.length c2 ∧ Hid (Sofar s ps k) ∧ Hid (Ms w ps a1 c1 a2 c2 wr)) (fun _ _ si _ => s.size - (intOf si).toNat)
  case atStart => exact ⟨0, [], none, 0, none, 0, Nat.zero_le _, rfl, rfl, rfl, Sofar.zero s, H0⟩
  case round =>
    obtain ⟨k, ps, a1, c1, a2, c2, hk, rfl, rfl, rfl, HF, HS⟩ := hrel
    have hpl : ps.length ≤ k := HF.out.2.1
    by_cases hlt : k < s.size
    · by_cases e1 : s[k] = 123
      · have e1' : ((s[k].toNat : Int) != 123) = false := byte_ne' e1
        have HA : Hid ((by' s)[k]? = some 123) := (at_is hlt).2 e1
        by_cases e2 : (by' s)[k + 1]? = some 123
        · have hk2 := at_lt e2
          have e2' : ((s[k + 1].toNat : Int) == 123) = true := byte_eq ((at_is hk2).1 e2)
          have hn : stp s k = some ((⟨#[123]⟩, false), k + 2) := by unfold stp; rw [if_pos HA.out, if_pos e2]
          have HF2 := hid (HF.out.next hlt hn)
          have hkl := stp_lt hn hlt
          clear e1 e2 hn
          go_wp2_with (at_builtin; first | (refine wpList_append_own _ rfl (.tmp 52) (.tmp 53) 41 rfl w.heap.size 9 i0 (.string ⟨#[]⟩) 1 16 Tryd.underlying41 hi hz0 hz1 hz2 rfl (by decide) _ _ _ rfl (HS.out.alloc _).row1 ⟨wr.heap.size, 0, none⟩ 1 1 [.string ⟨#[123]⟩] rfl rfl ?d1 ?d2 ?d3 ?d4 ?d5 ?_))
          case d1 => exact one_row _ _ _
          case d2 => intro u hu; simp at hu; subst hu; rfl
          case d3 => unfold maxLen; omega
          case d4 => omega
          case d5 => have := HS.out.bel.size; simp; omega
          intro v3 w3 hown3 hgr3 _
          obtain ⟨a3, c3, rfl⟩ := own_form' hown3
          have HS3 := hid ((HS.out.alloc _).app1 hgr3 hown3)
          clear hown3 hgr3
          go_wp2_with (at_builtin; first | (refine wpList_append_own _ rfl (.tmp 55) (.tmp 56) 42 rfl w.heap.size 4 j0 (.bool false) 1 1 Tryd.underlying42 hj hy0 hy1 hy2 rfl (by decide) _ _ _ rfl (HS3.out.alloc _).row2 ⟨w3.heap.size, 0, none⟩ 1 1 [.bool false] rfl rfl ?e1 ?e2 ?e3 ?e4 ?e5 ?_))
          case e1 => exact one_row _ _ _
          case e2 => intro u hu; simp at hu; subst hu; rfl
          case e3 => unfold maxLen; omega
          case e4 => omega
          case e5 => have := HS3.out.bel.size; simp; omega
          intro v4 w4 hown4 hgr4 _
          obtain ⟨a4, c4, rfl⟩ := own_form' hown4
          have HS4 := hid ((HS3.out.alloc _).app2 hgr4 hown4)
          clear hown4 hgr4
          go_wp2
          go_roundw
          case rel => exact ⟨k + 2, ps ++ [((⟨#[123]⟩ : ByteArray), false)], a3, c3, a4, c4, by have := hkl.2.1; omega, by go_num, by simp, by simp, HF2, HS4.out.snoc⟩
          case measure => simp [intOf]; omega
        · have HS0 : Hid (stp s k = if (by' s)[nmE (by' s) (k + 1)]? = some 125 ∧ nameL (s.extract (k + 1) (nmE (by' s) (k + 1))).data.toList = true then some ((s.extract (k + 1) (nmE (by' s) (k + 1)), true), nmE (by' s) (k + 1) + 1) else none) := by unfold Hid stp; rw [if_pos HA.out, if_neg e2]
          have hxz : (s.extract (k + 1) (nmE (by' s) (k + 1))).size ≤ maxLen := by rw [ByteArray.size_extract]; unfold maxLen; omega
          have hge := nmE_ge (by' s) (k + 1)
          have hle := nmE_le (l := by' s) (i := k + 1) (by simp; omega)
          have hle' : nmE (by' s) (k + 1) ≤ s.size := by simpa using hle
          have HNM := hid (fun w => f34 s (k + 1) w (by omega) (by omega))
          by_cases hk2 : k + 1 < s.size
          · have e3 : ((s[k + 1].toNat : Int) == 123) = false := byte_neq (fun e => e2 ((at_is hk2).2 e))
            clear e1 e2 hle
            obtain ⟨x, hx⟩ : ∃ x, x = s.extract (k + 1) (nmE (by' s) (k + 1)) := ⟨_, rfl⟩
            rw [← hx] at hxz HS0
            have HXX := hid hx.symm
            clear hx
            obtain ⟨m, hm⟩ : ∃ m, m = nmE (by' s) (k + 1) := ⟨_, rfl⟩
            rw [← hm] at hge hle' HS0 HNM HXX
            have hxx : s.extract (k + 1) m = x := HXX.out
            have i1 : (k : Int) + 1 ≤ (m : Int) := by omega
            have i2 : (m : Int) ≤ (s.size : Int) := by omega
            have i4 : (0 : Int) ≤ (k : Int) + 1 := by omega
            clear hm HXX
            by_cases hm2 : m < s.size
            · by_cases e4 : s[m] = 125
              · have e4' : ((s[m].toNat : Int) != 125) = false := byte_ne' e4
                cases hnm : nameL x.data.toList
                · have HQ : Hid (stp s k = none) := by unfold Hid; rw [HS0.out, if_neg (by rw [hnm]; simp)]
                  clear e4 HS0
                  go_wp2_with (first | (go_at_call 34; refine (HNM.out _).mono ?_; rintro e w2 ⟨rfl, hw2⟩; have hw3 := hw2.symm; clear hw2; subst hw3) | (go_at_call 19; refine (f19 x _ hxz).mono ?_; rintro e w2 ⟨rfl, hw2⟩; have hw3 := hw2.symm; clear hw2; subst hw3))
                  refine bodyPost_ret (results_tmp3 rfl _ _ _) rfl ?_
                  exact ⟨HS.out.bel, .inl ⟨HT.out.trans (HF.out.bad hlt HQ.out), rfl⟩⟩
                · have hn : stp s k = some ((x, true), m + 1) := by rw [HS0.out, if_pos ⟨(at_is hm2).2 e4, hnm⟩]
                  have HF2 := hid (HF.out.next hlt hn)
                  have hkl := stp_lt hn hlt
                  clear e4 HS0 hn
                  go_wp2_with (first | (go_at_call 34; refine (HNM.out _).mono ?_; rintro e w2 ⟨rfl, hw2⟩; have hw3 := hw2.symm; clear hw2; subst hw3) | (go_at_call 19; refine (f19 x _ hxz).mono ?_; rintro e w2 ⟨rfl, hw2⟩; have hw3 := hw2.symm; clear hw2; subst hw3) | (at_builtin; first | (refine wpList_append_own _ rfl (.tmp 81) (.tmp 87) 41 rfl w.heap.size 9 i0 (.string ⟨#[]⟩) 1 16 Tryd.underlying41 hi hz0 hz1 hz2 rfl (by decide) _ _ _ rfl (HS.out.alloc _).row1 ⟨wr.heap.size, 0, none⟩ 1 1 [.string x] rfl rfl ?d1 ?d2 ?d3 ?d4 ?d5 ?_)))
                  case d1 => exact one_row _ _ _
                  case d2 => intro u hu; simp at hu; subst hu; rfl
                  case d3 => unfold maxLen; omega
                  case d4 => omega
                  case d5 => have := HS.out.bel.size; simp; omega
                  intro v3 w3 hown3 hgr3 _
                  obtain ⟨a3, c3, rfl⟩ := own_form' hown3
                  have HS3 := hid ((HS.out.alloc _).app1 hgr3 hown3)
                  clear hown3 hgr3
                  go_wp2_with (at_builtin; first | (refine wpList_append_own _ rfl (.tmp 89) (.tmp 90) 42 rfl w.heap.size 4 j0 (.bool false) 1 1 Tryd.underlying42 hj hy0 hy1 hy2 rfl (by decide) _ _ _ rfl (HS3.out.alloc _).row2 ⟨w3.heap.size, 0, none⟩ 1 1 [.bool true] rfl rfl ?e1 ?e2 ?e3 ?e4 ?e5 ?_))
                  case e1 => exact one_row _ _ _
                  case e2 => intro u hu; simp at hu; subst hu; rfl
                  case e3 => unfold maxLen; omega
                  case e4 => omega
                  case e5 => have := HS3.out.bel.size; simp; omega
                  intro v4 w4 hown4 hgr4 _
                  obtain ⟨a4, c4, rfl⟩ := own_form' hown4
                  have HS4 := hid ((HS3.out.alloc _).app2 hgr4 hown4)
                  clear hown4 hgr4
                  go_wp2
                  go_roundw
                  case rel => exact ⟨m + 1, ps ++ [(x, true)], a3, c3, a4, c4, by have := hkl.2.1; omega, by go_num, by simp, by simp, HF2, HS4.out.snoc⟩
                  case measure => simp [intOf]; omega
              · have e4' : ((s[m].toNat : Int) != 125) = true := byte_ne e4
                have HQ : Hid (stp s k = none) := by unfold Hid; rw [HS0.out, if_neg (fun e => e4 ((at_is hm2).1 e.1))]
                clear e4 HS0
                go_wp2_with (first | (go_at_call 34; refine (HNM.out _).mono ?_; rintro e w2 ⟨rfl, hw2⟩; have hw3 := hw2.symm; clear hw2; subst hw3) | (go_at_call 19; refine (f19 x _ hxz).mono ?_; rintro e w2 ⟨rfl, hw2⟩; have hw3 := hw2.symm; clear hw2; subst hw3))
                refine bodyPost_ret (results_tmp3 rfl _ _ _) rfl ?_
                exact ⟨HS.out.bel, .inl ⟨HT.out.trans (HF.out.bad hlt HQ.out), rfl⟩⟩
            · have HQ : Hid (stp s k = none) := by unfold Hid; rw [HS0.out, if_neg (fun e => hm2 (at_lt e.1))]
              have hm3 : (s.size : Int) ≤ (m : Int) := by omega
              clear HS0
              go_wp2_with (first | (go_at_call 34; refine (HNM.out _).mono ?_; rintro e w2 ⟨rfl, hw2⟩; have hw3 := hw2.symm; clear hw2; subst hw3) | (go_at_call 19; refine (f19 x _ hxz).mono ?_; rintro e w2 ⟨rfl, hw2⟩; have hw3 := hw2.symm; clear hw2; subst hw3))
              refine bodyPost_ret (results_tmp3 rfl _ _ _) rfl ?_
              exact ⟨HS.out.bel, .inl ⟨HT.out.trans (HF.out.bad hlt HQ.out), rfl⟩⟩
          · have HQ : Hid (stp s k = none) := by unfold Hid; rw [HS0.out, if_neg (fun e => by have := at_lt e.1; omega)]
            have hm4 : nmE (by' s) (k + 1) = s.size := by omega
            rw [hm4] at HNM
            clear e1 e2 hle hge hle' HS0 hm4 hxz
            go_wp2_with (go_at_call 34; refine (HNM.out _).mono ?_; rintro e w2 ⟨rfl, hw2⟩; have hw3 := hw2.symm; clear hw2; subst hw3)
            refine bodyPost_ret (results_tmp3 rfl _ _ _) rfl ?_
            exact ⟨HS.out.bel, .inl ⟨HT.out.trans (HF.out.bad hlt HQ.out), rfl⟩⟩
      · have e1' : ((s[k].toNat : Int) != 123) = true := byte_ne e1
        have hn : stp s k = some ((s.extract k (k + 1), false), k + 1) := by unfold stp; rw [if_neg (fun e => e1 ((at_is hlt).1 e))]
        have HF2 := hid (HF.out.next hlt hn)
        have hkl := stp_lt hn hlt
        have i1 : (k : Int) ≤ (k : Int) + 1 := by omega
        have i2 : (k : Int) + 1 ≤ (s.size : Int) := by omega
        have i3 : (0 : Int) ≤ (k : Int) := by omega
        obtain ⟨x, hx⟩ : ∃ x, x = s.extract k (k + 1) := ⟨_, rfl⟩
        rw [← hx] at HF2 hkl
        have hxx : s.extract k (k + 1) = x := hx.symm
        clear e1 hn hx
        go_wp2_with (first | (at_builtin; first | (refine wpList_append_own _ rfl (.tmp 27) (.tmp 33) 41 rfl w.heap.size 9 i0 (.string ⟨#[]⟩) 1 16 Tryd.underlying41 hi hz0 hz1 hz2 rfl (by decide) _ _ _ rfl (HS.out.alloc _).row1 ⟨wr.heap.size, 0, none⟩ 1 1 [.string x] rfl rfl ?zd1 ?zd2 ?zd3 ?zd4 ?zd5 ?_)))
        case zd2 => rfl
        case zd3 => unfold maxLen; omega
        case zd4 => omega
        case zd5 => have := HS.out.bel.size; simp; omega
        intro v3 w3 hown3 hgr3 _
        obtain ⟨a3, c3, rfl⟩ := own_form' hown3
        have HS3 := hid ((HS.out.alloc _).app1 hgr3 hown3)
        clear hown3 hgr3
        go_wp2_with (at_builtin; first | (refine wpList_append_own _ rfl (.tmp 35) (.tmp 36) 42 rfl w.heap.size 4 j0 (.bool false) 1 1 Tryd.underlying42 hj hy0 hy1 hy2 rfl (by decide) _ _ _ rfl (HS3.out.alloc _).row2 ⟨w3.heap.size, 0, none⟩ 1 1 [.bool false] rfl rfl ?ze1 ?ze2 ?ze3 ?ze4 ?ze5 ?_))
        case ze1 => exact one_row _ _ _
        case ze2 => intro u hu; simp at hu; subst hu; rfl
        case ze3 => unfold maxLen; omega
        case ze4 => omega
        case ze5 => have := HS3.out.bel.size; simp; omega
        intro v4 w4 hown4 hgr4 _
        obtain ⟨a4, c4, rfl⟩ := own_form' hown4
        have HS4 := hid ((HS3.out.alloc _).app2 hgr4 hown4)
        clear hown4 hgr4
        go_wp2
        go_roundw
        case rel => exact ⟨k + 1, ps ++ [(x, false)], a3, c3, a4, c4, by have := hkl.2.1; omega, by go_num, by simp, by simp, HF2, HS4.out.snoc⟩
        case measure => simp [intOf]; omega
    · go_wp2
      refine bodyPost_ret (results_tmp3 rfl _ _ _) rfl ?_
      have hd := HF.out.done (by omega)
      exact ⟨HS.out.bel, .inr ⟨ps, a1, c1, a2, c2, HT.out.trans hd, rfl, HS.out, by have := HF.out.2.1; omega, fun p hp => by have := HF.out.2.2 p hp; omega⟩⟩
theorem f10 (s : ByteArray) (w : World) (hs : s.size ≤ maxLen) : Calls Tryd.prog 10 #[.string s] w fun e w' => e = .returned (.bool (gdT s)) ∧ Below w.heap.size w w' := by
  have HG : Hid (gdT s = (tpl s).isSome) := rfl
  go_enter Tryd.func10, Tryd.ntmps10
  go_wp2_with (go_at_call 18; refine (f18 s _ hs).mono ?_; rintro e w1 ⟨hb, hc⟩; rcases hc with ⟨hn, rfl⟩ | ⟨ps, a1, c1, a2, c2, hn, rfl, _⟩)
  · go_ret
    exact ⟨ret_bool (by rw [HG.out, hn]; rfl), hb⟩
  · go_ret
    exact ⟨ret_bool (by rw [HG.out, hn]; rfl), hb⟩
end Go.Proofs.YtpeffjkagaegjaaDoor.Tpl
