/- Aggs marked and held; the model's DownSamples; the walk of FnExactDownSamples. -/
import Derived.Test.YtaedgekdhpiieaaDd
namespace Go.Proofs.Ytaedgekdhpiieaa.Agl
open Go.RowKit
open Go.Proofs.Ytaedgekdhpiieaa.Smp (Sm HasS goodS grown_refl grown_setRow below_grown)

def markA (k n : Nat) : List Ag := (List.range n).map fun i => ⟨((k + 8 * i : Nat) : Int), ((k + 8 * i + 1 : Nat) : Int), ((k + 8 * i + 2 : Nat) : Int), ((k + 8 * i + 3 : Nat) : Int), ((k + 8 * i + 4 : Nat) : Int), ((k + 8 * i + 5 : Nat) : Int), ((k + 8 * i + 6 : Nat) : Int), ((k + 8 * i + 7 : Nat) : Int)⟩
theorem markA_len (k n : Nat) : (markA k n).length = n := by simp [markA]
theorem markA_get (k n i : Nat) (h : i < n) : (markA k n).getD i a0 = ⟨((k + 8 * i : Nat) : Int), ((k + 8 * i + 1 : Nat) : Int), ((k + 8 * i + 2 : Nat) : Int), ((k + 8 * i + 3 : Nat) : Int), ((k + 8 * i + 4 : Nat) : Int), ((k + 8 * i + 5 : Nat) : Int), ((k + 8 * i + 6 : Nat) : Int), ((k + 8 * i + 7 : Nat) : Int)⟩ := by simp [markA, h]
/-- The row while it is being marked. -/
def markR (k : Nat) (ls : List Ag) (i : Nat) : List Ag := (markA k i) ++ ls.drop i
theorem markR_zero (k : Nat) (ls : List Ag) : markR k ls 0 = ls := by simp [markR, markA]
theorem markR_end (k n : Nat) (ls : List Ag) (h : ls.length = n) : markR k ls n = markA k n := by simp [markR, ← h]
theorem markR_len (k n i : Nat) (ls : List Ag) (h : ls.length = n) (hi : i ≤ n) : (markR k ls i).length = n := by simp [markR, markA_len]; omega
theorem markR_set (k n i : Nat) (ls : List Ag) (h : ls.length = n) (hi : i < n) : (markR k ls i).set i ⟨((k + 8 * i : Nat) : Int), ((k + 8 * i + 1 : Nat) : Int), ((k + 8 * i + 2 : Nat) : Int), ((k + 8 * i + 3 : Nat) : Int), ((k + 8 * i + 4 : Nat) : Int), ((k + 8 * i + 5 : Nat) : Int), ((k + 8 * i + 6 : Nat) : Int), ((k + 8 * i + 7 : Nat) : Int)⟩ = markR k ls (i + 1) := by
  unfold markR
  rw [List.set_append_right _ _ (by rw [markA_len]; exact Nat.le_refl _), markA_len, Nat.sub_self, List.drop_eq_getElem_cons (by omega), List.set_cons_zero]
  have : markA k (i + 1) = markA k i ++ [⟨((k + 8 * i : Nat) : Int), ((k + 8 * i + 1 : Nat) : Int), ((k + 8 * i + 2 : Nat) : Int), ((k + 8 * i + 3 : Nat) : Int), ((k + 8 * i + 4 : Nat) : Int), ((k + 8 * i + 5 : Nat) : Int), ((k + 8 * i + 6 : Nat) : Int), ((k + 8 * i + 7 : Nat) : Int)⟩] := by simp [markA, List.range_succ]
  rw [this, List.append_assoc]
  rfl

set_option maxRecDepth 100000 in
set_option maxHeartbeats 4000000 in
theorem f23 (g c base k : Nat) (ls : List Ag) (w : World) (hk : k + 8 * ls.length ≤ 100000000) (hown : w.ownsRow base 33 8 (.slice (some ⟨g, 0, none⟩) ls.length c) ls.length (flat ls)) :
    Calls Try.prog 23 #[.slice (some ⟨g, 0, none⟩) ls.length c, .int .i64 k] w fun e w' => e = .returned (.int .i64 ((k + 8 * ls.length : Nat) : Int)) ∧ w'.ownsRow base 33 8 (.slice (some ⟨g, 0, none⟩) ls.length c) ls.length (flat (markA k ls.length)) ∧ w.grownBy w' (some g) := by
  generalize hn : ls.length = n at *
  have HN := hid hn
  have HO0 := hid hown
  clear hn hown
  go_enter Try.func23, Try.ntmps23
  go_wp2
  go_loopw [1, 5] (fun sk si wr => ∃ (i m : Nat), i ≤ n ∧ si = .int .i64 i ∧ sk = .int .i64 (m : Int) ∧ Hid (m = k + 8 * i) ∧ wr.ownsRow base 33 8 (.slice (some ⟨g, 0, none⟩) n c) n (flat (markR k ls i)) ∧ w.grownBy wr (some g)) (fun _ si _ => n - (intOf si).toNat)
  case atStart => exact ⟨0, k, Nat.zero_le _, rfl, rfl, rfl, by rw [markR_zero]; exact HO0.out, ⟨rfl, rfl, rfl, Nat.le_refl _, fun _ _ _ => rfl⟩⟩
  case round =>
    obtain ⟨i, m, hi, rfl, rfl, hm, hown, hgr⟩ := hrel
    have HO := hid hown
    have HG := hid hgr
    have HM := hid (markR_len k n i ls HN.out hi)
    clear hown hgr HO0
    by_cases hlt : i < n
    · have HS := hid (markR_set k n i ls HN.out hlt)
      have hm1 : m ≤ 99999992 := by have := hm.out; omega
      obtain ⟨y0, y1, y2, y3, y4, y5, y6, y7⟩ := flat_get (markR k ls i) i (by rw [HM.out]; exact hlt)
      have f0 := HO.out.frozenAt (i * 8)
      have c0 := (HO.out.cellAt (i * 8) (by omega)).trans y0
      have f1 := HO.out.frozenAt (i * 8 + 1)
      have c1 := (HO.out.cellAt (i * 8 + 1) (by omega)).trans y1
      have f2 := HO.out.frozenAt (i * 8 + 2)
      have c2 := (HO.out.cellAt (i * 8 + 2) (by omega)).trans y2
      have f3 := HO.out.frozenAt (i * 8 + 3)
      have c3 := (HO.out.cellAt (i * 8 + 3) (by omega)).trans y3
      have f4 := HO.out.frozenAt (i * 8 + 4)
      have c4 := (HO.out.cellAt (i * 8 + 4) (by omega)).trans y4
      have f5 := HO.out.frozenAt (i * 8 + 5)
      have c5 := (HO.out.cellAt (i * 8 + 5) (by omega)).trans y5
      have f6 := HO.out.frozenAt (i * 8 + 6)
      have c6 := (HO.out.cellAt (i * 8 + 6) (by omega)).trans y6
      have f7 := HO.out.frozenAt (i * 8 + 7)
      have c7 := (HO.out.cellAt (i * 8 + 7) (by omega)).trans y7
      have HO9 := hid ((((((((HO.out.stored (i * 8) (.int .i64 (m : Int))).1.stored (i * 8 + 1) (.int .i64 ((m : Int) + 1))).1.stored (i * 8 + 2) (.int .i64 ((m : Int) + 2))).1.stored (i * 8 + 3) (.int .i64 ((m : Int) + 3))).1.stored (i * 8 + 4) (.int .i64 ((m : Int) + 4))).1.stored (i * 8 + 5) (.int .i64 ((m : Int) + 5))).1.stored (i * 8 + 6) (.int .i64 ((m : Int) + 6))).1.stored (i * 8 + 7) (.int .i64 ((m : Int) + 7))).1
      have HG9 := hid (grown_setRow (o := i * 8 + 7) (grown_setRow (o := i * 8 + 6) (grown_setRow (o := i * 8 + 5) (grown_setRow (o := i * 8 + 4) (grown_setRow (o := i * 8 + 3) (grown_setRow (o := i * 8 + 2) (grown_setRow (o := i * 8 + 1) (grown_setRow (o := i * 8) HG.out (.int .i64 (m : Int))) (.int .i64 ((m : Int) + 1))) (.int .i64 ((m : Int) + 2))) (.int .i64 ((m : Int) + 3))) (.int .i64 ((m : Int) + 4))) (.int .i64 ((m : Int) + 5))) (.int .i64 ((m : Int) + 6))) (.int .i64 ((m : Int) + 7)))
      clear y0 y1 y2 y3 y4 y5 y6 y7
      go_wp2
      go_roundw
      case rel =>
        refine ⟨i + 1, m + 8, by omega, by go_num, by go_num, by have := hm.out; unfold Hid; omega, ?_, HG9.out⟩
        have h := HO9.out
        rw [flat_set _ i _ _ _ _ _ _ _ _ (by rw [HM.out]; exact hlt)] at h
        rw [← HS.out, ← hm.out]
        exact h
      case measure => simp [intOf]; omega
    · obtain rfl : i = n := by omega
      go_wp2
      go_ret
      exact ⟨by rw [← hm.out]; rfl, by rw [← markR_end k i ls HN.out]; exact HO.out, HG.out⟩
theorem f23n (k : Nat) (w : World) : Calls Try.prog 23 #[.slice none 0 0, .int .i64 k] w fun e w' => e = .returned (.int .i64 k) ∧ w' = w := by
  go_enter Try.func23, Try.ntmps23
  go_wp2
  go_loop [1, 5] (fun sk i => sk = .int .i64 k ∧ i = .int .i64 0) (fun _ _ => 0)
  case atStart => exact ⟨rfl, rfl⟩
  case round =>
    obtain ⟨rfl, rfl⟩ := hrel
    go_wp2
    go_ret
    exact ⟨rfl, rfl⟩

set_option maxRecDepth 100000 in
set_option maxHeartbeats 4000000 in
theorem f24 (a : Option Addr) (n c k : Nat) (w : World) (hk : k + 8 * n ≤ 100000000) (hr : HasA w a (markA k n)) :
    Calls Try.prog 24 #[.slice a n c, .int .i64 k] w fun e w' => e = .returned (.int .i64 ((k + 8 * n : Nat) : Int)) ∧ w' = w := by
  go_enter Try.func24, Try.ntmps24
  go_wp2
  go_loop [1, 5] (fun sk si => ∃ (i m : Nat), i ≤ n ∧ si = .int .i64 i ∧ sk = .int .i64 (m : Int) ∧ Hid (m = k + 8 * i)) (fun _ si => n - (intOf si).toNat)
  case atStart => exact ⟨0, k, Nat.zero_le _, rfl, rfl, rfl⟩
  case round =>
    obtain ⟨i, m, hi, rfl, rfl, hm⟩ := hrel
    by_cases hlt : i < n
    · rcases hr with hr | ⟨b, off, rfl, hbl, hc⟩
      · have := markA_len k n; rw [hr] at this; simp at this; omega
      obtain ⟨c0, c1, c2, c3, c4, c5, c6, c7⟩ := hc i (by rw [markA_len]; exact hlt)
      rw [markA_get k n i hlt, ← hm.out] at c0 c1 c2 c3 c4 c5 c6 c7
      have c1' : w.cell? ⟨b, off + i * 8 + 1, none⟩ = some (.int .i64 ((m : Int) + 1)) := by rw [c1]; rfl
      have c2' : w.cell? ⟨b, off + i * 8 + 2, none⟩ = some (.int .i64 ((m : Int) + 2)) := by rw [c2]; rfl
      have c3' : w.cell? ⟨b, off + i * 8 + 3, none⟩ = some (.int .i64 ((m : Int) + 3)) := by rw [c3]; rfl
      have c4' : w.cell? ⟨b, off + i * 8 + 4, none⟩ = some (.int .i64 ((m : Int) + 4)) := by rw [c4]; rfl
      have c5' : w.cell? ⟨b, off + i * 8 + 5, none⟩ = some (.int .i64 ((m : Int) + 5)) := by rw [c5]; rfl
      have c6' : w.cell? ⟨b, off + i * 8 + 6, none⟩ = some (.int .i64 ((m : Int) + 6)) := by rw [c6]; rfl
      have c7' : w.cell? ⟨b, off + i * 8 + 7, none⟩ = some (.int .i64 ((m : Int) + 7)) := by rw [c7]; rfl
      have i1 : (i : Int) < (n : Int) := by omega
      have hm1 : m ≤ 99999992 := by have := hm.out; omega
      clear hc c1 c2 c3 c4 c5 c6 c7
      go_wp2
      go_round
      case rel => exact ⟨i + 1, m + 8, by omega, by go_num, by go_num, by have := hm.out; unfold Hid; omega⟩
      case measure => simp [intOf]; omega
    · obtain rfl : i = n := by omega
      go_wp2
      go_ret
      exact ⟨ret_int (by have := hm.out; omega), rfl⟩

theorem OwnA.cases {w : World} {base : Nat} {v : Value} {L : List Ag} (h : OwnA w base v L) : (L = [] ∧ v = .slice none 0 0) ∨ ∃ g c, v = .slice (some ⟨g, 0, none⟩) L.length c := by
  unfold OwnA at h
  rcases h.2 with ⟨h1, h2⟩ | ⟨g, cap, cur, h1, _⟩
  · exact .inl ⟨List.eq_nil_of_length_eq_zero h2, h1⟩
  · exact .inr ⟨g, cap, h1⟩
theorem OwnA.has {w : World} {base : Nat} {a : Option Addr} {n c : Nat} {L : List Ag} (h : OwnA w base (.slice a n c) L) : n = L.length ∧ HasA w a L := by
  obtain ⟨a', c', h1⟩ := form_a h
  simp only [Value.slice.injEq] at h1
  obtain ⟨rfl, rfl, rfl⟩ := h1
  exact ⟨rfl, HasA.own h⟩
theorem OwnA.below {w w' : World} {base : Nat} {v : Value} {L : List Ag} (h : OwnA w base v L) (hb : Below w.heap.size w w') : OwnA w' base v L := own_below h hb
theorem OwnA.kept {w w' : World} {base : Nat} {r : Option Nat} {v : Value} {L : List Ag} (h : OwnA w base v L) (hg : w.grownBy w' r) (hne : ∀ k, v.ownBlock = some k → r ≠ some k) : OwnA w' base v L :=
  World.ownsRow.kept h hg (by
    cases hv : v.ownBlock with
    | none => exact .inl rfl
    | some k => exact .inr (fun e => hne k hv e.symm))
theorem OwnA.lt {w : World} {base : Nat} {v : Value} {L : List Ag} (h : OwnA w base v L) : ∀ k, v.ownBlock = some k → base ≤ k ∧ k < w.heap.size := World.ownsRow.lt h
theorem eqO {w : World} {b b' : Nat} {v v' : Value} {L : List Ag} (hb : L.length ≤ 1048576) (h : OwnA w b v L) (h' : OwnA w b' v' L) :
    Calls Try.prog 20 #[v, v'] w fun e w' => e = .returned (.bool true) ∧ Below w.heap.size w w' := by
  obtain ⟨a, c, rfl⟩ := form_a h
  obtain ⟨a', c', rfl⟩ := form_a h'
  exact f20 a a' c c' L w hb h.has.2 h'.has.2
theorem markO {w : World} {base : Nat} {v : Value} {L : List Ag} (k : Nat) (hk : k + 8 * L.length ≤ 100000000) (h : OwnA w base v L) :
    Calls Try.prog 23 #[v, .int .i64 k] w fun e w' => e = .returned (.int .i64 ((k + 8 * L.length : Nat) : Int)) ∧ OwnA w' base v (markA k L.length) ∧ w.grownBy w' v.ownBlock := by
  rcases h.cases with ⟨rfl, rfl⟩ | ⟨g, c, rfl⟩
  · refine (f23n k w).mono ?_
    rintro e w' ⟨rfl, rfl⟩
    exact ⟨rfl, OwnA.nil _ _, grown_refl _ _⟩
  · refine (f23 g c base k L w hk h).mono ?_
    rintro e w' ⟨rfl, ho, hg⟩
    exact ⟨rfl, by unfold OwnA; rw [markA_len]; exact ho, hg⟩
theorem heldO {w : World} {base n : Nat} {v : Value} (k : Nat) (hk : k + 8 * n ≤ 100000000) (h : OwnA w base v (markA k n)) :
    Calls Try.prog 24 #[v, .int .i64 k] w fun e w' => e = .returned (.int .i64 ((k + 8 * n : Nat) : Int)) ∧ w' = w := by
  obtain ⟨a, c, rfl⟩ := form_a h
  rw [markA_len] at h ⊢
  exact f24 a n c k w hk h.has.2
theorem dwn_len (res : Int) (ls : List Sm) : (dwn res ls).length ≤ ls.length := by
  unfold dwn
  split
  · exact Nat.le_trans (fw_len _ _) (ones_len _)
  · simp

set_option maxHeartbeats 4000000 in
theorem f11 (a : Option Addr) (c : Nat) (res : Int) (ls : List Sm) (w : World) (hmax : ls.length ≤ 1048576) (hr : HasS w a ls) (hfit : Smp.Fit ls) :
    Calls Try.prog 11 #[.slice a ls.length c, .int .i64 res] w fun e w' => ∃ v, e = .returned v ∧ OwnA w' w.heap.size v (dwn res ls) ∧ Below w.heap.size w w' := by
  have HGd := hid (Smp.f8 a c ls w hmax hr)
  have HR := hid hr
  clear hr
  by_cases hg : goodS ls = true
  rotate_left
  · have hg' : goodS ls = false := by simpa using hg
    have HA : Hid (dwn res ls = []) := if_neg fun h => hg h.1
    rw [hg'] at HGd
    go_enter Try.func11, Try.ntmps11
    go_wp2_with (go_at_call 8; refine HGd.out.mono ?_; rintro e w2 ⟨rfl, hb2⟩)
    go_ret
    exact ⟨_, rfl, by rw [HA.out]; exact OwnA.nil _ _, hb2⟩
  have HGood := hid hg
  rw [hg] at HGd
  clear hg
  by_cases hs : ResP res
  rotate_left
  · have HSp := hid (decide_eq_false hs)
    have HA : Hid (dwn res ls = []) := if_neg fun h => hs h.2
    clear hs
    go_enter Try.func11, Try.ntmps11
    go_wp2_with (first | (go_at_call 8; refine HGd.out.mono ?_; rintro e w2 ⟨rfl, hb2⟩) | (go_at_call 36; refine (f36 res _).mono ?_; rw [HSp.out]; rintro e w3 ⟨rfl, rfl⟩))
    go_ret
    exact ⟨_, rfl, by rw [HA.out]; exact OwnA.nil _ _, hb2⟩
  have HSp := hid (decide_eq_true hs)
  have HA : Hid (dwn res ls = fw (winOf res) (ones ls)) := if_pos ⟨HGood.out, hs⟩
  have HD := fun x (hx : HasS x a ls) => hid (f37 a c res ls x hmax hx (good_s HGood.out) hs hfit)
  clear hs
  go_enter Try.func11, Try.ntmps11
  go_wp2_with (first | (go_at_call 8; refine HGd.out.mono ?_; rintro e w2 ⟨rfl, hb2⟩) | (go_at_call 36; refine (f36 res _).mono ?_; rw [HSp.out]; rintro e w3 ⟨rfl, rfl⟩) | (go_at_call 37; refine (HD _ (HR.out.below hb2)).out.mono ?_; rintro e w4 ⟨v4, rfl, ho4, hb4⟩))
  have HB4 := hid (hb2.trans (hb4.mono hb2.size))
  have HO4 := hid (World.ownsRow.mono ho4 hb2.size)
  go_wp2
  go_ret
  exact ⟨_, rfl, by rw [HA.out]; exact HO4.out, HB4.out⟩

set_option maxHeartbeats 4000000 in
theorem walkDown (a : Option Addr) (c : Nat) (ls : List Sm) (res : Int) (w : World) (hmax : ls.length ≤ maxLen) (hr : HasS w a ls) (hfit : Smp.Fit ls) :
    Calls Try.prog 5 #[.slice a ls.length c, .int .i64 res] w fun e w' => e = .returned (.bool true) ∧ Below w.heap.size w w' := by
  have HM := hid hmax
  have HR := hid hr
  clear hmax hr
  by_cases hbig : ls.length ≤ 1048576
  · have hif : (if (1048576 : Int) < (ls.length : Int) then (-1 : Int) else 1048576 - (ls.length : Int)) = 1048576 - (ls.length : Int) := if_neg (by omega)
    have hsl := Nat.le_trans (dwn_len res ls) hbig
    go_enter Try.func5, Try.ntmps5
    go_wp2_with fail
    refine (Smp.f18 a ls.length c 1048576 _ HM.out (by omega) (by omega)).mono ?_
    rw [hif]
    rintro e w1 ⟨rfl, rfl⟩
    clear hif
    -- the model
    go_wp2_with fail
    refine (Smp.f19 a c ls _ hbig HR.out).mono ?_
    rintro e w2 ⟨rfl, ho2, hb2⟩
    have HB2 := hid hb2
    have A2 := hid (Smp.Own.to ho2).has.2
    clear hb2 ho2
    go_wp2_with fail
    refine (f11 _ _ res ls _ hbig A2.out hfit).mono ?_
    rintro e w3 ⟨v0, rfl, ho3, hb3⟩
    generalize hsel : dwn res ls = sel at *
    have HS := hid hsel
    clear hsel
    have HB3 := hid (HB2.out.trans (hb3.mono HB2.out.size))
    have V3 := hid ho3
    have BV : Hid (∀ k, v0.ownBlock = some k → k < w3.heap.size) := fun k hk => (V3.out.lt k hk).2
    clear hb3 ho3 A2
    -- the program
    go_wp2_with fail
    refine (Smp.f19 a c ls _ hbig (HR.out.below HB3.out)).mono ?_
    rintro e w4 ⟨rfl, ho4, hb4⟩
    have HB4 := hid (HB3.out.trans (hb4.mono HB3.out.size))
    have V4 := hid (V3.out.below hb4)
    have X4 := hid (Smp.Own.to ho4)
    have l34 : w3.heap.size < w4.heap.size := (ho4.lt _ rfl).2
    clear hb4 ho4 V3
    go_wp2_with fail
    refine (f9 _ _ res ls _ hbig X4.out.has.2).mono ?_
    rintro e w5 ⟨g0, rfl, ho5, hb5⟩
    rw [HS.out] at ho5
    have HB5 := hid (HB4.out.trans (hb5.mono HB4.out.size))
    have V5 := hid (V4.out.below hb5)
    have X5 := hid (X4.out.below hb5)
    have G5 := hid ho5
    have BG : Hid (∀ k, g0.ownBlock = some k → w4.heap.size ≤ k) := fun k hk => (G5.out.lt k hk).1
    clear hb5 ho5 V4 X4
    go_wp2_with fail
    refine (eqO (by omega) G5.out V5.out).mono ?_
    rintro e w6 ⟨rfl, hb6⟩
    have HB6 := hid (HB5.out.trans (hb6.mono HB5.out.size))
    have V6 := hid (V5.out.below hb6)
    have X6 := hid (X5.out.below hb6)
    have G6 := hid (G5.out.below hb6)
    clear hb6 V5 X5 G5
    -- the argument stays
    go_wp2_with fail
    refine (Smp.f19 a c ls _ hbig (HR.out.below HB6.out)).mono ?_
    rintro e w7 ⟨rfl, ho7, hb7⟩
    have HB7 := hid (HB6.out.trans (hb7.mono HB6.out.size))
    have V7 := hid (V6.out.below hb7)
    have X7 := hid (X6.out.below hb7)
    have G7 := hid (G6.out.below hb7)
    have T7 := hid (Smp.Own.to ho7)
    clear hb7 ho7 V6 X6 G6
    go_wp2_with fail
    refine (Smp.eqO hbig X7.out T7.out).mono ?_
    rintro e w8 ⟨rfl, hb8⟩
    have HB8 := hid (HB7.out.trans (hb8.mono HB7.out.size))
    have V8 := hid (V7.out.below hb8)
    have X8 := hid (X7.out.below hb8)
    have G8 := hid (G7.out.below hb8)
    clear hb8 V7 X7 G7 T7
    -- marks in the argument
    go_wp2_with fail
    refine (Smp.markO 1 (by omega) X8.out).mono ?_
    rintro e w9 ⟨rfl, _, hg9⟩
    have hg9' : w8.grownBy w9 (some w3.heap.size) := hg9
    have HB9 := hid (below_grown HB8.out hg9' HB8.out.size HB3.out.size)
    have V9 := hid (V8.out.kept hg9' (fun k hk e => by cases e; have := BV.out _ hk; omega))
    have G9 := hid (G8.out.kept hg9' (fun k hk e => by cases e; have := BG.out _ hk; omega))
    clear hg9 hg9' V8 X8 G8
    go_wp2_with fail
    refine (eqO (by omega) G9.out V9.out).mono ?_
    rintro e w10 ⟨rfl, hb10⟩
    have HB10 := hid (HB9.out.trans (hb10.mono HB9.out.size))
    have V10 := hid (V9.out.below hb10)
    have G10 := hid (G9.out.below hb10)
    clear hb10 V9 G9
    -- marks in the answer
    go_wp2_with fail
    refine (markO 1 (by omega) G10.out).mono ?_
    rintro e w11 ⟨rfl, ho11, hg11⟩
    have HB11 := hid (HB10.out.grown hg11 HB10.out.size (fun k hk => Nat.le_trans HB4.out.size (BG.out k hk)))
    have V11 := hid (V10.out.kept hg11 (fun k hk e => by have h1 := BG.out _ e; have h2 := BV.out _ hk; omega))
    have G11 := hid ho11
    clear ho11 hg11 V10 G10
    go_wp2_with fail
    refine (heldO 1 (by omega) G11.out).mono ?_
    rintro e w12 ⟨rfl, rfl⟩
    -- once more
    go_wp2_with fail
    refine (Smp.f19 a c ls _ hbig (HR.out.below HB11.out)).mono ?_
    rintro e w13 ⟨rfl, ho13, hb13⟩
    have HB13 := hid (HB11.out.trans (hb13.mono HB11.out.size))
    have V13 := hid (V11.out.below hb13)
    have G13 := hid (G11.out.below hb13)
    have T13 := hid (Smp.Own.to ho13).has.2
    clear hb13 ho13 V11 G11
    go_wp2_with fail
    refine (f9 _ _ res ls _ hbig T13.out).mono ?_
    rintro e w14 ⟨h0, rfl, ho14, hb14⟩
    rw [HS.out] at ho14
    have HB14 := hid (HB13.out.trans (hb14.mono HB13.out.size))
    have V14 := hid (V13.out.below hb14)
    have G14 := hid (G13.out.below hb14)
    have H14 := hid ho14
    clear hb14 ho14 V13 G13
    go_wp2_with fail
    refine (eqO (by omega) H14.out V14.out).mono ?_
    rintro e w15 ⟨rfl, hb15⟩
    have HB15 := hid (HB14.out.trans (hb15.mono HB14.out.size))
    have G15 := hid (G14.out.below hb15)
    clear hb15 H14 V14 G14
    go_wp2_with fail
    refine (heldO 1 (by omega) G15.out).mono ?_
    rintro e w16 ⟨rfl, rfl⟩
    go_wp2
    go_ret
    exact ⟨rfl, HB15.out⟩
  · have hif : (if (1048576 : Int) < (ls.length : Int) then (-1 : Int) else 1048576 - (ls.length : Int)) = -1 := if_pos (by omega)
    go_enter Try.func5, Try.ntmps5
    go_wp2_with fail
    refine (Smp.f18 a ls.length c 1048576 _ HM.out (by omega) (by omega)).mono ?_
    rw [hif]
    rintro e w1 ⟨rfl, rfl⟩
    go_wp2
    go_ret
    exact ⟨rfl, Below.refl _ _⟩
end Go.Proofs.Ytaedgekdhpiieaa.Agl
