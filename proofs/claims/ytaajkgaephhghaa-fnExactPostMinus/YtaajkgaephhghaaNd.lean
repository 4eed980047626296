/- Sets of numbers: the program's combine, and PostAnd, PostOr, PostMinus of both sides. -/
import Derived.Test.YtaajkgaephhghaaNc
namespace Go.Proofs.Ytaajkgaephhghaa.Ino
open Go.RowKit

def put (K : Bool → Bool → Bool) (s o : List Int) : List Int := if num s = true ∧ num o = true then ch K s o else []
theorem put_no {K : Bool → Bool → Bool} {s o : List Int} (h : ¬ (num s = true ∧ num o = true)) : put K s o = [] := if_neg h
theorem put_yes {K : Bool → Bool → Bool} {s o : List Int} (h1 : num s = true) (h2 : num o = true) : put K s o = ch K s o := if_pos ⟨h1, h2⟩
theorem ch_len (K : Bool → Bool → Bool) (n : Nat) : ∀ (s o : List Int), s.length + o.length ≤ n → (ch K s o).length ≤ s.length + o.length := by
  have hif : ∀ (b : Bool) (x : Int), (if b = true then [x] else []).length ≤ 1 := by intro b x; cases b <;> simp
  induction n with
  | zero =>
    intro s o h
    obtain rfl := List.eq_nil_of_length_eq_zero (show s.length = 0 by omega)
    obtain rfl := List.eq_nil_of_length_eq_zero (show o.length = 0 by omega)
    rw [ch_nil]; simp
  | succ n ih =>
    intro s o h
    by_cases h0 : 0 < s.length + o.length
    · rcases ch_step K s o h0 with ⟨x, s', o', -, -, rfl, rfl, e⟩ | ⟨x, s', -, -, rfl, e⟩ | ⟨x, o', -, -, rfl, e⟩
      · rw [e, List.length_append]
        have h1 := hif (K true true) x
        have h2 := ih s' o' (by simp at h ⊢; omega)
        simp only [List.length_cons]; omega
      · rw [e, List.length_append]
        have h1 := hif (K true false) x
        have h2 := ih s' o (by simp at h ⊢; omega)
        simp only [List.length_cons]; omega
      · rw [e, List.length_append]
        have h1 := hif (K false true) x
        have h2 := ih s o' (by simp at h ⊢; omega)
        simp only [List.length_cons]; omega
    · obtain rfl := List.eq_nil_of_length_eq_zero (show s.length = 0 by omega)
      obtain rfl := List.eq_nil_of_length_eq_zero (show o.length = 0 by omega)
      rw [ch_nil]; simp
theorem put_len (K : Bool → Bool → Bool) (s o : List Int) : (put K s o).length ≤ 2000 := by
  unfold put
  split
  · rename_i h
    have h1 := num_len h.1; have h2 := num_len h.2
    have h3 := ch_len K _ s o (Nat.le_refl _)
    omega
  · simp
/-- What a call gives: a row of its own, and nothing else has turned. -/
def Gives (w : World) (L : List Int) (e : Ending) (w' : World) : Prop := ∃ v, e = .returned v ∧ Own w' w.heap.size v L ∧ Below w.heap.size w w'
theorem gives_no {w w' : World} {L : List Int} (h : L = []) (hb : Below w.heap.size w w') : Gives w L (.returned (.slice none 0 0)) w' := by
  subst h; exact ⟨_, rfl, Own.nil _ _, hb⟩
theorem Gives.up {w w1 w' : World} {L : List Int} {v : Value} (hb : Below w.heap.size w w1) (ho : Own w' w1.heap.size v L) (hb' : Below w1.heap.size w1 w') : Own w' w.heap.size v L ∧ Below w.heap.size w w' :=
  ⟨ho.mono hb.size, hb.trans (hb'.mono hb.size)⟩

theorem f19 (a a' : Option Addr) (c c' : Nat) (s o : List Int) (w : World) (hb : s.length ≤ 1048576) (hb' : o.length ≤ 1048576) (hc : s.length ≤ c) (hc' : o.length ≤ c') (hr : Has w a s) (hr' : Has w a' o) :
    Calls Try.prog 19 #[.slice a s.length c, .slice a' o.length c'] w (Gives w (ch kAnd s o)) := by
  have HC := hid (choose_and a a' c c' s o w hb hb' hc hc' hr hr')
  clear hr hr'
  generalize s.length = n at *
  generalize o.length = n' at *
  go_enter Try.func19, Try.ntmps19
  go_wp2_with fail
  refine HC.out.mono ?_
  rintro e w1 ⟨v, rfl, ho, hb1⟩
  go_wp2
  go_ret
  exact ⟨v, rfl, ho, hb1⟩
set_option maxHeartbeats 2000000 in
theorem combine_and (a a' : Option Addr) (c c' : Nat) (s o : List Int) (w : World) (hb : s.length ≤ 1048576) (hb' : o.length ≤ 1048576) (hc : s.length ≤ c) (hc' : o.length ≤ c') (hr : Has w a s) (hr' : Has w a' o) :
    Calls Try.prog 18 #[.slice a s.length c, .slice a' o.length c', .func (.func 19) #[] #[]] w (Gives w (put kAnd s o)) := by
  have HC : Hid (∀ wx, Below w.heap.size w wx → Calls Try.prog 19 #[.slice a s.length c, .slice a' o.length c'] wx (Gives wx (ch kAnd s o))) := fun wx hx => f19 a a' c c' s o wx hb hb' hc hc' (hr.below hx) (hr'.below hx)
  have H1 : Hid (∀ wx, Below w.heap.size w wx → Calls Try.prog 22 #[.slice a s.length c, .func (.func 23) #[] #[]] wx fun e w' => e = .returned (.bool (riseI s)) ∧ Below wx.heap.size wx w') := fun wx hx => f22 a _ c s wx rfl hb (hr.below hx)
  have H2 : Hid (∀ wx, Below w.heap.size w wx → Calls Try.prog 22 #[.slice a' o.length c', .func (.func 23) #[] #[]] wx fun e w' => e = .returned (.bool (riseI o)) ∧ Below wx.heap.size wx w') := fun wx hx => f22 a' _ c' o wx rfl hb' (hr'.below hx)
  have N1 := hid (fun h => num_long (l := s) h)
  have N2 := hid (fun h => num_short (l := s) h)
  have M1 := hid (fun h => num_long (l := o) h)
  have M2 := hid (fun h => num_short (l := o) h)
  have P0 := hid (put_no (K := kAnd) (s := s) (o := o))
  have P1 := hid (put_yes (K := kAnd) (s := s) (o := o))
  clear hr hr' hc hc'
  generalize s.length = n at *
  generalize o.length = n' at *
  have q0 : ∀ wx : World, Sem.run Try.prog (Instr.index 33 (Value.agg #[Value.slice a n c, Value.slice a' n' c']) (Value.int .i64 0)) wx = .ok (Value.slice a n c) wx := fun wx => by kernel_rfl
  have q1 : ∀ wx : World, Sem.run Try.prog (Instr.index 33 (Value.agg #[Value.slice a n c, Value.slice a' n' c']) (Value.int .i64 1)) wx = .ok (Value.slice a' n' c') wx := fun wx => by kernel_rfl
  go_enter Try.func18, Try.ntmps18
  go_wp2
  go_loopw [12] (fun v12 wr => ∃ k : Nat, k ≤ 2 ∧ v12 = .int .i64 (k : Int) ∧ Hid (1 ≤ k → num s = true) ∧ Hid (2 ≤ k → num o = true) ∧ Hid (Below w.heap.size w wr)) (fun v _ => 2 - (intOf v).toNat)
  case atStart => exact ⟨0, by omega, rfl, fun h => by omega, fun h => by omega, Below.refl _ _⟩
  case round =>
    obtain ⟨k, hk, rfl, hk1, hk2, HB⟩ := hrel
    rcases k with _ | _ | _ | k
    · by_cases h1 : n ≤ 1000
      · go_wp2_with fail
        refine (H1.out _ HB.out).mono ?_
        rintro e w2 ⟨rfl, hb2⟩
        have HB2 := hid (HB.out.trans (hb2.mono HB.out.size))
        clear hb2
        cases hq : riseI s
        · have E : Hid (put kAnd s o = []) := P0.out (fun h => by rw [N2.out h1, hq] at h; cases h.1)
          go_wp2
          go_ret
          exact gives_no E.out HB2.out
        · have E : Hid (num s = true) := (N2.out h1).trans hq
          clear hq
          go_wp2
          go_roundw
          case rel => exact ⟨1, by omega, by go_num, fun _ => E.out, fun h => by omega, HB2⟩
          case measure => simp [intOf]
      · have E : Hid (put kAnd s o = []) := P0.out (fun h => by rw [N1.out h1] at h; cases h.1)
        go_wp2
        go_ret
        exact gives_no E.out HB.out
    · by_cases h1 : n' ≤ 1000
      · go_wp2_with fail
        refine (H2.out _ HB.out).mono ?_
        rintro e w2 ⟨rfl, hb2⟩
        have HB2 := hid (HB.out.trans (hb2.mono HB.out.size))
        clear hb2
        cases hq : riseI o
        · have E : Hid (put kAnd s o = []) := P0.out (fun h => by rw [M2.out h1, hq] at h; cases h.2)
          go_wp2
          go_ret
          exact gives_no E.out HB2.out
        · have E : Hid (num o = true) := (M2.out h1).trans hq
          clear hq
          go_wp2
          go_roundw
          case rel => exact ⟨2, by omega, by go_num, fun _ => hk1.out (by omega), fun _ => E.out, HB2⟩
          case measure => simp [intOf]
      · have E : Hid (put kAnd s o = []) := P0.out (fun h => by rw [M1.out h1] at h; cases h.2)
        go_wp2
        go_ret
        exact gives_no E.out HB.out
    · have E : Hid (put kAnd s o = ch kAnd s o) := P1.out (hk1.out (by omega)) (hk2.out (by omega))
      go_wp2_with fail
      refine (HC.out _ HB.out).mono ?_
      rintro e w2 ⟨v, rfl, ho, hb2⟩
      have G := hid (Gives.up HB.out ho hb2)
      clear ho hb2
      go_wp2
      go_ret
      exact ⟨v, rfl, by rw [E.out]; exact G.out.1, G.out.2⟩
    · omega
theorem f8 (a a' : Option Addr) (c c' : Nat) (s o : List Int) (w : World) (hb : s.length ≤ 1048576) (hb' : o.length ≤ 1048576) (hc : s.length ≤ c) (hc' : o.length ≤ c') (hr : Has w a s) (hr' : Has w a' o) :
    Calls Try.prog 8 #[.slice a s.length c, .slice a' o.length c'] w (Gives w (put kAnd s o)) := by
  have HC := hid (combine_and a a' c c' s o w hb hb' hc hc' hr hr')
  clear hr hr'
  generalize s.length = n at *
  generalize o.length = n' at *
  go_enter Try.func8, Try.ntmps8
  go_wp2_with fail
  refine HC.out.mono ?_
  rintro e w1 ⟨v, rfl, ho, hb1⟩
  go_wp2
  go_ret
  exact ⟨v, rfl, ho, hb1⟩

set_option maxHeartbeats 2000000 in
theorem f6 (a a' : Option Addr) (c c' : Nat) (s o : List Int) (w : World) (hb : s.length ≤ 1048576) (hb' : o.length ≤ 1048576) (hr : Has w a s) (hr' : Has w a' o) :
    Calls Try.prog 6 #[.slice a s.length c, .slice a' o.length c'] w (Gives w (put kAnd s o)) := by
  obtain ⟨i0, hi, hz0, hz1, hz2⟩ := info_parts info3
  have H1 : Hid (∀ wx, Below w.heap.size w wx → Calls Try.prog 16 #[.slice a s.length c] wx fun e w' => e = .returned (.bool (num s)) ∧ Below wx.heap.size wx w') := fun wx hx => f16 a _ c s wx rfl hb (hr.below hx)
  have H2 : Hid (∀ wx, Below w.heap.size w wx → Calls Try.prog 16 #[.slice a' o.length c'] wx fun e w' => e = .returned (.bool (num o)) ∧ Below wx.heap.size wx w') := fun wx hx => f16 a' _ c' o wx rfl hb' (hr'.below hx)
  have H3 : Hid (∀ x wx, Below w.heap.size w wx → Calls Try.prog 17 #[.slice a' o.length c', .int .i64 x] wx fun e w' => e = .returned (.bool (decide (x ∈ o))) ∧ Below wx.heap.size wx w') := fun x wx hx => f17 a' _ c' o x wx rfl hb' (hr'.below hx)
  have P0 := hid (put_no (K := kAnd) (s := s) (o := o))
  have P1 : Hid (num s = true → num o = true → put kAnd s o = s.filter (fun x => decide (x ∈ o))) := fun h1 h2 => (put_yes h1 h2).trans (ch_and h1 h2)
  have HR := hid hr
  clear hr hr'
  obtain ⟨n, hn⟩ : ∃ n, n = s.length := ⟨_, rfl⟩
  have HN : Hid (s.length = n) := hn.symm
  rw [← hn] at hb H1 ⊢
  clear hn
  generalize o.length = n' at *
  go_enter Try.func6, Try.ntmps6
  go_wp2_with fail
  refine (H1.out _ (Below.refl _ _)).mono ?_
  rintro e w1 ⟨rfl, hb1⟩
  have HB1 := hid hb1
  clear hb1
  cases hq : num s
  · have E : Hid (put kAnd s o = []) := P0.out (fun h => by rw [hq] at h; cases h.1)
    go_wp2
    go_ret
    exact gives_no E.out HB1.out
  have E1 := hid hq
  clear hq
  go_wp2_with fail
  refine (H2.out _ HB1.out).mono ?_
  rintro e w2 ⟨rfl, hb2⟩
  have HB2 := hid (HB1.out.trans (hb2.mono HB1.out.size))
  clear hb2 HB1
  cases hq : num o
  · have E : Hid (put kAnd s o = []) := P0.out (fun h => by rw [hq] at h; cases h.2)
    go_wp2
    go_ret
    exact gives_no E.out HB2.out
  have E2 := hid (P1.out E1.out hq)
  clear hq
  have H0 : Hid (Now w none 0 [] w2) := ⟨Own.nil _ _, HB2.out⟩
  go_wp2
  go_loopw [5, 18] (fun v5 v18 wr => ∃ (k : Nat) (L : List Int) (a5 : Option Addr) (c5 : Nat), k ≤ n ∧ L.length ≤ k ∧ v18 = .int .i64 (k : Int) ∧ v5 = .slice a5 L.length c5 ∧ Hid (L = (s.take k).filter (fun x => decide (x ∈ o))) ∧ Hid (Now w a5 c5 L wr)) (fun _ v _ => n - (intOf v).toNat)
  case atStart => exact ⟨0, [], none, 0, Nat.zero_le _, Nat.zero_le _, rfl, rfl, by simp [Hid], H0⟩
  case round =>
    obtain ⟨k, L, a5, c5, hk, hL, rfl, rfl, HL, HW⟩ := hrel
    by_cases hlt : k < n
    · have hkl : Hid (k < s.length) := by have := HN.out; unfold Hid; omega
      have e1 : Hid (s.take (k + 1) = s.take k ++ [s.getD k 0]) := by
        unfold Hid; rw [List.take_succ_eq_append_getElem hkl.out]; simp [hkl.out]
      rcases HR.out with hr | ⟨b, off, rfl, hbl, hc⟩
      · exact absurd HN.out (by rw [hr]; simp; omega)
      have i1 : (k : Int) < (n : Int) := by omega
      have d0 := (HW.out.2.cell (p := ⟨b, off + k, none⟩) hbl).trans (hc k hkl.out)
      clear hc
      generalize s.getD k 0 = p at *
      go_wp2_with fail
      refine (H3.out p _ HW.out.2).mono ?_
      rintro e w3 ⟨rfl, hb3⟩
      have HW3 := hid (HW.out.below hb3)
      clear hb3 d0
      cases hq : decide (p ∈ o)
      · have e2 : Hid (L = (s.take (k + 1)).filter (fun x => decide (x ∈ o))) := by unfold Hid; rw [e1.out, List.filter_append, ← HL.out]; simp only [List.filter_cons, List.filter_nil, hq]; simp
        clear hq
        go_wp2
        go_roundw
        case rel => exact ⟨k + 1, L, a5, c5, by omega, by omega, by go_num, rfl, e2, HW3⟩
        case measure => simp [intOf]; omega
      · have e2 : Hid (L ++ [p] = (s.take (k + 1)).filter (fun x => decide (x ∈ o))) := by unfold Hid; rw [e1.out, List.filter_append, ← HL.out]; simp only [List.filter_cons, List.filter_nil, hq]; rfl
        clear hq
        have HA := hid (HW3.out.below ((Below.refl _ w3).alloc (Nat.le_refl _) (.cells #[.int .i64 p] 3)))
        go_wp2_with (at_builtin; refine wpList_append_own _ rfl (.tmp 25) (.tmp 27) 22 rfl w.heap.size 3 i0 (.int .i64 0) 1 8 Try.underlying22 hi hz0 hz1 hz2 rfl (by decide) _ _ _ rfl HA.out.1 ⟨w3.heap.size, 0, none⟩ 1 1 [.int .i64 p] rfl rfl ?d1 ?d2 ?d3 ?d4 ?d5 ?_)
        case d1 => intro j u hj; exact one_row _ _ _ j u hj
        case d2 => intro u hu; simp at hu; subst hu; rfl
        case d3 => unfold maxLen; omega
        case d4 => omega
        case d5 => have h5 := HW3.out.2.size; first | omega | (simp; omega)
        intro v1 w6 hown1 hgr1 _
        obtain ⟨a8, c8, rfl⟩ := own_form (L := L ++ [p]) (by simpa using hown1)
        have HN6 := hid (HA.out.app hgr1 hown1)
        clear hown1 hgr1 HA
        go_wp2
        go_roundw
        case rel => exact ⟨k + 1, L ++ [p], a8, c8, by omega, by simp; omega, by go_num, by simp, e2, HN6⟩
        case measure => simp [intOf]; omega
    · have E : Hid (L = put kAnd s o) := by
        unfold Hid
        rw [HL.out, E2.out, List.take_of_length_le (by have := HN.out; omega)]
      go_wp2
      go_ret
      exact ⟨_, rfl, by rw [← E.out]; exact HW.out.1, HW.out.2⟩

theorem f20 (a a' : Option Addr) (c c' : Nat) (s o : List Int) (w : World) (hb : s.length ≤ 1048576) (hb' : o.length ≤ 1048576) (hc : s.length ≤ c) (hc' : o.length ≤ c') (hr : Has w a s) (hr' : Has w a' o) :
    Calls Try.prog 20 #[.slice a s.length c, .slice a' o.length c'] w (Gives w (ch kOr s o)) := by
  have HC := hid (choose_or a a' c c' s o w hb hb' hc hc' hr hr')
  clear hr hr'
  generalize s.length = n at *
  generalize o.length = n' at *
  go_enter Try.func20, Try.ntmps20
  go_wp2_with fail
  refine HC.out.mono ?_
  rintro e w1 ⟨v, rfl, ho, hb1⟩
  go_wp2
  go_ret
  exact ⟨v, rfl, ho, hb1⟩
set_option maxHeartbeats 2000000 in
theorem combine_or (a a' : Option Addr) (c c' : Nat) (s o : List Int) (w : World) (hb : s.length ≤ 1048576) (hb' : o.length ≤ 1048576) (hc : s.length ≤ c) (hc' : o.length ≤ c') (hr : Has w a s) (hr' : Has w a' o) :
    Calls Try.prog 18 #[.slice a s.length c, .slice a' o.length c', .func (.func 20) #[] #[]] w (Gives w (put kOr s o)) := by
  have HC : Hid (∀ wx, Below w.heap.size w wx → Calls Try.prog 20 #[.slice a s.length c, .slice a' o.length c'] wx (Gives wx (ch kOr s o))) := fun wx hx => f20 a a' c c' s o wx hb hb' hc hc' (hr.below hx) (hr'.below hx)
  have H1 : Hid (∀ wx, Below w.heap.size w wx → Calls Try.prog 22 #[.slice a s.length c, .func (.func 23) #[] #[]] wx fun e w' => e = .returned (.bool (riseI s)) ∧ Below wx.heap.size wx w') := fun wx hx => f22 a _ c s wx rfl hb (hr.below hx)
  have H2 : Hid (∀ wx, Below w.heap.size w wx → Calls Try.prog 22 #[.slice a' o.length c', .func (.func 23) #[] #[]] wx fun e w' => e = .returned (.bool (riseI o)) ∧ Below wx.heap.size wx w') := fun wx hx => f22 a' _ c' o wx rfl hb' (hr'.below hx)
  have N1 := hid (fun h => num_long (l := s) h)
  have N2 := hid (fun h => num_short (l := s) h)
  have M1 := hid (fun h => num_long (l := o) h)
  have M2 := hid (fun h => num_short (l := o) h)
  have P0 := hid (put_no (K := kOr) (s := s) (o := o))
  have P1 := hid (put_yes (K := kOr) (s := s) (o := o))
  clear hr hr' hc hc'
  generalize s.length = n at *
  generalize o.length = n' at *
  have q0 : ∀ wx : World, Sem.run Try.prog (Instr.index 33 (Value.agg #[Value.slice a n c, Value.slice a' n' c']) (Value.int .i64 0)) wx = .ok (Value.slice a n c) wx := fun wx => by kernel_rfl
  have q1 : ∀ wx : World, Sem.run Try.prog (Instr.index 33 (Value.agg #[Value.slice a n c, Value.slice a' n' c']) (Value.int .i64 1)) wx = .ok (Value.slice a' n' c') wx := fun wx => by kernel_rfl
  go_enter Try.func18, Try.ntmps18
  go_wp2
  go_loopw [12] (fun v12 wr => ∃ k : Nat, k ≤ 2 ∧ v12 = .int .i64 (k : Int) ∧ Hid (1 ≤ k → num s = true) ∧ Hid (2 ≤ k → num o = true) ∧ Hid (Below w.heap.size w wr)) (fun v _ => 2 - (intOf v).toNat)
  case atStart => exact ⟨0, by omega, rfl, fun h => by omega, fun h => by omega, Below.refl _ _⟩
  case round =>
    obtain ⟨k, hk, rfl, hk1, hk2, HB⟩ := hrel
    rcases k with _ | _ | _ | k
    · by_cases h1 : n ≤ 1000
      · go_wp2_with fail
        refine (H1.out _ HB.out).mono ?_
        rintro e w2 ⟨rfl, hb2⟩
        have HB2 := hid (HB.out.trans (hb2.mono HB.out.size))
        clear hb2
        cases hq : riseI s
        · have E : Hid (put kOr s o = []) := P0.out (fun h => by rw [N2.out h1, hq] at h; cases h.1)
          go_wp2
          go_ret
          exact gives_no E.out HB2.out
        · have E : Hid (num s = true) := (N2.out h1).trans hq
          clear hq
          go_wp2
          go_roundw
          case rel => exact ⟨1, by omega, by go_num, fun _ => E.out, fun h => by omega, HB2⟩
          case measure => simp [intOf]
      · have E : Hid (put kOr s o = []) := P0.out (fun h => by rw [N1.out h1] at h; cases h.1)
        go_wp2
        go_ret
        exact gives_no E.out HB.out
    · by_cases h1 : n' ≤ 1000
      · go_wp2_with fail
        refine (H2.out _ HB.out).mono ?_
        rintro e w2 ⟨rfl, hb2⟩
        have HB2 := hid (HB.out.trans (hb2.mono HB.out.size))
        clear hb2
        cases hq : riseI o
        · have E : Hid (put kOr s o = []) := P0.out (fun h => by rw [M2.out h1, hq] at h; cases h.2)
          go_wp2
          go_ret
          exact gives_no E.out HB2.out
        · have E : Hid (num o = true) := (M2.out h1).trans hq
          clear hq
          go_wp2
          go_roundw
          case rel => exact ⟨2, by omega, by go_num, fun _ => hk1.out (by omega), fun _ => E.out, HB2⟩
          case measure => simp [intOf]
      · have E : Hid (put kOr s o = []) := P0.out (fun h => by rw [M1.out h1] at h; cases h.2)
        go_wp2
        go_ret
        exact gives_no E.out HB.out
    · have E : Hid (put kOr s o = ch kOr s o) := P1.out (hk1.out (by omega)) (hk2.out (by omega))
      go_wp2_with fail
      refine (HC.out _ HB.out).mono ?_
      rintro e w2 ⟨v, rfl, ho, hb2⟩
      have G := hid (Gives.up HB.out ho hb2)
      clear ho hb2
      go_wp2
      go_ret
      exact ⟨v, rfl, by rw [E.out]; exact G.out.1, G.out.2⟩
    · omega
theorem f13 (a a' : Option Addr) (c c' : Nat) (s o : List Int) (w : World) (hb : s.length ≤ 1048576) (hb' : o.length ≤ 1048576) (hc : s.length ≤ c) (hc' : o.length ≤ c') (hr : Has w a s) (hr' : Has w a' o) :
    Calls Try.prog 13 #[.slice a s.length c, .slice a' o.length c'] w (Gives w (put kOr s o)) := by
  have HC := hid (combine_or a a' c c' s o w hb hb' hc hc' hr hr')
  clear hr hr'
  generalize s.length = n at *
  generalize o.length = n' at *
  go_enter Try.func13, Try.ntmps13
  go_wp2_with fail
  refine HC.out.mono ?_
  rintro e w1 ⟨v, rfl, ho, hb1⟩
  go_wp2
  go_ret
  exact ⟨v, rfl, ho, hb1⟩

theorem f21 (a a' : Option Addr) (c c' : Nat) (s o : List Int) (w : World) (hb : s.length ≤ 1048576) (hb' : o.length ≤ 1048576) (hc : s.length ≤ c) (hc' : o.length ≤ c') (hr : Has w a s) (hr' : Has w a' o) :
    Calls Try.prog 21 #[.slice a s.length c, .slice a' o.length c'] w (Gives w (ch kMinus s o)) := by
  have HC := hid (choose_minus a a' c c' s o w hb hb' hc hc' hr hr')
  clear hr hr'
  generalize s.length = n at *
  generalize o.length = n' at *
  go_enter Try.func21, Try.ntmps21
  go_wp2_with fail
  refine HC.out.mono ?_
  rintro e w1 ⟨v, rfl, ho, hb1⟩
  go_wp2
  go_ret
  exact ⟨v, rfl, ho, hb1⟩
set_option maxHeartbeats 2000000 in
theorem combine_minus (a a' : Option Addr) (c c' : Nat) (s o : List Int) (w : World) (hb : s.length ≤ 1048576) (hb' : o.length ≤ 1048576) (hc : s.length ≤ c) (hc' : o.length ≤ c') (hr : Has w a s) (hr' : Has w a' o) :
    Calls Try.prog 18 #[.slice a s.length c, .slice a' o.length c', .func (.func 21) #[] #[]] w (Gives w (put kMinus s o)) := by
  have HC : Hid (∀ wx, Below w.heap.size w wx → Calls Try.prog 21 #[.slice a s.length c, .slice a' o.length c'] wx (Gives wx (ch kMinus s o))) := fun wx hx => f21 a a' c c' s o wx hb hb' hc hc' (hr.below hx) (hr'.below hx)
  have H1 : Hid (∀ wx, Below w.heap.size w wx → Calls Try.prog 22 #[.slice a s.length c, .func (.func 23) #[] #[]] wx fun e w' => e = .returned (.bool (riseI s)) ∧ Below wx.heap.size wx w') := fun wx hx => f22 a _ c s wx rfl hb (hr.below hx)
  have H2 : Hid (∀ wx, Below w.heap.size w wx → Calls Try.prog 22 #[.slice a' o.length c', .func (.func 23) #[] #[]] wx fun e w' => e = .returned (.bool (riseI o)) ∧ Below wx.heap.size wx w') := fun wx hx => f22 a' _ c' o wx rfl hb' (hr'.below hx)
  have N1 := hid (fun h => num_long (l := s) h)
  have N2 := hid (fun h => num_short (l := s) h)
  have M1 := hid (fun h => num_long (l := o) h)
  have M2 := hid (fun h => num_short (l := o) h)
  have P0 := hid (put_no (K := kMinus) (s := s) (o := o))
  have P1 := hid (put_yes (K := kMinus) (s := s) (o := o))
  clear hr hr' hc hc'
  generalize s.length = n at *
  generalize o.length = n' at *
  have q0 : ∀ wx : World, Sem.run Try.prog (Instr.index 33 (Value.agg #[Value.slice a n c, Value.slice a' n' c']) (Value.int .i64 0)) wx = .ok (Value.slice a n c) wx := fun wx => by kernel_rfl
  have q1 : ∀ wx : World, Sem.run Try.prog (Instr.index 33 (Value.agg #[Value.slice a n c, Value.slice a' n' c']) (Value.int .i64 1)) wx = .ok (Value.slice a' n' c') wx := fun wx => by kernel_rfl
  go_enter Try.func18, Try.ntmps18
  go_wp2
  go_loopw [12] (fun v12 wr => ∃ k : Nat, k ≤ 2 ∧ v12 = .int .i64 (k : Int) ∧ Hid (1 ≤ k → num s = true) ∧ Hid (2 ≤ k → num o = true) ∧ Hid (Below w.heap.size w wr)) (fun v _ => 2 - (intOf v).toNat)
  case atStart => exact ⟨0, by omega, rfl, fun h => by omega, fun h => by omega, Below.refl _ _⟩
  case round =>
    obtain ⟨k, hk, rfl, hk1, hk2, HB⟩ := hrel
    rcases k with _ | _ | _ | k
    · by_cases h1 : n ≤ 1000
      · go_wp2_with fail
        refine (H1.out _ HB.out).mono ?_
        rintro e w2 ⟨rfl, hb2⟩
        have HB2 := hid (HB.out.trans (hb2.mono HB.out.size))
        clear hb2
        cases hq : riseI s
        · have E : Hid (put kMinus s o = []) := P0.out (fun h => by rw [N2.out h1, hq] at h; cases h.1)
          go_wp2
          go_ret
          exact gives_no E.out HB2.out
        · have E : Hid (num s = true) := (N2.out h1).trans hq
          clear hq
          go_wp2
          go_roundw
          case rel => exact ⟨1, by omega, by go_num, fun _ => E.out, fun h => by omega, HB2⟩
          case measure => simp [intOf]
      · have E : Hid (put kMinus s o = []) := P0.out (fun h => by rw [N1.out h1] at h; cases h.1)
        go_wp2
        go_ret
        exact gives_no E.out HB.out
    · by_cases h1 : n' ≤ 1000
      · go_wp2_with fail
        refine (H2.out _ HB.out).mono ?_
        rintro e w2 ⟨rfl, hb2⟩
        have HB2 := hid (HB.out.trans (hb2.mono HB.out.size))
        clear hb2
        cases hq : riseI o
        · have E : Hid (put kMinus s o = []) := P0.out (fun h => by rw [M2.out h1, hq] at h; cases h.2)
          go_wp2
          go_ret
          exact gives_no E.out HB2.out
        · have E : Hid (num o = true) := (M2.out h1).trans hq
          clear hq
          go_wp2
          go_roundw
          case rel => exact ⟨2, by omega, by go_num, fun _ => hk1.out (by omega), fun _ => E.out, HB2⟩
          case measure => simp [intOf]
      · have E : Hid (put kMinus s o = []) := P0.out (fun h => by rw [M1.out h1] at h; cases h.2)
        go_wp2
        go_ret
        exact gives_no E.out HB.out
    · have E : Hid (put kMinus s o = ch kMinus s o) := P1.out (hk1.out (by omega)) (hk2.out (by omega))
      go_wp2_with fail
      refine (HC.out _ HB.out).mono ?_
      rintro e w2 ⟨v, rfl, ho, hb2⟩
      have G := hid (Gives.up HB.out ho hb2)
      clear ho hb2
      go_wp2
      go_ret
      exact ⟨v, rfl, by rw [E.out]; exact G.out.1, G.out.2⟩
    · omega
theorem f15 (a a' : Option Addr) (c c' : Nat) (s o : List Int) (w : World) (hb : s.length ≤ 1048576) (hb' : o.length ≤ 1048576) (hc : s.length ≤ c) (hc' : o.length ≤ c') (hr : Has w a s) (hr' : Has w a' o) :
    Calls Try.prog 15 #[.slice a s.length c, .slice a' o.length c'] w (Gives w (put kMinus s o)) := by
  have HC := hid (combine_minus a a' c c' s o w hb hb' hc hc' hr hr')
  clear hr hr'
  generalize s.length = n at *
  generalize o.length = n' at *
  go_enter Try.func15, Try.ntmps15
  go_wp2_with fail
  refine HC.out.mono ?_
  rintro e w1 ⟨v, rfl, ho, hb1⟩
  go_wp2
  go_ret
  exact ⟨v, rfl, ho, hb1⟩

set_option maxHeartbeats 2000000 in
theorem f14 (a a' : Option Addr) (c c' : Nat) (s o : List Int) (w : World) (hb : s.length ≤ 1048576) (hb' : o.length ≤ 1048576) (hr : Has w a s) (hr' : Has w a' o) :
    Calls Try.prog 14 #[.slice a s.length c, .slice a' o.length c'] w (Gives w (put kMinus s o)) := by
  obtain ⟨i0, hi, hz0, hz1, hz2⟩ := info_parts info3
  have H1 : Hid (∀ wx, Below w.heap.size w wx → Calls Try.prog 16 #[.slice a s.length c] wx fun e w' => e = .returned (.bool (num s)) ∧ Below wx.heap.size wx w') := fun wx hx => f16 a _ c s wx rfl hb (hr.below hx)
  have H2 : Hid (∀ wx, Below w.heap.size w wx → Calls Try.prog 16 #[.slice a' o.length c'] wx fun e w' => e = .returned (.bool (num o)) ∧ Below wx.heap.size wx w') := fun wx hx => f16 a' _ c' o wx rfl hb' (hr'.below hx)
  have H3 : Hid (∀ x wx, Below w.heap.size w wx → Calls Try.prog 17 #[.slice a' o.length c', .int .i64 x] wx fun e w' => e = .returned (.bool (decide (x ∈ o))) ∧ Below wx.heap.size wx w') := fun x wx hx => f17 a' _ c' o x wx rfl hb' (hr'.below hx)
  have P0 := hid (put_no (K := kMinus) (s := s) (o := o))
  have P1 : Hid (num s = true → num o = true → put kMinus s o = s.filter (fun x => !decide (x ∈ o))) := fun h1 h2 => (put_yes h1 h2).trans (ch_minus h1 h2)
  have HR := hid hr
  clear hr hr'
  obtain ⟨n, hn⟩ : ∃ n, n = s.length := ⟨_, rfl⟩
  have HN : Hid (s.length = n) := hn.symm
  rw [← hn] at hb H1 ⊢
  clear hn
  generalize o.length = n' at *
  go_enter Try.func14, Try.ntmps14
  go_wp2_with fail
  refine (H1.out _ (Below.refl _ _)).mono ?_
  rintro e w1 ⟨rfl, hb1⟩
  have HB1 := hid hb1
  clear hb1
  cases hq : num s
  · have E : Hid (put kMinus s o = []) := P0.out (fun h => by rw [hq] at h; cases h.1)
    go_wp2
    go_ret
    exact gives_no E.out HB1.out
  have E1 := hid hq
  clear hq
  go_wp2_with fail
  refine (H2.out _ HB1.out).mono ?_
  rintro e w2 ⟨rfl, hb2⟩
  have HB2 := hid (HB1.out.trans (hb2.mono HB1.out.size))
  clear hb2 HB1
  cases hq : num o
  · have E : Hid (put kMinus s o = []) := P0.out (fun h => by rw [hq] at h; cases h.2)
    go_wp2
    go_ret
    exact gives_no E.out HB2.out
  have E2 := hid (P1.out E1.out hq)
  clear hq
  have H0 : Hid (Now w none 0 [] w2) := ⟨Own.nil _ _, HB2.out⟩
  go_wp2
  go_loopw [5, 18] (fun v5 v18 wr => ∃ (k : Nat) (L : List Int) (a5 : Option Addr) (c5 : Nat), k ≤ n ∧ L.length ≤ k ∧ v18 = .int .i64 (k : Int) ∧ v5 = .slice a5 L.length c5 ∧ Hid (L = (s.take k).filter (fun x => !decide (x ∈ o))) ∧ Hid (Now w a5 c5 L wr)) (fun _ v _ => n - (intOf v).toNat)
  case atStart => exact ⟨0, [], none, 0, Nat.zero_le _, Nat.zero_le _, rfl, rfl, by simp [Hid], H0⟩
  case round =>
    obtain ⟨k, L, a5, c5, hk, hL, rfl, rfl, HL, HW⟩ := hrel
    by_cases hlt : k < n
    · have hkl : Hid (k < s.length) := by have := HN.out; unfold Hid; omega
      have e1 : Hid (s.take (k + 1) = s.take k ++ [s.getD k 0]) := by
        unfold Hid; rw [List.take_succ_eq_append_getElem hkl.out]; simp [hkl.out]
      rcases HR.out with hr | ⟨b, off, rfl, hbl, hc⟩
      · exact absurd HN.out (by rw [hr]; simp; omega)
      have i1 : (k : Int) < (n : Int) := by omega
      have d0 := (HW.out.2.cell (p := ⟨b, off + k, none⟩) hbl).trans (hc k hkl.out)
      clear hc
      generalize s.getD k 0 = p at *
      go_wp2_with fail
      refine (H3.out p _ HW.out.2).mono ?_
      rintro e w3 ⟨rfl, hb3⟩
      have HW3 := hid (HW.out.below hb3)
      clear hb3 d0
      cases hq : decide (p ∈ o)
      · have e2 : Hid (L ++ [p] = (s.take (k + 1)).filter (fun x => !decide (x ∈ o))) := by unfold Hid; rw [e1.out, List.filter_append, ← HL.out]; simp only [List.filter_cons, List.filter_nil, hq]; rfl
        clear hq
        have HA := hid (HW3.out.below ((Below.refl _ w3).alloc (Nat.le_refl _) (.cells #[.int .i64 p] 3)))
        go_wp2_with (at_builtin; refine wpList_append_own _ rfl (.tmp 26) (.tmp 28) 22 rfl w.heap.size 3 i0 (.int .i64 0) 1 8 Try.underlying22 hi hz0 hz1 hz2 rfl (by decide) _ _ _ rfl HA.out.1 ⟨w3.heap.size, 0, none⟩ 1 1 [.int .i64 p] rfl rfl ?d1 ?d2 ?d3 ?d4 ?d5 ?_)
        case d1 => intro j u hj; exact one_row _ _ _ j u hj
        case d2 => intro u hu; simp at hu; subst hu; rfl
        case d3 => unfold maxLen; omega
        case d4 => omega
        case d5 => have h5 := HW3.out.2.size; first | omega | (simp; omega)
        intro v1 w6 hown1 hgr1 _
        obtain ⟨a8, c8, rfl⟩ := own_form (L := L ++ [p]) (by simpa using hown1)
        have HN6 := hid (HA.out.app hgr1 hown1)
        clear hown1 hgr1 HA
        go_wp2
        go_roundw
        case rel => exact ⟨k + 1, L ++ [p], a8, c8, by omega, by simp; omega, by go_num, by simp, e2, HN6⟩
        case measure => simp [intOf]; omega
      · have e2 : Hid (L = (s.take (k + 1)).filter (fun x => !decide (x ∈ o))) := by unfold Hid; rw [e1.out, List.filter_append, ← HL.out]; simp only [List.filter_cons, List.filter_nil, hq]; simp
        clear hq
        go_wp2
        go_roundw
        case rel => exact ⟨k + 1, L, a5, c5, by omega, by omega, by go_num, rfl, e2, HW3⟩
        case measure => simp [intOf]; omega
    · have E : Hid (L = put kMinus s o) := by
        unfold Hid
        rw [HL.out, E2.out, List.take_of_length_le (by have := HN.out; omega)]
      go_wp2
      go_ret
      exact ⟨_, rfl, by rw [← E.out]; exact HW.out.1, HW.out.2⟩
end Go.Proofs.Ytaajkgaephhghaa.Ino
