/- What the program's readPattern comes to: the alternatives of the pattern, each as its runs. -/
import Derived.Test.YtpobpanmkdjkjaaPf
import Derived.Deep.RegionWith
namespace Go.Proofs.Ytpobpanmkdjkjaa.Pat
open Go.RowKit

theorem Bd.done {B : Nat} {w0 w : World} {S : Blk} {fin : List (List (List Int))} {rs : List (List Int)} {r : List Int} {g1 n1 c1 : Nat} {x1 : List Value} {g2 n2 c2 : Nat} {x2 : List Value} {v3 : Value} {x3 : List Value} (h : Bd B w0 w S fin rs r g1 n1 c1 x1 g2 n2 c2 x2 v3 x3) :
    AllW (fun k => S k ∨ k = g1 ∨ k = g2 ∨ v3.ownBlock = some k) w (.slice (some ⟨g1, 0, none⟩) n1 c1) (fin ++ [rs ++ [r]]) := by
  have hn1 := h.n1e
  have hn2 := h.n2e
  have e0 : (fin ++ [rs ++ [r]]).length = n1 := by simp; omega
  refine ⟨x1, by rw [e0]; exact own_zero h.o1, fun g hg => .inr (.inl (Option.some.inj hg).symm), fun i a hi => ?_⟩
  by_cases hlt : i < fin.length
  · rw [List.getElem?_append_left hlt] at hi
    obtain ⟨u, hu, hx⟩ := h.f1 i a hi
    exact ⟨u, hu, hx.mono (fun k hk => .inl hk)⟩
  · have hlt2' := (List.getElem?_eq_some_iff.1 hi).1
    simp at hlt2'
    obtain rfl : i = fin.length := by omega
    simp at hi
    subst hi
    have e1 : (rs ++ [r]).length = n2 := by simp; omega
    refine ⟨.slice (some ⟨g2, 0, none⟩) n2 c2, h.l1, x2, by rw [e1]; exact own_zero h.o2, fun g hg => .inr (.inr (.inl (Option.some.inj hg).symm)), fun i q hi => ?_⟩
    by_cases hlt : i < rs.length
    · rw [List.getElem?_append_left hlt] at hi
      obtain ⟨u, hu, hx⟩ := h.f2 i q hi
      exact ⟨u, hu, hx.mono (fun k hk => .inl hk)⟩
    · have hlt3 := (List.getElem?_eq_some_iff.1 hi).1
      simp at hlt3
      obtain rfl : i = rs.length := by omega
      simp at hi
      subst hi
      refine ⟨v3, h.l2, x3, own_zero h.o3, fun g hg => .inr (.inr (.inr hg)), fun i x hi => ?_⟩
      obtain ⟨u, hu, hx⟩ := h.f3 i x hi
      exact ⟨u, hu, hx.mono (fun k hk => .inl hk)⟩
/-- What readPattern leaves. -/
def RpR (p : ByteArray) (w : World) (e : Ending) (w' : World) : Prop :=
  Below w.heap.size w w' ∧ ((patB p = false ∧ e = .returned (.tuple #[.slice none 0 0, .bool false])) ∨ ∃ (S : Blk) (A : List (List (List Int))) (v : Value), patB p = true ∧ e = .returned (.tuple #[v, .bool true]) ∧ AllW S w' v A ∧ A.map itemsOf = altsF p.data.toList [] ∧ OkA 101 A ∧ (∀ k, S k → k < w'.heap.size))
theorem St.done {p : ByteArray} {w w' : World} {i g1 n1 c1 : Nat} (h : St p w.heap.size w w' i g1 n1 c1) (hi : p.size ≤ i) (h100 : i ≤ 100) (hp : patB p = true) : RpR p w (.returned (.tuple #[.slice (some ⟨g1, 0, none⟩) n1 c1, .bool true])) w' := by
  obtain ⟨S, fin, rs, r, x1, g2, n2, c2, x2, v3, x3, hB, hA, hO, hR⟩ := h
  refine ⟨hB.bel, .inr ⟨_, _, _, hp, rfl, hB.done, ?_, hO.bar hR (by omega), ?_⟩⟩
  · rw [hA.done hi]; simp
  · rintro k (hk | rfl | rfl | hk)
    · exact hB.sz k hk
    · exact own_lt hB.o1 rfl
    · exact own_lt hB.o2 rfl
    · exact own_lt hB.o3 hk
/-- Behind a test that was added. -/
theorem St.added {p : ByteArray} {B : Nat} {w0 w w' : World} {S : Blk} {fin : List (List (List Int))} {rs : List (List Int)} {r : List Int} {g1 n1 c1 : Nat} {x1 : List Value} {g2 n2 c2 : Nat} {x2 : List Value} {v3 : Value} {x3 : List Value} {u : Value} {x : Int} {i j : Nat} (h : Bd B w0 w S fin rs r g1 n1 c1 x1 g2 n2 c2 x2 v3 x3) (hu : ItW S w u x) (hA : ∃ v3', Added B w w' g2 n2 c2 x2 v3 r.length x3 u v3') (hx : x ≠ -1) (hAt : At p j (fin.map itemsOf) (itemsOf (rs ++ [r]) ++ [x])) (hO : OkA i fin) (hR : Okr i (rs ++ [r])) (hj : i + 1 ≤ j) : St p B w0 w' j g1 n1 c1 := by
  obtain ⟨v3', hA⟩ := hA
  exact ⟨S, fin, rs, r ++ [x], _, _, _, _, _, _, _, h.add hu hA, by rw [items_add]; exact hAt, hO.mono (by omega), hR.add hx hj⟩
theorem Bd.boxed {B : Nat} {w0 w : World} {S : Blk} {fin : List (List (List Int))} {rs : List (List Int)} {r : List Int} {g1 n1 c1 : Nat} {x1 : List Value} {g2 n2 c2 : Nat} {x2 : List Value} {v3 : Value} {x3 : List Value} (h : Bd B w0 w S fin rs r g1 n1 c1 x1 g2 n2 c2 x2 v3 x3) (o : Obj) : Bd B w0 (w.alloc o) (fun k => S k ∨ k = w.heap.size) fin rs r g1 n1 c1 x1 g2 n2 c2 x2 v3 x3 := by
  refine h.step ((Below.refl _ _).alloc (Nat.le_refl _) o) (fun k hk => .inl hk) ?_ ?_
  · rintro k (hk | hk)
    · exact .inl hk
    · exact .inr (by omega)
  · rintro k (hk | hk)
    · have := h.sz k hk; simp; omega
    · simp; omega
theorem boxed_it (S : Blk) (w : World) (c : UInt8) : ItW (fun k => S k ∨ k = w.heap.size) (w.alloc (.cells #[.int .u8 (c.toNat : Int)] 5)) (.func (.func 72) #[] #[.pointer (some ⟨w.heap.size, 0, none⟩)]) (c.toNat : Int) :=
  .inr ⟨w.heap.size, c, .inr rfl, rfl, rfl, heap_alloc_new w _⟩
theorem Bd.boxedI {B : Nat} {w0 w w2 : World} {S : Blk} {fin : List (List (List Int))} {rs : List (List Int)} {r : List Int} {g1 n1 c1 : Nat} {x1 : List Value} {g2 n2 c2 : Nat} {x2 : List Value} {v3 : Value} {x3 : List Value} (h : Bd B w0 w S fin rs r g1 n1 c1 x1 g2 n2 c2 x2 v3 x3) (c : UInt8) (hw : w2 = w.alloc (.cells #[.int .u8 (c.toNat : Int)] 5)) :
    Bd B w0 w2 (fun k => S k ∨ k = w.heap.size) fin rs r g1 n1 c1 x1 g2 n2 c2 x2 v3 x3 ∧ ItW (fun k => S k ∨ k = w.heap.size) w2 (.func (.func 72) #[] #[.pointer (some ⟨w.heap.size, 0, none⟩)]) (c.toNat : Int) := by
  subst hw
  exact ⟨h.boxed _, boxed_it S w c⟩
theorem nat_ne (n : Nat) : ((n : Nat) : Int) ≠ -1 := by omega

set_option maxHeartbeats 8000000 in
set_option maxRecDepth 100000 in
theorem f30w (s : ByteArray) (w : World) (hs : s.size ≤ maxLen) : Calls Try.prog 30 #[.string s] w (RpR s w) := by
  obtain ⟨i0, i1, i2, i3, i4⟩ := info_parts info91
  obtain ⟨j0, j1, j2, j3, j4⟩ := info_parts info63
  have hs' := hs
  unfold maxLen at hs'
  by_cases h100 : 100 < s.size
  · go_enter Try.func30, Try.ntmps30
    go_wp2
    go_ret2
    exact ⟨Below.refl _ _, .inl ⟨pat_long h100, rfl⟩⟩
  by_cases hpr : printL s.data.toList = true
  · have HPO := hid (fun (b : Bool) => pat_ok (s := s) (b := b) (by omega) hpr)
    have HST := hid (St.start s w)
    go_enter Try.func30, Try.ntmps30
    go_wp2_with (go_at_call 50; refine (f50 s _ hs).mono ?_; rintro e w' ⟨rfl, hw'⟩; have hw2 := hw'.symm; clear hw'; subst hw2)
    go_loopw [4, 5] (fun so si wr => ∃ (i g1 n1 c1 : Nat), i ≤ s.size ∧ si = .int .i64 i ∧ so = .slice (some ⟨g1, 0, none⟩) n1 c1 ∧ Hid (From s i) ∧ Hid (St s w.heap.size w wr i g1 n1 c1)) (fun _ si _ => s.size - (intOf si).toNat)
    case atStart => exact ⟨0, w.heap.size + 1, 1, 1, Nat.zero_le _, rfl, rfl, From.zero s, HST⟩
    case round =>
      obtain ⟨i, g1, n1, c1, hi, rfl, rfl, hfr, HR⟩ := hrel
      obtain ⟨S, fin, rs, r, x1, g2, n2, c2, x2, v3, x3, hB, hAt, hO, hR⟩ := HR.out
      have HA := hid hB
      have HAt := hid hAt
      have HO := hid hO
      have HRr := hid hR
      have hn1e := hB.n1e
      have hn2e := hB.n2e
      have hfl := hO.1
      have hrl : rs.length ≤ i := by have := hR.2.1; simp at this; omega
      have hr3 : r.length ≤ i := (hR.2.2 r (by simp)).2
      obtain ⟨k1, rfl⟩ : ∃ k1, n1 = k1 + 1 := ⟨n1 - 1, by omega⟩
      have hk1 : k1 ≤ i := by omega
      have HLf : Hid (fin.length = k1) := by unfold Hid; omega
      have hn2p : 1 ≤ n2 := by omega
      have hn2 : n2 ≤ i + 1 := by omega
      have HL2 : Hid (x2[n2 - 1]? = some v3) := by unfold Hid; rw [hn2e, Nat.add_sub_cancel]; exact hB.l2
      have d0 : wr.cell? ⟨g1, k1, none⟩ = some (.slice (some ⟨g2, 0, none⟩) n2 c2) := (HA.out.o1.cellAt k1 (by omega)).trans (by rw [← HLf.out]; exact HA.out.l1)
      have hsz : w.heap.size ≤ wr.heap.size := HA.out.bel.size
      have ik : (k1 : Int) < ((k1 + 1 : Nat) : Int) := by omega
      clear hB hAt hO hR hn1e hn2e
      by_cases hlt : i < s.size
      · have hn2b : n2 ≤ 1000 := by omega
        have hn3b : r.length ≤ 1000 := by omega
        by_cases e1 : (s[i].toNat : Int) = 124
        · have e1' : ((s[i].toNat : Int) == 124) = true := by simp [e1]
          have HFR := hid (hfr.out.plain hlt (by omega))
          have HAT2 := hid (HAt.out.bar hlt e1)
          clear e1
          go_wp2_with (at_builtin; refine wpList_append_own_at _ rfl (.tmp 40) (.tmp 42) 57 rfl w.heap.size 79 j0 (.slice none 0 0) 1 24 Try.underlying57 j1 j2 j3 j4 rfl (by decide) _ _ _ rfl ((HA.out.o1.alloc _).alloc _) ⟨wr.heap.size + 1, 0, none⟩ 1 1 [.slice (some ⟨wr.heap.size, 0, none⟩) 1 1] rfl rfl ?d1 ?d2 ?d3 ?d4 ?d5 ?_)
          case d1 =>
            have := one_row (wr.alloc (.cells #[.slice none 0 0] 96)) (.slice (some ⟨wr.heap.size, 0, none⟩) 1 1) 79
            simp only [World.size_alloc] at this
            exact this
          case d2 => intro u hu; simp at hu; subst hu; rfl
          case d3 => unfold maxLen; omega
          case d4 => omega
          case d5 => simp; omega
          intro v4 w3 hown3 hgr3 _ hat
          obtain ⟨g4, c4, rfl⟩ := own_shape hown3 (by omega)
          have R3 : Hid (St s w.heap.size w w3 (i + 1) g4 (k1 + 1 + 1) c4) := by
            refine ⟨_, fin ++ [rs ++ [r]], [], [], _, _, _, _, _, _, _, HA.out.bar hown3 hgr3 ?_, by simpa [itemsOf] using HAT2.out, HO.out.bar HRr.out (Nat.le_refl _), Okr.nil _⟩
            rcases hat with h | h
            · exact .inl (Option.some.inj h)
            · refine .inr ?_
              have := Option.some.inj h
              simp at this; omega
          clear hown3 hgr3 hat
          go_wp2
          go_roundw
          case rel => exact ⟨i + 1, g4, k1 + 1 + 1, c4, by omega, by go_num, rfl, HFR.out, R3⟩
          case measure => simp [intOf]; omega
        have e1' : ((s[i].toNat : Int) == 124) = false := by simp [e1]
        by_cases e2 : (s[i].toNat : Int) = 42
        · have e2' : ((s[i].toNat : Int) == 42) = true := by simp [e2]
          have HFR := hid (hfr.out.plain hlt (by omega))
          have HAT2 := hid (HAt.out.star hlt e2)
          clear e1 e2
          go_wp2_with (at_builtin; refine wpList_append_own_at _ rfl (.tmp 51) (.tmp 52) 79 rfl w.heap.size 96 i0 (.slice none 0 0) 1 24 Try.underlying79 i1 i2 i3 i4 rfl (by decide) _ _ _ rfl (HA.out.o2.alloc _) ⟨wr.heap.size, 0, none⟩ 1 1 [.slice none 0 0] rfl rfl ?d1 ?d2 ?d3 ?d4 ?d5 ?_)
          case d1 => exact one_row _ _ _
          case d2 => intro u hu; simp at hu; subst hu; rfl
          case d3 => unfold maxLen; omega
          case d4 => omega
          case d5 => simp; omega
          intro v4 w3 hown3 hgr3 _ hat
          obtain ⟨g4, c4, rfl⟩ := own_shape hown3 (by omega)
          have O63 := (HA.out.o1.alloc (.cells #[.slice none 0 0] 96)).kept hgr3 (own_apart HA.out.o1 HA.out.o2 (by decide))
          have fz := O63.frozenAt k1
          have d3 : w3.cell? ⟨g1, k1, none⟩ = some (.slice (some ⟨g2, 0, none⟩) n2 c2) := (O63.cellAt k1 (by omega)).trans (by rw [← HLf.out]; exact HA.out.l1)
          have R3 : Hid (St s w.heap.size w (w3.setCell ⟨g1, k1, none⟩ (.slice (some ⟨g4, 0, none⟩) (n2 + 1) c4)) (i + 1) g1 (k1 + 1) c1) := by
            refine ⟨_, fin, rs ++ [r], [], _, _, _, _, _, _, _, HA.out.star hown3 hgr3 ?_, by rw [items_star]; exact HAT2.out, HO.out.mono (by omega), HRr.out.star (Nat.le_refl _)⟩
            rcases hat with h | h
            · exact .inl (Option.some.inj h)
            · refine .inr ?_
              have := Option.some.inj h
              simp at this; omega
          clear hown3 hgr3 O63 hat
          go_wp2
          go_roundw
          case rel => exact ⟨i + 1, g1, k1 + 1, c1, by omega, by go_num, rfl, HFR.out, R3⟩
          case measure => simp [intOf]; omega
        have e2' : ((s[i].toNat : Int) == 42) = false := by simp [e2]
        by_cases e3 : (s[i].toNat : Int) = 63
        · have e3' : ((s[i].toNat : Int) == 63) = true := by simp [e3]
          have HFR := hid (hfr.out.plain hlt (by omega))
          have HAT2 := hid (HAt.out.any hlt e3)
          clear e1 e2 e3
          go_wp2_with fail
          go_region_with (first | (go_at_call 52; refine (f52w _).mono ?_; rintro e w2 ⟨rfl, hw2⟩; subst hw2) | (go_at_call 51; refine (f51w w.heap.size g2 n2 c2 r.length v3 x2 x3 _ _ _ _ ?_ ?_ hn2p HL2.out ?_ hn2b hn3b).mono ?_; (exact HA.out.drew.o2); (exact HA.out.drew.o3); (exact hsz); rintro e w3 ⟨rfl, h3⟩; have R3 := hid (St.added (j := i + 1) HA.out.drew (.inl ⟨rfl, rfl⟩) h3 (by decide) HAT2.out HO.out HRr.out (Nat.le_refl _)); clear h3))
          all_goals
            go_wp2
            go_roundw
            case rel => exact ⟨i + 1, g1, k1 + 1, c1, by omega, by go_num, rfl, HFR.out, R3⟩
            case measure => simp [intOf]; omega
        have e3' : ((s[i].toNat : Int) == 63) = false := by simp [e3]
        by_cases e4 : (s[i].toNat : Int) = 92
        · have e4' : ((s[i].toNat : Int) == 92) = true := by simp [e4]
          have HE4 := hid e4
          clear e1 e2 e3 e4
          by_cases hl2 : i + 1 < s.size
          · have hne : ((i : Int) + 1 == (s.size : Int)) = false := by simp; omega
            have il2 : (i : Int) + 1 < (s.size : Int) := by omega
            by_cases hsg : sgB (s[i + 1].toNat : Int) = true
            · have HFR := hid (hfr.out.sign hlt HE4.out hl2 hsg)
              have HAT2 := hid (HAt.out.esc hlt HE4.out hl2)
              have HSG := hid hsg
              clear hsg
              go_wp2_with (go_at_call 53; refine (f53 s[i + 1] _).mono ?_; rintro e w2 ⟨⟨y, rfl, hy⟩, hw2⟩; subst hw2; have hy0 : ¬ y < 0 := (by have h1 := HSG.out; rw [h1] at hy; simpa using hy); clear hy)
              go_region_with (first | (go_at_call 54; refine (f54w _ _).mono ?_; rintro e w2 ⟨rfl, hw2⟩; have hAI := hid (HA.out.drew.boxedI s[i + 1] hw2); have hA2 := hid hAI.out.1; have d2 : w2.cell? ⟨g1, k1, none⟩ = some (.slice (some ⟨g2, 0, none⟩) n2 c2) := (hA2.out.o1.cellAt k1 (by omega)).trans (by rw [← HLf.out]; exact HA.out.l1); have hs2 : w.heap.size ≤ w2.heap.size := hA2.out.bel.size; clear hw2) | (go_at_call 51; refine (f51w w.heap.size g2 n2 c2 r.length v3 x2 x3 _ _ _ _ ?_ ?_ hn2p HL2.out ?_ hn2b hn3b).mono ?_; (exact hA2.out.o2); (exact hA2.out.o3); (exact hs2); rintro e w3 ⟨rfl, h3⟩; have R3 := hid (St.added (j := i + 1 + 1) hA2.out hAI.out.2 h3 (nat_ne _) HAT2.out HO.out HRr.out (by omega)); clear h3))
              all_goals
                go_wp2
                go_roundw
                case rel => exact ⟨i + 1 + 1, g1, k1 + 1, c1, by omega, by go_num, rfl, HFR.out, R3⟩
                case measure => simp [intOf]; omega
            · have hsg' : sgB (s[i + 1].toNat : Int) = false := by simpa using hsg
              have HP := hid (HPO.out false (hfr.out.bad hlt HE4.out hl2 hsg'))
              have HSG := hid hsg'
              clear hsg hsg'
              go_wp2_with (go_at_call 53; refine (f53 s[i + 1] _).mono ?_; rintro e w2 ⟨⟨y, rfl, hy⟩, hw2⟩; subst hw2; have hy0 : y < 0 := (by have h1 := HSG.out; rw [h1] at hy; simpa using hy); clear hy)
              go_ret2
              exact ⟨HA.out.bel, .inl ⟨HP.out, rfl⟩⟩
          · have hl3 : i + 1 = s.size := by omega
            have HP := hid (HPO.out false (hfr.out.last hlt HE4.out hl3))
            have hne : ((i : Int) + 1 == (s.size : Int)) = true := by simp; omega
            clear hl3
            go_wp2
            go_ret2
            exact ⟨HA.out.bel, .inl ⟨HP.out, rfl⟩⟩
        have e4' : ((s[i].toNat : Int) == 92) = false := by simp [e4]
        have HFR := hid (hfr.out.plain hlt e4)
        have HAT2 := hid (HAt.out.plain hlt e1 e2 e3 e4)
        clear e1 e2 e3 e4
        go_wp2_with fail
        go_region_with (first | (go_at_call 54; refine (f54w _ _).mono ?_; rintro e w2 ⟨rfl, hw2⟩; have hAI := hid (HA.out.drew.boxedI s[i] hw2); have hA2 := hid hAI.out.1; have d2 : w2.cell? ⟨g1, k1, none⟩ = some (.slice (some ⟨g2, 0, none⟩) n2 c2) := (hA2.out.o1.cellAt k1 (by omega)).trans (by rw [← HLf.out]; exact HA.out.l1); have hs2 : w.heap.size ≤ w2.heap.size := hA2.out.bel.size; clear hw2) | (go_at_call 51; refine (f51w w.heap.size g2 n2 c2 r.length v3 x2 x3 _ _ _ _ ?_ ?_ hn2p HL2.out ?_ hn2b hn3b).mono ?_; (exact hA2.out.o2); (exact hA2.out.o3); (exact hs2); rintro e w3 ⟨rfl, h3⟩; have R3 := hid (St.added (j := i + 1) hA2.out hAI.out.2 h3 (nat_ne _) HAT2.out HO.out HRr.out (Nat.le_refl _)); clear h3))
        all_goals
          go_wp2
          go_roundw
          case rel => exact ⟨i + 1, g1, k1 + 1, c1, by omega, by go_num, rfl, HFR.out, R3⟩
          case measure => simp [intOf]; omega
      · have HP := hid (HPO.out true (hfr.out.done (by omega)))
        have HD := hid (HR.out.done (by omega) (by omega) HP.out)
        go_wp2
        go_ret2
        exact HD.out
  · have hpr' : printL s.data.toList = false := by simpa using hpr
    clear hpr
    go_enter Try.func30, Try.ntmps30
    go_wp2_with (go_at_call 50; refine (f50 s _ hs).mono ?_; rintro e w' ⟨rfl, hw'⟩; have hw2 := hw'.symm; clear hw'; subst hw2)
    go_ret2
    exact ⟨Below.refl _ _, .inl ⟨pat_unprinted hpr', rfl⟩⟩
end Go.Proofs.Ytpobpanmkdjkjaa.Pat
