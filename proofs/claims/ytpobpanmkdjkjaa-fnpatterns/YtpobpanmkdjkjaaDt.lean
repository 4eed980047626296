/- Texts that are drawn: fitting. -/
import Derived.Test.YtpobpanmkdjkjaaDs
import Derived.Test.YtpobpanmkdjkjaaPk
import Derived.Lib.AppendStr
namespace Go.Proofs.Ytpobpanmkdjkjaa.Cur
open Go.RowKit Go.Proofs.Ytpobpanmkdjkjaa.Pat

theorem alts_ne : ∀ (l : List UInt8) (cur : List Int), altsF l cur ≠ []
  | [], cur => by simp [altsF]
  | [c], cur => by
    unfold altsF
    repeat' split
    all_goals simp
  | c :: d :: r, cur => by
    unfold altsF
    repeat' split
    all_goals first | exact alts_ne _ _ | simp
theorem own_neR {w : World} {base e size k t : Nat} {v : Value} {xs : List Value} {R : Nat} {arr : Array Value} {f : Nat × Nat} (h : w.ownsRow base e size v k xs) (hR : w.heap[R]? = some (.cells arr t f)) (ht : t ≠ e) : v.ownBlock = none ∨ v.ownBlock ≠ some R := by
  rcases h.2 with ⟨rfl, _⟩ | ⟨g1, c1, cur1, rfl, _, hg1, _⟩
  · exact .inl rfl
  · refine .inr (fun e => ?_)
    simp only [Value.ownBlock, Option.some.injEq] at e
    subst e
    rw [hg1] at hR
    simp only [Option.some.injEq, Obj.cells.injEq] at hR
    exact ht hR.2.1.symm
theorem Cu.ne {B0 R n c lim base k : Nat} {a : Option Addr} {w : World} {v : Value} {xs : List Value} (h : Cu B0 R a n c lim w) (ho : w.ownsRow base 3 1 v k xs) : v.ownBlock = none ∨ v.ownBlock ≠ some R := by
  obtain ⟨t, seed, _, _, _, h4⟩ := h.box
  exact own_neR ho h4 (by decide)
theorem bc_str (l : List UInt8) (s : ByteArray) : Lib.byteCells l ++ Lib.strCells s = Lib.byteCells (l ++ s.data.toList) := by simp [Lib.byteCells, Lib.strCells]
def five : List ByteArray := [⟨#[]⟩, ⟨#[97]⟩, ⟨#[97, 98]⟩, ⟨#[97, 98, 97]⟩, ⟨#[49, 48]⟩]

set_option maxRecDepth 100000 in
set_option maxHeartbeats 8000000 in
theorem f27 (B0 R n c lim : Nat) (a : Option Addr) (p : ByteArray) (w : World) (h : Cu B0 R a n c lim w) (hl : lim ≤ 4503599627360000) (hn : n ≤ 1048576) (hp : p.size ≤ 1000) :
    Calls Try.prog 27 #[.pointer (some ⟨R, 0, none⟩), .string p] w fun e w' => ∃ s, e = .returned (.string s) ∧ s.size ≤ 300 ∧ Cu B0 R a n c (lim + 202) w' ∧ w.grownBy w' (some R) := by
  obtain ⟨i0, hi, hz0, hz1, hz2⟩ := info_parts info5
  have HC := hid h
  have hRl := h.lt
  clear h
  go_enter Try.func27, Try.ntmps27
  go_wp2_with fail
  refine (f29w p _ (by unfold maxLen; omega)).mono ?_
  rintro e w1 ⟨hb1, h1⟩
  have HC1 := hid (HC.out.below hb1)
  have HG1 := hid (grown_below (some R) hb1)
  have HSZ1 := hid hb1.size
  clear hb1
  rcases h1 with ⟨hno, rfl⟩ | ⟨S, A, aa, ca, xA, hyes, hA, rfl, hoA, hI, hSl, hA1, hA2⟩
  · clear hno
    go_wp2
    go_ret
    exact ⟨⟨#[97]⟩, rfl, by decide, HC1.out.mono (by omega), HG1.out⟩
  have hA0 : 0 < A.length := by
    rcases Nat.eq_zero_or_pos A.length with h0 | h0
    · have := alts_ne p.data.toList []
      rw [← hA] at this
      exact absurd (List.eq_nil_of_length_eq_zero h0) this
    · exact h0
  have HOA := hid hoA
  have HI := hid hI
  have HA2 := hid hA2
  obtain ⟨N, hN⟩ : ∃ N, N = A.length := ⟨_, rfl⟩
  rw [← hN] at HOA hA0 hA1 ⊢
  have HN := hid hN
  clear hyes hA hoA hI hA2 hSl hN
  go_wp2_with fail
  refine (f47 B0 R n c lim a N _ HC1.out (by omega) hn (by omega) (by omega)).mono ?_
  rintro e w2 ⟨x, rfl, x0, x1, hc2, hg2⟩
  obtain ⟨j, rfl, hj⟩ : ∃ j : Nat, x = (j : Int) ∧ j < N := ⟨x.toNat, by omega, by omega⟩
  obtain ⟨u, hu, hU⟩ := HI.out j (A[j]'(by rw [← HN.out]; exact hj)) (List.getElem?_eq_getElem _)
  have hzl := HA2.out (A[j]'(by rw [← HN.out]; exact hj)) (List.getElem_mem _)
  generalize (A[j]'(by rw [← HN.out]; exact hj)) = z at hU hzl
  have HZ := hid ((hU.1).kept hg2 (HC1.out.ne hU.1))
  have HC2 := hid hc2
  have HG2 := hid (grownBy_trans HG1.out hg2)
  have HOA2 := hid (own_keptR HOA.out hRl hg2)
  rcases HOA2.out.2 with ⟨_, h0⟩ | ⟨gA, capA, curA, hvA, _⟩
  · omega
  simp only [Value.slice.injEq] at hvA
  obtain ⟨rfl, -, rfl⟩ := hvA
  have c0 := (HOA2.out.cellAt j (by omega)).trans (show xA[j]? = some u from hu)
  obtain ⟨L, hL⟩ : ∃ L, L = z.length := ⟨_, rfl⟩
  obtain ⟨au, cu, rfl⟩ := own_form HZ.out
  rw [← hL] at HZ hzl
  have HL := hid hL
  clear hc2 hg2 x1 x0 hu hU HI HA2 HOA HC1 HG1 hL HN
  rw [← HL.out] at c0
  go_wp2
  clear c0
  go_loopw [7, 25] (fun so si wr => ∃ (i m c' : Nat) (a' : Option Addr) (l : List UInt8), i ≤ L ∧ m ≤ 3 * i ∧ si = .int .i64 i ∧ so = .slice a' m c' ∧ Hid (l.length = m) ∧ Hid (wr.ownsRow w.heap.size 5 1 (.slice a' m c') m (Lib.byteCells l)) ∧ Hid (wr.ownsRow 0 3 1 (.slice au L cu) L (ints z)) ∧ Hid (Cu B0 R a n c (lim + 2 + 2 * i) wr) ∧ Hid (w.grownBy wr (some R))) (fun _ si _ => L - (intOf si).toNat)
  case atStart => exact ⟨0, 0, 0, none, [], Nat.zero_le _, by omega, rfl, rfl, rfl, World.ownsRow_nil _ _ _ _, HZ, HC2, HG2⟩
  case round =>
    clear HZ HC2 HG2 HOA2
    obtain ⟨i, m, c', a', l, hi', hmi, rfl, rfl, HLl, HO, HZ, HU, HG⟩ := hrel
    by_cases hlt : i < L
    · rcases HZ.out.2 with ⟨_, h0⟩ | ⟨gu, capu, curu, hvu, _⟩
      · omega
      simp only [Value.slice.injEq] at hvu
      obtain ⟨rfl, -, rfl⟩ := hvu
      have hzi : i < z.length := by rw [← HL.out]; exact hlt
      have c0 : wr.cell? ⟨gu, i, none⟩ = some (.int .i64 z[i]) := (HZ.out.cellAt i (by omega)).trans (by simp [ints, hzi])
      generalize z[i] = x at c0
      have i1 : (i : Int) < (L : Int) := by omega
      by_cases q1 : x = -1
      · subst q1
        have HU1 := hid (HU.out.below ((Below.refl _ _).alloc (Nat.le_refl _) (.cells (five.map Value.string).toArray 9)))
        have HG1 := hid (grown_alloc HG.out (.cells (five.map Value.string).toArray 9))
        have HO1 := hid (HO.out.alloc (.cells (five.map Value.string).toArray 9))
        have HZ1 := hid (HZ.out.alloc (.cells (five.map Value.string).toArray 9))
        have HR := hid (row_new wr five)
        have hwr : R < wr.heap.size := HU.out.lt
        go_wp2_with fail
        refine (f47 B0 R n c (lim + 2 + 2 * i) a 5 _ HU1.out (by omega) hn (by omega) (by omega)).mono ?_
        rintro e w3 ⟨y, rfl, y0, y1, hc3, hg3⟩
        obtain ⟨k, rfl, hk⟩ : ∃ k : Nat, y = (k : Int) ∧ k < 5 := ⟨y.toNat, by omega, by omega⟩
        have HU3 := hid hc3
        have HO3 := hid (own_keptR HO1.out hRl hg3)
        have HZ3 := hid (HZ1.out.kept hg3 (HU1.out.ne HZ1.out))
        have HG3 := hid (grownBy_trans HG1.out hg3)
        have k0 := hg3.cell (HR.out k hk) (by simp; omega)
        have hs3 : (five.getD k ByteArray.empty).size ≤ 3 := all_small (ss := five) (by rfl) k hk
        generalize five.getD k ByteArray.empty = t at k0 hs3
        clear hc3 hg3 y1 y0 HU1 HG1 HO1 HZ1 HR
        go_wp2_with (at_builtin; refine Lib.wpList_append_own_string _ rfl (.tmp 37) (.tmp 42) 22 9 rfl w.heap.size 5 i0 Try.underlying22 Try.underlying9 hi hz0 hz1 hz2 _ _ _ rfl HO3.out t rfl ?d3 ?d4 ?d5 ?_)
        case d3 => unfold maxLen; omega
        case d4 => omega
        case d5 => have := HG3.out.size; omega
        intro v1 w4 hown1 hgr1 _
        obtain ⟨a2, c2, rfl⟩ := own_form hown1
        have HU4 := hid (HU3.out.other hgr1 (fun g hg => by have := (HO3.out.lt g hg).1; omega))
        have HG4 := hid (grown_new HG3.out hgr1 (fun g hg => (HO3.out.lt g hg).1))
        have HZ4 := hid (HZ3.out.kept hgr1 (own_apart HZ3.out HO3.out (by decide)))
        have HO4 : Hid (w4.ownsRow w.heap.size 5 1 (.slice a2 (m + t.size) c2) (m + t.size) (Lib.byteCells (l ++ t.data.toList))) := by unfold Hid; rw [← bc_str]; exact hown1
        have HL4 : Hid ((l ++ t.data.toList).length = m + t.size) := by unfold Hid; rw [List.length_append, HLl.out]; simp
        clear hown1 hgr1
        go_wp2
        go_roundw
        case rel => exact ⟨i + 1, m + t.size, c2, a2, _, by omega, by omega, by go_num, rfl, HL4, HO4, HZ4, HU4.out.mono (by omega), HG4⟩
        case measure => simp [intOf]; omega
      · have q1' : (x == -1) = false := by simp [q1]
        by_cases q2 : x = -2
        · subst q2
          go_wp2_with fail
          refine (f47 B0 R n c (lim + 2 + 2 * i) a 3 _ HU.out (by omega) hn (by omega) (by omega)).mono ?_
          rintro e w3 ⟨y, rfl, y0, y1, hc3, hg3⟩
          obtain ⟨k, rfl, hk⟩ : ∃ k : Nat, y = (k : Int) ∧ k < 3 := ⟨y.toNat, by omega, by omega⟩
          have HU3 := hid hc3
          have HO3 := hid (own_keptR HO.out hRl hg3)
          have HZ3 := hid (HZ.out.kept hg3 (HU.out.ne HZ.out))
          have HG3 := hid (grownBy_trans HG.out hg3)
          clear hc3 hg3 y1 y0
          have hjs : k < (⟨#[97, 98, 49]⟩ : ByteArray).size := hk
          go_wp2_with (at_builtin; refine wpList_append_own _ rfl (.tmp 46) (.tmp 50) 22 rfl w.heap.size 5 i0 (.int .u8 0) 1 1 Try.underlying22 hi hz0 hz1 hz2 rfl (by decide) _ _ _ rfl (HO3.out.alloc _) ⟨w3.heap.size, 0, none⟩ 1 1 [.int .u8 ((⟨#[97, 98, 49]⟩ : ByteArray)[k]'hjs).toNat] rfl rfl ?d1 ?d2 ?d3 ?d4 ?d5 ?_)
          case d1 => exact one_row _ _ _
          case d2 => intro u hu; simp at hu; subst hu; rfl
          case d3 => unfold maxLen; omega
          case d4 => omega
          case d5 => have := HG3.out.size; simp; omega
          generalize ((⟨#[97, 98, 49]⟩ : ByteArray)[k]'hjs) = d at *
          intro v1 w4 hown1 hgr1 _
          obtain ⟨a2, c2, rfl⟩ := own_form hown1
          have HU4 := hid ((HU3.out.below ((Below.refl _ _).alloc (Nat.le_refl _) (.cells #[.int .u8 d.toNat] 5))).other hgr1 (fun g hg => by have := (HO3.out.lt g hg).1; omega))
          have HG4 := hid (grown_new (grown_alloc HG3.out (.cells #[.int .u8 d.toNat] 5)) hgr1 (fun g hg => (HO3.out.lt g hg).1))
          have HZ4 := hid ((HZ3.out.alloc (.cells #[.int .u8 d.toNat] 5)).kept hgr1 (own_apart HZ3.out HO3.out (by decide)))
          have HO4 : Hid (w4.ownsRow w.heap.size 5 1 (.slice a2 (m + 1) c2) (m + 1) (Lib.byteCells (l ++ [d]))) := by unfold Hid; rw [← bc_snoc]; exact hown1
          have HL4 : Hid ((l ++ [d]).length = m + 1) := by unfold Hid; rw [List.length_append, HLl.out]; rfl
          clear hown1 hgr1
          go_wp2
          go_roundw
          case rel => exact ⟨i + 1, m + 1, c2, a2, _, by omega, by omega, by go_num, rfl, HL4, HO4, HZ4, HU4.out.mono (by omega), HG4⟩
          case measure => simp [intOf]; omega
        · have q2' : (x == -2) = false := by simp [q2]
          clear q1 q2
          obtain ⟨d, hd⟩ : ∃ d : UInt8, x % 256 = (d.toNat : Int) := ⟨UInt8.ofNat (x % 256).toNat, by rw [UInt8.toNat_ofNat']; omega⟩
          have HD := hid hd
          clear hd
          go_wp2_with (at_builtin; refine wpList_append_own _ rfl (.tmp 30) (.tmp 33) 22 rfl w.heap.size 5 i0 (.int .u8 0) 1 1 Try.underlying22 hi hz0 hz1 hz2 rfl (by decide) _ _ _ rfl (HO.out.alloc _) ⟨wr.heap.size, 0, none⟩ 1 1 [.int .u8 (x % 256)] rfl rfl ?d1 ?d2 ?d3 ?d4 ?d5 ?_)
          case d1 => exact one_row _ _ _
          case d2 => intro u hu; simp at hu; subst hu; rfl
          case d3 => unfold maxLen; omega
          case d4 => omega
          case d5 => have := HG.out.size; simp; omega
          intro v1 w4 hown1 hgr1 _
          obtain ⟨a2, c2, rfl⟩ := own_form hown1
          have HU4 := hid ((HU.out.below ((Below.refl _ _).alloc (Nat.le_refl _) (.cells #[.int .u8 (x % 256)] 5))).other hgr1 (fun g hg => by have := (HO.out.lt g hg).1; omega))
          have HG4 := hid (grown_new (grown_alloc HG.out (.cells #[.int .u8 (x % 256)] 5)) hgr1 (fun g hg => (HO.out.lt g hg).1))
          have HZ4 := hid ((HZ.out.alloc (.cells #[.int .u8 (x % 256)] 5)).kept hgr1 (own_apart HZ.out HO.out (by decide)))
          have HO4 : Hid (w4.ownsRow w.heap.size 5 1 (.slice a2 (m + 1) c2) (m + 1) (Lib.byteCells (l ++ [d]))) := by unfold Hid; rw [← bc_snoc, ← HD.out]; exact hown1
          have HL4 : Hid ((l ++ [d]).length = m + 1) := by unfold Hid; rw [List.length_append, HLl.out]; rfl
          clear hown1 hgr1
          go_wp2
          go_roundw
          case rel => exact ⟨i + 1, m + 1, c2, a2, _, by omega, by omega, by go_num, rfl, HL4, HO4, HZ4, HU4.out.mono (by omega), HG4⟩
          case measure => simp [intOf]; omega
    · obtain rfl : i = L := by omega
      have hcv := conv_own HO.out HLl.out
      have HSZ : Hid ((⟨l.toArray⟩ : ByteArray).size ≤ 300) := by unfold Hid; have := HLl.out; simp [ByteArray.size]; omega
      go_wp2
      go_ret
      exact ⟨_, rfl, HSZ.out, HU.out.mono (by omega), HG.out⟩
end Go.Proofs.Ytpobpanmkdjkjaa.Cur
