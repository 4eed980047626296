/- The library's SortStableFunc at series: the stable sort. -/
import Derived.Test.YtailoeloonnoeaaRStg
import Derived.Test.YtailoeloonnoeaaRSti
namespace Go.Proofs.Ytailoeloonnoeaa.Stb
open Go.RowKit
variable {α : Type}
theorem fSym (sl : α → (Option Addr × Nat × Nat) × (Option Addr × Nat × Nat)) (lt : α → α → Bool) (O : Ord lt) (base g c n : Nat) (D : List α) (w0 : World) (hn : n ≤ 1048576) (HC : CmpOk sl lt w0 g D) : ∀ k, Sym sl lt base g c n D w0 k := by
  intro k
  induction k with
  | zero => intro ia im ib X U V Z w h1 h2 h3; omega
  | succ k ih =>
    intro ia im ib X U V Z w h1 h2 h3 hia him hib hs hs' hD hg hr
    by_cases hU : U.length = 1
    · obtain ⟨u, rfl⟩ := List.length_eq_one_iff.1 hU
      exact fSym1 sl lt O base g c n ia im ib D X V Z u w0 w hn hia (by simpa using him) hib hs' (fun x hx => hD x (by simpa using hx)) HC hg hr
    · by_cases hV : V.length = 1
      · obtain ⟨v, rfl⟩ := List.length_eq_one_iff.1 hV
        exact fSym2 sl lt O base g c n ia im ib D X U Z v w0 w hn hia him (by simpa using hib) (by omega) hs hD HC hg hr
      · exact fSym3 sl lt O base g c n k D w0 hn HC ih ia im ib X U V Z w h1 (by omega) (by omega) hia him hib hs hs' hD hg hr
/-- Sorted blocks of B each. -/
def Blk (lt : α → α → Bool) (B : Nat) (bs : List (List α)) : Prop := ∀ b ∈ bs, b.length = B ∧ Sorted lt b
theorem blk_len {lt : α → α → Bool} {B : Nat} : ∀ {bs : List (List α)}, Blk lt B bs → bs.flatten.length = bs.length * B
  | [], _ => by simp
  | b :: bs, h => by
    have h1 := blk_len (bs := bs) (fun x hx => h x (List.mem_cons_of_mem _ hx))
    rw [List.flatten_cons, List.length_append, h1, (h b List.mem_cons_self).1, List.length_cons, Nat.add_mul]
    omega
theorem Blk.snoc {lt : α → α → Bool} {B : Nat} {bs : List (List α)} {b : List α} (h : Blk lt B bs) (h1 : b.length = B) (h2 : Sorted lt b) : Blk lt B (bs ++ [b]) := by
  intro x hx
  rcases List.mem_append.1 hx with hx | hx
  · exact h x hx
  · rw [List.mem_singleton.1 hx]; exact ⟨h1, h2⟩
theorem mem_of_isort {lt : α → α → Bool} {d d' : List α} (h : isort lt d' = isort lt d) {x : α} (hx : x ∈ d') : x ∈ d :=
  (isort_perm d).mem_iff.1 (by rw [← h]; exact (isort_perm d').mem_iff.2 hx)
theorem len_of_isort {lt : α → α → Bool} {d d' : List α} (h : isort lt d' = isort lt d) : d'.length = d.length := by
  have h1 := (isort_perm (lt := lt) d').length_eq
  have h2 := (isort_perm (lt := lt) d).length_eq
  rw [← h1, ← h2, h]
theorem fl_snoc (bs : List (List α)) (M : List α) : (bs ++ [M]).flatten.length = bs.flatten.length + M.length := by
  rw [List.flatten_append, List.length_append, List.flatten_cons, List.flatten_nil, List.append_nil]
/-- What there is while sorting: sorted blocks of B, and a shorter one. -/
def Bp (sl : α → (Option Addr × Nat × Nat) × (Option Addr × Nat × Nat)) (lt : α → α → Bool) (base g c n B : Nat) (D : List α) (w0 w : World) : Prop :=
  ∃ (bs : List (List α)) (r : List α), Blk lt B bs ∧ r.length < B ∧ Sorted lt r ∧ isort lt (bs.flatten ++ r) = isort lt D ∧ Row (encS sl) base g c n (bs.flatten ++ r) w ∧ w0.grownBy w (some g)

set_option maxHeartbeats 8000000 in
set_option maxRecDepth 100000 in
theorem fStable (sl : α → (Option Addr × Nat × Nat) × (Option Addr × Nat × Nat)) (lt : α → α → Bool) (O : Ord lt) (base g c n : Nat) (D : List α) (w0 : World) (hn : n ≤ 1048576) (hn0 : 0 < n) (HC : CmpOk sl lt w0 g D) (hr : Row (encS sl) base g c n D w0) :
    Calls Try.prog 49 #[.slice (some ⟨g, 0, none⟩) n c, .int .i64 n, fvC] w0 fun e w' => e = .returned (.tuple #[]) ∧ Row (encS sl) base g c n (isort lt D) w' ∧ w0.grownBy w' (some g) := by
  have hD := row_len hr
  have HD := hid hD
  have HR := hid hr
  have HSY := hid (fSym sl lt O base g c n D w0 hn HC)
  clear hD hr
  go_enter Try.func49, Try.ntmps49
  go_wp2
  go_loopw [7, 8] (fun sa sb wr => ∃ (bs : List (List α)) (R : List α) (A : Nat), bs.flatten.length = A ∧ sa = .int .i64 A ∧ sb = .int .i64 ((A + 20 : Nat) : Int) ∧ A + R.length = n ∧ Hid (Blk lt 20 bs) ∧ Hid (isort lt (bs.flatten ++ R) = isort lt D) ∧ Hid (Row (encS sl) base g c n (bs.flatten ++ R) wr) ∧ Hid (w0.grownBy wr (some g))) (fun sa _ _ => n - (intOf sa).toNat)
  case atStart => exact ⟨[], D, 0, rfl, rfl, rfl, by simpa using HD.out, (fun b hb => by cases hb), rfl, HR.out, gr_refl _ _⟩
  case round =>
    obtain ⟨bs, R, A, hA, rfl, rfl, hAR, HBk, HIs, HRw, HGw⟩ := hrel
    have HA := hid hA
    clear HR
    by_cases h20 : 20 ≤ R.length
    · have l1 : (R.take 20).length = 20 := by simp; omega
      have HCI := hid (fIns sl lt O base g c n A (A + 20) D bs.flatten (R.take 20) (R.drop 20) w0 wr hn hA (by rw [l1]) (by omega) (fun x hx => mem_of_isort HIs.out (List.mem_append_right _ (List.mem_of_mem_take hx))) HC HGw.out (by rw [List.take_append_drop]; exact HRw.out))
      have hb1 : ((A : Int) + 20) ≤ (n : Int) := by omega
      have hb2 : ((A + 20 : Nat) : Int) = (A : Int) + 20 := by omega
      have qa : A ≤ 1048576 := by omega
      rw [hb2] at HCI ⊢
      clear hA
      go_wp2_with fail
      refine HCI.out.mono ?_
      rintro e w1 ⟨rfl, M, s1, p1, i1, r1, g1⟩
      have HM := hid (And.intro s1 (And.intro (p1.length_eq.trans l1) (And.intro i1 (And.intro r1 g1))))
      clear s1 p1 i1 r1 g1 HCI
      have HE : Hid ((bs ++ [M]).flatten ++ R.drop 20 = bs.flatten ++ (M ++ R.drop 20)) := by unfold Hid; simp
      go_wp2
      go_roundw
      case rel =>
        refine ⟨bs ++ [M], R.drop 20, A + 20, by (have := HA.out; have := HM.out.2.1; rw [fl_snoc]; omega), by first | rfl | (congr 1; omega), by first | rfl | (congr 1; omega), by simp; omega, HBk.out.snoc HM.out.2.1 HM.out.1, ?_, ?_, HM.out.2.2.2.2⟩
        · unfold Hid
          rw [HE.out, HM.out.2.2.1, List.take_append_drop]; exact HIs.out
        · unfold Hid; rw [HE.out]; exact HM.out.2.2.2.1
      case measure => simp [intOf]; omega
    · have hb1 : ¬ ((A : Int) + 20) ≤ (n : Int) := by omega
      have hb2 : ((A + 20 : Nat) : Int) = (A : Int) + 20 := by omega
      have qa : A ≤ 1048576 := by omega
      rw [hb2]
      clear hA
      go_upto_region 6 with fail
      go_cut [27] from 23 to 62 (fun s27 wx => s27 = s27 ∧ Hid (Bp sl lt base g c n 20 D w0 wx))
      case first =>
        by_cases hR : R = []
        · have hAn : A = n := by rw [hR] at hAR; simpa using hAR
          have HBP : Hid (Bp sl lt base g c n 20 D w0 wr) := ⟨bs, [], HBk.out, by simp, List.Pairwise.nil, by have := HIs.out; rw [hR] at this; exact this, by have := HRw.out; rw [hR] at this; exact this, HGw.out⟩
          subst hAn
          clear hb1 hb2 h20 hAR hR
          go_wp2_with fail
          refine (fIns0 g c A A wr hn (Nat.le_refl _)).mono ?_
          rintro e w1 ⟨rfl, rfl⟩
          go_wp2
          go_meet
          exact ⟨trivial, HBP.out⟩
        · have hR0 : 0 < R.length := by
            cases R with
            | nil => exact absurd rfl hR
            | cons => simp
          have HCI := hid (fIns sl lt O base g c n A n D bs.flatten R [] w0 wr hn HA.out hAR hR0 (fun x hx => mem_of_isort HIs.out (List.mem_append_right _ hx)) HC HGw.out (by rw [List.append_nil]; exact HRw.out))
          clear hb1 hb2
          go_wp2_with fail
          refine HCI.out.mono ?_
          rintro e w1 ⟨rfl, M, s1, p1, i1, r1, g1⟩
          have HBP : Hid (Bp sl lt base g c n 20 D w0 w1) := by
            rw [List.append_nil] at i1 r1
            rw [List.append_nil] at i1
            exact ⟨bs, M, HBk.out, by rw [p1.length_eq]; omega, s1, i1.trans HIs.out, r1, g1⟩
          clear s1 p1 i1 r1 g1 HCI
          go_wp2
          go_meet
          exact ⟨trivial, HBP.out⟩
      case rest =>
      obtain ⟨-, HBP⟩ := hcut
      clear HBk HIs HRw HGw hb1 hb2 h20 hAR HA
      go_wp2
      go_loopw [6] (fun s6 wr => ∃ B : Nat, 20 ≤ B ∧ B ≤ 2097152 ∧ s6 = .int .i64 B ∧ Hid (Bp sl lt base g c n B D w0 wr)) (fun s6 _ => n - (intOf s6).toNat)
      case atStart => exact ⟨20, by omega, by omega, rfl, HBP.out⟩
      case round =>
        obtain ⟨B, hB20, hBm, rfl, HBp⟩ := hrel
        clear HBP
        by_cases hBn : B < n
        · obtain ⟨bs, r, hbk, hrB, hrs, hiso, hrow, hgr⟩ := HBp.out
          have H0 := hid (show Blk lt (2 * B) ([] : List (List α)) ∧ Blk lt B bs ∧ isort lt (([] : List (List α)).flatten ++ (bs.flatten ++ r)) = isort lt D ∧ Row (encS sl) base g c n (([] : List (List α)).flatten ++ (bs.flatten ++ r)) wr ∧ w0.grownBy wr (some g) from ⟨fun b hb => by (cases hb), hbk, hiso, hrow, hgr⟩)
          have HRB := hid (And.intro hrB hrs)
          have hBn' : (B : Int) < (n : Int) := by omega
          clear hbk hrB hrs hiso hrow hgr HBp
          go_wp2
          go_loopw [7, 8] (fun sa sb wr => ∃ (ds bs : List (List α)) (A : Nat), ds.flatten.length = A ∧ sa = .int .i64 A ∧ sb = .int .i64 ((A + 2 * B : Nat) : Int) ∧ Hid (Blk lt (2 * B) ds ∧ Blk lt B bs ∧ isort lt (ds.flatten ++ (bs.flatten ++ r)) = isort lt D ∧ Row (encS sl) base g c n (ds.flatten ++ (bs.flatten ++ r)) wr ∧ w0.grownBy wr (some g))) (fun sa _ _ => n - (intOf sa).toNat)
          case atStart => exact ⟨[], bs, 0, rfl, rfl, by first | rfl | (congr 1; omega), H0.out⟩
          case round =>
            obtain ⟨ds, bs, A, hA, rfl, rfl, HH⟩ := hrel
            clear H0
            have hlen : A + (bs.flatten.length + r.length) = n := by
              have := row_len HH.out.2.2.2.1
              rw [List.length_append, List.length_append, hA] at this
              exact this
            have HA := hid hA
            have hb2 : ((A + 2 * B : Nat) : Int) = (A : Int) + 2 * (B : Int) := by omega
            rw [hb2]
            match bs, HH, hlen with
            | b1 :: b2 :: bs, HH, hlen =>
              have l1 : b1.length = B := (HH.out.2.1 b1 (by simp)).1
              have l2 : b2.length = B := (HH.out.2.1 b2 (by simp)).1
              have HCS := hid (HSY.out (b1.length + b2.length) A (A + B) (A + 2 * B) ds.flatten b1 b2 (bs.flatten ++ r) wr (Nat.le_refl _) (by omega) (by omega) hA (by omega) (by omega) (HH.out.2.1 b1 (by simp)).2 (HH.out.2.1 b2 (by simp)).2 (fun x hx => mem_of_isort HH.out.2.2.1 (by
                rcases List.mem_append.1 hx with h | h
                · exact List.mem_append_right _ (List.mem_append_left _ (by simp [h]))
                · exact List.mem_append_right _ (List.mem_append_left _ (by simp [h])))) HH.out.2.2.2.2 (by have h1 := HH.out.2.2.2.1; simpa using h1))
              have hbn : (A : Int) + 2 * (B : Int) ≤ (n : Int) := by simp at hlen; omega
              have hb3 : ((A + B : Nat) : Int) = (A : Int) + (B : Int) := by omega
              rw [hb2, hb3] at HCS
              have qa : A ≤ 1048576 := by omega
              clear hA hlen hb3
              go_wp2_with fail
              refine HCS.out.mono ?_
              rintro e w1 ⟨rfl, M, s1, p1, i1, r1, g1⟩
              have HM := hid (And.intro s1 (And.intro p1.length_eq (And.intro i1 (And.intro r1 g1))))
              clear s1 p1 i1 r1 g1 HCS
              have hML : M.length = 2 * B := by have := HM.out.2.1; rw [List.length_append] at this; omega
              have HN : Hid (Blk lt (2 * B) (ds ++ [M]) ∧ Blk lt B bs ∧ isort lt ((ds ++ [M]).flatten ++ (bs.flatten ++ r)) = isort lt D ∧ Row (encS sl) base g c n ((ds ++ [M]).flatten ++ (bs.flatten ++ r)) w1 ∧ w0.grownBy w1 (some g)) := by
                refine ⟨HH.out.1.snoc hML HM.out.1, fun b hb => HH.out.2.1 b (by simp [hb]), ?_, ?_, HM.out.2.2.2.2⟩
                · have h1 := HM.out.2.2.1
                  have h2 := HH.out.2.2.1
                  simp only [List.flatten_append, List.flatten_cons, List.flatten_nil, List.append_nil, List.append_assoc] at h1 h2 ⊢
                  rw [h1]; exact h2
                · have h1 := HM.out.2.2.2.1
                  simpa using h1
              go_wp2
              go_roundw
              case rel => exact ⟨ds ++ [M], bs, A + 2 * B, by (have := HA.out; rw [fl_snoc]; omega), by first | rfl | (congr 1; omega), by first | rfl | (congr 1; omega), HN.out⟩
              case measure => simp [intOf]; omega
            | [b1], HH, hlen =>
              have l1 : b1.length = B := (HH.out.2.1 b1 (by simp)).1
              have hln : A + (B + r.length) = n := by simpa [l1] using hlen
              have hrb := HRB.out.1
              have hbn : ¬ (A : Int) + 2 * (B : Int) ≤ (n : Int) := by omega
              have qa : A ≤ 1048576 := by omega
              by_cases hr0 : r = []
              · have HBP : Hid (Bp sl lt base g c n (2 * B) D w0 wr) := by
                  refine ⟨ds, b1, HH.out.1, by omega, (HH.out.2.1 b1 (by simp)).2, ?_, ?_, HH.out.2.2.2.2⟩
                  · have h1 := HH.out.2.2.1
                    rw [hr0] at h1
                    simpa using h1
                  · have h1 := HH.out.2.2.2.1
                    rw [hr0] at h1
                    simpa using h1
                have hmn : ¬ (A : Int) + (B : Int) < (n : Int) := by rw [hr0] at hln; simp at hln; omega
                clear hA hlen hln hr0 HH
                go_wp2
                go_roundw
                case rel => exact ⟨2 * B, by omega, by omega, by first | rfl | (congr 1; omega), HBP.out⟩
                case measure => simp [intOf]; omega
              · have hrp : 0 < r.length := by
                  cases r with
                  | nil => exact absurd rfl hr0
                  | cons => simp
                have HCS := hid (HSY.out (b1.length + r.length) A (A + B) n ds.flatten b1 r [] wr (Nat.le_refl _) (by omega) hrp hA (by omega) (by omega) (HH.out.2.1 b1 (by simp)).2 HRB.out.2 (fun x hx => mem_of_isort HH.out.2.2.1 (by
                  rcases List.mem_append.1 hx with h | h
                  · exact List.mem_append_right _ (List.mem_append_left _ (by simp [h]))
                  · exact List.mem_append_right _ (List.mem_append_right _ h))) HH.out.2.2.2.2 (by have h1 := HH.out.2.2.2.1; simpa using h1))
                have hmn : (A : Int) + (B : Int) < (n : Int) := by omega
                have hb3 : ((A + B : Nat) : Int) = (A : Int) + (B : Int) := by omega
                rw [hb3] at HCS
                have HLN := hid (And.intro hln l1)
                clear hA hlen hln hr0 hb3
                go_wp2_with fail
                refine HCS.out.mono ?_
                rintro e w1 ⟨rfl, M, s1, p1, i1, r1, g1⟩
                have HBP : Hid (Bp sl lt base g c n (2 * B) D w0 w1) := by
                  refine ⟨ds, M, HH.out.1, ?_, s1, ?_, ?_, g1⟩
                  · have h1 := p1.length_eq
                    have h2 := HLN.out
                    rw [List.length_append] at h1
                    omega
                  · have h2 := HH.out.2.2.1
                    simp only [List.append_nil, List.flatten_cons, List.flatten_nil] at i1 h2
                    rw [i1]; exact h2
                  · simpa using r1
                clear s1 p1 i1 r1 g1 HCS
                go_wp2
                go_roundw
                case rel => exact ⟨2 * B, by omega, by omega, by first | rfl | (congr 1; omega), HBP.out⟩
                case measure => simp [intOf]; omega
            | [], HH, hlen =>
              have hln : A + r.length = n := by simpa using hlen
              have hrb := HRB.out.1
              have hbn : ¬ (A : Int) + 2 * (B : Int) ≤ (n : Int) := by omega
              have hmn : ¬ (A : Int) + (B : Int) < (n : Int) := by omega
              have qa : A ≤ 1048576 := by omega
              have HBP : Hid (Bp sl lt base g c n (2 * B) D w0 wr) := by
                refine ⟨ds, r, HH.out.1, by omega, HRB.out.2, ?_, ?_, HH.out.2.2.2.2⟩
                · have h1 := HH.out.2.2.1
                  simpa using h1
                · have h1 := HH.out.2.2.2.1
                  simpa using h1
              clear hA hlen hln HH
              go_wp2
              go_roundw
              case rel => exact ⟨2 * B, by omega, by omega, by first | rfl | (congr 1; omega), HBP.out⟩
              case measure => simp [intOf]; omega
        · have hBn' : ¬ (B : Int) < (n : Int) := by omega
          obtain ⟨bs, r, hbk, hrB, hrs, hiso, hrow, hgr⟩ := HBp.out
          have hlen : bs.length * B + r.length = n := by
            have := row_len hrow
            rw [List.length_append, blk_len hbk] at this
            exact this
          have HSO : Hid (Sorted lt (bs.flatten ++ r)) := by
            match bs, hbk, hlen with
            | [], _, _ => unfold Hid; simpa using hrs
            | [b], hbk, hlen =>
              have h1 : r = [] := List.eq_nil_of_length_eq_zero (by simp at hlen; omega)
              have h2 := (hbk b (by simp)).2
              unfold Hid
              rw [h1]
              simpa using h2
            | b :: b' :: bs, hbk, hlen =>
              exfalso
              simp only [List.length_cons, Nat.add_mul] at hlen
              omega
          have HF : Hid (Row (encS sl) base g c n (isort lt D) wr ∧ w0.grownBy wr (some g)) := by
            refine ⟨?_, hgr⟩
            rw [← hiso, isort_sorted _ HSO.out]
            exact hrow
          clear hbk hrB hrs hiso hrow hgr HBp hlen HSO
          go_wp2
          go_end0
          exact ⟨rfl, HF.out.1, HF.out.2⟩
/-- The library's SortStableFunc at series: what lies there is sorted, stably; nothing else is written. -/
theorem fSortStable (sl : α → (Option Addr × Nat × Nat) × (Option Addr × Nat × Nat)) (lt : α → α → Bool) (O : Ord lt) (base g c n : Nat) (D : List α) (w0 : World) (hn : n ≤ 1048576) (hn0 : 0 < n) (HC : CmpOk sl lt w0 g D) (hr : Row (encS sl) base g c n D w0) :
    Calls Try.prog 23 #[.slice (some ⟨g, 0, none⟩) n c, fvC] w0 fun e w' => e = .returned (.tuple #[]) ∧ Row (encS sl) base g c n (isort lt D) w' ∧ w0.grownBy w' (some g) := by
  have HF := hid (fStable sl lt O base g c n D w0 hn hn0 HC hr)
  clear hr HC
  go_enter Try.func23, Try.ntmps23
  go_wp2_with fail
  refine HF.out.mono ?_
  rintro e w1 ⟨rfl, h1, h2⟩
  go_wp2
  go_end0
  exact ⟨rfl, h1, h2⟩
end Go.Proofs.Ytailoeloonnoeaa.Stb
