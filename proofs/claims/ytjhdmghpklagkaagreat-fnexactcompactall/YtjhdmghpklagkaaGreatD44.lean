/- The program's planOf and PlanOf. -/
import Derived.Test.YtjhdmghpklagkaaGreatD43
import Derived.Test.YtjhdmghpklagkaaGreatD34
namespace Go.Proofs.YtjhdmghpklagkaaGreat.Pln
open Go.RowKit
open Go.Proofs.YtjhdmghpklagkaaGreat.Stb
open Go.Proofs.YtjhdmghpklagkaaGreat.Srs (q0 lt_at kept set_at OwnO)
open Go.Proofs.YtjhdmghpklagkaaGreat.Blk
open Go.Proofs.YtjhdmghpklagkaaGreat.Mgb
open Go.Proofs.YtjhdmghpklagkaaGreat.Hpl
open Go.Proofs.YtjhdmghpklagkaaGreat.Shf (wid BadW)
open Go.Proofs.YtjhdmghpklagkaaGreat.Ino (Now one_row info3)

def PO (b : Int) (bs : List Bk) (s e : Nat) (hG : Bk) (ok : Bool) (X : Nat) (w : World) : Prop :=
  (ok = true ∧ ∃ L q, 2 ≤ L ∧ L ≤ 4 ∧ PLy b L bs s e q hG X w ∧ ∀ L' q', 2 ≤ L' → L' < L → ¬ Cand b L' q' bs) ∨ (ok = false ∧ s = 0 ∧ e = 0 ∧ ∀ L q, 2 ≤ L → L ≤ 4 → ¬ Cand b L q bs)
def ints (s e : Nat) : List Int := (List.range' s (e - s)).map Int.ofNat
theorem PO.ans {b : Int} {bs : List Bk} {s e : Nat} {hG : Bk} {ok : Bool} {X : Nat} {w : World} (h : PO b bs s e hG ok X w) : Ans b bs (List.range' s (e - s)) ∧ s ≤ e ∧ e ≤ bs.length := by
  rcases h with ⟨_, L, q, h2, h4, y, hb⟩ | ⟨_, rfl, rfl, hn⟩
  · have hs := y.gr.se
    exact ⟨.inr ⟨L, q, h2, h4, y.cand, hb, y.fst, (idx_cut (Nat.le_of_lt hs) y.gr.el y.gr.iff).symm⟩, Nat.le_of_lt hs, y.gr.el⟩
  · exact ⟨.inl ⟨rfl, hn⟩, Nat.le_refl _, Nat.zero_le _⟩
set_option maxRecDepth 10000 in
set_option maxHeartbeats 8000000 in
theorem f38 (b : Int) (a : Option Addr) (n c : Nat) (bs : List Bk) (w : World) (g : GoodK b bs) (hn : bs.length = n) (hc : n ≤ c) (hr : HasK w a bs) (hf : FitK bs) (hz : SmlK bs)
    (hd : ∀ i, i < n → (bs.getD i k0).ts.length ≤ (bs.getD i k0).d ∧ ∀ j, j < (bs.getD i k0).qs.length → ((bs.getD i k0).qs.getD j q0).s.length ≤ ((bs.getD i k0).qs.getD j q0).d) :
    Calls Tryz.prog 38 #[.int .i64 b, .slice a n c] w fun e w' => ∃ (s t : Nat) (hG : Bk) (ok : Bool), e = .returned (.tuple #[ag7 s t hG, .bool ok]) ∧ Hid (PO b bs s t hG ok w.heap.size w') ∧ Below w.heap.size w w' := by
  have HR := hid hr
  have HO0 := hid (heap_alloc_new w Z7)
  have HB0 := hid ((Below.refl w.heap.size w).alloc (Nat.le_refl _) Z7)
  have HPl := hid (fun L x h2 h4 hx => f73 b L a n c bs x g h2 h4 hn hc hx hf hz hd)
  clear hn hr hf hz hd g
  go_enter Tryz.func38, Tryz.ntmps38
  go_wp2
  go_loopw [6] (fun s6 wr => ∃ (k : Nat), 2 ≤ k ∧ k ≤ 5 ∧ s6 = .int .i64 k ∧ Hid (∀ L q, 2 ≤ L → L < (k : Int) → ¬ Cand b L q bs) ∧ Hid (wr.heap[w.heap.size]? = some Z7) ∧ Hid (Below w.heap.size w wr)) (fun si _ => 5 - (intOf si).toNat)
  case atStart => exact ⟨2, Nat.le_refl _, by omega, rfl, fun L q h1 h2 => by omega, HO0.out, HB0.out⟩
  case round =>
    clear HO0 HB0
    obtain ⟨k, hk2, hk5, rfl, HA, HO, HB⟩ := hrel
    by_cases hlt : k ≤ 4
    rotate_left
    · obtain rfl : k = 5 := by omega
      have HE : Hid (∀ L q, 2 ≤ L → L ≤ 4 → ¬ Cand b L q bs) := fun L q h1 h2 => HA.out L q h1 (by omega)
      obtain ⟨e0, e1, e2, e3, e4, e5, e6⟩ := seven HO.out
      have u0 := seven_frz (o := 0) HO.out
      have u1 := seven_frz (o := 1) HO.out
      have u2 := seven_frz (o := 2) HO.out
      have u3 := seven_frz (o := 3) HO.out
      have u4 := seven_frz (o := 4) HO.out
      have u5 := seven_frz (o := 5) HO.out
      have u6 := seven_frz (o := 6) HO.out
      have HP : Hid ((put7 wr w.heap.size (.int .i64 0) (.int .i64 0) (.int .i64 0) (.int .i64 0) (.int .i64 0) (.slice none 0 0) (.slice none 0 0)).heap[w.heap.size]? = some Z7 ∧ Below w.heap.size w (put7 wr w.heap.size (.int .i64 0) (.int .i64 0) (.int .i64 0) (.int .i64 0) (.int .i64 0) (.slice none 0 0) (.slice none 0 0))) := ⟨put7_at HO.out, put7_below HB.out (Nat.le_refl _)⟩
      rw [put7] at HP
      go_wp2
      generalize hwf : World.setCell _ _ _ = wf
      rw [hwf] at HP
      clear hwf
      refine bodyPost_ret (v := .tuple #[ag7 0 0 k0, .bool false]) ?_ rfl ⟨0, 0, k0, false, rfl, .inr ⟨rfl, rfl, rfl, HE.out⟩, HP.out.2⟩
      obtain ⟨y0, y1, y2, y3, y4, y5, y6⟩ := seven HP.out.1
      simp [results, Tryz.results38, go_sem, y0, y1, y2, y3, y4, y5, y6, k0]
    have HRr := hid (HR.out.below HB.out)
    have HPk := hid (HPl.out (k : Int) wr (by omega) (by omega) HRr.out)
    have i1 : (k : Int) ≤ 4 := by omega
    have hl2 : w.heap.size < wr.heap.size := lt_at HO.out
    clear HRr
    go_wp2_with fail
    refine HPk.out.mono ?_
    rintro e4 w3 ⟨s, t, hG, ok, rfl, hh, hb3⟩
    have HH := hid hh.out
    have HO3 := hid (kept HO.out hb3)
    have HB3 := hid (HB.out.trans (hb3.mono HB.out.size))
    clear hh hb3 HPk HO HB
    obtain ⟨F, TT, LL, qs, ga, gc, ts, gb, gd⟩ := hG
    simp only [ag7]
    obtain ⟨W4, hW4⟩ : ∃ W, W = w3.alloc (.cells #[.int .i64 s, .int .i64 t, .int .i64 F, .int .i64 TT, .int .i64 LL, .slice ga qs.length gc, .slice gb ts.length gd] 59) := ⟨_, rfl⟩
    obtain ⟨hba, hbx⟩ := two_new hW4
    have HO4 := hid (kept HO3.out hba)
    have HB4 := hid (HB3.out.trans (hba.mono HB3.out.size))
    have HX4 := hid hbx
    have HA4 := hid hba
    clear hba hbx HO3
    go_upto_region 5 with fail
    rw [← hW4]
    clear hW4
    cases ok
    · have HNo : Hid (∀ L q, 2 ≤ L → L < ((k + 1 : Nat) : Int) → ¬ Cand b L q bs) := fun L q h1 h2 => by
        rcases HH.out with ⟨h, _⟩ | ⟨_, _, _, h⟩
        · cases h
        · by_cases e : L < (k : Int)
          · exact HA.out L q h1 e
          · obtain rfl : L = (k : Int) := by omega
            exact h q
      go_wp2
      go_roundw
      case rel => exact ⟨k + 1, by omega, by omega, by go_num, HNo, HO4, HB4⟩
      case measure => simp [intOf]; omega
    · obtain ⟨q, HY⟩ : ∃ q, Hid (PLy b k bs s t q ⟨F, TT, LL, qs, ga, gc, ts, gb, gd⟩ wr.heap.size w3) := by
        rcases HH.out with ⟨_, q, h⟩ | ⟨h, _⟩
        · exact ⟨q, h⟩
        · cases h
      obtain ⟨e0, e1, e2, e3, e4, e5, e6⟩ := seven HO4.out
      have u0 := seven_frz (o := 0) HO4.out
      have u1 := seven_frz (o := 1) HO4.out
      have u2 := seven_frz (o := 2) HO4.out
      have u3 := seven_frz (o := 3) HO4.out
      have u4 := seven_frz (o := 4) HO4.out
      have u5 := seven_frz (o := 5) HO4.out
      have u6 := seven_frz (o := 6) HO4.out
      obtain ⟨x0, x1, x2, x3, x4, x5, x6⟩ := seven HX4.out
      have HP : Hid ((put7 W4 w.heap.size (.int .i64 s) (.int .i64 t) (.int .i64 F) (.int .i64 TT) (.int .i64 LL) (.slice ga qs.length gc) (.slice gb ts.length gd)).heap[w.heap.size]? = some (.cells #[.int .i64 s, .int .i64 t, .int .i64 F, .int .i64 TT, .int .i64 LL, .slice ga qs.length gc, .slice gb ts.length gd] 59) ∧ Below w.heap.size w (put7 W4 w.heap.size (.int .i64 s) (.int .i64 t) (.int .i64 F) (.int .i64 TT) (.int .i64 LL) (.slice ga qs.length gc) (.slice gb ts.length gd)) ∧ PO b bs s t ⟨F, TT, LL, qs, ga, gc, ts, gb, gd⟩ true w.heap.size (put7 W4 w.heap.size (.int .i64 s) (.int .i64 t) (.int .i64 F) (.int .i64 TT) (.int .i64 LL) (.slice ga qs.length gc) (.slice gb ts.length gd))) := ⟨put7_at HO4.out, put7_below HB4.out (Nat.le_refl _), .inl ⟨rfl, k, q, by omega, by omega, ⟨HY.out.gr, HY.out.cand, HY.out.fst, HY.out.same, OwnO_base (owno_off (HY.out.own.below HA4.out).own (put7_gr _ _ _ _ _ _ _ _ _) hl2) (Nat.le_of_lt hl2), HY.out.own.ts, HY.out.own.b, HY.out.own.d⟩, HA.out⟩⟩
      rw [put7] at HP
      go_wp2
      generalize hwf : World.setCell _ _ _ = wf
      rw [hwf] at HP
      clear hwf
      refine bodyPost_ret (v := .tuple #[ag7 s t ⟨F, TT, LL, qs, ga, gc, ts, gb, gd⟩, .bool true]) ?_ rfl ⟨s, t, ⟨F, TT, LL, qs, ga, gc, ts, gb, gd⟩, true, rfl, HP.out.2.2, HP.out.2.1⟩
      obtain ⟨y0, y1, y2, y3, y4, y5, y6⟩ := seven HP.out.1
      simp [results, Tryz.results38, go_sem, y0, y1, y2, y3, y4, y5, y6]
theorem ans_len {b : Int} {bs : List Bk} {z : List Nat} (h : Ans b bs z) : z.length ≤ bs.length := by
  rcases h with ⟨rfl, _⟩ | ⟨L, q, _, _, _, _, _, rfl⟩
  · exact Nat.zero_le _
  · unfold idx
    exact Nat.le_trans (List.length_filter_le _ _) (by simp)
end Go.Proofs.YtjhdmghpklagkaaGreat.Pln
