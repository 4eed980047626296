/- Whether a number is in a set: slices.BinarySearch, place. -/
import Derived.Test.YtkbaaidnkkcpoaaGreatRGI
import Derived.Test.YtkbaaidnkkcpoaaGreatRGX
namespace Go.Proofs.YtkbaaidnkkcpoaaGreat.Ino
open Go.RowKit
open Go.Proofs.YtkbaaidnkkcpoaaGreat.Srs (hid)

theorem f132 (x y : Int) (w : World) : Calls Tryz.prog 132 #[.int .i64 x, .int .i64 y] w fun e w' => e = .returned (.bool (decide (x < y))) ∧ w' = w := by
  by_cases h : x < y
  · go_enter Tryz.func132, Tryz.ntmps132
    go_wp2_with (go_at_call 156; refine (f156 _ _).mono ?_; rintro e w2 ⟨rfl, rfl⟩)
    go_ret
    exact ⟨by rw [decide_eq_true h]; rfl, rfl⟩
  · go_enter Tryz.func132, Tryz.ntmps132
    go_wp2_with (go_at_call 156; refine (f156 _ _).mono ?_; rintro e w2 ⟨rfl, rfl⟩)
    go_ret
    exact ⟨rfl, rfl⟩
theorem f133 (x : Int) (w : World) : Calls Tryz.prog 133 #[.int .i64 x] w fun e w' => e = .returned (.bool false) ∧ w' = w := by
  have h : (x != x) = false := by simp
  go_enter Tryz.func133, Tryz.ntmps133
  go_wp2
  go_ret
  exact ⟨rfl, rfl⟩
theorem pw_le {L : List Int} (hs : L.Pairwise (· < ·)) {i j : Nat} (hij : i < j) (hj : j < L.length) : L.getD i 0 < L.getD j 0 := by
  have := List.pairwise_iff_getElem.1 hs i j (by omega) hj hij
  have hi : i < L.length := by omega
  simpa [hi, hj] using this
theorem own_cell {w : World} {base g c : Nat} {L : List Int} (h : Own w base (.slice (some ⟨g, 0, none⟩) L.length c) L) {i : Nat} (hi : i < L.length) : w.cell? ⟨g, i, none⟩ = some (.int .i64 (L.getD i 0)) := by
  have := World.ownsRow.cells h (g := g) rfl i (.int .i64 (L.getD i 0)) (by simp [hi])
  have e : (⟨g, 0, none⟩ : Addr).add i = ⟨g, i, none⟩ := by
    by_cases h0 : i = 0
    · subst h0; simp [Addr.add]
    · simp [Addr.add, h0]
  rwa [e] at this
/-- All ahead of lo are less, and the one at lo is not. -/
structure PlaceI (L : List Int) (x : Int) (lo : Nat) : Prop where
  le : lo ≤ L.length
  low : ∀ i, i < lo → L.getD i 0 < x
  high : lo < L.length → x ≤ L.getD lo 0
theorem PlaceI.mem {L : List Int} {x : Int} {lo : Nat} (h : PlaceI L x lo) (hs : L.Pairwise (· < ·)) : x ∈ L ↔ lo < L.length ∧ L.getD lo 0 = x := by
  constructor
  · intro hx
    obtain ⟨i, hi, rfl⟩ := List.getElem_of_mem hx
    have e : L.getD i 0 = L[i] := by simp [hi]
    have h1 : ¬ i < lo := fun hl => by have := h.low i hl; omega
    have h2 : ¬ lo < i := fun hl => by have := pw_le hs hl hi; have := h.high (by omega); omega
    obtain rfl : i = lo := by omega
    exact ⟨hi, e⟩
  · rintro ⟨h1, h2⟩
    rw [← h2]
    simp [h1]
set_option maxHeartbeats 2000000 in
theorem f97 (v : Value) (L : List Int) (x : Int) (base : Nat) (w : World) (ho : Own w base v L) (hs : L.Pairwise (· < ·)) (hn : L.length ≤ 1000) :
    Calls Tryz.prog 97 #[v, .int .i64 x] w fun e w' => ∃ lo : Nat, Hid (e = .returned (.tuple #[.int .i64 lo, .bool (decide (x ∈ L))]) ∧ Below w.heap.size w w') := by
  have HS := hid hs
  have HO := hid ho
  clear hs
  rcases ho.form with ⟨rfl, rfl⟩ | ⟨g, c, rfl⟩
  · go_enter Tryz.func97, Tryz.ntmps97
    go_wp2
    go_loopw [7, 8] (fun si sj wr => si = .int .i64 0 ∧ sj = .int .i64 0 ∧ Hid (Below w.heap.size w wr)) (fun _ _ _ => 0)
    case atStart => exact ⟨rfl, rfl, Below.refl _ _⟩
    case round =>
      obtain ⟨rfl, rfl, HX⟩ := hrel
      go_wp2
      go_ret2
      exact ⟨0, ⟨rfl, HX.out⟩⟩
  clear ho
  go_enter Tryz.func97, Tryz.ntmps97
  go_wp2
  go_loopw [7, 8] (fun si sj wr => ∃ (lo hi : Nat), lo ≤ hi ∧ hi ≤ L.length ∧ si = .int .i64 lo ∧ sj = .int .i64 hi ∧ Hid (∀ i, i < lo → L.getD i 0 < x) ∧ Hid (hi < L.length → x ≤ L.getD hi 0) ∧ Hid (w = wr)) (fun si sj _ => (intOf sj).toNat - (intOf si).toNat)
  case atStart => exact ⟨0, L.length, Nat.zero_le _, Nat.le_refl _, rfl, rfl, fun i hi => by omega, fun h => by omega, rfl⟩
  case round =>
    obtain ⟨lo, hi, hlh, hhn, rfl, rfl, hlow, hhigh, hw⟩ := hrel
    have hw := hw.out
    subst hw
    by_cases hlt : lo < hi
    · obtain ⟨h, hh⟩ : ∃ h, h = (lo + hi) / 2 := ⟨_, rfl⟩
      have hh1 : lo ≤ h := by omega
      have hh2 : h < hi := by omega
      have c0 := own_cell HO.out (show h < L.length by omega)
      have HH := hid hh
      have i1 : ((lo : Int) + (hi : Int)) / 2 < (L.length : Int) := by omega
      have i0 : 0 ≤ ((lo : Int) + (hi : Int)) / 2 := by omega
      obtain ⟨p, hp⟩ : ∃ p, p = L.getD h 0 := ⟨_, rfl⟩
      rw [← hp, hh] at c0
      clear hh
      have HLow : Hid (p < x → ∀ i, i < h + 1 → L.getD i 0 < x) := by
        intro hx i hi
        rw [hp] at hx
        by_cases e : i = h
        · subst e; exact hx
        · have := pw_le HS.out (show i < h by omega) (by omega); omega
      have HHigh : Hid (¬ p < x → h < L.length → x ≤ L.getD h 0) := fun h1 _ => by rw [hp] at h1; omega
      clear hp
      by_cases h3 : p < x
      · have e3 : decide (p < x) = true := decide_eq_true h3
        go_wp2_with fail
        refine (f132 p x _).mono ?_
        rw [e3]
        rintro e w2 ⟨rfl, hw2⟩; subst hw2
        clear e3
        go_wp2
        go_roundw
        case rel => exact ⟨h + 1, hi, by omega, hhn, by have := HH.out; go_num, rfl, HLow.out h3, hhigh, trivial⟩
        case measure => simp [intOf]; omega
      · have e3 : decide (p < x) = false := decide_eq_false h3
        go_wp2_with fail
        refine (f132 p x _).mono ?_
        rw [e3]
        rintro e w2 ⟨rfl, hw2⟩; subst hw2
        clear e3
        go_wp2
        go_roundw
        case rel => exact ⟨lo, h, hh1, by omega, rfl, by have := HH.out; go_num, hlow, HHigh.out h3, trivial⟩
        case measure => have := HH.out; simp [intOf]; omega
    · obtain rfl : lo = hi := by omega
      have hP : PlaceI L x lo := ⟨hhn, hlow.out, hhigh.out⟩
      have HM := hid (hP.mem HS.out)
      clear hP hlow hhigh
      by_cases hln : lo < L.length
      · have c0 := own_cell HO.out hln
        have i1 : (lo : Int) < (L.length : Int) := by omega
        obtain ⟨p, hp⟩ : ∃ p, p = L.getD lo 0 := ⟨_, rfl⟩
        rw [← hp] at c0 HM
        clear hp
        by_cases h4 : p = x
        · have HD : Hid (decide (x ∈ L) = true) := decide_eq_true (HM.out.2 ⟨hln, h4⟩)
          subst h4
          have g : (p == p) = true := by simp
          go_wp2
          go_ret2
          exact ⟨lo, ⟨by rw [HD.out]; rfl, Below.refl _ _⟩⟩
        · have HD : Hid (decide (x ∈ L) = false) := decide_eq_false fun h => h4 (HM.out.1 h).2
          have g : (p == x) = false := by rw [beq_eq_false_iff_ne]; exact h4
          go_wp2_with (go_at_call 133; refine (f133 _ _).mono ?_; rintro e w2 ⟨rfl, rfl⟩)
          go_ret2
          exact ⟨lo, ⟨by rw [HD.out]; rfl, Below.refl _ _⟩⟩
      · have i1 : ¬ (lo : Int) < (L.length : Int) := by omega
        have HD : Hid (decide (x ∈ L) = false) := decide_eq_false fun h => hln (HM.out.1 h).1
        go_wp2
        go_ret2
        exact ⟨lo, ⟨by rw [HD.out]; rfl, Below.refl _ _⟩⟩
set_option maxHeartbeats 1000000 in
theorem f58 (v : Value) (L : List Int) (x : Int) (base : Nat) (w : World) (ho : Own w base v L) (hs : L.Pairwise (· < ·)) (hn : L.length ≤ 1000) :
    Calls Tryz.prog 58 #[v, .int .i64 x] w fun e w' => ∃ lo : Nat, Hid (e = .returned (.tuple #[.int .i64 lo, .bool (decide (x ∈ L))]) ∧ Below w.heap.size w w') := by
  have HC := hid (f97 v L x base w ho hs hn)
  clear ho hs
  go_enter Tryz.func58, Tryz.ntmps58
  go_wp2_with fail
  refine HC.out.mono ?_
  rintro e w1 ⟨lo, hh⟩
  obtain ⟨rfl, hb⟩ := hh.out
  clear hh
  have HB := hid hb
  clear hb
  obtain ⟨d, hd⟩ : ∃ d, d = decide (x ∈ L) := ⟨_, rfl⟩
  have HD := hid hd
  rw [← hd]
  clear hd
  go_wp2
  go_ret2
  exact ⟨lo, ⟨by rw [← HD.out]; rfl, HB.out⟩⟩
end Go.Proofs.YtkbaaidnkkcpoaaGreat.Ino
