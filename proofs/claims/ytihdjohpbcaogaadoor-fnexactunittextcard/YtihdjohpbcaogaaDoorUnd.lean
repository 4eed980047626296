/- Times in days, hours, minutes and seconds: the program's secondsText. -/
import Derived.Test.YtihdjohpbcaogaaDoorUnb
namespace Go.Proofs.YtihdjohpbcaogaaDoor.Unt
open Go.RowKit

/-- How many of a unit there are. -/
def prt (z : Nat) : Nat → Nat
  | 0 => z / 86400
  | 1 => z / 3600 % 24
  | 2 => z / 60 % 60
  | _ => z % 60
def sg4 : Nat → List UInt8
  | 0 => [100]
  | 1 => [104]
  | 2 => [109]
  | _ => [115]
def one4 (z i : Nat) : List UInt8 := Lib.itoa (prt z i : Int) ++ sg4 i
/-- The unit behind, where there is one of it. -/
def nxt4 (z i : Nat) : List UInt8 := if prt z i = 0 then [] else one4 z i
def sec (z : Nat) : List UInt8 :=
  if prt z 0 ≠ 0 then one4 z 0 ++ nxt4 z 1 else if prt z 1 ≠ 0 then one4 z 1 ++ nxt4 z 2 else if prt z 2 ≠ 0 then one4 z 2 ++ nxt4 z 3 else if prt z 3 ≠ 0 then one4 z 3 else [48, 115]
theorem sec0 {z : Nat} (h : prt z 0 ≠ 0) : sec z = one4 z 0 ++ nxt4 z 1 := if_pos h
theorem sec1 {z : Nat} (h0 : prt z 0 = 0) (h : prt z 1 ≠ 0) : sec z = one4 z 1 ++ nxt4 z 2 := by unfold sec; rw [if_neg (by omega), if_pos h]
theorem sec2 {z : Nat} (h0 : prt z 0 = 0) (h1 : prt z 1 = 0) (h : prt z 2 ≠ 0) : sec z = one4 z 2 ++ nxt4 z 3 := by unfold sec; rw [if_neg (by omega), if_neg (by omega), if_pos h]
theorem sec3 {z : Nat} (h0 : prt z 0 = 0) (h1 : prt z 1 = 0) (h2 : prt z 2 = 0) (h : prt z 3 ≠ 0) : sec z = one4 z 3 := by unfold sec; rw [if_neg (by omega), if_neg (by omega), if_neg (by omega), if_pos h]
theorem sec4 {z : Nat} (h0 : prt z 0 = 0) (h1 : prt z 1 = 0) (h2 : prt z 2 = 0) (h3 : prt z 3 = 0) : sec z = [48, 115] := by unfold sec; rw [if_neg (by omega), if_neg (by omega), if_neg (by omega), if_neg (by omega)]
theorem prt_le (z i : Nat) : prt z i ≤ z := by unfold prt; split <;> omega
theorem one4_len {z : Nat} (i : Nat) (h : z ≤ 9223372036854775807) : (one4 z i).length ≤ 22 := by
  have h1 := prt_le z i
  have h2 := itoa_len (prt z i : Int) (by omega) (by omega)
  have h3 : (sg4 i).length ≤ 1 := by unfold sg4; split <;> simp
  unfold one4
  simp
  omega
/-- What is left of the seconds. -/
def rk (z : Nat) : Nat → Nat
  | 0 => z
  | 1 => z % 86400
  | 2 => z % 3600
  | 3 => z % 60
  | _ => 0
/-- The text that stands there ahead of a unit. -/
def Tk (z k : Nat) (t : List UInt8) : Prop := (t = [] ∧ ∀ j, j < k → prt z j = 0) ∨ (1 ≤ k ∧ prt z (k - 1) ≠ 0 ∧ (∀ j, j < k - 1 → prt z j = 0) ∧ t = one4 z (k - 1))
/-- The table of units, as it is laid. -/
structure Tun (w : World) : Prop where
  lt : 0 < w.heap.size
  c0 : w.cell? ⟨0, 0, none⟩ = some (.int .i64 86400)
  c1 : w.cell? ⟨0, 1, none⟩ = some (.string (mkS [100]))
  c2 : w.cell? ⟨0, 2, none⟩ = some (.int .i64 3600)
  c3 : w.cell? ⟨0, 3, none⟩ = some (.string (mkS [104]))
  c4 : w.cell? ⟨0, 4, none⟩ = some (.int .i64 60)
  c5 : w.cell? ⟨0, 5, none⟩ = some (.string (mkS [109]))
  c6 : w.cell? ⟨0, 6, none⟩ = some (.int .i64 1)
  c7 : w.cell? ⟨0, 7, none⟩ = some (.string (mkS [115]))
theorem Tun.below {w w' : World} (h : Tun w) (hb : Below w.heap.size w w') : Tun w' :=
  ⟨Nat.lt_of_lt_of_le h.lt hb.size, (hb.cell (by exact h.lt)).trans h.c0, (hb.cell (by exact h.lt)).trans h.c1, (hb.cell (by exact h.lt)).trans h.c2, (hb.cell (by exact h.lt)).trans h.c3, (hb.cell (by exact h.lt)).trans h.c4, (hb.cell (by exact h.lt)).trans h.c5, (hb.cell (by exact h.lt)).trans h.c6, (hb.cell (by exact h.lt)).trans h.c7⟩
theorem no_empty {t : List UInt8} (h : t ≠ []) : t.isEmpty = false := by
  cases t with
  | nil => exact absurd rfl h
  | cons a t => rfl
theorem ix0 : ∀ w, (Instr.index 34 (.agg #[.int .i64 86400, .string (mkS [100]), .int .i64 3600, .string (mkS [104]), .int .i64 60, .string (mkS [109]), .int .i64 1, .string (mkS [115])]) (.int .i64 0)).run Tryd.prog w = .ok (.agg #[.int .i64 86400, .string (mkS [100])]) w := fun w => by kernel_rfl
theorem ix1 : ∀ w, (Instr.index 34 (.agg #[.int .i64 86400, .string (mkS [100]), .int .i64 3600, .string (mkS [104]), .int .i64 60, .string (mkS [109]), .int .i64 1, .string (mkS [115])]) (.int .i64 1)).run Tryd.prog w = .ok (.agg #[.int .i64 3600, .string (mkS [104])]) w := fun w => by kernel_rfl
theorem ix2 : ∀ w, (Instr.index 34 (.agg #[.int .i64 86400, .string (mkS [100]), .int .i64 3600, .string (mkS [104]), .int .i64 60, .string (mkS [109]), .int .i64 1, .string (mkS [115])]) (.int .i64 2)).run Tryd.prog w = .ok (.agg #[.int .i64 60, .string (mkS [109])]) w := fun w => by kernel_rfl
theorem ix3 : ∀ w, (Instr.index 34 (.agg #[.int .i64 86400, .string (mkS [100]), .int .i64 3600, .string (mkS [104]), .int .i64 60, .string (mkS [109]), .int .i64 1, .string (mkS [115])]) (.int .i64 3)).run Tryd.prog w = .ok (.agg #[.int .i64 1, .string (mkS [115])]) w := fun w => by kernel_rfl
theorem zero_more {z k : Nat} (h : ∀ j, j < k → prt z j = 0) (hk : prt z k = 0) : ∀ j, j < k + 1 → prt z j = 0 := by
  intro j hj
  rcases Nat.lt_or_ge j k with e | e
  · exact h j e
  · have : j = k := by omega
    rw [this]; exact hk
theorem one4_ne (z i : Nat) : one4 z i ≠ [] := by unfold one4 sg4; split <;> simp

set_option maxRecDepth 100000 in
set_option maxHeartbeats 8000000 in
theorem f10 (z : Nat) (w : World) (hz : z ≤ 9223372036854775807) (hp : Pow w) (ht : Tun w) :
    Calls Tryd.prog 10 #[.int .i64 z] w fun e w' => e = .returned (.string (mkS (sec z))) ∧ Below w.heap.size w w' := by
  have HP := hid hp
  obtain ⟨hlt0, c0, c1, c2, c3, c4, c5, c6, c7⟩ := ht
  clear hp
  go_enter Tryd.func10, Tryd.ntmps10
  go_wp2
  go_loopw [0, 3, 9] (fun s0 s3 s9 wr => ∃ (k : Nat) (t : List UInt8), k ≤ 4 ∧ s9 = .int .i64 k ∧ s0 = .int .i64 (rk z k : Nat) ∧ s3 = .string (mkS t) ∧ Hid (Tk z k t) ∧ Hid (Below w.heap.size w wr)) (fun _ _ s9 _ => 4 - (intOf s9).toNat)
  case atStart => exact ⟨0, [], by omega, rfl, rfl, rfl, .inl ⟨rfl, fun j hj => by omega⟩, Below.refl _ _⟩
  case round =>
    clear c0 c1 c2 c3 c4 c5 c6 c7
    obtain ⟨k, t, hk, rfl, rfl, rfl, HT, HB⟩ := hrel
    have hc : k = 0 ∨ k = 1 ∨ k = 2 ∨ k = 3 ∨ k = 4 := by omega
    rcases hc with rfl | rfl | rfl | rfl | rfl
    · have hP : rk z 0 / 86400 = prt z 0 := by simp only [rk, prt]
      have hR : rk z 0 % 86400 = rk z 1 := by simp only [rk]
      have hPl : prt z 0 ≤ 9223372036854775807 := Nat.le_trans (prt_le z 0) hz
      have hrl : rk z 0 ≤ 9223372036854775807 := by simp only [rk]; omega
      have t1 : Int.tdiv (rk z 0 : Int) 86400 = ((rk z 0 / 86400 : Nat) : Int) := rfl
      have t2 : Int.tmod (rk z 0 : Int) 86400 = ((rk z 0 % 86400 : Nat) : Int) := rfl
      rw [hP] at t1
      rw [hR] at t2
      clear hP hR
      have hix := ix0
      have HOn : Hid (one4 z 0 = Lib.itoa (prt z 0 : Int) ++ [100]) := rfl
      have HNz : Hid (prt z 0 = 0 → nxt4 z 0 = []) := fun h => if_pos h
      have HNn : Hid (prt z 0 ≠ 0 → nxt4 z 0 = one4 z 0) := fun h => if_neg h
      obtain ⟨P, hPP⟩ : ∃ P, P = prt z 0 := ⟨_, rfl⟩
      have HPP := hid hPP
      rw [← hPP] at t1 hPl HOn HNz HNn
      clear hPP
      obtain ⟨r1, hr1⟩ : ∃ r, r = rk z 1 := ⟨_, rfl⟩
      have HR1 := hid hr1
      rw [← hr1] at t2
      clear hr1
      generalize rk z 0 = r0 at *
      have HBa := hid (HB.out.alloc HB.out.size (.cells #[.int .i64 86400, .string (mkS [100])] 33))
      have d1 : (wr.alloc (.cells #[.int .i64 86400, .string (mkS [100])] 33)).cell? ⟨wr.heap.size, 1, none⟩ = some (.string (mkS [100])) := by go_simp
      have hBx : wr.heap.size < (wr.alloc (.cells #[.int .i64 86400, .string (mkS [100])] 33)).heap.size := by simp
      have D1 := hid d1
      clear d1
      have HC := fun (x : World) (h : Below w.heap.size w x) => hid (f8 (P : Int) x (by omega) (by omega) (HP.out.below h))
      have l1 := itoa_len (P : Int) (by omega) (by omega)
      generalize Lib.itoa (P : Int) = I1 at *
      have htl : t.length ≤ 22 := by
        rcases HT.out with ⟨rfl, _⟩ | ⟨_, _, _, rfl⟩
        · simp
        · exact one4_len _ hz
      obtain ⟨X1, h1⟩ : ∃ X, X = I1 ++ [100] := ⟨_, rfl⟩
      obtain ⟨X2, h2⟩ : ∃ X, X = t ++ X1 := ⟨_, rfl⟩
      have q1 : X1.length ≤ 22 := by rw [h1]; simp; omega
      have a1 : mkS I1 ++ mkS [100] = mkS X1 := by rw [h1]; exact mkS_app _ _
      have a2 : mkS t ++ mkS X1 = mkS X2 := by rw [h2]; exact mkS_app _ _
      have b1 : ¬ 9223372036854775807 < I1.length + 1 := by omega
      have b2 : ¬ 9223372036854775807 < t.length + X1.length := by omega
      have b3 : X1.length ≤ 9223372036854775807 := by omega
      rw [← h1] at HOn
      have H2 := hid h2
      clear h1 h2
      have D0 : Hid ((wr.alloc (.cells #[.int .i64 86400, .string (mkS [100])] 33)).drew.cell? ⟨wr.heap.size, 0, none⟩ = some (.int .i64 86400)) := by unfold Hid; go_simp
      rcases HT.out with ⟨rfl, h⟩ | ⟨h0, _⟩
      rotate_left
      · omega
      by_cases hpz : P = 0
      · have hm : ¬ (P : Int) > 0 := by omega
        have HTk : Hid (Tk z 1 []) := .inl ⟨rfl, zero_more h (by rw [← HPP.out]; exact hpz)⟩
        clear hpz
        go_wp2
        go_roundw
        case rel => exact ⟨1, [], by omega, by go_num, by rw [HR1.out], rfl, HTk, HBa⟩
        case measure => simp [intOf]
      · have hm : (P : Int) > 0 := by omega
        have HTk : Hid (Tk z 1 X2) := .inr ⟨by omega, by show prt z 0 ≠ 0; rw [← HPP.out]; exact hpz, fun j hj => h j (by omega), by rw [H2.out, List.nil_append, ← HOn.out]⟩
        clear hpz
        go_wp2_with fail
        have dd1 : (wr.alloc (.cells #[.int .i64 86400, .string (mkS [100])] 33)).drew.cell? ⟨wr.heap.size, 1, none⟩ = some (.string (mkS [100])) := D1.out
        have HBd : Hid (Below w.heap.size w (wr.alloc (.cells #[.int .i64 86400, .string (mkS [100])] 33)).drew) := ⟨HBa.out.os, HBa.out.tape, HBa.out.output, HBa.out.size, HBa.out.block⟩
        have hBd : wr.heap.size < (wr.alloc (.cells #[.int .i64 86400, .string (mkS [100])] 33)).drew.heap.size := hBx
        refine wp_region_held_drew (S := fun x => x.cell? ⟨wr.heap.size, 1, none⟩ = some (.string (mkS [100]))) rfl dd1 (fun hHeld => ?_)
        refine wpAnyH_take (i := 0) (oi := { dst := some 20, op := _, type := _, pos := _, after := _, guard := _ }) (v := .string (mkS [])) rfl (by kernel_rfl) (by kernel_rfl) (by kernel_rfl) (fun _ _ _ h => h) (Or.inl ⟨by rfl, fun w hSw => by (try dsimp only at hSw); (try go_split_ands); go_simp⟩) (by first | trivial | assumption) ?_
        try simp only [Act.put, List.setIfInBounds_toArray, List.set_cons_zero, List.set_cons_succ]
        refine wpAnyH_take (i := 1) (oi := { dst := some 21, op := _, type := _, pos := _, after := _, guard := _ }) (v := .int .i64 (P : Int)) rfl (by kernel_rfl) (by kernel_rfl) (by kernel_rfl) (fun _ _ _ h => h) (Or.inl ⟨by rfl, fun w hSw => by (try dsimp only at hSw); (try go_split_ands); go_simp⟩) (by first | trivial | assumption) ?_
        try simp only [Act.put, List.setIfInBounds_toArray, List.set_cons_zero, List.set_cons_succ]
        refine wpAnyH_take (i := 3) (oi := { dst := some 23, op := _, type := _, pos := _, after := _, guard := _ }) (v := .pointer (some ⟨wr.heap.size, 1, none⟩)) rfl (by kernel_rfl) (by kernel_rfl) (by kernel_rfl) (fun _ _ _ h => h) (Or.inl ⟨by rfl, fun w hSw => by (try dsimp only at hSw); (try go_split_ands); go_simp⟩) (by first | trivial | assumption) ?_
        try simp only [Act.put, List.setIfInBounds_toArray, List.set_cons_zero, List.set_cons_succ]
        refine wpAnyH_take (i := 4) (oi := { dst := some 24, op := _, type := _, pos := _, after := _, guard := _ }) (v := .string (mkS [100])) rfl (by kernel_rfl) (by kernel_rfl) (by kernel_rfl) (fun _ _ _ h => h) (Or.inl ⟨by rfl, fun w hSw => by (try dsimp only at hSw); (try go_split_ands); go_simp⟩) (by first | trivial | assumption) ?_
        try simp only [Act.put, List.setIfInBounds_toArray, List.set_cons_zero, List.set_cons_succ]
        refine wpAnyH_ready (rs := [2]) (by kernel_rfl) (by simp) (AllReadyH.cons (o := { dst := some 22, op := _, type := _, pos := _, after := _, guard := _ }) rfl ?_ AllReadyH.nil)
        intro K1 hK1
        go_simp
        go_wp2_with (go_at_call 8; refine (HC _ HBd.out).out.mono ?_; rintro e w2 ⟨rfl, hb2⟩)
        have HB2 := hid (HBd.out.trans (hb2.mono HBd.out.size))
        have d2 : w2.cell? ⟨wr.heap.size, 1, none⟩ = some (.string (mkS [100])) := (hb2.cell (p := ⟨wr.heap.size, 1, none⟩) (by exact hBd)).trans dd1
        have dr0 : w2.cell? ⟨wr.heap.size, 0, none⟩ = some (.int .i64 86400) := (hb2.cell (p := ⟨wr.heap.size, 0, none⟩) (by exact hBd)).trans D0.out
        clear hb2
        refine hK1.out _ _ d2 (fun _ => ?_)
        clear hK1 K1
        try simp only [Act.put, List.setIfInBounds_toArray, List.set_cons_zero, List.set_cons_succ]
        refine wpAnyH_take (i := 5) (oi := { dst := some 25, op := _, type := _, pos := _, after := _, guard := _ }) (v := .string (mkS X1)) rfl (by kernel_rfl) (by kernel_rfl) (by kernel_rfl) (fun _ _ _ h => h) (Or.inl ⟨by rfl, fun w hSw => by (try dsimp only at hSw); (try go_split_ands); go_simp⟩) (by first | trivial | assumption) ?_
        try simp only [Act.put, List.setIfInBounds_toArray, List.set_cons_zero, List.set_cons_succ]
        refine wpAnyH_take (i := 6) (oi := { dst := some 26, op := _, type := _, pos := _, after := _, guard := _ }) (v := .string (mkS X2)) rfl (by kernel_rfl) (by kernel_rfl) (by kernel_rfl) (fun _ _ _ h => h) (Or.inl ⟨by rfl, fun w hSw => by (try dsimp only at hSw); (try go_split_ands); go_simp⟩) (by first | trivial | assumption) ?_
        try simp only [Act.put, List.setIfInBounds_toArray, List.set_cons_zero, List.set_cons_succ]
        refine wpAnyH_take (i := 7) (oi := { dst := some 3, op := _, type := _, pos := _, after := _, guard := _ }) (v := .string (mkS X2)) rfl (by kernel_rfl) (by kernel_rfl) (by kernel_rfl) (fun _ _ _ h => h) (Or.inl ⟨by rfl, fun w hSw => by (try dsimp only at hSw); (try go_split_ands); go_simp⟩) (by first | trivial | assumption) ?_
        try simp only [Act.put, List.setIfInBounds_toArray, List.set_cons_zero, List.set_cons_succ]
        refine wpAnyH_done (by kernel_rfl) ?_ _
        go_wp2
        go_roundw
        case rel => exact ⟨1, X2, by omega, by go_num, by rw [HR1.out], rfl, HTk, HB2⟩
        case measure => simp [intOf]
    · have hP : rk z 1 / 3600 = prt z 1 := by simp only [rk, prt]; omega
      have hR : rk z 1 % 3600 = rk z 2 := by simp only [rk]; omega
      have hPl : prt z 1 ≤ 9223372036854775807 := Nat.le_trans (prt_le z 1) hz
      have hrl : rk z 1 ≤ 9223372036854775807 := by simp only [rk]; omega
      have t1 : Int.tdiv (rk z 1 : Int) 3600 = ((rk z 1 / 3600 : Nat) : Int) := rfl
      have t2 : Int.tmod (rk z 1 : Int) 3600 = ((rk z 1 % 3600 : Nat) : Int) := rfl
      rw [hP] at t1
      rw [hR] at t2
      clear hP hR
      have hix := ix1
      have HOn : Hid (one4 z 1 = Lib.itoa (prt z 1 : Int) ++ [104]) := rfl
      have HNz : Hid (prt z 1 = 0 → nxt4 z 1 = []) := fun h => if_pos h
      have HNn : Hid (prt z 1 ≠ 0 → nxt4 z 1 = one4 z 1) := fun h => if_neg h
      obtain ⟨P, hPP⟩ : ∃ P, P = prt z 1 := ⟨_, rfl⟩
      have HPP := hid hPP
      rw [← hPP] at t1 hPl HOn HNz HNn
      clear hPP
      obtain ⟨r1, hr1⟩ : ∃ r, r = rk z 2 := ⟨_, rfl⟩
      have HR1 := hid hr1
      rw [← hr1] at t2
      clear hr1
      generalize rk z 1 = r0 at *
      have HBa := hid (HB.out.alloc HB.out.size (.cells #[.int .i64 3600, .string (mkS [104])] 33))
      have d1 : (wr.alloc (.cells #[.int .i64 3600, .string (mkS [104])] 33)).cell? ⟨wr.heap.size, 1, none⟩ = some (.string (mkS [104])) := by go_simp
      have hBx : wr.heap.size < (wr.alloc (.cells #[.int .i64 3600, .string (mkS [104])] 33)).heap.size := by simp
      have D1 := hid d1
      clear d1
      have HC := fun (x : World) (h : Below w.heap.size w x) => hid (f8 (P : Int) x (by omega) (by omega) (HP.out.below h))
      have l1 := itoa_len (P : Int) (by omega) (by omega)
      generalize Lib.itoa (P : Int) = I1 at *
      have htl : t.length ≤ 22 := by
        rcases HT.out with ⟨rfl, _⟩ | ⟨_, _, _, rfl⟩
        · simp
        · exact one4_len _ hz
      obtain ⟨X1, h1⟩ : ∃ X, X = I1 ++ [104] := ⟨_, rfl⟩
      obtain ⟨X2, h2⟩ : ∃ X, X = t ++ X1 := ⟨_, rfl⟩
      have q1 : X1.length ≤ 22 := by rw [h1]; simp; omega
      have a1 : mkS I1 ++ mkS [104] = mkS X1 := by rw [h1]; exact mkS_app _ _
      have a2 : mkS t ++ mkS X1 = mkS X2 := by rw [h2]; exact mkS_app _ _
      have b1 : ¬ 9223372036854775807 < I1.length + 1 := by omega
      have b2 : ¬ 9223372036854775807 < t.length + X1.length := by omega
      have b3 : X1.length ≤ 9223372036854775807 := by omega
      rw [← h1] at HOn
      have H2 := hid h2
      clear h1 h2
      have D0 : Hid ((wr.alloc (.cells #[.int .i64 3600, .string (mkS [104])] 33)).drew.cell? ⟨wr.heap.size, 0, none⟩ = some (.int .i64 3600)) := by unfold Hid; go_simp
      rcases HT.out with ⟨rfl, h⟩ | ⟨_, g1, g2, g3⟩
      · by_cases hpz : P = 0
        · have hm : ¬ (P : Int) > 0 := by omega
          have HTk : Hid (Tk z 2 []) := .inl ⟨rfl, zero_more h (by rw [← HPP.out]; exact hpz)⟩
          clear hpz
          go_wp2
          go_roundw
          case rel => exact ⟨2, [], by omega, by go_num, by rw [HR1.out], rfl, HTk, HBa⟩
          case measure => simp [intOf]
        · have hm : (P : Int) > 0 := by omega
          have HTk : Hid (Tk z 2 X2) := .inr ⟨by omega, by show prt z 1 ≠ 0; rw [← HPP.out]; exact hpz, fun j hj => h j (by omega), by rw [H2.out, List.nil_append, ← HOn.out]⟩
          clear hpz
          go_wp2_with fail
          have dd1 : (wr.alloc (.cells #[.int .i64 3600, .string (mkS [104])] 33)).drew.cell? ⟨wr.heap.size, 1, none⟩ = some (.string (mkS [104])) := D1.out
          have HBd : Hid (Below w.heap.size w (wr.alloc (.cells #[.int .i64 3600, .string (mkS [104])] 33)).drew) := ⟨HBa.out.os, HBa.out.tape, HBa.out.output, HBa.out.size, HBa.out.block⟩
          have hBd : wr.heap.size < (wr.alloc (.cells #[.int .i64 3600, .string (mkS [104])] 33)).drew.heap.size := hBx
          refine wp_region_held_drew (S := fun x => x.cell? ⟨wr.heap.size, 1, none⟩ = some (.string (mkS [104]))) rfl dd1 (fun hHeld => ?_)
          refine wpAnyH_take (i := 0) (oi := { dst := some 20, op := _, type := _, pos := _, after := _, guard := _ }) (v := .string (mkS [])) rfl (by kernel_rfl) (by kernel_rfl) (by kernel_rfl) (fun _ _ _ h => h) (Or.inl ⟨by rfl, fun w hSw => by (try dsimp only at hSw); (try go_split_ands); go_simp⟩) (by first | trivial | assumption) ?_
          try simp only [Act.put, List.setIfInBounds_toArray, List.set_cons_zero, List.set_cons_succ]
          refine wpAnyH_take (i := 1) (oi := { dst := some 21, op := _, type := _, pos := _, after := _, guard := _ }) (v := .int .i64 (P : Int)) rfl (by kernel_rfl) (by kernel_rfl) (by kernel_rfl) (fun _ _ _ h => h) (Or.inl ⟨by rfl, fun w hSw => by (try dsimp only at hSw); (try go_split_ands); go_simp⟩) (by first | trivial | assumption) ?_
          try simp only [Act.put, List.setIfInBounds_toArray, List.set_cons_zero, List.set_cons_succ]
          refine wpAnyH_take (i := 3) (oi := { dst := some 23, op := _, type := _, pos := _, after := _, guard := _ }) (v := .pointer (some ⟨wr.heap.size, 1, none⟩)) rfl (by kernel_rfl) (by kernel_rfl) (by kernel_rfl) (fun _ _ _ h => h) (Or.inl ⟨by rfl, fun w hSw => by (try dsimp only at hSw); (try go_split_ands); go_simp⟩) (by first | trivial | assumption) ?_
          try simp only [Act.put, List.setIfInBounds_toArray, List.set_cons_zero, List.set_cons_succ]
          refine wpAnyH_take (i := 4) (oi := { dst := some 24, op := _, type := _, pos := _, after := _, guard := _ }) (v := .string (mkS [104])) rfl (by kernel_rfl) (by kernel_rfl) (by kernel_rfl) (fun _ _ _ h => h) (Or.inl ⟨by rfl, fun w hSw => by (try dsimp only at hSw); (try go_split_ands); go_simp⟩) (by first | trivial | assumption) ?_
          try simp only [Act.put, List.setIfInBounds_toArray, List.set_cons_zero, List.set_cons_succ]
          refine wpAnyH_ready (rs := [2]) (by kernel_rfl) (by simp) (AllReadyH.cons (o := { dst := some 22, op := _, type := _, pos := _, after := _, guard := _ }) rfl ?_ AllReadyH.nil)
          intro K1 hK1
          go_simp
          go_wp2_with (go_at_call 8; refine (HC _ HBd.out).out.mono ?_; rintro e w2 ⟨rfl, hb2⟩)
          have HB2 := hid (HBd.out.trans (hb2.mono HBd.out.size))
          have d2 : w2.cell? ⟨wr.heap.size, 1, none⟩ = some (.string (mkS [104])) := (hb2.cell (p := ⟨wr.heap.size, 1, none⟩) (by exact hBd)).trans dd1
          have dr0 : w2.cell? ⟨wr.heap.size, 0, none⟩ = some (.int .i64 3600) := (hb2.cell (p := ⟨wr.heap.size, 0, none⟩) (by exact hBd)).trans D0.out
          clear hb2
          refine hK1.out _ _ d2 (fun _ => ?_)
          clear hK1 K1
          try simp only [Act.put, List.setIfInBounds_toArray, List.set_cons_zero, List.set_cons_succ]
          refine wpAnyH_take (i := 5) (oi := { dst := some 25, op := _, type := _, pos := _, after := _, guard := _ }) (v := .string (mkS X1)) rfl (by kernel_rfl) (by kernel_rfl) (by kernel_rfl) (fun _ _ _ h => h) (Or.inl ⟨by rfl, fun w hSw => by (try dsimp only at hSw); (try go_split_ands); go_simp⟩) (by first | trivial | assumption) ?_
          try simp only [Act.put, List.setIfInBounds_toArray, List.set_cons_zero, List.set_cons_succ]
          refine wpAnyH_take (i := 6) (oi := { dst := some 26, op := _, type := _, pos := _, after := _, guard := _ }) (v := .string (mkS X2)) rfl (by kernel_rfl) (by kernel_rfl) (by kernel_rfl) (fun _ _ _ h => h) (Or.inl ⟨by rfl, fun w hSw => by (try dsimp only at hSw); (try go_split_ands); go_simp⟩) (by first | trivial | assumption) ?_
          try simp only [Act.put, List.setIfInBounds_toArray, List.set_cons_zero, List.set_cons_succ]
          refine wpAnyH_take (i := 7) (oi := { dst := some 3, op := _, type := _, pos := _, after := _, guard := _ }) (v := .string (mkS X2)) rfl (by kernel_rfl) (by kernel_rfl) (by kernel_rfl) (fun _ _ _ h => h) (Or.inl ⟨by rfl, fun w hSw => by (try dsimp only at hSw); (try go_split_ands); go_simp⟩) (by first | trivial | assumption) ?_
          try simp only [Act.put, List.setIfInBounds_toArray, List.set_cons_zero, List.set_cons_succ]
          refine wpAnyH_done (by kernel_rfl) ?_ _
          go_wp2
          go_roundw
          case rel => exact ⟨2, X2, by omega, by go_num, by rw [HR1.out], rfl, HTk, HB2⟩
          case measure => simp [intOf]
      · have HS := hid (sec0 g1)
        have hne := no_empty (t := t) (by rw [g3]; exact one4_ne _ _)
        have hg3 : one4 z 0 = t := g3.symm
        rw [hg3] at HS
        clear g1 g2 g3 hg3
        by_cases hpz : P = 0
        · have hm : ¬ (P : Int) > 0 := by omega
          have HS2 : Hid (sec z = t) := by unfold Hid; rw [HS.out, HNz.out hpz, List.append_nil]
          clear hpz
          go_wp2
          go_ret
          exact ⟨ret_str HS2.out.symm, HBa.out⟩
        · have hm : (P : Int) > 0 := by omega
          have HS2 : Hid (sec z = X2) := by unfold Hid; rw [HS.out, HNn.out hpz, HOn.out, H2.out]
          clear hpz
          go_wp2_with fail
          have dd1 : (wr.alloc (.cells #[.int .i64 3600, .string (mkS [104])] 33)).drew.cell? ⟨wr.heap.size, 1, none⟩ = some (.string (mkS [104])) := D1.out
          have HBd : Hid (Below w.heap.size w (wr.alloc (.cells #[.int .i64 3600, .string (mkS [104])] 33)).drew) := ⟨HBa.out.os, HBa.out.tape, HBa.out.output, HBa.out.size, HBa.out.block⟩
          have hBd : wr.heap.size < (wr.alloc (.cells #[.int .i64 3600, .string (mkS [104])] 33)).drew.heap.size := hBx
          refine wp_region_held_drew (S := fun x => x.cell? ⟨wr.heap.size, 1, none⟩ = some (.string (mkS [104]))) rfl dd1 (fun hHeld => ?_)
          refine wpAnyH_take (i := 0) (oi := { dst := some 20, op := _, type := _, pos := _, after := _, guard := _ }) (v := .string (mkS t)) rfl (by kernel_rfl) (by kernel_rfl) (by kernel_rfl) (fun _ _ _ h => h) (Or.inl ⟨by rfl, fun w hSw => by (try dsimp only at hSw); (try go_split_ands); go_simp⟩) (by first | trivial | assumption) ?_
          try simp only [Act.put, List.setIfInBounds_toArray, List.set_cons_zero, List.set_cons_succ]
          refine wpAnyH_take (i := 1) (oi := { dst := some 21, op := _, type := _, pos := _, after := _, guard := _ }) (v := .int .i64 (P : Int)) rfl (by kernel_rfl) (by kernel_rfl) (by kernel_rfl) (fun _ _ _ h => h) (Or.inl ⟨by rfl, fun w hSw => by (try dsimp only at hSw); (try go_split_ands); go_simp⟩) (by first | trivial | assumption) ?_
          try simp only [Act.put, List.setIfInBounds_toArray, List.set_cons_zero, List.set_cons_succ]
          refine wpAnyH_take (i := 3) (oi := { dst := some 23, op := _, type := _, pos := _, after := _, guard := _ }) (v := .pointer (some ⟨wr.heap.size, 1, none⟩)) rfl (by kernel_rfl) (by kernel_rfl) (by kernel_rfl) (fun _ _ _ h => h) (Or.inl ⟨by rfl, fun w hSw => by (try dsimp only at hSw); (try go_split_ands); go_simp⟩) (by first | trivial | assumption) ?_
          try simp only [Act.put, List.setIfInBounds_toArray, List.set_cons_zero, List.set_cons_succ]
          refine wpAnyH_take (i := 4) (oi := { dst := some 24, op := _, type := _, pos := _, after := _, guard := _ }) (v := .string (mkS [104])) rfl (by kernel_rfl) (by kernel_rfl) (by kernel_rfl) (fun _ _ _ h => h) (Or.inl ⟨by rfl, fun w hSw => by (try dsimp only at hSw); (try go_split_ands); go_simp⟩) (by first | trivial | assumption) ?_
          try simp only [Act.put, List.setIfInBounds_toArray, List.set_cons_zero, List.set_cons_succ]
          refine wpAnyH_ready (rs := [2]) (by kernel_rfl) (by simp) (AllReadyH.cons (o := { dst := some 22, op := _, type := _, pos := _, after := _, guard := _ }) rfl ?_ AllReadyH.nil)
          intro K1 hK1
          go_simp
          go_wp2_with (go_at_call 8; refine (HC _ HBd.out).out.mono ?_; rintro e w2 ⟨rfl, hb2⟩)
          have HB2 := hid (HBd.out.trans (hb2.mono HBd.out.size))
          have d2 : w2.cell? ⟨wr.heap.size, 1, none⟩ = some (.string (mkS [104])) := (hb2.cell (p := ⟨wr.heap.size, 1, none⟩) (by exact hBd)).trans dd1
          have dr0 : w2.cell? ⟨wr.heap.size, 0, none⟩ = some (.int .i64 3600) := (hb2.cell (p := ⟨wr.heap.size, 0, none⟩) (by exact hBd)).trans D0.out
          clear hb2
          refine hK1.out _ _ d2 (fun _ => ?_)
          clear hK1 K1
          try simp only [Act.put, List.setIfInBounds_toArray, List.set_cons_zero, List.set_cons_succ]
          refine wpAnyH_take (i := 5) (oi := { dst := some 25, op := _, type := _, pos := _, after := _, guard := _ }) (v := .string (mkS X1)) rfl (by kernel_rfl) (by kernel_rfl) (by kernel_rfl) (fun _ _ _ h => h) (Or.inl ⟨by rfl, fun w hSw => by (try dsimp only at hSw); (try go_split_ands); go_simp⟩) (by first | trivial | assumption) ?_
          try simp only [Act.put, List.setIfInBounds_toArray, List.set_cons_zero, List.set_cons_succ]
          refine wpAnyH_take (i := 6) (oi := { dst := some 26, op := _, type := _, pos := _, after := _, guard := _ }) (v := .string (mkS X2)) rfl (by kernel_rfl) (by kernel_rfl) (by kernel_rfl) (fun _ _ _ h => h) (Or.inl ⟨by rfl, fun w hSw => by (try dsimp only at hSw); (try go_split_ands); go_simp⟩) (by first | trivial | assumption) ?_
          try simp only [Act.put, List.setIfInBounds_toArray, List.set_cons_zero, List.set_cons_succ]
          refine wpAnyH_take (i := 7) (oi := { dst := some 3, op := _, type := _, pos := _, after := _, guard := _ }) (v := .string (mkS X2)) rfl (by kernel_rfl) (by kernel_rfl) (by kernel_rfl) (fun _ _ _ h => h) (Or.inl ⟨by rfl, fun w hSw => by (try dsimp only at hSw); (try go_split_ands); go_simp⟩) (by first | trivial | assumption) ?_
          try simp only [Act.put, List.setIfInBounds_toArray, List.set_cons_zero, List.set_cons_succ]
          refine wpAnyH_done (by kernel_rfl) ?_ _
          go_wp2
          go_ret
          exact ⟨ret_str HS2.out.symm, HB2.out⟩
    · have hP : rk z 2 / 60 = prt z 2 := by simp only [rk, prt]; omega
      have hR : rk z 2 % 60 = rk z 3 := by simp only [rk]; omega
      have hPl : prt z 2 ≤ 9223372036854775807 := Nat.le_trans (prt_le z 2) hz
      have hrl : rk z 2 ≤ 9223372036854775807 := by simp only [rk]; omega
      have t1 : Int.tdiv (rk z 2 : Int) 60 = ((rk z 2 / 60 : Nat) : Int) := rfl
      have t2 : Int.tmod (rk z 2 : Int) 60 = ((rk z 2 % 60 : Nat) : Int) := rfl
      rw [hP] at t1
      rw [hR] at t2
      clear hP hR
      have hix := ix2
      have HOn : Hid (one4 z 2 = Lib.itoa (prt z 2 : Int) ++ [109]) := rfl
      have HNz : Hid (prt z 2 = 0 → nxt4 z 2 = []) := fun h => if_pos h
      have HNn : Hid (prt z 2 ≠ 0 → nxt4 z 2 = one4 z 2) := fun h => if_neg h
      obtain ⟨P, hPP⟩ : ∃ P, P = prt z 2 := ⟨_, rfl⟩
      have HPP := hid hPP
      rw [← hPP] at t1 hPl HOn HNz HNn
      clear hPP
      obtain ⟨r1, hr1⟩ : ∃ r, r = rk z 3 := ⟨_, rfl⟩
      have HR1 := hid hr1
      rw [← hr1] at t2
      clear hr1
      generalize rk z 2 = r0 at *
      have HBa := hid (HB.out.alloc HB.out.size (.cells #[.int .i64 60, .string (mkS [109])] 33))
      have d1 : (wr.alloc (.cells #[.int .i64 60, .string (mkS [109])] 33)).cell? ⟨wr.heap.size, 1, none⟩ = some (.string (mkS [109])) := by go_simp
      have hBx : wr.heap.size < (wr.alloc (.cells #[.int .i64 60, .string (mkS [109])] 33)).heap.size := by simp
      have D1 := hid d1
      clear d1
      have HC := fun (x : World) (h : Below w.heap.size w x) => hid (f8 (P : Int) x (by omega) (by omega) (HP.out.below h))
      have l1 := itoa_len (P : Int) (by omega) (by omega)
      generalize Lib.itoa (P : Int) = I1 at *
      have htl : t.length ≤ 22 := by
        rcases HT.out with ⟨rfl, _⟩ | ⟨_, _, _, rfl⟩
        · simp
        · exact one4_len _ hz
      obtain ⟨X1, h1⟩ : ∃ X, X = I1 ++ [109] := ⟨_, rfl⟩
      obtain ⟨X2, h2⟩ : ∃ X, X = t ++ X1 := ⟨_, rfl⟩
      have q1 : X1.length ≤ 22 := by rw [h1]; simp; omega
      have a1 : mkS I1 ++ mkS [109] = mkS X1 := by rw [h1]; exact mkS_app _ _
      have a2 : mkS t ++ mkS X1 = mkS X2 := by rw [h2]; exact mkS_app _ _
      have b1 : ¬ 9223372036854775807 < I1.length + 1 := by omega
      have b2 : ¬ 9223372036854775807 < t.length + X1.length := by omega
      have b3 : X1.length ≤ 9223372036854775807 := by omega
      rw [← h1] at HOn
      have H2 := hid h2
      clear h1 h2
      have D0 : Hid ((wr.alloc (.cells #[.int .i64 60, .string (mkS [109])] 33)).drew.cell? ⟨wr.heap.size, 0, none⟩ = some (.int .i64 60)) := by unfold Hid; go_simp
      rcases HT.out with ⟨rfl, h⟩ | ⟨_, g1, g2, g3⟩
      · by_cases hpz : P = 0
        · have hm : ¬ (P : Int) > 0 := by omega
          have HTk : Hid (Tk z 3 []) := .inl ⟨rfl, zero_more h (by rw [← HPP.out]; exact hpz)⟩
          clear hpz
          go_wp2
          go_roundw
          case rel => exact ⟨3, [], by omega, by go_num, by rw [HR1.out], rfl, HTk, HBa⟩
          case measure => simp [intOf]
        · have hm : (P : Int) > 0 := by omega
          have HTk : Hid (Tk z 3 X2) := .inr ⟨by omega, by show prt z 2 ≠ 0; rw [← HPP.out]; exact hpz, fun j hj => h j (by omega), by rw [H2.out, List.nil_append, ← HOn.out]⟩
          clear hpz
          go_wp2_with fail
          have dd1 : (wr.alloc (.cells #[.int .i64 60, .string (mkS [109])] 33)).drew.cell? ⟨wr.heap.size, 1, none⟩ = some (.string (mkS [109])) := D1.out
          have HBd : Hid (Below w.heap.size w (wr.alloc (.cells #[.int .i64 60, .string (mkS [109])] 33)).drew) := ⟨HBa.out.os, HBa.out.tape, HBa.out.output, HBa.out.size, HBa.out.block⟩
          have hBd : wr.heap.size < (wr.alloc (.cells #[.int .i64 60, .string (mkS [109])] 33)).drew.heap.size := hBx
          refine wp_region_held_drew (S := fun x => x.cell? ⟨wr.heap.size, 1, none⟩ = some (.string (mkS [109]))) rfl dd1 (fun hHeld => ?_)
          refine wpAnyH_take (i := 0) (oi := { dst := some 20, op := _, type := _, pos := _, after := _, guard := _ }) (v := .string (mkS [])) rfl (by kernel_rfl) (by kernel_rfl) (by kernel_rfl) (fun _ _ _ h => h) (Or.inl ⟨by rfl, fun w hSw => by (try dsimp only at hSw); (try go_split_ands); go_simp⟩) (by first | trivial | assumption) ?_
          try simp only [Act.put, List.setIfInBounds_toArray, List.set_cons_zero, List.set_cons_succ]
          refine wpAnyH_take (i := 1) (oi := { dst := some 21, op := _, type := _, pos := _, after := _, guard := _ }) (v := .int .i64 (P : Int)) rfl (by kernel_rfl) (by kernel_rfl) (by kernel_rfl) (fun _ _ _ h => h) (Or.inl ⟨by rfl, fun w hSw => by (try dsimp only at hSw); (try go_split_ands); go_simp⟩) (by first | trivial | assumption) ?_
          try simp only [Act.put, List.setIfInBounds_toArray, List.set_cons_zero, List.set_cons_succ]
          refine wpAnyH_take (i := 3) (oi := { dst := some 23, op := _, type := _, pos := _, after := _, guard := _ }) (v := .pointer (some ⟨wr.heap.size, 1, none⟩)) rfl (by kernel_rfl) (by kernel_rfl) (by kernel_rfl) (fun _ _ _ h => h) (Or.inl ⟨by rfl, fun w hSw => by (try dsimp only at hSw); (try go_split_ands); go_simp⟩) (by first | trivial | assumption) ?_
          try simp only [Act.put, List.setIfInBounds_toArray, List.set_cons_zero, List.set_cons_succ]
          refine wpAnyH_take (i := 4) (oi := { dst := some 24, op := _, type := _, pos := _, after := _, guard := _ }) (v := .string (mkS [109])) rfl (by kernel_rfl) (by kernel_rfl) (by kernel_rfl) (fun _ _ _ h => h) (Or.inl ⟨by rfl, fun w hSw => by (try dsimp only at hSw); (try go_split_ands); go_simp⟩) (by first | trivial | assumption) ?_
          try simp only [Act.put, List.setIfInBounds_toArray, List.set_cons_zero, List.set_cons_succ]
          refine wpAnyH_ready (rs := [2]) (by kernel_rfl) (by simp) (AllReadyH.cons (o := { dst := some 22, op := _, type := _, pos := _, after := _, guard := _ }) rfl ?_ AllReadyH.nil)
          intro K1 hK1
          go_simp
          go_wp2_with (go_at_call 8; refine (HC _ HBd.out).out.mono ?_; rintro e w2 ⟨rfl, hb2⟩)
          have HB2 := hid (HBd.out.trans (hb2.mono HBd.out.size))
          have d2 : w2.cell? ⟨wr.heap.size, 1, none⟩ = some (.string (mkS [109])) := (hb2.cell (p := ⟨wr.heap.size, 1, none⟩) (by exact hBd)).trans dd1
          have dr0 : w2.cell? ⟨wr.heap.size, 0, none⟩ = some (.int .i64 60) := (hb2.cell (p := ⟨wr.heap.size, 0, none⟩) (by exact hBd)).trans D0.out
          clear hb2
          refine hK1.out _ _ d2 (fun _ => ?_)
          clear hK1 K1
          try simp only [Act.put, List.setIfInBounds_toArray, List.set_cons_zero, List.set_cons_succ]
          refine wpAnyH_take (i := 5) (oi := { dst := some 25, op := _, type := _, pos := _, after := _, guard := _ }) (v := .string (mkS X1)) rfl (by kernel_rfl) (by kernel_rfl) (by kernel_rfl) (fun _ _ _ h => h) (Or.inl ⟨by rfl, fun w hSw => by (try dsimp only at hSw); (try go_split_ands); go_simp⟩) (by first | trivial | assumption) ?_
          try simp only [Act.put, List.setIfInBounds_toArray, List.set_cons_zero, List.set_cons_succ]
          refine wpAnyH_take (i := 6) (oi := { dst := some 26, op := _, type := _, pos := _, after := _, guard := _ }) (v := .string (mkS X2)) rfl (by kernel_rfl) (by kernel_rfl) (by kernel_rfl) (fun _ _ _ h => h) (Or.inl ⟨by rfl, fun w hSw => by (try dsimp only at hSw); (try go_split_ands); go_simp⟩) (by first | trivial | assumption) ?_
          try simp only [Act.put, List.setIfInBounds_toArray, List.set_cons_zero, List.set_cons_succ]
          refine wpAnyH_take (i := 7) (oi := { dst := some 3, op := _, type := _, pos := _, after := _, guard := _ }) (v := .string (mkS X2)) rfl (by kernel_rfl) (by kernel_rfl) (by kernel_rfl) (fun _ _ _ h => h) (Or.inl ⟨by rfl, fun w hSw => by (try dsimp only at hSw); (try go_split_ands); go_simp⟩) (by first | trivial | assumption) ?_
          try simp only [Act.put, List.setIfInBounds_toArray, List.set_cons_zero, List.set_cons_succ]
          refine wpAnyH_done (by kernel_rfl) ?_ _
          go_wp2
          go_roundw
          case rel => exact ⟨3, X2, by omega, by go_num, by rw [HR1.out], rfl, HTk, HB2⟩
          case measure => simp [intOf]
      · have HS := hid (sec1 (g2 0 (by omega)) g1)
        have hne := no_empty (t := t) (by rw [g3]; exact one4_ne _ _)
        have hg3 : one4 z 1 = t := g3.symm
        rw [hg3] at HS
        clear g1 g2 g3 hg3
        by_cases hpz : P = 0
        · have hm : ¬ (P : Int) > 0 := by omega
          have HS2 : Hid (sec z = t) := by unfold Hid; rw [HS.out, HNz.out hpz, List.append_nil]
          clear hpz
          go_wp2
          go_ret
          exact ⟨ret_str HS2.out.symm, HBa.out⟩
        · have hm : (P : Int) > 0 := by omega
          have HS2 : Hid (sec z = X2) := by unfold Hid; rw [HS.out, HNn.out hpz, HOn.out, H2.out]
          clear hpz
          go_wp2_with fail
          have dd1 : (wr.alloc (.cells #[.int .i64 60, .string (mkS [109])] 33)).drew.cell? ⟨wr.heap.size, 1, none⟩ = some (.string (mkS [109])) := D1.out
          have HBd : Hid (Below w.heap.size w (wr.alloc (.cells #[.int .i64 60, .string (mkS [109])] 33)).drew) := ⟨HBa.out.os, HBa.out.tape, HBa.out.output, HBa.out.size, HBa.out.block⟩
          have hBd : wr.heap.size < (wr.alloc (.cells #[.int .i64 60, .string (mkS [109])] 33)).drew.heap.size := hBx
          refine wp_region_held_drew (S := fun x => x.cell? ⟨wr.heap.size, 1, none⟩ = some (.string (mkS [109]))) rfl dd1 (fun hHeld => ?_)
          refine wpAnyH_take (i := 0) (oi := { dst := some 20, op := _, type := _, pos := _, after := _, guard := _ }) (v := .string (mkS t)) rfl (by kernel_rfl) (by kernel_rfl) (by kernel_rfl) (fun _ _ _ h => h) (Or.inl ⟨by rfl, fun w hSw => by (try dsimp only at hSw); (try go_split_ands); go_simp⟩) (by first | trivial | assumption) ?_
          try simp only [Act.put, List.setIfInBounds_toArray, List.set_cons_zero, List.set_cons_succ]
          refine wpAnyH_take (i := 1) (oi := { dst := some 21, op := _, type := _, pos := _, after := _, guard := _ }) (v := .int .i64 (P : Int)) rfl (by kernel_rfl) (by kernel_rfl) (by kernel_rfl) (fun _ _ _ h => h) (Or.inl ⟨by rfl, fun w hSw => by (try dsimp only at hSw); (try go_split_ands); go_simp⟩) (by first | trivial | assumption) ?_
          try simp only [Act.put, List.setIfInBounds_toArray, List.set_cons_zero, List.set_cons_succ]
          refine wpAnyH_take (i := 3) (oi := { dst := some 23, op := _, type := _, pos := _, after := _, guard := _ }) (v := .pointer (some ⟨wr.heap.size, 1, none⟩)) rfl (by kernel_rfl) (by kernel_rfl) (by kernel_rfl) (fun _ _ _ h => h) (Or.inl ⟨by rfl, fun w hSw => by (try dsimp only at hSw); (try go_split_ands); go_simp⟩) (by first | trivial | assumption) ?_
          try simp only [Act.put, List.setIfInBounds_toArray, List.set_cons_zero, List.set_cons_succ]
          refine wpAnyH_take (i := 4) (oi := { dst := some 24, op := _, type := _, pos := _, after := _, guard := _ }) (v := .string (mkS [109])) rfl (by kernel_rfl) (by kernel_rfl) (by kernel_rfl) (fun _ _ _ h => h) (Or.inl ⟨by rfl, fun w hSw => by (try dsimp only at hSw); (try go_split_ands); go_simp⟩) (by first | trivial | assumption) ?_
          try simp only [Act.put, List.setIfInBounds_toArray, List.set_cons_zero, List.set_cons_succ]
          refine wpAnyH_ready (rs := [2]) (by kernel_rfl) (by simp) (AllReadyH.cons (o := { dst := some 22, op := _, type := _, pos := _, after := _, guard := _ }) rfl ?_ AllReadyH.nil)
          intro K1 hK1
          go_simp
          go_wp2_with (go_at_call 8; refine (HC _ HBd.out).out.mono ?_; rintro e w2 ⟨rfl, hb2⟩)
          have HB2 := hid (HBd.out.trans (hb2.mono HBd.out.size))
          have d2 : w2.cell? ⟨wr.heap.size, 1, none⟩ = some (.string (mkS [109])) := (hb2.cell (p := ⟨wr.heap.size, 1, none⟩) (by exact hBd)).trans dd1
          have dr0 : w2.cell? ⟨wr.heap.size, 0, none⟩ = some (.int .i64 60) := (hb2.cell (p := ⟨wr.heap.size, 0, none⟩) (by exact hBd)).trans D0.out
          clear hb2
          refine hK1.out _ _ d2 (fun _ => ?_)
          clear hK1 K1
          try simp only [Act.put, List.setIfInBounds_toArray, List.set_cons_zero, List.set_cons_succ]
          refine wpAnyH_take (i := 5) (oi := { dst := some 25, op := _, type := _, pos := _, after := _, guard := _ }) (v := .string (mkS X1)) rfl (by kernel_rfl) (by kernel_rfl) (by kernel_rfl) (fun _ _ _ h => h) (Or.inl ⟨by rfl, fun w hSw => by (try dsimp only at hSw); (try go_split_ands); go_simp⟩) (by first | trivial | assumption) ?_
          try simp only [Act.put, List.setIfInBounds_toArray, List.set_cons_zero, List.set_cons_succ]
          refine wpAnyH_take (i := 6) (oi := { dst := some 26, op := _, type := _, pos := _, after := _, guard := _ }) (v := .string (mkS X2)) rfl (by kernel_rfl) (by kernel_rfl) (by kernel_rfl) (fun _ _ _ h => h) (Or.inl ⟨by rfl, fun w hSw => by (try dsimp only at hSw); (try go_split_ands); go_simp⟩) (by first | trivial | assumption) ?_
          try simp only [Act.put, List.setIfInBounds_toArray, List.set_cons_zero, List.set_cons_succ]
          refine wpAnyH_take (i := 7) (oi := { dst := some 3, op := _, type := _, pos := _, after := _, guard := _ }) (v := .string (mkS X2)) rfl (by kernel_rfl) (by kernel_rfl) (by kernel_rfl) (fun _ _ _ h => h) (Or.inl ⟨by rfl, fun w hSw => by (try dsimp only at hSw); (try go_split_ands); go_simp⟩) (by first | trivial | assumption) ?_
          try simp only [Act.put, List.setIfInBounds_toArray, List.set_cons_zero, List.set_cons_succ]
          refine wpAnyH_done (by kernel_rfl) ?_ _
          go_wp2
          go_ret
          exact ⟨ret_str HS2.out.symm, HB2.out⟩
    · have hP : rk z 3 / 1 = prt z 3 := by simp only [rk, prt]; omega
      have hR : rk z 3 % 1 = rk z 4 := by simp only [rk]; omega
      have hPl : prt z 3 ≤ 9223372036854775807 := Nat.le_trans (prt_le z 3) hz
      have hrl : rk z 3 ≤ 9223372036854775807 := by simp only [rk]; omega
      have t1 : Int.tdiv (rk z 3 : Int) 1 = ((rk z 3 / 1 : Nat) : Int) := rfl
      have t2 : Int.tmod (rk z 3 : Int) 1 = ((rk z 3 % 1 : Nat) : Int) := rfl
      rw [hP] at t1
      rw [hR] at t2
      clear hP hR
      have hix := ix3
      have HOn : Hid (one4 z 3 = Lib.itoa (prt z 3 : Int) ++ [115]) := rfl
      have HNz : Hid (prt z 3 = 0 → nxt4 z 3 = []) := fun h => if_pos h
      have HNn : Hid (prt z 3 ≠ 0 → nxt4 z 3 = one4 z 3) := fun h => if_neg h
      obtain ⟨P, hPP⟩ : ∃ P, P = prt z 3 := ⟨_, rfl⟩
      have HPP := hid hPP
      rw [← hPP] at t1 hPl HOn HNz HNn
      clear hPP
      obtain ⟨r1, hr1⟩ : ∃ r, r = rk z 4 := ⟨_, rfl⟩
      have HR1 := hid hr1
      rw [← hr1] at t2
      clear hr1
      generalize rk z 3 = r0 at *
      have HBa := hid (HB.out.alloc HB.out.size (.cells #[.int .i64 1, .string (mkS [115])] 33))
      have d1 : (wr.alloc (.cells #[.int .i64 1, .string (mkS [115])] 33)).cell? ⟨wr.heap.size, 1, none⟩ = some (.string (mkS [115])) := by go_simp
      have hBx : wr.heap.size < (wr.alloc (.cells #[.int .i64 1, .string (mkS [115])] 33)).heap.size := by simp
      have D1 := hid d1
      clear d1
      have HC := fun (x : World) (h : Below w.heap.size w x) => hid (f8 (P : Int) x (by omega) (by omega) (HP.out.below h))
      have l1 := itoa_len (P : Int) (by omega) (by omega)
      generalize Lib.itoa (P : Int) = I1 at *
      have htl : t.length ≤ 22 := by
        rcases HT.out with ⟨rfl, _⟩ | ⟨_, _, _, rfl⟩
        · simp
        · exact one4_len _ hz
      obtain ⟨X1, h1⟩ : ∃ X, X = I1 ++ [115] := ⟨_, rfl⟩
      obtain ⟨X2, h2⟩ : ∃ X, X = t ++ X1 := ⟨_, rfl⟩
      have q1 : X1.length ≤ 22 := by rw [h1]; simp; omega
      have a1 : mkS I1 ++ mkS [115] = mkS X1 := by rw [h1]; exact mkS_app _ _
      have a2 : mkS t ++ mkS X1 = mkS X2 := by rw [h2]; exact mkS_app _ _
      have b1 : ¬ 9223372036854775807 < I1.length + 1 := by omega
      have b2 : ¬ 9223372036854775807 < t.length + X1.length := by omega
      have b3 : X1.length ≤ 9223372036854775807 := by omega
      rw [← h1] at HOn
      have H2 := hid h2
      clear h1 h2
      have D0 : Hid ((wr.alloc (.cells #[.int .i64 1, .string (mkS [115])] 33)).drew.cell? ⟨wr.heap.size, 0, none⟩ = some (.int .i64 1)) := by unfold Hid; go_simp
      rcases HT.out with ⟨rfl, h⟩ | ⟨_, g1, g2, g3⟩
      · by_cases hpz : P = 0
        · have hm : ¬ (P : Int) > 0 := by omega
          have HTk : Hid (Tk z 4 []) := .inl ⟨rfl, zero_more h (by rw [← HPP.out]; exact hpz)⟩
          clear hpz
          go_wp2
          go_roundw
          case rel => exact ⟨4, [], by omega, by go_num, by rw [HR1.out], rfl, HTk, HBa⟩
          case measure => simp [intOf]
        · have hm : (P : Int) > 0 := by omega
          have HTk : Hid (Tk z 4 X2) := .inr ⟨by omega, by show prt z 3 ≠ 0; rw [← HPP.out]; exact hpz, fun j hj => h j (by omega), by rw [H2.out, List.nil_append, ← HOn.out]⟩
          clear hpz
          go_wp2_with fail
          have dd1 : (wr.alloc (.cells #[.int .i64 1, .string (mkS [115])] 33)).drew.cell? ⟨wr.heap.size, 1, none⟩ = some (.string (mkS [115])) := D1.out
          have HBd : Hid (Below w.heap.size w (wr.alloc (.cells #[.int .i64 1, .string (mkS [115])] 33)).drew) := ⟨HBa.out.os, HBa.out.tape, HBa.out.output, HBa.out.size, HBa.out.block⟩
          have hBd : wr.heap.size < (wr.alloc (.cells #[.int .i64 1, .string (mkS [115])] 33)).drew.heap.size := hBx
          refine wp_region_held_drew (S := fun x => x.cell? ⟨wr.heap.size, 1, none⟩ = some (.string (mkS [115]))) rfl dd1 (fun hHeld => ?_)
          refine wpAnyH_take (i := 0) (oi := { dst := some 20, op := _, type := _, pos := _, after := _, guard := _ }) (v := .string (mkS [])) rfl (by kernel_rfl) (by kernel_rfl) (by kernel_rfl) (fun _ _ _ h => h) (Or.inl ⟨by rfl, fun w hSw => by (try dsimp only at hSw); (try go_split_ands); go_simp⟩) (by first | trivial | assumption) ?_
          try simp only [Act.put, List.setIfInBounds_toArray, List.set_cons_zero, List.set_cons_succ]
          refine wpAnyH_take (i := 1) (oi := { dst := some 21, op := _, type := _, pos := _, after := _, guard := _ }) (v := .int .i64 (P : Int)) rfl (by kernel_rfl) (by kernel_rfl) (by kernel_rfl) (fun _ _ _ h => h) (Or.inl ⟨by rfl, fun w hSw => by (try dsimp only at hSw); (try go_split_ands); go_simp⟩) (by first | trivial | assumption) ?_
          try simp only [Act.put, List.setIfInBounds_toArray, List.set_cons_zero, List.set_cons_succ]
          refine wpAnyH_take (i := 3) (oi := { dst := some 23, op := _, type := _, pos := _, after := _, guard := _ }) (v := .pointer (some ⟨wr.heap.size, 1, none⟩)) rfl (by kernel_rfl) (by kernel_rfl) (by kernel_rfl) (fun _ _ _ h => h) (Or.inl ⟨by rfl, fun w hSw => by (try dsimp only at hSw); (try go_split_ands); go_simp⟩) (by first | trivial | assumption) ?_
          try simp only [Act.put, List.setIfInBounds_toArray, List.set_cons_zero, List.set_cons_succ]
          refine wpAnyH_take (i := 4) (oi := { dst := some 24, op := _, type := _, pos := _, after := _, guard := _ }) (v := .string (mkS [115])) rfl (by kernel_rfl) (by kernel_rfl) (by kernel_rfl) (fun _ _ _ h => h) (Or.inl ⟨by rfl, fun w hSw => by (try dsimp only at hSw); (try go_split_ands); go_simp⟩) (by first | trivial | assumption) ?_
          try simp only [Act.put, List.setIfInBounds_toArray, List.set_cons_zero, List.set_cons_succ]
          refine wpAnyH_ready (rs := [2]) (by kernel_rfl) (by simp) (AllReadyH.cons (o := { dst := some 22, op := _, type := _, pos := _, after := _, guard := _ }) rfl ?_ AllReadyH.nil)
          intro K1 hK1
          go_simp
          go_wp2_with (go_at_call 8; refine (HC _ HBd.out).out.mono ?_; rintro e w2 ⟨rfl, hb2⟩)
          have HB2 := hid (HBd.out.trans (hb2.mono HBd.out.size))
          have d2 : w2.cell? ⟨wr.heap.size, 1, none⟩ = some (.string (mkS [115])) := (hb2.cell (p := ⟨wr.heap.size, 1, none⟩) (by exact hBd)).trans dd1
          have dr0 : w2.cell? ⟨wr.heap.size, 0, none⟩ = some (.int .i64 1) := (hb2.cell (p := ⟨wr.heap.size, 0, none⟩) (by exact hBd)).trans D0.out
          clear hb2
          refine hK1.out _ _ d2 (fun _ => ?_)
          clear hK1 K1
          try simp only [Act.put, List.setIfInBounds_toArray, List.set_cons_zero, List.set_cons_succ]
          refine wpAnyH_take (i := 5) (oi := { dst := some 25, op := _, type := _, pos := _, after := _, guard := _ }) (v := .string (mkS X1)) rfl (by kernel_rfl) (by kernel_rfl) (by kernel_rfl) (fun _ _ _ h => h) (Or.inl ⟨by rfl, fun w hSw => by (try dsimp only at hSw); (try go_split_ands); go_simp⟩) (by first | trivial | assumption) ?_
          try simp only [Act.put, List.setIfInBounds_toArray, List.set_cons_zero, List.set_cons_succ]
          refine wpAnyH_take (i := 6) (oi := { dst := some 26, op := _, type := _, pos := _, after := _, guard := _ }) (v := .string (mkS X2)) rfl (by kernel_rfl) (by kernel_rfl) (by kernel_rfl) (fun _ _ _ h => h) (Or.inl ⟨by rfl, fun w hSw => by (try dsimp only at hSw); (try go_split_ands); go_simp⟩) (by first | trivial | assumption) ?_
          try simp only [Act.put, List.setIfInBounds_toArray, List.set_cons_zero, List.set_cons_succ]
          refine wpAnyH_take (i := 7) (oi := { dst := some 3, op := _, type := _, pos := _, after := _, guard := _ }) (v := .string (mkS X2)) rfl (by kernel_rfl) (by kernel_rfl) (by kernel_rfl) (fun _ _ _ h => h) (Or.inl ⟨by rfl, fun w hSw => by (try dsimp only at hSw); (try go_split_ands); go_simp⟩) (by first | trivial | assumption) ?_
          try simp only [Act.put, List.setIfInBounds_toArray, List.set_cons_zero, List.set_cons_succ]
          refine wpAnyH_done (by kernel_rfl) ?_ _
          go_wp2
          go_roundw
          case rel => exact ⟨4, X2, by omega, by go_num, by rw [HR1.out], rfl, HTk, HB2⟩
          case measure => simp [intOf]
      · have HS := hid (sec2 (g2 0 (by omega)) (g2 1 (by omega)) g1)
        have hne := no_empty (t := t) (by rw [g3]; exact one4_ne _ _)
        have hg3 : one4 z 2 = t := g3.symm
        rw [hg3] at HS
        clear g1 g2 g3 hg3
        by_cases hpz : P = 0
        · have hm : ¬ (P : Int) > 0 := by omega
          have HS2 : Hid (sec z = t) := by unfold Hid; rw [HS.out, HNz.out hpz, List.append_nil]
          clear hpz
          go_wp2
          go_ret
          exact ⟨ret_str HS2.out.symm, HBa.out⟩
        · have hm : (P : Int) > 0 := by omega
          have HS2 : Hid (sec z = X2) := by unfold Hid; rw [HS.out, HNn.out hpz, HOn.out, H2.out]
          clear hpz
          go_wp2_with fail
          have dd1 : (wr.alloc (.cells #[.int .i64 1, .string (mkS [115])] 33)).drew.cell? ⟨wr.heap.size, 1, none⟩ = some (.string (mkS [115])) := D1.out
          have HBd : Hid (Below w.heap.size w (wr.alloc (.cells #[.int .i64 1, .string (mkS [115])] 33)).drew) := ⟨HBa.out.os, HBa.out.tape, HBa.out.output, HBa.out.size, HBa.out.block⟩
          have hBd : wr.heap.size < (wr.alloc (.cells #[.int .i64 1, .string (mkS [115])] 33)).drew.heap.size := hBx
          refine wp_region_held_drew (S := fun x => x.cell? ⟨wr.heap.size, 1, none⟩ = some (.string (mkS [115]))) rfl dd1 (fun hHeld => ?_)
          refine wpAnyH_take (i := 0) (oi := { dst := some 20, op := _, type := _, pos := _, after := _, guard := _ }) (v := .string (mkS t)) rfl (by kernel_rfl) (by kernel_rfl) (by kernel_rfl) (fun _ _ _ h => h) (Or.inl ⟨by rfl, fun w hSw => by (try dsimp only at hSw); (try go_split_ands); go_simp⟩) (by first | trivial | assumption) ?_
          try simp only [Act.put, List.setIfInBounds_toArray, List.set_cons_zero, List.set_cons_succ]
          refine wpAnyH_take (i := 1) (oi := { dst := some 21, op := _, type := _, pos := _, after := _, guard := _ }) (v := .int .i64 (P : Int)) rfl (by kernel_rfl) (by kernel_rfl) (by kernel_rfl) (fun _ _ _ h => h) (Or.inl ⟨by rfl, fun w hSw => by (try dsimp only at hSw); (try go_split_ands); go_simp⟩) (by first | trivial | assumption) ?_
          try simp only [Act.put, List.setIfInBounds_toArray, List.set_cons_zero, List.set_cons_succ]
          refine wpAnyH_take (i := 3) (oi := { dst := some 23, op := _, type := _, pos := _, after := _, guard := _ }) (v := .pointer (some ⟨wr.heap.size, 1, none⟩)) rfl (by kernel_rfl) (by kernel_rfl) (by kernel_rfl) (fun _ _ _ h => h) (Or.inl ⟨by rfl, fun w hSw => by (try dsimp only at hSw); (try go_split_ands); go_simp⟩) (by first | trivial | assumption) ?_
          try simp only [Act.put, List.setIfInBounds_toArray, List.set_cons_zero, List.set_cons_succ]
          refine wpAnyH_take (i := 4) (oi := { dst := some 24, op := _, type := _, pos := _, after := _, guard := _ }) (v := .string (mkS [115])) rfl (by kernel_rfl) (by kernel_rfl) (by kernel_rfl) (fun _ _ _ h => h) (Or.inl ⟨by rfl, fun w hSw => by (try dsimp only at hSw); (try go_split_ands); go_simp⟩) (by first | trivial | assumption) ?_
          try simp only [Act.put, List.setIfInBounds_toArray, List.set_cons_zero, List.set_cons_succ]
          refine wpAnyH_ready (rs := [2]) (by kernel_rfl) (by simp) (AllReadyH.cons (o := { dst := some 22, op := _, type := _, pos := _, after := _, guard := _ }) rfl ?_ AllReadyH.nil)
          intro K1 hK1
          go_simp
          go_wp2_with (go_at_call 8; refine (HC _ HBd.out).out.mono ?_; rintro e w2 ⟨rfl, hb2⟩)
          have HB2 := hid (HBd.out.trans (hb2.mono HBd.out.size))
          have d2 : w2.cell? ⟨wr.heap.size, 1, none⟩ = some (.string (mkS [115])) := (hb2.cell (p := ⟨wr.heap.size, 1, none⟩) (by exact hBd)).trans dd1
          have dr0 : w2.cell? ⟨wr.heap.size, 0, none⟩ = some (.int .i64 1) := (hb2.cell (p := ⟨wr.heap.size, 0, none⟩) (by exact hBd)).trans D0.out
          clear hb2
          refine hK1.out _ _ d2 (fun _ => ?_)
          clear hK1 K1
          try simp only [Act.put, List.setIfInBounds_toArray, List.set_cons_zero, List.set_cons_succ]
          refine wpAnyH_take (i := 5) (oi := { dst := some 25, op := _, type := _, pos := _, after := _, guard := _ }) (v := .string (mkS X1)) rfl (by kernel_rfl) (by kernel_rfl) (by kernel_rfl) (fun _ _ _ h => h) (Or.inl ⟨by rfl, fun w hSw => by (try dsimp only at hSw); (try go_split_ands); go_simp⟩) (by first | trivial | assumption) ?_
          try simp only [Act.put, List.setIfInBounds_toArray, List.set_cons_zero, List.set_cons_succ]
          refine wpAnyH_take (i := 6) (oi := { dst := some 26, op := _, type := _, pos := _, after := _, guard := _ }) (v := .string (mkS X2)) rfl (by kernel_rfl) (by kernel_rfl) (by kernel_rfl) (fun _ _ _ h => h) (Or.inl ⟨by rfl, fun w hSw => by (try dsimp only at hSw); (try go_split_ands); go_simp⟩) (by first | trivial | assumption) ?_
          try simp only [Act.put, List.setIfInBounds_toArray, List.set_cons_zero, List.set_cons_succ]
          refine wpAnyH_take (i := 7) (oi := { dst := some 3, op := _, type := _, pos := _, after := _, guard := _ }) (v := .string (mkS X2)) rfl (by kernel_rfl) (by kernel_rfl) (by kernel_rfl) (fun _ _ _ h => h) (Or.inl ⟨by rfl, fun w hSw => by (try dsimp only at hSw); (try go_split_ands); go_simp⟩) (by first | trivial | assumption) ?_
          try simp only [Act.put, List.setIfInBounds_toArray, List.set_cons_zero, List.set_cons_succ]
          refine wpAnyH_done (by kernel_rfl) ?_ _
          go_wp2
          go_ret
          exact ⟨ret_str HS2.out.symm, HB2.out⟩
    · rcases HT.out with ⟨rfl, h⟩ | ⟨_, h1, h2, rfl⟩
      · have HS := hid (sec4 (h 0 (by omega)) (h 1 (by omega)) (h 2 (by omega)) (h 3 (by omega)))
        go_wp2
        go_ret
        exact ⟨ret_str HS.out.symm, HB.out⟩
      · have HS := hid (sec3 (h2 0 (by omega)) (h2 1 (by omega)) (h2 2 (by omega)) h1)
        have hne := no_empty (one4_ne z 3)
        generalize one4 z 3 = t at *
        go_wp2
        go_ret
        exact ⟨ret_str HS.out.symm, HB.out⟩
end Go.Proofs.YtihdjohpbcaogaaDoor.Unt
