/- Lists of rules: eqRelabelS. -/
import Derived.Test.YtooackaijhpohaaGreatDoorQa
import Derived.Deep.RegionHeld3
namespace Go.Proofs.YtooackaijhpohaaGreatDoor.Rul
open Go.RowKit Go.Proofs.YtooackaijhpohaaGreatDoor.Fil Go.Proofs.YtooackaijhpohaaGreatDoor.Rel

theorem below_undrew {w w' : World} (h : Below w.drew.heap.size w.drew w') : Below w.heap.size w w' := ⟨h.os, h.tape, h.output, h.size, h.block⟩
/-- Two rules' cells, and their names; all that was there is as it was. -/
abbrev EE (w : World) (r : Rule) (b o b' o' : Nat) (a a' : Option Addr) (c c' : Nat) (x : World) : Prop :=
  x.cell? ⟨b, o, none⟩ = some (.int .i64 r.act) ∧ x.cell? ⟨b, o + 1, none⟩ = some (.slice a r.from'.length c) ∧ x.cell? ⟨b, o + 2, none⟩ = some (.string r.sep) ∧ x.cell? ⟨b, o + 3, none⟩ = some (.string r.pat) ∧ x.cell? ⟨b, o + 4, none⟩ = some (.string r.tgt) ∧ x.cell? ⟨b, o + 5, none⟩ = some (.string r.val) ∧ x.cell? ⟨b, o + 6, none⟩ = some (.int .i64 r.md) ∧
  x.cell? ⟨b', o', none⟩ = some (.int .i64 r.act) ∧ x.cell? ⟨b', o' + 1, none⟩ = some (.slice a' r.from'.length c') ∧ x.cell? ⟨b', o' + 2, none⟩ = some (.string r.sep) ∧ x.cell? ⟨b', o' + 3, none⟩ = some (.string r.pat) ∧ x.cell? ⟨b', o' + 4, none⟩ = some (.string r.tgt) ∧ x.cell? ⟨b', o' + 5, none⟩ = some (.string r.val) ∧ x.cell? ⟨b', o' + 6, none⟩ = some (.int .i64 r.md) ∧
  HasT x a r.from' ∧ HasT x a' r.from' ∧ b < x.heap.size ∧ b' < x.heap.size ∧ Below w.heap.size w x
theorem EE.below {w : World} {r : Rule} {b o b' o' : Nat} {a a' : Option Addr} {c c' : Nat} {x y : World} (h : EE w r b o b' o' a a' c c' x) (hb : Below x.heap.size x y) : EE w r b o b' o' a a' c c' y := by
  obtain ⟨h0, h1, h2, h3, h4, h5, h6, k0, k1, k2, k3, k4, k5, k6, t1, t2, l1, l2, hw⟩ := h
  have e1 : ∀ j, y.cell? ⟨b, j, none⟩ = x.cell? ⟨b, j, none⟩ := fun j => hb.cell (by exact l1)
  have e2 : ∀ j, y.cell? ⟨b', j, none⟩ = x.cell? ⟨b', j, none⟩ := fun j => hb.cell (by exact l2)
  exact ⟨(e1 _).trans h0, (e1 _).trans h1, (e1 _).trans h2, (e1 _).trans h3, (e1 _).trans h4, (e1 _).trans h5, (e1 _).trans h6, (e2 _).trans k0, (e2 _).trans k1, (e2 _).trans k2, (e2 _).trans k3, (e2 _).trans k4, (e2 _).trans k5, (e2 _).trans k6, t1.below hb, t2.below hb, Nat.lt_of_lt_of_le l1 hb.size, Nat.lt_of_lt_of_le l2 hb.size, hw.trans (hb.mono hw.size)⟩
theorem EE.drew {w : World} {r : Rule} {b o b' o' : Nat} {a a' : Option Addr} {c c' : Nat} {x : World} (h : EE w r b o b' o' a a' c c' x) : EE w r b o b' o' a a' c c' x.drew := h.below (Below.refl _ x).drew
theorem EE.t1 {w : World} {r : Rule} {b o b' o' : Nat} {a a' : Option Addr} {c c' : Nat} {x : World} (h : EE w r b o b' o' a a' c c' x) : HasT x a r.from' := h.2.2.2.2.2.2.2.2.2.2.2.2.2.2.1
theorem EE.t2 {w : World} {r : Rule} {b o b' o' : Nat} {a a' : Option Addr} {c c' : Nat} {x : World} (h : EE w r b o b' o' a a' c c' x) : HasT x a' r.from' := h.2.2.2.2.2.2.2.2.2.2.2.2.2.2.2.1
theorem EE.bel {w : World} {r : Rule} {b o b' o' : Nat} {a a' : Option Addr} {c c' : Nat} {x : World} (h : EE w r b o b' o' a a' c c' x) : Below w.heap.size w x := h.2.2.2.2.2.2.2.2.2.2.2.2.2.2.2.2.2.2
set_option maxHeartbeats 2000000 in
theorem f29 (a a' : Option Addr) (n c c' : Nat) (qs qs' : List Q) (w : World) (hn : qs.length = n) (hn' : qs'.length = n) (hb : n ≤ 1048576) (hr : HasR w a qs) (hr' : HasR w a' qs') (hs : ∀ i, i < n → (qs'.getD i q0).r = (qs.getD i q0).r) (hz : SmlQ qs) :
    Calls Tryz.prog 29 #[.slice a n c, .slice a' n c'] w fun e w' => e = .returned (.bool true) ∧ Below w.heap.size w w' := by
  have HN := hid hn
  have HN' := hid hn'
  have HR := hid hr
  have HR' := hid hr'
  have HS := hid hs
  have HZ := hid hz
  clear hn hn' hr hr' hs hz
  go_enter Tryz.func29, Tryz.ntmps29
  go_wp2
  go_loopw [5] (fun i wr => ∃ k : Nat, k ≤ n ∧ i = .int .i64 k ∧ Hid (Below w.heap.size w wr)) (fun i _ => n - (intOf i).toNat)
  case atStart => exact ⟨0, Nat.zero_le _, rfl, Below.refl _ _⟩
  case round =>
    obtain ⟨k, hk, rfl, HX⟩ := hrel
    by_cases hlt : k < n
    · obtain ⟨b, off, rfl, hbl, c0, c1, c2, c3, c4, c5, c6, hT⟩ := (HR.out).at7 k (by rw [HN.out]; exact hlt)
      obtain ⟨b', off', rfl, hbl', c0', c1', c2', c3', c4', c5', c6', hT'⟩ := (HR'.out).at7 k (by rw [HN'.out]; exact hlt)
      have d0 := (HX.out.cell (p := ⟨b, off + k * 7, none⟩) hbl).trans c0
      have d1 := (HX.out.cell (p := ⟨b, off + k * 7 + 1, none⟩) hbl).trans c1
      have d2 := (HX.out.cell (p := ⟨b, off + k * 7 + 2, none⟩) hbl).trans c2
      have d3 := (HX.out.cell (p := ⟨b, off + k * 7 + 3, none⟩) hbl).trans c3
      have d4 := (HX.out.cell (p := ⟨b, off + k * 7 + 4, none⟩) hbl).trans c4
      have d5 := (HX.out.cell (p := ⟨b, off + k * 7 + 5, none⟩) hbl).trans c5
      have d6 := (HX.out.cell (p := ⟨b, off + k * 7 + 6, none⟩) hbl).trans c6
      have d0' := (HX.out.cell (p := ⟨b', off' + k * 7, none⟩) hbl').trans c0'
      have d1' := (HX.out.cell (p := ⟨b', off' + k * 7 + 1, none⟩) hbl').trans c1'
      have d2' := (HX.out.cell (p := ⟨b', off' + k * 7 + 2, none⟩) hbl').trans c2'
      have d3' := (HX.out.cell (p := ⟨b', off' + k * 7 + 3, none⟩) hbl').trans c3'
      have d4' := (HX.out.cell (p := ⟨b', off' + k * 7 + 4, none⟩) hbl').trans c4'
      have d5' := (HX.out.cell (p := ⟨b', off' + k * 7 + 5, none⟩) hbl').trans c5'
      have d6' := (HX.out.cell (p := ⟨b', off' + k * 7 + 6, none⟩) hbl').trans c6'
      have HT := hid (hT.below HX.out)
      have HT' := hid (hT'.below HX.out)
      have he := HS.out k hlt
      have HL := hid ((HZ.out k (by rw [HN.out]; exact hlt)).n)
      rw [he] at d0' d1' d2' d3' d4' d5' d6' HT'
      generalize (qs'.getD k q0).a = a2 at *
      generalize (qs'.getD k q0).c = cc2 at *
      generalize qs.getD k q0 = q at *
      obtain ⟨r, aq, cq⟩ := q
      have HE : Hid (EE w r b (off + k * 7) b' (off' + k * 7) aq a2 cq cc2 wr) := ⟨d0, d1, d2, d3, d4, d5, d6, d0', d1', d2', d3', d4', d5', d6', HT.out, HT'.out, Nat.lt_of_lt_of_le hbl HX.out.size, Nat.lt_of_lt_of_le hbl' HX.out.size, HX.out⟩
      clear c0 c1 c2 c3 c4 c5 c6 hT hbl c0' c1' c2' c3' c4' c5' c6' hT' hbl' he d0 d1 d2 d3 d4 d5 d6 d0' d1' d2' d3' d4' d5' d6' HT HT'
      have i1 : (k : Int) < (n : Int) := by omega
      go_wp2_with fail
      go_region_held3 (fun x => EE w r b (off + k * 7) b' (off' + k * 7) aq a2 cq cc2 x) (first | exact HE.out.drew | assumption) (first | (go_at_call 52; refine (f52 r aq a2 r.from'.length cq cc2 _ rfl (EE.t1 (by assumption)) (EE.t2 (by assumption)) HL.out).mono ?_; rintro e w2 ⟨rfl, hb2⟩; have hs2 := EE.below (by assumption) hb2; clear hb2))
      have HX2 := hid hs2.bel
      clear hs2
      go_wp2
      go_roundw
      case rel => exact ⟨k + 1, by omega, by go_num, HX2.out⟩
      case measure => simp [intOf]; omega
    · go_wp2
      go_ret
      exact ⟨rfl, HX.out⟩
end Go.Proofs.YtooackaijhpohaaGreatDoor.Rul
