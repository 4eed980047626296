/- Whether a row has more than another one. -/
import Derived.Test.YtbdlahhejfamhaaGreatDoorRA8
namespace Go.Proofs.YtbdlahhejfamhaaGreatDoor.Qry
open Go.RowKit
open Go.Proofs.YtbdlahhejfamhaaGreatDoor.Pat (ret_bool)

set_option maxHeartbeats 16000000 in
set_option maxRecDepth 100000 in
theorem f103 (q t : R) (w : World) : Calls Tryz.prog 103 #[agR q, agR t] w fun e w' => (∃ b, e = .returned (.bool b) ∧ (b = false ↔ Eqm q t)) ∧ Below w.heap.size w w' := by
  obtain ⟨kd, nu, st, tx, op, ms, ma, mc, off, fx, att, bo, byy, ns, na, nc, sd, es, ea, ec, kc⟩ := q
  obtain ⟨kd', nu', st', tx', op', ms', ma', mc', off', fx', att', bo', byy', ns', na', nc', sd', es', ea', ec', kc'⟩ := t
  by_cases hnu : nu = nu'
  case neg =>
    have HN : Hid (¬ Eqm ⟨kd, nu, st, tx, op, ms, ma, mc, off, fx, att, bo, byy, ns, na, nc, sd, es, ea, ec, kc⟩ ⟨kd', nu', st', tx', op', ms', ma', mc', off', fx', att', bo', byy', ns', na', nc', sd', es', ea', ec', kc'⟩) := by
      unfold Eqm Hid
      simp only
      intro hh
      exact hnu (by simp_all)
    go_enter Tryz.func103, Tryz.ntmps103
    go_wp2
    go_ret
    exact ⟨⟨true, rfl, fun h => (by cases h), fun h => absurd h HN.out⟩, ((Below.refl _ _).alloc (Nat.le_refl _) _).alloc (by simp) _⟩
  subst hnu
  by_cases hst : st = st'
  case neg =>
    have HN : Hid (¬ Eqm ⟨kd, nu, st, tx, op, ms, ma, mc, off, fx, att, bo, byy, ns, na, nc, sd, es, ea, ec, kc⟩ ⟨kd', nu, st', tx', op', ms', ma', mc', off', fx', att', bo', byy', ns', na', nc', sd', es', ea', ec', kc'⟩) := by
      unfold Eqm Hid
      simp only
      intro hh
      exact hst (by simp_all)
    go_enter Tryz.func103, Tryz.ntmps103
    go_wp2
    go_ret
    exact ⟨⟨true, rfl, fun h => (by cases h), fun h => absurd h HN.out⟩, ((Below.refl _ _).alloc (Nat.le_refl _) _).alloc (by simp) _⟩
  subst hst
  by_cases htx : tx = tx'
  case neg =>
    have HN : Hid (¬ Eqm ⟨kd, nu, st, tx, op, ms, ma, mc, off, fx, att, bo, byy, ns, na, nc, sd, es, ea, ec, kc⟩ ⟨kd', nu, st, tx', op', ms', ma', mc', off', fx', att', bo', byy', ns', na', nc', sd', es', ea', ec', kc'⟩) := by
      unfold Eqm Hid
      simp only
      intro hh
      exact htx (by simp_all)
    have gtx := str_ne htx
    go_enter Tryz.func103, Tryz.ntmps103
    go_wp2
    go_ret
    exact ⟨⟨true, rfl, fun h => (by cases h), fun h => absurd h HN.out⟩, ((Below.refl _ _).alloc (Nat.le_refl _) _).alloc (by simp) _⟩
  subst htx
  by_cases hop : op = op'
  case neg =>
    have HN : Hid (¬ Eqm ⟨kd, nu, st, tx, op, ms, ma, mc, off, fx, att, bo, byy, ns, na, nc, sd, es, ea, ec, kc⟩ ⟨kd', nu, st, tx, op', ms', ma', mc', off', fx', att', bo', byy', ns', na', nc', sd', es', ea', ec', kc'⟩) := by
      unfold Eqm Hid
      simp only
      intro hh
      exact hop (by simp_all)
    go_enter Tryz.func103, Tryz.ntmps103
    go_wp2
    go_ret
    exact ⟨⟨true, rfl, fun h => (by cases h), fun h => absurd h HN.out⟩, ((Below.refl _ _).alloc (Nat.le_refl _) _).alloc (by simp) _⟩
  subst hop
  by_cases hbo : bo = bo'
  case neg =>
    have HN : Hid (¬ Eqm ⟨kd, nu, st, tx, op, ms, ma, mc, off, fx, att, bo, byy, ns, na, nc, sd, es, ea, ec, kc⟩ ⟨kd', nu, st, tx, op, ms', ma', mc', off', fx', att', bo', byy', ns', na', nc', sd', es', ea', ec', kc'⟩) := by
      unfold Eqm Hid
      simp only
      intro hh
      exact hbo (by simp_all)
    cases bo <;> cases bo' <;> first | exact absurd rfl hbo | skip
    all_goals
      clear hbo
      go_enter Tryz.func103, Tryz.ntmps103
      go_wp2
      go_ret
      exact ⟨⟨true, rfl, fun h => (by cases h), fun h => absurd h HN.out⟩, ((Below.refl _ _).alloc (Nat.le_refl _) _).alloc (by simp) _⟩
  subst hbo
  by_cases hoff : off = off'
  case neg =>
    have HN : Hid (¬ Eqm ⟨kd, nu, st, tx, op, ms, ma, mc, off, fx, att, bo, byy, ns, na, nc, sd, es, ea, ec, kc⟩ ⟨kd', nu, st, tx, op, ms', ma', mc', off', fx', att', bo, byy', ns', na', nc', sd', es', ea', ec', kc'⟩) := by
      unfold Eqm Hid
      simp only
      intro hh
      exact hoff (by simp_all)
    go_enter Tryz.func103, Tryz.ntmps103
    go_wp2
    go_ret
    exact ⟨⟨true, rfl, fun h => (by cases h), fun h => absurd h HN.out⟩, ((Below.refl _ _).alloc (Nat.le_refl _) _).alloc (by simp) _⟩
  subst hoff
  by_cases hfx : fx = fx'
  case neg =>
    have HN : Hid (¬ Eqm ⟨kd, nu, st, tx, op, ms, ma, mc, off, fx, att, bo, byy, ns, na, nc, sd, es, ea, ec, kc⟩ ⟨kd', nu, st, tx, op, ms', ma', mc', off, fx', att', bo, byy', ns', na', nc', sd', es', ea', ec', kc'⟩) := by
      unfold Eqm Hid
      simp only
      intro hh
      exact hfx (by simp_all)
    cases fx <;> cases fx' <;> first | exact absurd rfl hfx | skip
    all_goals
      clear hfx
      go_enter Tryz.func103, Tryz.ntmps103
      go_wp2
      go_ret
      exact ⟨⟨true, rfl, fun h => (by cases h), fun h => absurd h HN.out⟩, ((Below.refl _ _).alloc (Nat.le_refl _) _).alloc (by simp) _⟩
  subst hfx
  by_cases hatt : att = att'
  case neg =>
    have HN : Hid (¬ Eqm ⟨kd, nu, st, tx, op, ms, ma, mc, off, fx, att, bo, byy, ns, na, nc, sd, es, ea, ec, kc⟩ ⟨kd', nu, st, tx, op, ms', ma', mc', off, fx, att', bo, byy', ns', na', nc', sd', es', ea', ec', kc'⟩) := by
      unfold Eqm Hid
      simp only
      intro hh
      exact hatt (by simp_all)
    go_enter Tryz.func103, Tryz.ntmps103
    go_wp2
    go_ret
    exact ⟨⟨true, rfl, fun h => (by cases h), fun h => absurd h HN.out⟩, ((Below.refl _ _).alloc (Nat.le_refl _) _).alloc (by simp) _⟩
  subst hatt
  by_cases hbyy : byy = byy'
  case neg =>
    have HN : Hid (¬ Eqm ⟨kd, nu, st, tx, op, ms, ma, mc, off, fx, att, bo, byy, ns, na, nc, sd, es, ea, ec, kc⟩ ⟨kd', nu, st, tx, op, ms', ma', mc', off, fx, att, bo, byy', ns', na', nc', sd', es', ea', ec', kc'⟩) := by
      unfold Eqm Hid
      simp only
      intro hh
      exact hbyy (by simp_all)
    go_enter Tryz.func103, Tryz.ntmps103
    go_wp2
    go_ret
    exact ⟨⟨true, rfl, fun h => (by cases h), fun h => absurd h HN.out⟩, ((Below.refl _ _).alloc (Nat.le_refl _) _).alloc (by simp) _⟩
  subst hbyy
  by_cases hsd : sd = sd'
  case neg =>
    have HN : Hid (¬ Eqm ⟨kd, nu, st, tx, op, ms, ma, mc, off, fx, att, bo, byy, ns, na, nc, sd, es, ea, ec, kc⟩ ⟨kd', nu, st, tx, op, ms', ma', mc', off, fx, att, bo, byy, ns', na', nc', sd', es', ea', ec', kc'⟩) := by
      unfold Eqm Hid
      simp only
      intro hh
      exact hsd (by simp_all)
    go_enter Tryz.func103, Tryz.ntmps103
    go_wp2
    go_ret
    exact ⟨⟨true, rfl, fun h => (by cases h), fun h => absurd h HN.out⟩, ((Below.refl _ _).alloc (Nat.le_refl _) _).alloc (by simp) _⟩
  subst hsd
  by_cases hms : ms.length = ms'.length
  case neg =>
    have HN : Hid (¬ Eqm ⟨kd, nu, st, tx, op, ms, ma, mc, off, fx, att, bo, byy, ns, na, nc, sd, es, ea, ec, kc⟩ ⟨kd', nu, st, tx, op, ms', ma', mc', off, fx, att, bo, byy, ns', na', nc', sd, es', ea', ec', kc'⟩) := by
      unfold Eqm Hid
      simp only
      intro hh
      exact hms (by simp_all)
    have ims : ¬ (ms.length : Int) = (ms'.length : Int) := by omega
    go_enter Tryz.func103, Tryz.ntmps103
    go_wp2
    go_ret
    exact ⟨⟨true, rfl, fun h => (by cases h), fun h => absurd h HN.out⟩, ((Below.refl _ _).alloc (Nat.le_refl _) _).alloc (by simp) _⟩
  by_cases hns : ns.length = ns'.length
  case neg =>
    have HN : Hid (¬ Eqm ⟨kd, nu, st, tx, op, ms, ma, mc, off, fx, att, bo, byy, ns, na, nc, sd, es, ea, ec, kc⟩ ⟨kd', nu, st, tx, op, ms', ma', mc', off, fx, att, bo, byy, ns', na', nc', sd, es', ea', ec', kc'⟩) := by
      unfold Eqm Hid
      simp only
      intro hh
      exact hns (by simp_all)
    have ins : ¬ (ns.length : Int) = (ns'.length : Int) := by omega
    go_enter Tryz.func103, Tryz.ntmps103
    go_wp2
    go_ret
    exact ⟨⟨true, rfl, fun h => (by cases h), fun h => absurd h HN.out⟩, ((Below.refl _ _).alloc (Nat.le_refl _) _).alloc (by simp) _⟩
  by_cases hes : es.length = es'.length
  case neg =>
    have HN : Hid (¬ Eqm ⟨kd, nu, st, tx, op, ms, ma, mc, off, fx, att, bo, byy, ns, na, nc, sd, es, ea, ec, kc⟩ ⟨kd', nu, st, tx, op, ms', ma', mc', off, fx, att, bo, byy, ns', na', nc', sd, es', ea', ec', kc'⟩) := by
      unfold Eqm Hid
      simp only
      intro hh
      exact hes (by simp_all)
    have ies : ¬ (es.length : Int) = (es'.length : Int) := by omega
    go_enter Tryz.func103, Tryz.ntmps103
    go_wp2
    go_ret
    exact ⟨⟨_, rfl, fun h => absurd (show (es.length : Int) = (es'.length : Int) by simpa using h) (by omega), fun h => absurd h HN.out⟩, ((Below.refl _ _).alloc (Nat.le_refl _) _).alloc (by simp) _⟩
  have HY : Hid (Eqm ⟨kd, nu, st, tx, op, ms, ma, mc, off, fx, att, bo, byy, ns, na, nc, sd, es, ea, ec, kc⟩ ⟨kd', nu, st, tx, op, ms', ma', mc', off, fx, att, bo, byy, ns', na', nc', sd, es', ea', ec', kc'⟩) := by
    unfold Eqm Hid
    exact ⟨rfl, rfl, rfl, rfl, rfl, rfl, rfl, rfl, rfl, rfl, hms, hns, hes⟩
  have i1 : (ms.length : Int) = (ms'.length : Int) := by omega
  have i2 : (ns.length : Int) = (ns'.length : Int) := by omega
  have i3 : (es.length : Int) = (es'.length : Int) := by omega
  go_enter Tryz.func103, Tryz.ntmps103
  go_wp2
  go_ret
  exact ⟨⟨_, rfl, fun _ => HY.out, fun _ => by simp⟩, ((Below.refl _ _).alloc (Nat.le_refl _) _).alloc (by simp) _⟩
end Go.Proofs.YtbdlahhejfamhaaGreatDoor.Qry
