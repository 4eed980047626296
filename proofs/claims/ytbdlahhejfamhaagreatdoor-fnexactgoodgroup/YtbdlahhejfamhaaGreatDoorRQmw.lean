/- Rows with nothing but what such nodes have, and whether rows say the same, as the model asks it. -/
import Derived.Test.YtbdlahhejfamhaaGreatDoorRC7
import Derived.Test.YtbdlahhejfamhaaGreatDoorRC8
import Derived.Test.YtbdlahhejfamhaaGreatDoorRC9
import Derived.Test.YtbdlahhejfamhaaGreatDoorRB0
import Derived.Test.YtbdlahhejfamhaaGreatDoorRA9
namespace Go.Proofs.YtbdlahhejfamhaaGreatDoor.Qry
open Go.RowKit
open Go.Proofs.YtbdlahhejfamhaaGreatDoor.Pat (ret_bool Mt m0 HasM)
open Go.Proofs.YtbdlahhejfamhaaGreatDoor.Fil (HasT FitT)

theorem f132 (q z : R) (w : World) (hm : z.ms = q.ms ∨ z.ms = []) (hl : Lst w q) (hl' : Lst w z) (hs : wt q ≤ 1048576) (hs' : wt z ≤ 1048576) : Calls Tryz.prog 132 #[agR q, agR z] w fun e w' => (∃ b, e = .returned (.bool b) ∧ (b = true ↔ pl q = pl z)) ∧ Below w.heap.size w w' := by
  by_cases hne : z.ms = q.ms ∧ z.ns = q.ns ∧ z.es = q.es
  case neg =>
    refine (diffNode q z w hm hne hl hl' hs hs').mono ?_
    rintro e w' ⟨rfl, hb⟩
    refine ⟨⟨false, rfl, fun h => (by cases h), fun h => absurd ?_ hne⟩, hb⟩
    have e1 := congrArg (fun p => p.ms) h
    have e2 := congrArg (fun p => p.ns) h
    have e3 := congrArg (fun p => p.es) h
    exact ⟨e1.symm, e2.symm, e3.symm⟩
  obtain ⟨kd, nu, st, tx, op, ms, ma, mc, off, fx, att, bo, byy, ns, na, nc, sd, es, ea, ec, kc⟩ := q
  obtain ⟨kd', nu', st', tx', op', ms', ma', mc', off', fx', att', bo', byy', ns', na', nc', sd', es', ea', ec', kc'⟩ := z
  obtain ⟨lm, ln, le⟩ := hl
  obtain ⟨lm', ln', le'⟩ := hl'
  simp only at hne
  obtain ⟨rfl, rfl, rfl⟩ := hne
  simp only [wt] at hs hs' hm lm ln le lm' ln' le'
  by_cases hkd : kd = kd'
  case neg =>
    refine (same_kd kd nu st tx op off fx att bo byy sd kc kd' nu' st' tx' op' off' fx' att' bo' byy' sd' kc' ms' ns' es' ma na ea ma' na' ea' mc nc ec mc' nc' ec' w lm ln le lm' ln' le' (by omega) (by omega) (by omega) hkd).mono ?_
    rintro e w' ⟨rfl, hb⟩
    exact ⟨⟨false, rfl, fun h => (by cases h), fun h => absurd (congrArg (fun p => p.kd) h) hkd⟩, hb⟩
  subst hkd
  by_cases hnu : nu = nu'
  case neg =>
    refine (same_nu kd nu st tx op off fx att bo byy sd kc nu' st' tx' op' off' fx' att' bo' byy' sd' kc' ms' ns' es' ma na ea ma' na' ea' mc nc ec mc' nc' ec' w lm ln le lm' ln' le' (by omega) (by omega) (by omega) hnu).mono ?_
    rintro e w' ⟨rfl, hb⟩
    exact ⟨⟨false, rfl, fun h => (by cases h), fun h => absurd (congrArg (fun p => p.nu) h) hnu⟩, hb⟩
  subst hnu
  by_cases hst : st = st'
  case neg =>
    refine (same_st kd nu st tx op off fx att bo byy sd kc st' tx' op' off' fx' att' bo' byy' sd' kc' ms' ns' es' ma na ea ma' na' ea' mc nc ec mc' nc' ec' w lm ln le lm' ln' le' (by omega) (by omega) (by omega) hst).mono ?_
    rintro e w' ⟨rfl, hb⟩
    exact ⟨⟨false, rfl, fun h => (by cases h), fun h => absurd (congrArg (fun p => p.st) h) hst⟩, hb⟩
  subst hst
  by_cases htx : tx = tx'
  case neg =>
    refine (same_tx kd nu st tx op off fx att bo byy sd kc tx' op' off' fx' att' bo' byy' sd' kc' ms' ns' es' ma na ea ma' na' ea' mc nc ec mc' nc' ec' w lm ln le lm' ln' le' (by omega) (by omega) (by omega) htx).mono ?_
    rintro e w' ⟨rfl, hb⟩
    exact ⟨⟨false, rfl, fun h => (by cases h), fun h => absurd (congrArg (fun p => p.tx) h) htx⟩, hb⟩
  subst htx
  by_cases hop : op = op'
  case neg =>
    refine (same_op kd nu st tx op off fx att bo byy sd kc op' off' fx' att' bo' byy' sd' kc' ms' ns' es' ma na ea ma' na' ea' mc nc ec mc' nc' ec' w lm ln le lm' ln' le' (by omega) (by omega) (by omega) hop).mono ?_
    rintro e w' ⟨rfl, hb⟩
    exact ⟨⟨false, rfl, fun h => (by cases h), fun h => absurd (congrArg (fun p => p.op) h) hop⟩, hb⟩
  subst hop
  by_cases hoff : off = off'
  case neg =>
    refine (same_off kd nu st tx op off fx att bo byy sd kc off' fx' att' bo' byy' sd' kc' ms' ns' es' ma na ea ma' na' ea' mc nc ec mc' nc' ec' w lm ln le lm' ln' le' (by omega) (by omega) (by omega) hoff).mono ?_
    rintro e w' ⟨rfl, hb⟩
    exact ⟨⟨false, rfl, fun h => (by cases h), fun h => absurd (congrArg (fun p => p.off) h) hoff⟩, hb⟩
  subst hoff
  by_cases hfx : fx = fx'
  case neg =>
    refine (same_fx kd nu st tx op off fx att bo byy sd kc fx' att' bo' byy' sd' kc' ms' ns' es' ma na ea ma' na' ea' mc nc ec mc' nc' ec' w lm ln le lm' ln' le' (by omega) (by omega) (by omega) hfx).mono ?_
    rintro e w' ⟨rfl, hb⟩
    exact ⟨⟨false, rfl, fun h => (by cases h), fun h => absurd (congrArg (fun p => p.fx) h) hfx⟩, hb⟩
  subst hfx
  by_cases hatt : att = att'
  case neg =>
    refine (same_att kd nu st tx op off fx att bo byy sd kc att' bo' byy' sd' kc' ms' ns' es' ma na ea ma' na' ea' mc nc ec mc' nc' ec' w lm ln le lm' ln' le' (by omega) (by omega) (by omega) hatt).mono ?_
    rintro e w' ⟨rfl, hb⟩
    exact ⟨⟨false, rfl, fun h => (by cases h), fun h => absurd (congrArg (fun p => p.att) h) hatt⟩, hb⟩
  subst hatt
  by_cases hbo : bo = bo'
  case neg =>
    refine (same_bo kd nu st tx op off fx att bo byy sd kc bo' byy' sd' kc' ms' ns' es' ma na ea ma' na' ea' mc nc ec mc' nc' ec' w lm ln le lm' ln' le' (by omega) (by omega) (by omega) hbo).mono ?_
    rintro e w' ⟨rfl, hb⟩
    exact ⟨⟨false, rfl, fun h => (by cases h), fun h => absurd (congrArg (fun p => p.bo) h) hbo⟩, hb⟩
  subst hbo
  by_cases hbyy : byy = byy'
  case neg =>
    refine (same_byy kd nu st tx op off fx att bo byy sd kc byy' sd' kc' ms' ns' es' ma na ea ma' na' ea' mc nc ec mc' nc' ec' w lm ln le lm' ln' le' (by omega) (by omega) (by omega) hbyy).mono ?_
    rintro e w' ⟨rfl, hb⟩
    exact ⟨⟨false, rfl, fun h => (by cases h), fun h => absurd (congrArg (fun p => p.byy) h) hbyy⟩, hb⟩
  subst hbyy
  by_cases hsd : sd = sd'
  case neg =>
    refine (same_sd kd nu st tx op off fx att bo byy sd kc sd' kc' ms' ns' es' ma na ea ma' na' ea' mc nc ec mc' nc' ec' w lm ln le lm' ln' le' (by omega) (by omega) (by omega) hsd).mono ?_
    rintro e w' ⟨rfl, hb⟩
    exact ⟨⟨false, rfl, fun h => (by cases h), fun h => absurd (congrArg (fun p => p.sd) h) hsd⟩, hb⟩
  subst hsd
  by_cases hkc : kc = kc'
  case neg =>
    refine (same_kc kd nu st tx op off fx att bo byy sd kc kc' ms' ns' es' ma na ea ma' na' ea' mc nc ec mc' nc' ec' w lm ln le lm' ln' le' (by omega) (by omega) (by omega) hkc).mono ?_
    rintro e w' ⟨rfl, hb⟩
    exact ⟨⟨false, rfl, fun h => (by cases h), fun h => absurd (congrArg (fun p => p.kc) h) hkc⟩, hb⟩
  subst hkc
  refine (same_all kd nu st tx op off fx att bo byy sd kc  ms' ns' es' ma na ea ma' na' ea' mc nc ec mc' nc' ec' w lm ln le lm' ln' le' (by omega) (by omega) (by omega)).mono ?_
  rintro e w' ⟨rfl, hb⟩
  exact ⟨⟨true, rfl, fun _ => rfl, fun _ => rfl⟩, hb⟩
/-- The lists of a row are another's, or none. -/
structure Zl (q z : R) : Prop where
  m : (z.ms = q.ms ∧ z.ma = q.ma) ∨ z.ms = []
  n : (z.ns = q.ns ∧ z.na = q.na) ∨ z.ns = []
  e : (z.es = q.es ∧ z.ea = q.ea) ∨ z.es = []
theorem Zl.lst {q z : R} {w : World} (h : Zl q z) (hl : Lst w q) : Lst w z := by
  refine ⟨?_, ?_, ?_⟩
  · rcases h.m with ⟨e1, e2⟩ | e
    · rw [e1, e2]; exact hl.m
    · exact .inl e
  · rcases h.n with ⟨e1, e2⟩ | e
    · rw [e1, e2]; exact hl.n
    · exact .inl e
  · rcases h.e with ⟨e1, e2⟩ | e
    · rw [e1, e2]; exact hl.e
    · exact .inl e
theorem Zl.wt {q z : R} (h : Zl q z) : wt z ≤ wt q := by
  unfold Qry.wt
  have h1 : z.ms.length ≤ q.ms.length := by rcases h.m with ⟨e, _⟩ | e <;> rw [e] <;> simp
  have h2 : z.ns.length ≤ q.ns.length := by rcases h.n with ⟨e, _⟩ | e <;> rw [e] <;> simp
  have h3 : z.es.length ≤ q.es.length := by rcases h.e with ⟨e, _⟩ | e <;> rw [e] <;> simp
  omega
theorem Zl.ms {q z : R} (h : Zl q z) : z.ms = q.ms ∨ z.ms = [] := by
  rcases h.m with ⟨e, _⟩ | e
  · exact .inl e
  · exact .inr e
theorem f133 (q : R) (w : World) : Calls Tryz.prog 133 #[agR q] w fun e w' => ∃ z, e = .returned (agR z) ∧ pl z = zeroP (pl q) ∧ Zl q z ∧ Below w.heap.size w w' := by
  by_cases h1 : q.kd = 1
  · refine (zero_1 q w h1).mono ?_
    rintro e w' ⟨rfl, hb⟩
    refine ⟨zq1 q, rfl, ?_, ⟨.inr rfl, .inr rfl, .inr rfl⟩, hb⟩
    unfold zq1 zeroP pl
    simp [h1]
    try rfl
  by_cases h2 : q.kd = 2
  · refine (zero_2 q w h2).mono ?_
    rintro e w' ⟨rfl, hb⟩
    refine ⟨zq2 q, rfl, ?_, ⟨.inr rfl, .inr rfl, .inr rfl⟩, hb⟩
    unfold zq2 zeroP pl
    simp [h2]
    try rfl
  by_cases h9 : q.kd = 9
  · refine (zero_9 q w h9).mono ?_
    rintro e w' ⟨rfl, hb⟩
    refine ⟨zq9 q, rfl, ?_, ⟨.inr rfl, .inr rfl, .inr rfl⟩, hb⟩
    unfold zq9 zeroP pl
    simp [h9]
    try rfl
  by_cases h3 : q.kd = 3
  · refine (zero_3 q w h3).mono ?_
    rintro e w' ⟨rfl, hb⟩
    refine ⟨zq3 q, rfl, ?_, ⟨.inl ⟨rfl, rfl⟩, .inr rfl, .inr rfl⟩, hb⟩
    unfold zq3 zeroP pl
    simp [h3]
    try rfl
  by_cases h4 : q.kd = 4
  · refine (zero_4 q w h4).mono ?_
    rintro e w' ⟨rfl, hb⟩
    refine ⟨zq4 q, rfl, ?_, ⟨.inr rfl, .inr rfl, .inr rfl⟩, hb⟩
    unfold zq4 zeroP pl
    simp [h4]
    try rfl
  by_cases h5 : q.kd = 5
  · refine (zero_5 q w h5).mono ?_
    rintro e w' ⟨rfl, hb⟩
    refine ⟨zq5 q, rfl, ?_, ⟨.inr rfl, .inr rfl, .inr rfl⟩, hb⟩
    unfold zq5 zeroP pl
    simp [h5]
    try rfl
  by_cases h7 : q.kd = 7
  · refine (zero_7 q w h7).mono ?_
    rintro e w' ⟨rfl, hb⟩
    refine ⟨zq7 q, rfl, ?_, ⟨.inr rfl, .inl ⟨rfl, rfl⟩, .inl ⟨rfl, rfl⟩⟩, hb⟩
    unfold zq7 zeroP pl
    simp [h7]
    try rfl
  by_cases h8 : q.kd = 8
  · refine (zero_8 q w h8).mono ?_
    rintro e w' ⟨rfl, hb⟩
    refine ⟨zq8 q, rfl, ?_, ⟨.inr rfl, .inl ⟨rfl, rfl⟩, .inr rfl⟩, hb⟩
    unfold zq8 zeroP pl
    simp [h8]
    try rfl
  refine (zero_0 q w (by omega)).mono ?_
  rintro e w' ⟨rfl, hb⟩
  refine ⟨zq0 q, rfl, ?_, ⟨.inr rfl, .inr rfl, .inr rfl⟩, hb⟩
  unfold zq0 zeroP pl
  simp [h1, h2, h9, h3, h4, h5, h7, h8]
  try rfl
end Go.Proofs.YtbdlahhejfamhaaGreatDoor.Qry
