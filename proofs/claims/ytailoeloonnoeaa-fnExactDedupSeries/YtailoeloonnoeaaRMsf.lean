/- Lists of series joined: the program's joinLists at firstOf. -/
import Derived.Test.YtailoeloonnoeaaRMse
import Derived.Deep.QuietTactic
namespace Go.Proofs.Ytailoeloonnoeaa.Srs
open Go.RowKit
open Go.Proofs.Ytailoeloonnoeaa.Lab (Lb HasL cmpList)
open Go.Proofs.Ytailoeloonnoeaa.Smp (Sm HasS mrg)
open Go.Proofs.Ytailoeloonnoeaa.Stb (isort ltP ltQ runs upd eqv sortQ isort_mem isort_len isortQ foldl_runs)

/-- Two series of the same name, joined. -/
def jF (x y : Pl) : Pl := (x.1, mrg x.2 y.2)
theorem mrg_pos {xs ys : List Sm} (h : xs ≠ []) : mrg xs ys ≠ [] := by
  cases xs with
  | nil => exact absurd rfl h
  | cons p A =>
    cases ys with
    | nil => rw [Smp.mrg_nil_right]; simp
    | cons q B =>
      rw [Smp.mrg_cons]
      split
      · simp
      · split <;> simp
/-- Series that can be joined. -/
structure JQ (q : Q) : Prop where
  l1 : q.l ≠ []
  s1 : q.s ≠ []
  l2 : q.l.length ≤ 20
  s2 : q.s.length ≤ 2000
  d2 : q.d = q.s.length
theorem take_get {S : List Q} {k : Nat} (h : k < S.length) : S.take (k + 1) = S.take k ++ [S.getD k q0] := by
  rw [List.take_succ_eq_append_getElem h]; simp [h]
theorem get_mem' {S : List Q} {k : Nat} (h : k < S.length) : S.getD k q0 ∈ S := by
  have e : S.getD k q0 = S[k] := by simp [h]
  rw [e]; exact List.getElem_mem h
theorem own_hasO {w : World} {base n c E : Nat} {a : Option Addr} {qs : List Q} (h : w.ownsRow base E 2 (.slice a n c) n (flat qs)) (hT : ∀ q ∈ qs, HasL w q.a q.l ∧ HasS w q.b q.s) : HasQ w a qs := by
  rcases h.2 with ⟨_, h2⟩ | ⟨g, cap, cur, h1, _⟩
  · have := h.1
    rw [flat_len, h2] at this
    exact .inl (List.eq_nil_of_length_eq_zero (by omega))
  · simp only [Value.slice.injEq] at h1
    rw [h1.1] at h ⊢
    exact own_has h fun i hi => hT _ (get_mem' hi)
/-- The state: what is joined of the first k. -/
abbrev JR (S R : List Q) (k : Nat) : Prop := R.map pl = ((S.take k).map pl).foldl (upd ltP jF) [] ∧ ∀ q ∈ R, q.s ≠ [] ∧ q.l.length ≤ 20 ∧ q.s.length ≤ 2000 * k
/-- Whether the last one that is joined has the name of the one at hand. -/
def jb (R : List Q) (q : Q) : Bool := match R.getLast? with | none => false | some p => decide (cmpList p.l q.l = 0)
theorem jb_nil (q : Q) : jb [] q = false := rfl
theorem jb_snoc (R : List Q) (p q : Q) : jb (R ++ [p]) q = decide (cmpList p.l q.l = 0) := by simp [jb]
theorem snoc_of {R : List Q} {m : Nat} (h : R.length = m + 1) : ∃ R' p, R = R' ++ [p] ∧ R'.length = m := by
  have hne : R ≠ [] := by intro e; rw [e] at h; simp at h
  exact ⟨R.dropLast, R.getLast hne, (List.dropLast_concat_getLast hne).symm, by simp [h]⟩
/-- What is read: the last one that is joined, and the one at hand in its box. -/
abbrev SJ (g o B : Nat) (p q : Q) (W x : World) : Prop := x.cell? ⟨g, o, none⟩ = some (.slice p.a p.l.length p.c) ∧ x.cell? ⟨g, o + 1, none⟩ = some (.slice p.b p.s.length p.d) ∧ x.cell? ⟨B, 0, none⟩ = some (.slice q.a q.l.length q.c) ∧ x.cell? ⟨B, 1, none⟩ = some (.slice q.b q.s.length q.d) ∧ Below W.heap.size W x
theorem step_append_j {P : Program} {ops : Array Oper} {o : Oper} {a : Act} {w : World} {K : Act → World → Prop} {Q : Exit → Act → World → Prop} {E : Prop}
    (hg : o.guard = none) (s x : Operand) (t : TypeId) (hop : o.op = Op.call { callee := Callee.builtin Builtin.append, args := #[s, x], argTypes := #[t, t] })
    (base : Nat) (e : TypeId) (i : TypeInfo) (z : Value) (size bytes : Nat) (h1 : P.underlying t = some (.slice e)) (h2 : P.info? e = some i) (h3 : i.zero = some z) (h4 : i.size = size) (h5 : i.bytes = bytes) (h6 : z.cells.size = size) (h7 : 0 < size)
    (ao : Option Addr) (n cap : Nat) (olds : List Value) (hs : a.eval s = .slice ao n cap) (hown : w.ownsRow base e size (.slice ao n cap) n olds)
    (ad : Addr) (m c : Nat) (news : List Value) (hx : a.eval x = .slice (some ad) m c) (hn : news.length = m * size) (hc : ∀ j u, news[j]? = some u → w.cell? (ad.add j) = some u) (h1c : ∀ u ∈ news, u.oneCell' = true)
    (b1 : n + m ≤ maxLen) (b2 : (n + m) * bytes ≤ 140737488355328) (hbase : base ≤ w.heap.size)
    (hK : ∀ v' w', w'.ownsRow base e size v' (n + m) (olds ++ news) → w.grownBy w' (Value.slice ao n cap).ownBlock → (v'.ownBlock = (Value.slice ao n cap).ownBlock ∨ v'.ownBlock = some w.heap.size) → K (a.put o.dst v') w') :
    if Region.wanted o (yielded ops a.tmps) = true then Oper.wp P o a w K Q else E := by
  have hw : Region.wanted o (yielded ops a.tmps) = true := by simp [Region.wanted, hg]
  rw [if_pos hw]
  obtain ⟨v', w', hrun, r1, r2, _, r4⟩ := run_append_own_at (P := P) w base t o.type e i z size bytes h1 h2 h3 h4 h5 h6 h7 (.slice ao n cap) n olds hown ad m c news hn hc h1c b1 b2 hbase
  unfold Oper.wp
  simp [execOp, hop, resolve, invoke, builtin, hs, hx, hrun, Result.andThen]
  exact hK v' w' r1 r2 r4
/-- The one at hand in its box. -/
abbrev SB (q : Q) (B : Nat) (x : World) : Prop := x.cell? ⟨B, 0, none⟩ = some (.slice q.a q.l.length q.c) ∧ x.cell? ⟨B, 1, none⟩ = some (.slice q.b q.s.length q.d)
theorem own_formP {w : World} {base e size n : Nat} {v : Value} {xs : List Value} (h : w.ownsRow base e size v n xs) (hp : 0 < n) : ∃ g c, v = .slice (some ⟨g, 0, none⟩) n c := by
  rcases h.2 with ⟨_, h2⟩ | ⟨g, cap, cur, h1, _⟩
  · omega
  · exact ⟨g, cap, h1⟩
theorem JR.join {S R' : List Q} {p q q' : Q} {k : Nat} (h : JR S (R' ++ [p]) k) (ht : S.take (k + 1) = S.take k ++ [q]) (hc : cmpList p.l q.l = 0) (hq : JQ q) (hl : q'.l = p.l) (hs : q'.s = mrg p.s q.s) : JR S (R' ++ [q']) (k + 1) := by
  refine ⟨?_, fun x hx => ?_⟩
  · rw [ht, show (S.take k ++ [q]).map pl = (S.take k).map pl ++ [pl q] by simp, List.foldl_append, ← h.1]
    simp only [List.map_append, List.map_cons, List.map_nil, List.foldl_cons, List.foldl_nil]
    rw [Stb.upd_eq (by rw [Stb.eqvP]; exact decide_eq_true hc)]
    simp only [pl, jF, hl, hs]
  · rcases List.mem_append.1 hx with h1 | h1
    · have := h.2 x (by simp [h1])
      exact ⟨this.1, this.2.1, by omega⟩
    · obtain rfl : x = q' := by simpa using h1
      have h2 := h.2 p (by simp)
      refine ⟨by rw [hs]; exact mrg_pos h2.1, by rw [hl]; exact h2.2.1, ?_⟩
      have := Smp.mrg_len p.s q.s
      have := hq.s2
      rw [hs]; omega
theorem JR.more {S R : List Q} {q q' : Q} {k : Nat} (h : JR S R k) (ht : S.take (k + 1) = S.take k ++ [q]) (hj : jb R q = false) (hq : JQ q) (he : pl q' = pl q) : JR S (R ++ [q']) (k + 1) := by
  have hl : q'.l = q.l := congrArg Prod.fst he
  have hs : q'.s = q.s := congrArg Prod.snd he
  refine ⟨?_, fun x hx => ?_⟩
  · rw [ht, show (S.take k ++ [q]).map pl = (S.take k).map pl ++ [pl q] by simp, List.foldl_append, ← h.1]
    simp only [List.map_append, List.map_cons, List.map_nil, List.foldl_cons, List.foldl_nil, he]
    by_cases h0 : R.length = 0
    · rw [List.eq_nil_of_length_eq_zero h0]; rfl
    · obtain ⟨R', p, rfl, _⟩ := snoc_of (R := R) (m := R.length - 1) (by omega)
      rw [jb_snoc] at hj
      rw [List.map_append, List.map_singleton, Stb.upd_ne (by rw [Stb.eqvP]; exact hj)]
  · rcases List.mem_append.1 hx with h1 | h1
    · have := h.2 x h1
      exact ⟨this.1, this.2.1, by omega⟩
    · obtain rfl : x = q' := by simpa using h1
      have := hq.s2
      exact ⟨by rw [hs]; exact hq.s1, by rw [hl]; exact hq.l2, by rw [hs]; omega⟩
end Go.Proofs.Ytailoeloonnoeaa.Srs
