/- The program walks through the tree of routes and collects who takes. -/
import Derived.Test.YtkjodikccehmkaaGreatRRqa
import Derived.Test.YtkjodikccehmkaaGreatRAnj
import Derived.Deep.RegionLaw
import Derived.Laws.EntriesVeiled
namespace Go.Proofs.YtkjodikccehmkaaGreat.Rou
open Go.RowKit
open Go.Proofs.YtkjodikccehmkaaGreat.Lab (Lb HasL OfV goodL)
open Go.Proofs.YtkjodikccehmkaaGreat.Rwc

/-- An append to a row of the call's own, as one step of a region that draws its order; where the answer's block is. -/
theorem step_app_at {P : Program} {ops : Array Oper} {o : Oper} {a : Act} {w : World} {K : Act → World → Prop} {Q : Exit → Act → World → Prop} {E : Prop}
    (hg : o.guard = none) (s x : Operand) (t : TypeId) (hop : o.op = Op.call { callee := Callee.builtin Builtin.append, args := #[s, x], argTypes := #[t, t] })
    (base : Nat) (e : TypeId) (i : TypeInfo) (z : Value) (size bytes : Nat) (h1 : P.underlying t = some (.slice e)) (h2 : P.info? e = some i) (h3 : i.zero = some z) (h4 : i.size = size) (h5 : i.bytes = bytes) (h6 : z.cells.size = size) (h7 : 0 < size)
    (ao : Option Addr) (n cap : Nat) (olds : List Value) (hs : a.eval s = .slice ao n cap) (hown : w.ownsRow base e size (.slice ao n cap) n olds)
    (ad : Addr) (m c : Nat) (news : List Value) (hx : a.eval x = .slice (some ad) m c) (hn : news.length = m * size) (hc : ∀ j u, news[j]? = some u → w.cell? (ad.add j) = some u) (h1c : ∀ u ∈ news, u.oneCell' = true)
    (b1 : n + m ≤ maxLen) (b2 : (n + m) * bytes ≤ 140737488355328) (hbase : base ≤ w.heap.size)
    (hK : ∀ v' w', w'.ownsRow base e size v' (n + m) (olds ++ news) → w.grownBy w' (Value.slice ao n cap).ownBlock → (v'.ownBlock = (Value.slice ao n cap).ownBlock ∨ v'.ownBlock = some w.heap.size) → K (a.put o.dst v') w') :
    if Region.wanted o (yielded ops a.tmps) = true then Oper.wp P o a w K Q else E := by
  have hw : Region.wanted o (yielded ops a.tmps) = true := by simp [Region.wanted, hg]
  rw [if_pos hw]
  obtain ⟨v', w', hrun, r1, r2, _, r4⟩ := run_append_own_at (P := P) w base t o.type e i z size bytes h1 h2 h3 h4 h5 h6 h7 (.slice ao n cap) n olds hown ad m c news hn hc h1c b1 b2 hbase
  unfold Oper.wp
  simp [execOp, hop, resolve, invoke, builtin, hs, hx, hrun, Result.andThen]
  exact hK v' w' r1 r2 r4
/-- What coming to a node changes: the variable Bt and the row that it holds. -/
structure CR (Bt : Nat) (v : Value) (w : World) (v' : Value) (w' : World) : Prop where
  os : w'.os = w.os
  tape : w'.tape = w.tape
  output : w'.output = w.output
  size : w.heap.size ≤ w'.heap.size
  block : ∀ b, b < w.heap.size → b ≠ Bt → v.ownBlock ≠ some b → w'.heap[b]? = w.heap[b]?
  nb : v'.ownBlock = v.ownBlock ∨ ∀ g, v'.ownBlock = some g → w.heap.size ≤ g
theorem CR.refl (Bt : Nat) (v : Value) (w : World) : CR Bt v w v w := ⟨rfl, rfl, rfl, Nat.le_refl _, fun _ _ _ _ => rfl, .inl rfl⟩
theorem CR.of {Bt : Nat} {v : Value} {w w' : World} (h : Below w.heap.size w w') : CR Bt v w v w' := ⟨h.os, h.tape, h.output, h.size, fun b hb _ _ => h.block b hb, .inl rfl⟩
theorem CR.trans {Bt : Nat} {v v' v'' : Value} {w w' w'' : World} (h : CR Bt v w v' w') (k : CR Bt v' w' v'' w'') : CR Bt v w v'' w'' := by
  have hs := h.size
  refine ⟨k.os.trans h.os, k.tape.trans h.tape, k.output.trans h.output, Nat.le_trans h.size k.size, fun b hb h1 h2 => (k.block b (by omega) h1 (fun e => ?_)).trans (h.block b hb h1 h2), ?_⟩
  · rcases h.nb with hn | hn
    · rw [hn] at e; exact h2 e
    · have := hn b e; omega
  · rcases k.nb with kn | kn
    · rcases h.nb with hn | hn
      · exact .inl (kn.trans hn)
      · exact .inr (fun g hg => hn g (by rw [← kn]; exact hg))
    · exact .inr (fun g hg => Nat.le_trans hs (kn g hg))
theorem CR.below {Bt U X : Nat} {v v' : Value} {w0 w w' : World} (h : Below U w0 w) (k : CR Bt v w v' w') (hU : U ≤ Bt) (hw : U ≤ w.heap.size) (hv : ∀ g, v.ownBlock = some g → X ≤ g) (hX : U ≤ X) : Below U w0 w' :=
  ⟨k.os.trans h.os, k.tape.trans h.tape, k.output.trans h.output, Nat.le_trans h.size k.size, fun b hb => (k.block b (by omega) (by omega) (fun e => by have := hv b e; omega)).trans (h.block b hb)⟩
/-- The variables of come. -/
structure CVars (Bl Bt Bc : Nat) (la : Option Addr) (nl lc : Nat) (v : Value) (w : World) : Prop where
  lab : w.heap[Bl]? = some (.cells #[.slice la nl lc] 30)
  tak : w.heap[Bt]? = some (.cells #[v] 26)
  come : w.heap[Bc]? = some (.cells #[.func (.func 50) #[] #[ptr Bl, ptr Bt, ptr Bc]] 79)
theorem CVars.below {Bl Bt Bc : Nat} {la : Option Addr} {nl lc : Nat} {v : Value} {w w' : World} (h : CVars Bl Bt Bc la nl lc v w) (hb : Below w.heap.size w w') : CVars Bl Bt Bc la nl lc v w' := ⟨kept h.lab hb, kept h.tak hb, kept h.come hb⟩
def valI (D : List Int) : List Value := D.map (Value.int .i64)
theorem info3' : (Tryz.prog.info? 3).map (fun i => (i.zero, i.size, i.bytes)) = some (some (.int .i64 0), 1, 8) := by kernel_rfl
/-- All that a call of come asks. -/
structure ComeIn (Bl Bt Bc : Nat) (la : Option Addr) (nl lc : Nat) (l : List Lb) (w0 w : World) (v : Value) (D : List Int) : Prop where
  order : Bl < Bt ∧ Bt < Bc ∧ Bc < w.heap.size
  low : w0.heap.size ≤ Bl
  bel : Below w0.heap.size w0 w
  len : l.length = nl
  good : goodL l = true
  lab : HasL w0 la l
  vars : CVars Bl Bt Bc la nl lc v w
  row : w.ownsRow (Bc + 1) 3 1 v D.length (valI D)
theorem ComeIn.next {Bl Bt Bc : Nat} {la : Option Addr} {nl lc : Nat} {l : List Lb} {w0 w w' : World} {v v' : Value} {D D' : List Int} (h : ComeIn Bl Bt Bc la nl lc l w0 w v D) (hc : CR Bt v w v' w') (ht : w'.heap[Bt]? = some (.cells #[v'] 26)) (hr : w'.ownsRow (Bc + 1) 3 1 v' D'.length (valI D')) : ComeIn Bl Bt Bc la nl lc l w0 w' v' D' := by
  have ho := h.order
  have hv : ∀ g, v.ownBlock = some g → Bc + 1 ≤ g := fun g e => (h.row.lt g e).1
  have hl := h.low
  refine ⟨⟨ho.1, ho.2.1, Nat.lt_of_lt_of_le ho.2.2 hc.size⟩, h.low, CR.below h.bel hc (by omega) (by omega) hv (by omega), h.len, h.good, h.lab, ⟨?_, ht, ?_⟩, hr⟩
  · exact (hc.block Bl (by omega) (by omega) (fun e => by have := hv Bl e; omega)).trans h.vars.lab
  · exact (hc.block Bc (by omega) (by omega) (fun e => by have := hv Bc e; omega)).trans h.vars.come
theorem ComeIn.below {Bl Bt Bc : Nat} {la : Option Addr} {nl lc : Nat} {l : List Lb} {w0 w w' : World} {v : Value} {D : List Int} (h : ComeIn Bl Bt Bc la nl lc l w0 w v D) (hb : Below w.heap.size w w') : ComeIn Bl Bt Bc la nl lc l w0 w' v D :=
  h.next (CR.of hb) (kept h.vars.tak hb) (own_below h.row hb)
theorem ComeIn.agr {Bl Bt Bc : Nat} {la : Option Addr} {nl lc : Nat} {l : List Lb} {w0 w w' : World} {v v' : Value} {D : List Int} {S : Nat → Prop} (h : ComeIn Bl Bt Bc la nl lc l w0 w v D) (hc : CR Bt v w v' w') (hS : ∀ x, S x → x < Bl) : Agr S S w w' := by
  have ho := h.order
  exact ⟨hc.size, fun b hb hl => hc.block b hl (by have := hS b hb; omega) (fun e => by have := (h.row.lt b e).1; have := hS b hb; omega), fun _ h => h⟩
/-- What a call of come gives. -/
def ComeOut (Bt Bc : Nat) (v : Value) (D : List Int) (w : World) (e : Ending) (w' : World) : Prop :=
  e = .returned (.tuple #[]) ∧ ∃ v', w'.heap[Bt]? = some (.cells #[v'] 26) ∧ w'.ownsRow (Bc + 1) 3 1 v' D.length (valI D) ∧ CR Bt v w v' w'
def ComeOk (dm : Nat) : Prop := ∀ (t : Tr), dp t ≤ dm → ∀ (Bl Bt Bc : Nat) (la : Option Addr) (nl lc : Nat) (l : List Lb) (w0 w : World) (v : Value) (D : List Int) (S : Nat → Prop) (i b d : Nat), Nv w0 S w i t b → (∀ x, S x → x < Bl) → Gt NR d t → (rows t).length ≤ 1000 → D.length + (rows t).length ≤ 100000 → i + (rows t).length ≤ 100000 → ComeIn Bl Bt Bc la nl lc l w0 w v D →
  Calls Tryz.prog 50 #[ptr b, ptr Bl, ptr Bt, ptr Bc] w (ComeOut Bt Bc v (D ++ tak l i t) w)
theorem tak_len (l : List Lb) : ∀ (n : Nat) (t : Tr) (i : Nat), (rows t).length ≤ n → (tak l i t).length ≤ (rows t).length := by
  intro n
  induction n with
  | zero => intro t i h; have := rows_pos t; omega
  | succ n ih =>
    rintro ⟨r, ks⟩ i h
    have hL : ∀ (ts : List Tr) (on : Bool) (j : Nat), (rowsL ts).length ≤ n → (takL l on j ts).length ≤ (rowsL ts).length := by
      intro ts
      induction ts with
      | nil => intro on j _; simp [takL]
      | cons t ts iht =>
        intro on j hh
        simp only [rowsL, List.length_append] at hh ⊢
        have a := ih t j (by omega)
        have b := fun o => iht o (j + (rows t).length) (by omega)
        simp only [takL]
        split
        · have := b t.r.on; simp; omega
        · have := b on; omega
    by_cases g : takL l true (i + 1) ks = []
    · rw [tak_nil g]; simp [rows]
    · rw [tak_some g]
      have := hL ks true (i + 1) (by simp [rows] at h; omega)
      simp [rows]; omega
/-- How many routes are within those that are come to. -/
def szX (X : List (Nat × Tr × Nat)) : Nat := (X.map (fun x => (rows x.2.1).length)).sum
theorem chs_sum (l : List Lb) : ∀ (ts : List Tr) (on : Bool) (i : Nat) (bs : List Nat), szX (chs l on i ts bs) ≤ (rowsL ts).length
  | [], _, _, _ => by simp [chs, szX]
  | _ :: _, _, _, [] => by simp [chs, szX]
  | t :: ts, on, i, b :: bs => by
    have e := fun o => chs_sum l ts o (i + (rows t).length) bs
    simp only [chs]
    split
    · have := e t.r.on; simp [szX, rowsL] at *; omega
    · have := e on; simp [rowsL]; omega
theorem chs_idx (l : List Lb) : ∀ (ts : List Tr) (on : Bool) (i : Nat) (bs : List Nat), ∀ x ∈ chs l on i ts bs, x.1 + (rows x.2.1).length ≤ i + (rowsL ts).length
  | [], _, _, _, x, hx => by simp [chs] at hx
  | _ :: _, _, _, [], x, hx => by simp [chs] at hx
  | t :: ts, on, i, b :: bs, x, hx => by
    have e := fun o hx => chs_idx l ts o (i + (rows t).length) bs x hx
    simp only [chs] at hx
    split at hx
    · simp only [List.mem_cons] at hx
      rcases hx with rfl | hx
      · simp [rowsL] <;> omega
      · have := e _ hx; simp [rowsL]; omega
    · have := e _ hx; simp [rowsL]; omega
theorem szX_take {X : List (Nat × Tr × Nat)} {k : Nat} {x : Nat × Tr × Nat} (h : X[k]? = some x) : szX (X.take k) + (rows x.2.1).length ≤ szX X := by
  have e : X = X.take k ++ x :: X.drop (k + 1) := by
    obtain ⟨hk, rfl⟩ := List.getElem?_eq_some_iff.1 h
    rw [← List.drop_eq_getElem_cons hk, List.take_append_drop]
  have : szX X = szX (X.take k) + ((rows x.2.1).length + szX (X.drop (k + 1))) := by
    conv => lhs; rw [e]
    simp [szX]
  omega
theorem flat_len_le (l : List Lb) : ∀ X : List (Nat × Tr × Nat), (X.flatMap (fun x => tak l x.1 x.2.1)).length ≤ szX X
  | [] => by simp [szX]
  | x :: X => by
    have := flat_len_le l X
    have := tak_len l _ x.2.1 x.1 (Nat.le_refl _)
    simp [szX] at *; omega
theorem flat_take {X : List (Nat × Tr × Nat)} {l : List Lb} {k : Nat} {x : Nat × Tr × Nat} (h : X[k]? = some x) : (X.take (k + 1)).flatMap (fun x => tak l x.1 x.2.1) = (X.take k).flatMap (fun x => tak l x.1 x.2.1) ++ tak l x.1 x.2.1 := by
  rw [List.take_add_one, h]
  simp
set_option maxHeartbeats 8000000 in
set_option maxRecDepth 100000 in
theorem come_step (dm : Nat) (IH : ComeOk dm) : ComeOk (dm + 1) := by
  rintro ⟨r, ks⟩ hd Bl Bt Bc la nl lc l w0 w v D S i b d hn hS hg hz hD hI hin
  have HIH := hid IH
  have HNV := hid hn
  have HSB := hid hS
  have HIN := hid hin
  have hgk : GtL NR (d + 1) ks := by simp only [Gt] at hg; exact hg.2.2
  have HGK := hid hgk
  have hdk : dpL ks ≤ dm := by simp only [dp] at hd; omega
  have hzk : (rowsL ks).length ≤ 999 := by simp [rows] at hz; omega
  have HRW : Hid ((rows (.nd r ks)).length = (rowsL ks).length + 1) := by unfold Hid; simp [rows]
  have hD2 : D.length + (rowsL ks).length + 1 ≤ 100000 := by have := HRW.out; omega
  have hI2 : i + (rowsL ks).length + 1 ≤ 100000 := by have := HRW.out; omega
  obtain ⟨ho1, ho2, ho3⟩ := hin.order
  have c0 : w.cell? ⟨Bl, 0, none⟩ = some (.slice la nl lc) := cell_at hin.vars.lab 0
  have HCH := hid (f51 la nl lc l w0 w S i b (d + 1) r ks hn hgk (by omega) hin.bel hin.len hin.good (hin.lab.below hin.bel))
  simp only [Nv] at hn
  obtain ⟨hb1, hb2, q, _, ak0, ck0, _, _, hx, _, _⟩ := hn
  have hbl := hS b hb1
  have HX := hid hx
  obtain ⟨av, cv, hv⟩ : ∃ a c, v = .slice a D.length c := by
    rcases hin.row.2 with ⟨h1, h2⟩ | ⟨g, cap, cur, h1, _⟩
    · exact ⟨none, 0, by rw [h1, h2]⟩
    · exact ⟨_, _, h1⟩
  clear IH hS hin hgk hg hd hz hD hI hx
  subst hv
  go_enter Tryz.func50, Tryz.ntmps50
  go_wp2_with fail
  refine HCH.out.mono ?_
  clear HCH
  rintro e w1 ⟨bs, vk, hnl, rfl, hok, hb⟩
  have HIN1 := hid (HIN.out.below hb)
  have HNL := hid hnl
  have HLN := hid (NvL.len _ _ _ hnl)
  have HX1 := hid (kept HX.out hb)
  have HC1 : Hid (CR Bt (.slice av D.length cv) w (.slice av D.length cv) w1) := CR.of hb
  have HNL1 := hid (NvL.agr (Agr.below hb) ks (i + 1) bs hnl)
  have hsz1 := hb.size
  obtain ⟨X, hX⟩ : ∃ X, X = chs l true (i + 1) ks bs := ⟨_, rfl⟩
  have HXX := hid hX
  rw [← hX] at hok
  have hXl : X.length ≤ 999 := by have := chs_len l ks true (i + 1) bs; rw [← hX] at this; have := rowsL_len ks; omega
  have HTL : Hid (takL l true (i + 1) ks = X.flatMap (fun x => tak l x.1 x.2.1)) := by unfold Hid; rw [hX]; exact takL_chs l ks true (i + 1) bs (HLN.out)
  have HXN : Hid (∀ x ∈ X, Nv w0 S w1 x.1 x.2.1 x.2.2 ∧ x.2.1 ∈ ks) := by unfold Hid; rw [hX]; exact chs_nv l ks true (i + 1) bs HNL1.out
  clear hX hnl hb c0
  obtain ⟨ak, ck, rfl⟩ := Pat.own_form hok
  have HOK := hid hok
  clear hok
  by_cases hx0 : X.length = 0
  · have hX0 : X = [] := List.length_eq_zero_iff.1 hx0
    have HTK : Hid (tak l i (.nd r ks) = [(i : Int)]) := tak_nil (by rw [HTL.out, hX0]; rfl)
    have e0 : ((X.length : Int) == 0) = true := by simp [hx0]
    have c1 : w1.cell? ⟨Bt, 0, none⟩ = some (.slice av D.length cv) := cell_at HIN1.out.vars.tak 0
    have c2 : w1.cell? ⟨b, 9, none⟩ = some (.int .i64 i) := (cellsE HX1.out).2.2.2.2.2.2.2.2.2.1
    obtain ⟨i0, hi, hz0, hz1, hz2⟩ := info_parts info3'
    have HO1 : Hid ((w1.alloc (.cells #[.int .i64 i] 3)).drew.ownsRow (Bc + 1) 3 1 (.slice av D.length cv) D.length (valI D)) := own_below HIN1.out.row (((Below.refl _ _).alloc (Nat.le_refl _) _).drew)
    rw [hx0]
    clear hx0
    have hDb : D.length ≤ 100000 := by omega
    have hBtw : Bt < w1.heap.size := by have := HIN1.out.order; omega
    go_upto_region 2 with fail
    rename_i K1 hK1
    go_region_law (refine step_app_at rfl (.tmp 14) (.tmp 19) 26 rfl (Bc + 1) 3 i0 (.int .i64 0) 1 8 Tryz.underlying26 hi hz0 hz1 hz2 rfl (by decide) av D.length cv (valI D) (by simp [Act.eval]) HO1.out ⟨w1.heap.size, 0, none⟩ 1 1 [.int .i64 i] (by simp [Act.eval]) rfl (fun j u h => Pat.one_row w1 _ _ j u h) (by intro u hu; simp at hu; subst hu; rfl) (by unfold maxLen; omega) (by omega) (by simp; omega) ?_; intro v1 w6 hown1 hgr1 hdd; obtain ⟨a2, c2, rfl⟩ := Pat.own_form hown1; have hB6 : w6.heap[Bt]? = some (.cells #[.slice av D.length cv] 26) := (hgr1.block Bt (by simp; omega) (fun e => by have := (HO1.out.lt Bt e.symm).1; omega)).trans ((Below.heap_alloc w1 _ _ hBtw).trans HIN1.out.vars.tak); have hc6 := cell_at hB6 0; have hf6 := froz_at hB6 0; have HO6 := hid hown1; have HG6 := hid hgr1; have HD6 := hid hdd; have HB6 := hid hB6; clear hown1 hgr1 hdd hB6)
    all_goals
      refine hK1 _ _ ?_
      clear hK1
      have HOUT : Hid (∀ x, x = w6.setCell ⟨Bt, 0, none⟩ (.slice a2 (D.length + 1) c2) → x.heap[Bt]? = some (.cells #[.slice a2 (D.length + 1) c2] 26) ∧ x.ownsRow (Bc + 1) 3 1 (.slice a2 (D.length + 1) c2) (D.length + 1) (valI D ++ [.int .i64 i]) ∧ CR Bt (.slice av D.length cv) w (.slice a2 (D.length + 1) c2) x) := by
        rintro x rfl
        refine ⟨set_at HB6.out, ?_, ?_⟩
        · rcases HO6.out.2 with ⟨h1, h2⟩ | ⟨g, cap, cur, h1, h2, h3, h4⟩
          · exact absurd h2 (by omega)
          · exact ⟨HO6.out.1, .inr ⟨g, cap, cur, h1, h2, (Below.heap_setCell w6 ⟨Bt, 0, none⟩ _ g (by simp only; omega)).trans h3, h4⟩⟩
        · have hg := HG6.out
          have hsA : (w1.alloc (.cells #[.int .i64 i] 3)).drew.heap.size = w1.heap.size + 1 := by simp
          have h2 : CR Bt (.slice av D.length cv) w1 (.slice a2 (D.length + 1) c2) (w6.setCell ⟨Bt, 0, none⟩ (.slice a2 (D.length + 1) c2)) := by
            have hf := Fb.set Bt 0 (.slice a2 (D.length + 1) c2) w6
            have hal : Below w1.heap.size w1 (w1.alloc (.cells #[.int .i64 i] 3)).drew := ((Below.refl _ _).alloc (Nat.le_refl _) _).drew
            refine ⟨hf.os.trans (hg.os.trans hal.os), hf.tape.trans (hg.tape.trans hal.tape), hf.output.trans (hg.output.trans hal.output), Nat.le_trans hal.size (Nat.le_trans hg.size hf.size), fun x hx hne hno => ?_, ?_⟩
            · exact (hf.block x (by have := hg.size; omega) (fun e => hne (Option.some.inj e))).trans ((hg.block x (by omega) (fun e => hno e.symm)).trans (hal.block x hx))
            · rcases HD6.out with hd | hd
              · exact .inl hd
              · refine .inr (fun g e => ?_)
                rw [hd] at e; simp at e; omega
          exact HC1.out.trans h2
      clear hc6 hf6 HO6 HG6 HD6 HB6
      generalize w6.setCell ⟨Bt, 0, none⟩ (.slice a2 (D.length + 1) c2) = w7 at *
      go_wp2
      go_rounds 1
      obtain ⟨f1, f2, f3⟩ := HOUT.out w7 rfl
      refine bodyPost_end (results_none rfl _ _ _) rfl ⟨rfl, _, f1, ?_, f3⟩
      rw [HTK.out]; simpa [valI] using f2
  · have hXne : X ≠ [] := fun h => hx0 (by rw [h]; rfl)
    have HTK : Hid (tak l i (.nd r ks) = X.flatMap (fun x => tak l x.1 x.2.1)) := by
      have h1 : takL l true (i + 1) ks ≠ [] := by
        rw [HTL.out]
        cases X with
        | nil => exact absurd rfl hXne
        | cons x X => intro h; simp at h; exact tak_ne l _ _ h.1
      exact (tak_some h1).trans HTL.out
    have e0 : ((X.length : Int) == 0) = false := by simp; exact hXne
    obtain ⟨g, rfl, hg1, hg2⟩ : ∃ g, ak = some ⟨g, 0, none⟩ ∧ w.heap.size ≤ g ∧ g < w1.heap.size := by
      rcases HOK.out.2 with ⟨_, h2⟩ | ⟨g, cap, cur, h1, h2, h3, h4⟩
      · exact absurd h2 hx0
      · simp only [Value.slice.injEq] at h1
        exact ⟨g, h1.1, h2, lt_at h3⟩
    have HLV : Hid (∀ g, (Value.slice av D.length cv).ownBlock = some g → g < w.heap.size) := fun g e => (HIN.out.row.lt g e).2
    have HSZ : Hid (szX X ≤ (rowsL ks).length) := by unfold Hid; rw [HXX.out]; exact chs_sum l ks true (i + 1) bs
    have HID : Hid (∀ x ∈ X, x.1 + (rows x.2.1).length ≤ i + 1 + (rowsL ks).length) := by unfold Hid; rw [HXX.out]; exact chs_idx l ks true (i + 1) bs
    clear hx0 hXne
    go_wp2
    go_loopw [23] (fun s23 wr => ∃ (k : Nat) (vk : Value), k ≤ X.length ∧ s23 = .int .i64 k ∧ Hid (wr.heap[Bt]? = some (.cells #[vk] 26)) ∧ Hid (wr.ownsRow (Bc + 1) 3 1 vk (D ++ (X.take k).flatMap (fun x => tak l x.1 x.2.1)).length (valI (D ++ (X.take k).flatMap (fun x => tak l x.1 x.2.1)))) ∧ Hid (CR Bt (.slice av D.length cv) w1 vk wr)) (fun s23 _ => X.length - (intOf s23).toNat)
    case atStart => exact ⟨0, _, Nat.zero_le _, rfl, HIN1.out.vars.tak, by unfold Hid; simpa using HIN1.out.row, CR.refl _ _ _⟩
    case round =>
      obtain ⟨k, vk, hk, rfl, HT, HO, HC⟩ := hrel
      by_cases hlt : k < X.length
      · obtain ⟨x, hx⟩ : ∃ x, X[k]? = some x := ⟨X[k], by simp [hlt]⟩
        have hmem : x ∈ X := List.mem_of_getElem? hx
        obtain ⟨hnv, hmk⟩ := HXN.out x hmem
        have hag := HIN1.out.agr HC.out HSB.out
        have y1 : wr.cell? ⟨g, k, none⟩ = some (ptr x.2.2) := by
          have h1 : w1.cell? ⟨g, k, none⟩ = some (ptr x.2.2) := by
            rw [HOK.out.cellAt k (by omega)]
            simp [vals, hx]
          refine (cell_of (p := ⟨g, k, none⟩) (HC.out.block g hg2 (by omega) (fun e => ?_))).trans h1
          have := HLV.out g e; omega
        have hin := HIN1.out.next HC.out HT.out HO.out
        have y2 : wr.cell? ⟨Bc, 0, none⟩ = some (.func (.func 50) #[] #[ptr Bl, ptr Bt, ptr Bc]) := cell_at hin.vars.come 0
        have hrx : (rows x.2.1).length ≤ 1000 := by have := len_rows hmk; omega
        have hsum := szX_take hx
        have hfl := flat_len_le l (X.take k)
        have hdx : dp x.2.1 ≤ dm := by
          obtain ⟨pre, post, e⟩ := List.append_of_mem hmk
          have := dpL_mid pre post x.2.1
          rw [← e] at this; omega
        have hix := HID.out x hmem
        have hszx := HSZ.out
        have HCALL := hid (HIH.out x.2.1 hdx Bl Bt Bc la nl lc l w0 wr vk _ S x.1 x.2.2 (d + 1) (hnv |> Nv.agr hag _ _ _) HSB.out (GtL_mem.1 HGK.out _ hmk) hrx (by rw [List.length_append]; omega) (by omega) hin)
        have HF := hid (flat_take (l := l) hx)
        clear hnv hmk hag hin hrx hsum hfl hdx hix hszx hmem hx
        generalize x.2.2 = bx at *
        go_wp2_with fail
        refine HCALL.out.mono ?_
        clear HCALL
        rintro e w2 ⟨rfl, v', ht, hr, hc⟩
        have HT2 := hid ht
        have HC2 := hid (HC.out.trans hc)
        have HO2 : Hid (w2.ownsRow (Bc + 1) 3 1 v' (D ++ (X.take (k + 1)).flatMap (fun x => tak l x.1 x.2.1)).length (valI (D ++ (X.take (k + 1)).flatMap (fun x => tak l x.1 x.2.1)))) := by
          unfold Hid; rw [HF.out, ← List.append_assoc]; exact hr
        clear ht hr hc y1 y2
        go_wp2
        go_roundw
        case rel => exact ⟨k + 1, v', by omega, by go_num, HT2, HO2, HC2⟩
        case measure => simp [intOf]; omega
      · obtain rfl : k = X.length := by omega
        go_wp2
        refine bodyPost_end (results_none rfl _ _ _) rfl ⟨rfl, vk, HT.out, ?_, HC1.out.trans HC.out⟩
        have := HO.out
        rw [List.take_length] at this
        rw [HTK.out]; exact this
theorem come_ok : ∀ dm, ComeOk dm
  | 0 => by rintro ⟨r, ks⟩ h; simp [dp] at h
  | dm + 1 => come_step dm (come_ok dm)
end Go.Proofs.YtkjodikccehmkaaGreat.Rou
