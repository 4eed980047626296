/- The program grows its tree of routes. -/
import Derived.Test.YtkjodikccehmkaaGreatRRB
import Derived.Deep.RegionHeld3
import Derived.Deep.CutRange
namespace Go.Proofs.YtkjodikccehmkaaGreat.Rou
open Go.RowKit
open Go.Proofs.YtkjodikccehmkaaGreat.Rwc

/-- All but one block stays. -/
abbrev Fb (B : Nat) (w w' : World) : Prop := w.grownBy w' (some B)
theorem Fb.refl (B : Nat) (w : World) : Fb B w w := ⟨rfl, rfl, rfl, Nat.le_refl _, fun _ _ _ => rfl⟩
theorem Fb.trans {B : Nat} {a b c : World} (h : Fb B a b) (k : Fb B b c) : Fb B a c :=
  ⟨k.os.trans h.os, k.tape.trans h.tape, k.output.trans h.output, Nat.le_trans h.size k.size, fun i hi hr => (k.block i (Nat.lt_of_lt_of_le hi h.size) hr).trans (h.block i hi hr)⟩
theorem Fb.of {B : Nat} {w w' : World} (h : Below w.heap.size w w') : Fb B w w' := ⟨h.os, h.tape, h.output, h.size, fun i hi _ => h.block i hi⟩
theorem Fb.kept {B b : Nat} {x y : World} {o : Obj} (hb : Fb B x y) (h : x.heap[b]? = some o) (hn : b ≠ B) : y.heap[b]? = some o := (hb.block b (lt_at h) (fun e => hn (Option.some.inj e))).trans h
theorem Fb.below {B U : Nat} {w0 w w' : World} (h : Below U w0 w) (hb : Fb B w w') (hU : U ≤ B) (hw : U ≤ w.heap.size) : Below U w0 w' := h.grown hb hw (by intro k hk; cases hk; exact hU)
theorem Fb.own {B base e size n : Nat} {v : Value} {xs : List Value} {w w' : World} (h : w.ownsRow base e size v n xs) (hb : Fb B w w') (hB : B < base) : w'.ownsRow base e size v n xs :=
  h.kept hb (by
    cases hv : v.ownBlock with
    | none => exact .inl rfl
    | some k => have := (h.lt k hv).1; exact .inr (by simp; omega))
theorem Fb.agr {B : Nat} {S S' : Nat → Prop} {w w' : World} (hb : Fb B w w') (h : ∀ b, S b → b ≠ B ∧ S' b) : Agr S S' w w' :=
  ⟨hb.size, fun b hS hl => hb.block b hl (fun e => (h b hS).1 (Option.some.inj e)), fun b hS => (h b hS).2⟩
theorem Fb.set (B o : Nat) (v : Value) (w : World) : Fb B w (w.setCell ⟨B, o, none⟩ v) :=
  have h := (Below.refl 0 w).setCell (p := ⟨B, o, none⟩) (Nat.zero_le _) v
  ⟨h.os, h.tape, h.output, h.size, fun i _ hr => Below.heap_setCell w ⟨B, o, none⟩ v i (fun e => hr (by rw [e]))⟩
theorem Fb.tail {Bn B o : Nat} {w w2 w4 : World} {ob : Obj} {r : Option Nat} {v : Value} (h : Fb Bn w w2) (hB : B = w.heap.size) (hg : (w2.alloc ob).grownBy w4 r) (hr : ∀ g, r = some g → B + 1 ≤ g) : Fb Bn w (w4.setCell ⟨B, o, none⟩ v) := by
  have h1 : Fb Bn w (w2.alloc ob) := h.trans (Fb.of ((Below.refl _ _).alloc (Nat.le_refl _) _))
  have h2 : Fb Bn w w4 := ⟨hg.os.trans h1.os, hg.tape.trans h1.tape, hg.output.trans h1.output, Nat.le_trans h1.size hg.size, fun i hi hne => (hg.block i (Nat.lt_of_lt_of_le hi h1.size) (fun e => by have := hr i e.symm; omega)).trans (h1.block i hi hne)⟩
  have h3 := Fb.set B o v w4
  exact ⟨h3.os.trans h2.os, h3.tape.trans h2.tape, h3.output.trans h2.output, Nat.le_trans h2.size h3.size, fun i hi hne => (h3.block i (Nat.lt_of_lt_of_le hi h2.size) (fun e => by simp at e; omega)).trans (h2.block i hi hne)⟩
theorem at_tail {Bn B o : Nat} {w2 w4 : World} {ob ox : Obj} {r : Option Nat} {v : Value} (h : w2.heap[Bn]? = some ox) (hB : Bn < B) (hg : (w2.alloc ob).grownBy w4 r) (hr : ∀ g, r = some g → B + 1 ≤ g) : (w4.setCell ⟨B, o, none⟩ v).heap[Bn]? = some ox := by
  refine set_else ?_ (by simp only; omega)
  have hl := lt_at h
  exact (hg.block Bn (by simp; omega) (fun e => by have := hr Bn e.symm; omega)).trans ((Below.heap_alloc _ _ _ hl).trans h)
/-- The three variables that grow uses: which is next, the list, grow itself. -/
structure Vars (Bn Bl Bg : Nat) (a : Option Addr) (n c k : Nat) (w : World) : Prop where
  next : w.heap[Bn]? = some (.cells #[.int .i64 k] 3)
  list : w.heap[Bl]? = some (.cells #[.slice a n c] 28)
  grow : w.heap[Bg]? = some (.cells #[.func (.func 67) #[] #[ptr Bn, ptr Bl, ptr Bg]] 97)
theorem Vars.fb {Bn Bl Bg : Nat} {a : Option Addr} {n c k k' : Nat} {w w' : World} (h : Vars Bn Bl Bg a n c k w) (hb : Fb Bn w w') (hl : Bl ≠ Bn) (hg : Bg ≠ Bn) (hn : w'.heap[Bn]? = some (.cells #[.int .i64 k'] 3)) : Vars Bn Bl Bg a n c k' w' :=
  ⟨hn, hb.kept h.list hl, hb.kept h.grow hg⟩
/-- What a call of grow leaves. -/
def GrR (w0 : World) (Bn : Nat) (ts : List T) (k : Nat) (w : World) (e : Ending) (w' : World) : Prop :=
  Fb Bn w w' ∧ ((e = .returned (.pointer none) ∧ w'.heap[Bn]? = some (.cells #[.int .i64 ts.length] 3) ∧ ∀ d t x, (ts.map pl).drop k = rows t ++ x → ¬ Gt N0 d t) ∨
    ∃ t b x, e = .returned (ptr b) ∧ (ts.map pl).drop k = rows t ++ x ∧ Gt N0 0 t ∧ w'.heap[Bn]? = some (.cells #[.int .i64 ((k + (rows t).length : Nat) : Int)] 3) ∧ k + (rows t).length ≤ ts.length ∧ Nv w0 (fun b => w.heap.size ≤ b ∧ b < w'.heap.size) w' k t b)
theorem Gs.all {w0 wr : World} {B i ck : Nat} {ks : List Tr} {bs : List Nat} {ak : Option Addr} (h : Gs w0 B i ks bs ak ck wr) : NvL w0 (fun b => B ≤ b ∧ b < wr.heap.size) wr i ks bs ∧ HasV (fun b => B ≤ b ∧ b < wr.heap.size) wr ak (vals bs) := by
  refine ⟨NvL.agr (S := fun b => B < b ∧ b < wr.heap.size ∧ (Value.slice ak bs.length ck).ownBlock ≠ some b) ⟨Nat.le_refl _, fun _ _ _ => rfl, fun b hb => ⟨by omega, hb.2.1⟩⟩ ks i bs h.nv, ?_⟩
  rcases h.row.2 with ⟨_, h2⟩ | ⟨g, cap, cur, h1, h2, h3, h4, h5, h6, h7⟩
  · exact .inl (List.length_eq_zero_iff.1 (by rw [vals_len]; exact h2))
  · simp only [Value.slice.injEq] at h1
    refine .inr ⟨g, 0, h1.1, ⟨by omega, (Array.getElem?_eq_some_iff.1 h3).1⟩, (Array.getElem?_eq_some_iff.1 h3).1, fun i hi => ?_⟩
    rw [vals_len] at hi
    rw [Nat.zero_add]
    simp only [World.cell?, h3]
    have e : (vals bs)[i]? = cur.toList[i]? := by
      have := congrArg (fun l => l[i]?) h7
      simp only [List.getElem?_take] at this
      rw [if_pos (by omega)] at this
      exact this.symm
    rw [e]
    simp
theorem Gs.next {w0 wr w2 w3 w4 : World} {Bn B i ck c3 : Nat} {ks : List Tr} {bs : List Nat} {ak a3 : Option Addr} {t : Tr} {b : Nat} (h : Gs w0 B i ks bs ak ck wr) (hs : B + 1 ≤ wr.heap.size) (hB : Bn < B)
    (hb : Fb Bn wr w2) (hn : Nv w0 (fun b => wr.heap.size ≤ b ∧ b < w2.heap.size) w2 (i + (rowsL ks).length) t b) (h3 : w3 = w2.alloc (.cells #[ptr b] 56))
    (hg : w3.grownBy w4 (Value.slice ak bs.length ck).ownBlock) (ho : w4.ownsRow (B + 1) 56 1 (.slice a3 (bs.length + 1) c3) (bs.length + 1) (vals bs ++ [ptr b])) (hd : (Value.slice a3 (bs.length + 1) c3).ownBlock = (Value.slice ak bs.length ck).ownBlock ∨ (Value.slice a3 (bs.length + 1) c3).ownBlock = some w3.heap.size) (v : Value) :
    Gs w0 B i (ks ++ [t]) (bs ++ [b]) a3 c3 (w4.setCell ⟨B, 10, none⟩ v) := by
  subst h3
  have hsz : (w2.alloc (.cells #[ptr b] 56)).heap.size = w2.heap.size + 1 := by simp
  have hlt : ∀ g, (Value.slice ak bs.length ck).ownBlock = some g → B + 1 ≤ g ∧ g < wr.heap.size := fun g e => h.row.lt g e
  have hs2 := hb.size
  have hs4 := hg.size
  have hlen : (bs ++ [b]).length = bs.length + 1 := by simp
  have hv : vals (bs ++ [b]) = vals bs ++ [ptr b] := by simp [vals]
  have hss : (w4.setCell ⟨B, 10, none⟩ v).heap.size = w4.heap.size := by simp
  have hset : ∀ x, x ≠ B → (w4.setCell ⟨B, 10, none⟩ v).heap[x]? = w4.heap[x]? := fun x hx => Below.heap_setCell w4 ⟨B, 10, none⟩ v x hx
  refine ⟨?_, ?_⟩
  · rw [hlen, hv]
    rcases ho.2 with ⟨h1, h2⟩ | ⟨g, cap, cur, h1, h2, h3', h4⟩
    · exact absurd h2 (by omega)
    · refine ⟨ho.1, .inr ⟨g, cap, cur, h1, h2, ?_, h4⟩⟩
      rw [hset g (by omega)]; exact h3'
  · rw [hlen]
    refine NvL.snoc ks i bs ?_ ?_
    · refine NvL.agr (S := fun b => B < b ∧ b < wr.heap.size ∧ (Value.slice ak bs.length ck).ownBlock ≠ some b) ⟨by omega, fun x hb1 hb2 => ?_, fun x hb1 => ⟨hb1.1, by omega, ?_⟩⟩ ks i bs h.nv
      · rw [hset x (by omega)]
        exact (hg.block x (by omega) (fun e => hb1.2.2 e.symm)).trans ((Below.heap_alloc _ _ _ (by omega)).trans (hb.block x hb2 (fun e => by simp at e; omega)))
      · intro e
        rcases hd with hd | hd
        · rw [hd] at e; exact hb1.2.2 e
        · rw [hd] at e; simp at e; omega
    · refine Nv.agr (S := fun b => wr.heap.size ≤ b ∧ b < w2.heap.size) ⟨by omega, fun x hb1 hb2 => ?_, fun x hb1 => ⟨by omega, by omega, ?_⟩⟩ t _ b hn
      · rw [hset x (by omega)]
        refine (hg.block x (by omega) (fun e => ?_)).trans (Below.heap_alloc _ _ _ hb2)
        have := hlt x e.symm; omega
      · intro e
        rcases hd with hd | hd
        · rw [hd] at e; have := hlt x e; omega
        · rw [hd] at e; simp at e; omega
end Go.Proofs.YtkjodikccehmkaaGreat.Rou
/- The program grows its tree of routes: the walk. -/
namespace Go.Proofs.YtkjodikccehmkaaGreat.Rou
open Go.RowKit
open Go.Proofs.YtkjodikccehmkaaGreat.Rwc
open Go.Proofs.YtkjodikccehmkaaGreat.Pat (ret_bool)

theorem infoN : (Tryz.prog.info? 56).map (fun i => (i.zero, i.size, i.bytes)) = some (some (.pointer none), 1, 8) := by kernel_rfl
def GrowOk (m : Nat) : Prop := ∀ (ts : List T) (a : Option Addr) (c : Nat) (Bn Bl Bg k : Nat) (w0 w : World), ts.length < k + m → k ≤ ts.length → ts.length ≤ 40 → Has w0 a ts → (∀ q ∈ ts, Rw w0 q ∧ 0 ≤ q.kd) → Below w0.heap.size w0 w → w0.heap.size ≤ Bn → Bl ≠ Bn → Bg ≠ Bn → Vars Bn Bl Bg a ts.length c k w →
  Calls Tryz.prog 67 #[ptr Bn, ptr Bl, ptr Bg] w (GrR w0 Bn ts k w)
theorem drop_one {ts : List T} {k : Nat} (h : k < ts.length) : (ts.map pl).drop k = pl (ts.getD k t0) :: (ts.map pl).drop (k + 1) := by
  rw [List.drop_eq_getElem_cons (by simpa using h)]
  simp [List.getD_eq_getElem?_getD, h]
theorem mem_getD {ts : List T} {k : Nat} (h : k < ts.length) : ts.getD k t0 ∈ ts := by
  simp [List.getD_eq_getElem?_getD, h]
set_option maxHeartbeats 8000000 in
set_option maxRecDepth 100000 in
theorem grow_step (m : Nat) (IH : GrowOk m) : GrowOk (m + 1) := by
  intro ts a c Bn Bl Bg k w0 w hm hk h40 hr hrw hb0 hBn hBl hBg hv
  have HIH := hid IH
  have HR := hid hr
  have HRW := hid hrw
  have HB0 := hid hb0
  have HV := hid hv
  have HNn := hid hBn
  have HNl := hid hBl
  have HNg := hid hBg
  obtain ⟨n, hn⟩ : ∃ n, n = ts.length := ⟨_, rfl⟩
  have HN := hid hn
  have n0 : w.cell? ⟨Bn, 0, none⟩ = some (.int .i64 k) := cell_at hv.next 0
  have n1 : w.cell? ⟨Bl, 0, none⟩ = some (.slice a n c) := by rw [hn]; exact cell_at hv.list 0
  have n2 := froz_at hv.next 0
  rw [← hn] at hm hk h40
  clear IH hr hrw hb0 hBn hBl hBg hv
  by_cases hlt : k < n
  rotate_left
  · obtain rfl : k = n := by omega
    clear hn hlt
    go_enter Tryz.func67, Tryz.ntmps67
    go_wp2
    go_ret
    refine ⟨Fb.refl _ _, .inl ⟨rfl, by have := HV.out.next; rw [← HN.out]; exact this, fun d t x e => ?_⟩⟩
    rw [List.drop_eq_nil_of_le (by simp; have := HN.out; omega)] at e
    exact no_rows t x e
  obtain ⟨b, off, hab, hbl, hcl, hlst⟩ := (HR.out.below HB0.out).at2 k (by rw [← hn]; exact hlt)
  have HQM := hid (mem_getD (ts := ts) (k := k) (by rw [← hn]; exact hlt))
  have HD1 := hid (drop_one (ts := ts) (k := k) (by rw [← hn]; exact hlt))
  have HAB := hid hab
  generalize ts.getD k t0 = q at *
  obtain ⟨c0, c1, c2, c3, c4, c5, c6, c7, c8⟩ := hcl.all
  have HRQ := hid (HRW.out q HQM.out).1
  have HKD := hid (HRW.out q HQM.out).2
  subst hab
  clear hlst hcl hn
  have HS : (fun x : World => x.cell? ⟨Bn, 0, none⟩ = some (.int .i64 k) ∧ x.cell? ⟨Bl, 0, none⟩ = some (.slice (some ⟨b, off, none⟩) n c) ∧ x.cell? ⟨b, off + k * 9, none⟩ = some (.string q.rv) ∧ x.cell? ⟨b, off + k * 9 + 1, none⟩ = some (.slice q.ma q.ms.length q.mc) ∧ x.cell? ⟨b, off + k * 9 + 2, none⟩ = some (.slice q.da q.ds.length q.dc) ∧ x.cell? ⟨b, off + k * 9 + 3, none⟩ = some (.int .i64 q.wa) ∧ x.cell? ⟨b, off + k * 9 + 4, none⟩ = some (.int .i64 q.ev) ∧ x.cell? ⟨b, off + k * 9 + 5, none⟩ = some (.int .i64 q.ag) ∧ x.cell? ⟨b, off + k * 9 + 6, none⟩ = some (.slice q.ua q.us.length q.uc) ∧ x.cell? ⟨b, off + k * 9 + 7, none⟩ = some (.bool q.on) ∧ x.cell? ⟨b, off + k * 9 + 8, none⟩ = some (.int .i64 q.kd)) w.drew := ⟨n0, n1, c0, c1, c2, c3, c4, c5, c6, c7, c8⟩
  have i1 : (k : Int) < (n : Int) := by omega
  go_enter Tryz.func67, Tryz.ntmps67
  go_upto_region 3 with fail
  go_region_held3 (fun x => x.cell? ⟨Bn, 0, none⟩ = some (.int .i64 k) ∧ x.cell? ⟨Bl, 0, none⟩ = some (.slice (some ⟨b, off, none⟩) n c) ∧ x.cell? ⟨b, off + k * 9, none⟩ = some (.string q.rv) ∧ x.cell? ⟨b, off + k * 9 + 1, none⟩ = some (.slice q.ma q.ms.length q.mc) ∧ x.cell? ⟨b, off + k * 9 + 2, none⟩ = some (.slice q.da q.ds.length q.dc) ∧ x.cell? ⟨b, off + k * 9 + 3, none⟩ = some (.int .i64 q.wa) ∧ x.cell? ⟨b, off + k * 9 + 4, none⟩ = some (.int .i64 q.ev) ∧ x.cell? ⟨b, off + k * 9 + 5, none⟩ = some (.int .i64 q.ag) ∧ x.cell? ⟨b, off + k * 9 + 6, none⟩ = some (.slice q.ua q.us.length q.uc) ∧ x.cell? ⟨b, off + k * 9 + 7, none⟩ = some (.bool q.on) ∧ x.cell? ⟨b, off + k * 9 + 8, none⟩ = some (.int .i64 q.kd)) (first | exact HS | go_keep) (first | fail)
  rename_i K1 hK1 hS1
  refine hK1 _ _ ?_
  clear hK1 hS1
  obtain ⟨W1, hW1⟩ : ∃ W, W = (w.alloc (.cells (nodeA q k none 0 0) 76)).drew := ⟨_, rfl⟩
  have HX1 : Hid (W1.heap[w.heap.size]? = some (.cells (nodeA q k none 0 0) 76)) := by rw [hW1]; exact heap_alloc_new w _
  have HB1 : Hid (Below w.heap.size w W1) := by rw [hW1]; exact ((Below.refl w.heap.size w).alloc (Nat.le_refl _) _).drew
  have HZ1 : Hid (W1.heap.size = w.heap.size + 1) := by rw [hW1]; unfold Hid; simp
  have hltn := lt_at HV.out.next
  have HV1 : Hid (Vars Bn Bl Bg (some ⟨b, off, none⟩) ts.length c k W1) := HV.out.fb (Fb.of HB1.out) HNl.out HNg.out (kept HV.out.next HB1.out)
  rw [← hW1]
  clear n0 n1 n2 c0 c1 c2 c3 c4 c5 c6 c7 c8 HS hW1
  have n0 : W1.cell? ⟨Bn, 0, none⟩ = some (.int .i64 k) := cell_at HV1.out.next 0
  have n2 := froz_at HV1.out.next 0
  obtain ⟨W2, hW2⟩ : ∃ W, W = W1.setCell ⟨Bn, 0, none⟩ (.int .i64 ((k : Int) + 1)) := ⟨_, rfl⟩
  have hkn : k + 1 ≤ n := by omega
  have HF2 : Hid (Fb Bn w W2) := by
    rw [hW2]
    exact (Fb.of HB1.out).trans (Fb.set Bn 0 _ W1)
  have HX2 : Hid (W2.heap[w.heap.size]? = some (.cells (nodeA q k none 0 0) 76)) := by rw [hW2]; exact set_else HX1.out (by simp only; omega)
  have HV2 : Hid (Vars Bn Bl Bg (some ⟨b, off, none⟩) ts.length c (k + 1) W2) := by
    refine HV.out.fb HF2.out HNl.out HNg.out ?_
    rw [hW2]; exact set_at HV1.out.next
  have HZ2 : Hid (W2.heap.size = w.heap.size + 1) := by rw [hW2]; unfold Hid; simp; exact HZ1.out
  have HW2 := hid hW2
  clear hW2 HB1 HX1 HV1 HZ1
  go_upto_region 5 with fail
  rw [← HW2.out]
  clear HW2 n0 n2
  obtain ⟨B, hB⟩ : ∃ B, B = w.heap.size := ⟨_, rfl⟩
  rw [← hB] at HX2 HZ2 hltn ⊢
  have HBB := hid hB
  clear hB
  obtain ⟨x0, x1, x2, x3, x4, x5, x6, x7, x8, x9, x10⟩ := cellsE HX2.out
  obtain ⟨i0', hi, hz0, hz1, hz2⟩ := info_parts infoN
  have HG0 : Hid (Gs w0 B (k + 1) [] [] none 0 W2) := ⟨World.ownsRow_nil _ _ _ _, by simp [NvL]⟩
  have HT0 : Hid ((ts.map pl).drop k = pl q :: (rowsL [] ++ (ts.map pl).drop (k + 1))) := by unfold Hid; rw [HD1.out]; simp [rowsL]
  rw [HBB.out] at HX2 HZ2 HG0
  rw [← HBB.out] at HX2 HZ2 HG0
  go_wp2
  go_loopw [24] (fun s24 wr => ∃ (ks : List Tr) (bs : List Nat) (ak : Option Addr) (ck : Nat) (k' : Nat), s24 = .int .i64 ks.length ∧ k' ≤ n ∧ k + 1 ≤ k' ∧ Hid (k' = k + 1 + (rowsL ks).length) ∧ Hid ((ts.map pl).drop k = pl q :: (rowsL ks ++ (ts.map pl).drop k')) ∧ Hid (GtL N0 1 ks) ∧ (ks.length : Int) ≤ q.kd ∧ ks.length ≤ n ∧ Hid (Gs w0 B (k + 1) ks bs ak ck wr) ∧ Hid (wr.heap[B]? = some (.cells (nodeA q k ak bs.length ck) 76)) ∧ Hid (Fb Bn w wr) ∧ Hid (Vars Bn Bl Bg (some ⟨b, off, none⟩) ts.length c k' wr)) (fun s24 _ => (q.kd - intOf s24).toNat)
  case atStart => exact ⟨[], [], none, 0, k + 1, rfl, hkn, Nat.le_refl _, by unfold Hid; simp [rowsL], HT0, by unfold Hid; simp [GtL], by simpa using HKD.out, by simp, HG0, HX2, HF2, HV2⟩
  case round =>
    obtain ⟨ks, bs, ak, ck, k', rfl, hk1, hk3, HK2, HT, HG, hj, hj2, HS1, HX, HF, HVr⟩ := hrel
    have HVL := hid (NvL.len _ _ _ HS1.out.nv)
    have hwr : B + 1 ≤ wr.heap.size := by have := lt_at HX.out; omega
    have HB0r : Hid (Below w0.heap.size w0 wr) := Fb.below HB0.out HF.out HNn.out HB0.out.size
    by_cases hlt2 : (ks.length : Int) < q.kd
    · have g0 : wr.cell? ⟨Bg, 0, none⟩ = some (.func (.func 67) #[] #[ptr Bn, ptr Bl, ptr Bg]) := cell_at HVr.out.grow 0
      have hNm : ts.length < k' + m := by have := HN.out; omega
      have hNk : k' ≤ ts.length := by have := HN.out; omega
      have hN4 : ts.length ≤ 40 := by have := HN.out; omega
      have HCALL := hid (HIH.out ts (some ⟨b, off, none⟩) c Bn Bl Bg k' w0 wr hNm hNk hN4 HR.out HRW.out HB0r.out HNn.out HNl.out HNg.out HVr.out)
      clear hNm hNk hN4
      go_wp2_with fail
      refine HCALL.out.mono ?_
      clear HCALL
      rintro e w2 ⟨hf2, hk⟩
      rcases hk with ⟨rfl, hn2, hno⟩ | ⟨t, b2, x, rfl, he2, hgt, hn2, hle, hnv⟩
      · have HNO := hid hno
        have HN2 := hid hn2
        have HF2' := hid (HF.out.trans hf2)
        clear hno hn2 hf2 g0
        go_wp2
        go_ret
        refine ⟨HF2'.out, .inl ⟨rfl, HN2.out, fun d t x e => ?_⟩⟩
        rw [HT.out] at e
        exact no_more (gtL0_any _ _ _ HG.out) hlt2 (fun t' x' e' hg' _ _ _ => HNO.out (d + 1) t' x' e' hg') t x e
      · have HF2' := hid hf2
        have HE2 := hid he2
        have HGT := hid hgt
        have HN2 := hid hn2
        have HNV := hid hnv
        have hle' : k' + (rows t).length ≤ n := by have := HN.out; omega
        have hrp := rows_pos t
        have hsz2 := hf2.size
        have hB2 : w2.heap[B]? = some (.cells (nodeA q k ak bs.length ck) 76) := hf2.kept HX.out (by omega)
        have HB2 := hid hB2
        have y10 : w2.cell? ⟨B, 10, none⟩ = some (.slice ak bs.length ck) := cell_at hB2 10
        have HOW : Hid ((w2.alloc (.cells #[ptr b2] 56)).ownsRow (B + 1) 56 1 (.slice ak bs.length ck) bs.length (vals bs)) := (Fb.own HS1.out.row hf2 (by omega)).alloc _
        have hbn : bs.length ≤ 40 := by have := HVL.out; omega
        clear hf2 he2 hgt hn2 hnv hB2 hle g0
        go_wp2_with (at_builtin; refine wpList_append_own_at _ rfl (.tmp 34) (.tmp 36) 74 rfl (B + 1) 56 i0' (.pointer none) 1 8 Tryz.underlying74 hi hz0 hz1 hz2 rfl (by decide) _ _ _ rfl HOW.out ⟨w2.heap.size, 0, none⟩ 1 1 [ptr b2] rfl rfl ?d1 ?d2 ?d3 ?d4 ?d5 ?_)
        case d1 => exact Pat.one_row _ _ _
        case d2 => intro u hu; simp at hu; subst hu; rfl
        case d3 => unfold maxLen; omega
        case d4 => omega
        case d5 => simp; omega
        intro v3 w4 hown3 hgr3 _ hdd
        obtain ⟨a3, c3, rfl⟩ := Pat.own_form hown3
        have hB4 : w4.heap[B]? = some (.cells (nodeA q k ak bs.length ck) 76) :=
          (hgr3.block B (by simp; omega) (fun e => by have := (HS1.out.row.lt B e.symm).1; omega)).trans ((Below.heap_alloc _ _ _ (by omega)).trans HB2.out)
        have z10 : w4.cell? ⟨B, 10, none⟩ = some (.slice ak bs.length ck) := cell_at hB4 10
        have zf := froz_at hB4 10
        have HS4 := hid (HS1.out.next hwr (by omega) HF2'.out (by have := HNV.out; rw [HK2.out] at this; exact this) rfl hgr3 hown3 (by simpa using hdd) (.slice a3 (bs.length + 1) c3))
        have HX4 : Hid ((w4.setCell ⟨B, 10, none⟩ (.slice a3 (bs.length + 1) c3)).heap[B]? = some (.cells (nodeA q k a3 (bs.length + 1) c3) 76)) := set_at hB4
        have hro : ∀ g, (Value.slice ak bs.length ck).ownBlock = some g → B + 1 ≤ g := fun g e => (HS1.out.row.lt g e).1
        have HF4 : Hid (Fb Bn w (w4.setCell ⟨B, 10, none⟩ (.slice a3 (bs.length + 1) c3))) := Fb.tail (HF.out.trans HF2'.out) HBB.out hgr3 hro
        have HV4 : Hid (Vars Bn Bl Bg (some ⟨b, off, none⟩) ts.length c (k' + (rows t).length) (w4.setCell ⟨B, 10, none⟩ (.slice a3 (bs.length + 1) c3))) := HV.out.fb HF4.out HNl.out HNg.out (at_tail HN2.out hltn hgr3 hro)
        have HT4 : Hid ((ts.map pl).drop k = pl q :: (rowsL (ks ++ [t]) ++ (ts.map pl).drop (k' + (rows t).length))) := by
          unfold Hid
          have e2 : (ts.map pl).drop (k' + (rows t).length) = x := by rw [← List.drop_drop, HE2.out, List.drop_left]
          rw [HT.out, HE2.out, e2, rowsL_append]; simp [rowsL]
        have HG4 : Hid (GtL N0 1 (ks ++ [t])) := by unfold Hid; rw [GtL_append]; exact ⟨HG.out, by simp only [GtL]; exact ⟨gt0_any _ _ _ HGT.out, trivial⟩⟩
        have HK4 : Hid (k' + (rows t).length = k + 1 + (rowsL (ks ++ [t])).length) := by unfold Hid; rw [rowsL_append, HK2.out]; simp [rowsL]; omega
        have hj4 : ks.length + 1 ≤ n := by have := HVL.out; have := HK4.out; rw [rowsL_append] at this; have := rowsL_len ks; simp [rowsL] at *; omega
        clear hown3 hgr3 hdd hB4 hro
        go_wp2
        go_roundw
        case rel => exact ⟨ks ++ [t], bs ++ [b2], a3, c3, k' + (rows t).length, by simp, hle', by omega, HK4, HT4, HG4, by simp; omega, by simpa using hj4, HS4, by unfold Hid; simpa using HX4.out, HF4, HV4⟩
        case measure => simp [intOf]; omega
    · go_wp2
      go_ret
      refine ⟨HF.out, .inr ⟨.nd (pl q) ks, B, (ts.map pl).drop k', rfl, ?_, ?_, ?_, ?_, ?_⟩⟩
      · rw [HT.out]; simp [rows]
      · simp only [Gt]; exact ⟨by show q.kd = _; omega, trivial, gtL0_any _ _ _ HG.out⟩
      · rw [HVr.out.next, HK2.out]; simp [rows]; omega
      · simp [rows]; have := HN.out; have := HK2.out; omega
      · simp only [Nv]
        obtain ⟨g1, g2⟩ := HS1.out.all
        rw [← HBB.out]
        exact ⟨⟨Nat.le_refl _, by omega⟩, by omega, q, bs, ak, ck, rfl, HRQ.out, HX.out, g2, g1⟩
end Go.Proofs.YtkjodikccehmkaaGreat.Rou
/- How deep a tree of routes is: the walk through it. -/
namespace Go.Proofs.YtkjodikccehmkaaGreat.Rou
open Go.RowKit
open Go.Proofs.YtkjodikccehmkaaGreat.Rwc

/-- The variables of a walk that tells how deep it is. -/
structure DVars (Bv Bs Bm : Nat) (m : Nat) (w : World) : Prop where
  visit : w.heap[Bv]? = some (.cells #[.func (.func 69) #[] #[ptr Bm]] 99)
  step : w.heap[Bs]? = some (.cells #[.func (.func 86) #[] #[ptr Bv, ptr Bs]] 99)
  most : w.heap[Bm]? = some (.cells #[.int .i64 m] 3)
theorem DVars.fb {Bv Bs Bm m m' : Nat} {w w' : World} (h : DVars Bv Bs Bm m w) (hb : Fb Bm w w') (hv : Bv ≠ Bm) (hs : Bs ≠ Bm) (hm : w'.heap[Bm]? = some (.cells #[.int .i64 m'] 3)) : DVars Bv Bs Bm m' w' :=
  ⟨hb.kept h.visit hv, hb.kept h.step hs, hm⟩
theorem f69 (b m wi Bm : Nat) (w : World) (_hm : m ≤ 1000) (hw : wi ≤ 1000) (h : w.heap[Bm]? = some (.cells #[.int .i64 m] 3)) :
    Calls Tryz.prog 69 #[ptr b, .int .i64 wi, ptr Bm] w fun e w' => e = .returned (.tuple #[]) ∧ Fb Bm w w' ∧ w'.heap[Bm]? = some (.cells #[.int .i64 ((max m (wi + 1) : Nat) : Int)] 3) := by
  have c0 : w.cell? ⟨Bm, 0, none⟩ = some (.int .i64 m) := cell_at h 0
  have f0 := froz_at h 0
  have HE : Hid (∀ (x : World) (y : Int), x = w.setCell ⟨Bm, 0, none⟩ (.int .i64 y) → y = ((max m (wi + 1) : Nat) : Int) → Fb Bm w x ∧ x.heap[Bm]? = some (.cells #[.int .i64 ((max m (wi + 1) : Nat) : Int)] 3)) := by
    rintro x y rfl rfl
    exact ⟨Fb.set Bm 0 _ w, set_at h⟩
  clear h
  go_enter Tryz.func69, Tryz.ntmps69
  go_wp2
  all_goals
    refine bodyPost_end (results_none rfl _ _ _) rfl ⟨rfl, ?_⟩
    exact HE.out _ _ rfl (by omega)
theorem dpL_mid (pre post : List Tr) (t : Tr) : dp t ≤ dpL (pre ++ t :: post) := by
  rw [dpL_append]; simp only [dpL]; omega
theorem rows_mid (pre post : List Tr) (t : Tr) : (rows t).length + (rowsL pre).length ≤ (rowsL (pre ++ t :: post)).length := by
  rw [rowsL_append]; simp only [rowsL, List.length_append]; omega
theorem take_mid {ks pre post : List Tr} {t : Tr} {k : Nat} (h : ks = pre ++ t :: post) (hk : pre.length = k) : ks.take k = pre ∧ ks.take (k + 1) = pre ++ [t] := by
  subst hk; subst h
  constructor
  · simp
  · rw [show pre ++ t :: post = (pre ++ [t]) ++ post by simp, List.take_left' (by simp)]
set_option maxHeartbeats 4000000 in
theorem walk_deep (Bv Bs Bm : Nat) (hv : Bv ≠ Bm) (hs : Bs ≠ Bm) : ∀ (D : Nat) (t : Tr), dp t ≤ D → ∀ (w0 w : World) (S : Nat → Prop) (i b m wi : Nat), Nv w0 S w i t b → (∀ x, S x → x ≠ Bm) → wi + dp t ≤ 1000 → m ≤ 1000 → (rows t).length ≤ 1000 → DVars Bv Bs Bm m w →
    Calls Tryz.prog 86 #[ptr b, .int .i64 wi, ptr Bv, ptr Bs] w fun e w' => e = .returned (.tuple #[]) ∧ Fb Bm w w' ∧ w'.heap[Bm]? = some (.cells #[.int .i64 ((max m (wi + dp t) : Nat) : Int)] 3) := by
  intro D
  induction D with
  | zero => rintro ⟨r, ks⟩ h; simp [dp] at h
  | succ D ih =>
    rintro ⟨r, ks⟩ hd w0 w S i b m wi hn hS hw hm hz hV
    have HIH := hid ih
    have HN := hid hn
    have HSB := hid hS
    have HV := hid hV
    simp only [Nv] at hn
    obtain ⟨hb1, hb2, q, bs, ak, ck, hp, hrw, hx, hhv, hl⟩ := hn
    have hbm := hS b hb1
    have HX := hid hx
    have HHV := hid hhv
    have HL := hid hl
    have HLN := hid (NvL.len _ _ _ hl)
    have HVB := hid hv
    have HSS := hid hs
    have HD : Hid (dp (.nd r ks) = dpL ks + 1) := rfl
    have hdk : dpL ks ≤ D := by simp only [dp] at hd; omega
    have hzk : (rowsL ks).length ≤ 999 := by simp [rows] at hz; omega
    have hbl : bs.length ≤ 999 := by have := rowsL_len ks; have := HLN.out; omega
    have hdw : wi + (dpL ks + 1) ≤ 1000 := by simp only [dp] at hw; omega
    have c0 : w.cell? ⟨Bv, 0, none⟩ = some (.func (.func 69) #[] #[ptr Bm]) := cell_at hV.visit 0
    have HC := hid (f69 b m wi Bm w hm (by omega) hV.most)
    clear ih hS hV hz hb1 hb2 hp hrw hx hhv hl hd hw hv hs
    go_enter Tryz.func86, Tryz.ntmps86
    go_wp2_with fail
    refine HC.out.mono ?_
    rintro e w1 ⟨rfl, hf1, hm1⟩
    have HF1 := hid hf1
    have HM1 := hid hm1
    have x10 : w1.cell? ⟨b, 10, none⟩ = some (.slice ak bs.length ck) := cell_at (hf1.kept HX.out hbm) 10
    clear hf1 hm1 c0 HC
    go_wp2
    go_loopw [17] (fun s17 wr => ∃ k : Nat, k ≤ bs.length ∧ s17 = .int .i64 k ∧ Hid (wr.heap[Bm]? = some (.cells #[.int .i64 ((max m (wi + 1 + dpL (ks.take k)) : Nat) : Int)] 3)) ∧ Hid (Fb Bm w wr)) (fun s17 _ => bs.length - (intOf s17).toNat)
    case atStart => exact ⟨0, Nat.zero_le _, rfl, by unfold Hid; simpa [dpL] using HM1.out, HF1⟩
    case round =>
      obtain ⟨k, hk, rfl, HM, HF⟩ := hrel
      by_cases hlt : k < bs.length
      · obtain ⟨pre, t, post, b', e1, e2, e3, e4⟩ := NvL.cut ks (i + 1) bs HL.out k (by rw [← HLN.out]; exact hlt)
        rcases HHV.out with hz | ⟨g, off, rfl, hg1, hg2, hg3⟩
        · exact absurd hlt (by have := congrArg List.length hz; rw [vals_len] at this; simp at this; rw [this]; simp)
        have hag : Agr S S w wr := Fb.agr HF.out (fun x hx => ⟨HSB.out x hx, hx⟩)
        have y1 : wr.cell? ⟨g, off + k, none⟩ = some (ptr b') := by
          refine (cell_of (p := ⟨g, off + k, none⟩) (hag.blk g hg1 hg2)).trans ?_
          rw [hg3 k (by rw [vals_len]; exact hlt)]; exact vals_get e3
        obtain ⟨ht1, ht2⟩ := take_mid e1 e2
        have hdt : dp t ≤ dpL ks := by rw [e1]; exact dpL_mid pre post t
        have hrt : (rows t).length ≤ 1000 := by have := rows_mid pre post t; rw [← e1] at this; omega
        have hpre : dpL pre ≤ dpL ks := by rw [e1, dpL_append]; omega
        have HM' : Hid (wr.heap[Bm]? = some (.cells #[.int .i64 ((max m (wi + 1 + dpL pre) : Nat) : Int)] 3)) := by have := HM.out; rw [ht1] at this; exact this
        have HVr : Hid (DVars Bv Bs Bm (max m (wi + 1 + dpL pre)) wr) := HV.out.fb HF.out HVB.out HSS.out HM'.out
        have y2 : wr.cell? ⟨Bs, 0, none⟩ = some (.func (.func 86) #[] #[ptr Bv, ptr Bs]) := cell_at HVr.out.step 0
        have HC := hid (HIH.out t (by omega) w0 wr S _ b' (max m (wi + 1 + dpL pre)) (wi + 1) (e4 |> Nv.agr hag t _ b') HSB.out (by omega) (by omega) hrt HVr.out)
        have HT2 := hid ht2
        clear e1 e2 e3 e4 hag HM ht1 ht2 hrt
        go_wp2_with fail
        refine HC.out.mono ?_
        rintro e w2 ⟨rfl, hf2, hm2⟩
        have HF2 := hid (HF.out.trans hf2)
        have HM2 : Hid (w2.heap[Bm]? = some (.cells #[.int .i64 ((max m (wi + 1 + dpL (ks.take (k + 1))) : Nat) : Int)] 3)) := by
          unfold Hid
          have e : max m (wi + 1 + dpL (ks.take (k + 1))) = max (max m (wi + 1 + dpL pre)) (wi + 1 + dp t) := by
            rw [HT2.out, dpL_append]; simp only [dpL]; omega
          rw [hm2, e]
        clear hf2 hm2 HC
        go_wp2
        go_roundw
        case rel => exact ⟨k + 1, by omega, by go_num, HM2, HF2⟩
        case measure => simp [intOf]; omega
      · obtain rfl : k = bs.length := by omega
        go_wp2
        refine bodyPost_end (results_none rfl _ _ _) rfl ⟨rfl, HF.out, ?_⟩
        have := HM.out
        rw [HLN.out, List.take_length] at this
        have e : max m (wi + dp (.nd r ks)) = max m (wi + 1 + dpL ks) := by rw [HD.out]; omega
        rw [e]; exact this
end Go.Proofs.YtkjodikccehmkaaGreat.Rou
