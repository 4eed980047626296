/- The program grows its tree of routes. -/
import Derived.Test.YthcogkoleiejgaaGreatDoorRRT
import Derived.Deep.RegionHeld3
import Derived.Deep.CutRange
import Derived.Laws.EntriesVeiled
namespace Go.Proofs.YthcogkoleiejgaaGreatDoor.Rou
open Go.RowKit
open Go.Proofs.YthcogkoleiejgaaGreatDoor.Rwc

/-- All but one block stays. -/
abbrev Fb (B : Nat) (w w' : World) : Prop := w.grownBy w' (some B)
theorem Fb.refl (B : Nat) (w : World) : Fb B w w := ⟨rfl, rfl, rfl, Nat.le_refl _, fun _ _ _ => rfl⟩
theorem Fb.trans {B : Nat} {a b c : World} (h : Fb B a b) (k : Fb B b c) : Fb B a c :=
  ⟨k.os.trans h.os, k.tape.trans h.tape, k.output.trans h.output, Nat.le_trans h.size k.size, fun i hi hr => (k.block i (Nat.lt_of_lt_of_le hi h.size) hr).trans (h.block i hi hr)⟩
theorem Fb.of {B : Nat} {w w' : World} (h : Below w.heap.size w w') : Fb B w w' := ⟨h.os, h.tape, h.output, h.size, fun i hi _ => h.block i hi⟩
theorem Fb.kept {B b : Nat} {x y : World} {o : Obj} (hb : Fb B x y) (h : x.heap[b]? = some o) (hn : b ≠ B) : y.heap[b]? = some o := (hb.block b (lt_at h) (fun e => hn (Option.some.inj e))).trans h
theorem Fb.below {B U : Nat} {w0 w w' : World} (h : Below U w0 w) (hb : Fb B w w') (hU : U ≤ B) (hw : U ≤ w.heap.size) : Below U w0 w' := h.grown hb hw (by intro k hk; cases hk; exact hU)
theorem Fb.own {B base e size n : Nat} {v : Value} {xs : List Value} {w w' : World} (h : w.ownsRow base e size v n xs) (hb : Fb B w w') (hB : B < base) : w'.ownsRow base e size v n xs :=
  h.kept hb (by
    cases hv : v.ownBlock with
    | none => exact .inl rfl
    | some k => have := (h.lt k hv).1; exact .inr (by simp; omega))
theorem Fb.agr {B : Nat} {S S' : Nat → Prop} {w w' : World} (hb : Fb B w w') (h : ∀ b, S b → b ≠ B ∧ S' b) : Agr S S' w w' :=
  ⟨hb.size, fun b hS hl => hb.block b hl (fun e => (h b hS).1 (Option.some.inj e)), fun b hS => (h b hS).2⟩
theorem Fb.set (B o : Nat) (v : Value) (w : World) : Fb B w (w.setCell ⟨B, o, none⟩ v) :=
  have h := (Below.refl 0 w).setCell (p := ⟨B, o, none⟩) (Nat.zero_le _) v
  ⟨h.os, h.tape, h.output, h.size, fun i _ hr => Below.heap_setCell w ⟨B, o, none⟩ v i (fun e => hr (by rw [e]))⟩
theorem Fb.tail {Bn B o : Nat} {w w2 w4 : World} {ob : Obj} {r : Option Nat} {v : Value} (h : Fb Bn w w2) (hB : B = w.heap.size) (hg : (w2.alloc ob).grownBy w4 r) (hr : ∀ g, r = some g → B + 1 ≤ g) : Fb Bn w (w4.setCell ⟨B, o, none⟩ v) := by
  have h1 : Fb Bn w (w2.alloc ob) := h.trans (Fb.of ((Below.refl _ _).alloc (Nat.le_refl _) _))
  have h2 : Fb Bn w w4 := ⟨hg.os.trans h1.os, hg.tape.trans h1.tape, hg.output.trans h1.output, Nat.le_trans h1.size hg.size, fun i hi hne => (hg.block i (Nat.lt_of_lt_of_le hi h1.size) (fun e => by have := hr i e.symm; omega)).trans (h1.block i hi hne)⟩
  have h3 := Fb.set B o v w4
  exact ⟨h3.os.trans h2.os, h3.tape.trans h2.tape, h3.output.trans h2.output, Nat.le_trans h2.size h3.size, fun i hi hne => (h3.block i (Nat.lt_of_lt_of_le hi h2.size) (fun e => by simp at e; omega)).trans (h2.block i hi hne)⟩
theorem at_tail {Bn B o : Nat} {w2 w4 : World} {ob ox : Obj} {r : Option Nat} {v : Value} (h : w2.heap[Bn]? = some ox) (hB : Bn < B) (hg : (w2.alloc ob).grownBy w4 r) (hr : ∀ g, r = some g → B + 1 ≤ g) : (w4.setCell ⟨B, o, none⟩ v).heap[Bn]? = some ox := by
  refine set_else ?_ (by simp only; omega)
  have hl := lt_at h
  exact (hg.block Bn (by simp; omega) (fun e => by have := hr Bn e.symm; omega)).trans ((Below.heap_alloc _ _ _ hl).trans h)
/-- The three variables that grow uses: which is next, the list, grow itself. -/
structure Vars (Bn Bl Bg : Nat) (a : Option Addr) (n c k : Nat) (w : World) : Prop where
  next : w.heap[Bn]? = some (.cells #[.int .i64 k] 3)
  list : w.heap[Bl]? = some (.cells #[.slice a n c] 30)
  grow : w.heap[Bg]? = some (.cells #[.func (.func 126) #[] #[ptr Bn, ptr Bl, ptr Bg]] 174)
theorem Vars.fb {Bn Bl Bg : Nat} {a : Option Addr} {n c k k' : Nat} {w w' : World} (h : Vars Bn Bl Bg a n c k w) (hb : Fb Bn w w') (hl : Bl ≠ Bn) (hg : Bg ≠ Bn) (hn : w'.heap[Bn]? = some (.cells #[.int .i64 k'] 3)) : Vars Bn Bl Bg a n c k' w' :=
  ⟨hn, hb.kept h.list hl, hb.kept h.grow hg⟩
/-- What a call of grow leaves. -/
def GrR (w0 : World) (Bn : Nat) (ts : List T) (k : Nat) (w : World) (e : Ending) (w' : World) : Prop :=
  Fb Bn w w' ∧ ((e = .returned (.pointer none) ∧ w'.heap[Bn]? = some (.cells #[.int .i64 ts.length] 3) ∧ ∀ d t x, (ts.map pl).drop k = rows t ++ x → ¬ Gt N0 d t) ∨
    ∃ t b x, e = .returned (ptr b) ∧ (ts.map pl).drop k = rows t ++ x ∧ Gt N0 0 t ∧ w'.heap[Bn]? = some (.cells #[.int .i64 ((k + (rows t).length : Nat) : Int)] 3) ∧ k + (rows t).length ≤ ts.length ∧ Nv w0 (fun b => w.heap.size ≤ b ∧ b < w'.heap.size) w' k t b)
theorem Gs.all {w0 wr : World} {B i ck : Nat} {ks : List Tr} {bs : List Nat} {ak : Option Addr} (h : Gs w0 B i ks bs ak ck wr) : NvL w0 (fun b => B ≤ b ∧ b < wr.heap.size) wr i ks bs ∧ HasV (fun b => B ≤ b ∧ b < wr.heap.size) wr ak (vals bs) := by
  refine ⟨NvL.agr (S := fun b => B < b ∧ b < wr.heap.size ∧ (Value.slice ak bs.length ck).ownBlock ≠ some b) ⟨Nat.le_refl _, fun _ _ _ => rfl, fun b hb => ⟨by omega, hb.2.1⟩⟩ ks i bs h.nv, ?_⟩
  rcases h.row.2 with ⟨_, h2⟩ | ⟨g, cap, cur, h1, h2, h3, h4, h5, h6, h7⟩
  · exact .inl (List.length_eq_zero_iff.1 (by rw [vals_len]; exact h2))
  · simp only [Value.slice.injEq] at h1
    refine .inr ⟨g, 0, h1.1, ⟨by omega, (Array.getElem?_eq_some_iff.1 h3).1⟩, (Array.getElem?_eq_some_iff.1 h3).1, fun i hi => ?_⟩
    rw [vals_len] at hi
    rw [Nat.zero_add]
    simp only [World.cell?, h3]
    have e : (vals bs)[i]? = cur.toList[i]? := by
      have := congrArg (fun l => l[i]?) h7
      simp only [List.getElem?_take] at this
      rw [if_pos (by omega)] at this
      exact this.symm
    rw [e]
    simp
theorem Gs.next {w0 wr w2 w3 w4 : World} {Bn B i ck c3 : Nat} {ks : List Tr} {bs : List Nat} {ak a3 : Option Addr} {t : Tr} {b : Nat} (h : Gs w0 B i ks bs ak ck wr) (hs : B + 1 ≤ wr.heap.size) (hB : Bn < B)
    (hb : Fb Bn wr w2) (hn : Nv w0 (fun b => wr.heap.size ≤ b ∧ b < w2.heap.size) w2 (i + (rowsL ks).length) t b) (h3 : w3 = w2.alloc (.cells #[ptr b] 116))
    (hg : w3.grownBy w4 (Value.slice ak bs.length ck).ownBlock) (ho : w4.ownsRow (B + 1) 116 1 (.slice a3 (bs.length + 1) c3) (bs.length + 1) (vals bs ++ [ptr b])) (hd : (Value.slice a3 (bs.length + 1) c3).ownBlock = (Value.slice ak bs.length ck).ownBlock ∨ (Value.slice a3 (bs.length + 1) c3).ownBlock = some w3.heap.size) (v : Value) :
    Gs w0 B i (ks ++ [t]) (bs ++ [b]) a3 c3 (w4.setCell ⟨B, 10, none⟩ v) := by
  subst h3
  have hsz : (w2.alloc (.cells #[ptr b] 116)).heap.size = w2.heap.size + 1 := by simp
  have hlt : ∀ g, (Value.slice ak bs.length ck).ownBlock = some g → B + 1 ≤ g ∧ g < wr.heap.size := fun g e => h.row.lt g e
  have hs2 := hb.size
  have hs4 := hg.size
  have hlen : (bs ++ [b]).length = bs.length + 1 := by simp
  have hv : vals (bs ++ [b]) = vals bs ++ [ptr b] := by simp [vals]
  have hss : (w4.setCell ⟨B, 10, none⟩ v).heap.size = w4.heap.size := by simp
  have hset : ∀ x, x ≠ B → (w4.setCell ⟨B, 10, none⟩ v).heap[x]? = w4.heap[x]? := fun x hx => Below.heap_setCell w4 ⟨B, 10, none⟩ v x hx
  refine ⟨?_, ?_⟩
  · rw [hlen, hv]
    rcases ho.2 with ⟨h1, h2⟩ | ⟨g, cap, cur, h1, h2, h3', h4⟩
    · exact absurd h2 (by omega)
    · refine ⟨ho.1, .inr ⟨g, cap, cur, h1, h2, ?_, h4⟩⟩
      rw [hset g (by omega)]; exact h3'
  · rw [hlen]
    refine NvL.snoc ks i bs ?_ ?_
    · refine NvL.agr (S := fun b => B < b ∧ b < wr.heap.size ∧ (Value.slice ak bs.length ck).ownBlock ≠ some b) ⟨by omega, fun x hb1 hb2 => ?_, fun x hb1 => ⟨hb1.1, by omega, ?_⟩⟩ ks i bs h.nv
      · rw [hset x (by omega)]
        exact (hg.block x (by omega) (fun e => hb1.2.2 e.symm)).trans ((Below.heap_alloc _ _ _ (by omega)).trans (hb.block x hb2 (fun e => by simp at e; omega)))
      · intro e
        rcases hd with hd | hd
        · rw [hd] at e; exact hb1.2.2 e
        · rw [hd] at e; simp at e; omega
    · refine Nv.agr (S := fun b => wr.heap.size ≤ b ∧ b < w2.heap.size) ⟨by omega, fun x hb1 hb2 => ?_, fun x hb1 => ⟨by omega, by omega, ?_⟩⟩ t _ b hn
      · rw [hset x (by omega)]
        refine (hg.block x (by omega) (fun e => ?_)).trans (Below.heap_alloc _ _ _ hb2)
        have := hlt x e.symm; omega
      · intro e
        rcases hd with hd | hd
        · rw [hd] at e; have := hlt x e; omega
        · rw [hd] at e; simp at e; omega
end Go.Proofs.YthcogkoleiejgaaGreatDoor.Rou
/- The program grows its tree of routes: the walk. -/
namespace Go.Proofs.YthcogkoleiejgaaGreatDoor.Rou
open Go.RowKit
open Go.Proofs.YthcogkoleiejgaaGreatDoor.Rwc
open Go.Proofs.YthcogkoleiejgaaGreatDoor.Pat (ret_bool)

theorem infoN : (Tryz.prog.info? 116).map (fun i => (i.zero, i.size, i.bytes)) = some (some (.pointer none), 1, 8) := by kernel_rfl
def GrowOk (m : Nat) : Prop := ∀ (ts : List T) (a : Option Addr) (c : Nat) (Bn Bl Bg k : Nat) (w0 w : World), ts.length < k + m → k ≤ ts.length → ts.length ≤ 40 → Has w0 a ts → (∀ q ∈ ts, Rw w0 q ∧ 0 ≤ q.kd) → Below w0.heap.size w0 w → w0.heap.size ≤ Bn → Bl ≠ Bn → Bg ≠ Bn → Vars Bn Bl Bg a ts.length c k w →
  Calls Tryz.prog 126 #[ptr Bn, ptr Bl, ptr Bg] w (GrR w0 Bn ts k w)
theorem drop_one {ts : List T} {k : Nat} (h : k < ts.length) : (ts.map pl).drop k = pl (ts.getD k t0) :: (ts.map pl).drop (k + 1) := by
  rw [List.drop_eq_getElem_cons (by simpa using h)]
  simp [List.getD_eq_getElem?_getD, h]
theorem mem_getD {ts : List T} {k : Nat} (h : k < ts.length) : ts.getD k t0 ∈ ts := by
  simp [List.getD_eq_getElem?_getD, h]
set_option maxHeartbeats 8000000 in
set_option maxRecDepth 100000 in
theorem grow_step (m : Nat) (IH : GrowOk m) : GrowOk (m + 1) := by
  intro ts a c Bn Bl Bg k w0 w hm hk h40 hr hrw hb0 hBn hBl hBg hv
  have HIH := hid IH
  have HR := hid hr
  have HRW := hid hrw
  have HB0 := hid hb0
  have HV := hid hv
  have HNn := hid hBn
  have HNl := hid hBl
  have HNg := hid hBg
  obtain ⟨n, hn⟩ : ∃ n, n = ts.length := ⟨_, rfl⟩
  have HN := hid hn
  have n0 : w.cell? ⟨Bn, 0, none⟩ = some (.int .i64 k) := cell_at hv.next 0
  have n1 : w.cell? ⟨Bl, 0, none⟩ = some (.slice a n c) := by rw [hn]; exact cell_at hv.list 0
  have n2 := froz_at hv.next 0
  rw [← hn] at hm hk h40
  clear IH hr hrw hb0 hBn hBl hBg hv
  by_cases hlt : k < n
  rotate_left
  · obtain rfl : k = n := by omega
    clear hn hlt
    go_enter Tryz.func126, Tryz.ntmps126
    go_wp2
    go_ret
    refine ⟨Fb.refl _ _, .inl ⟨rfl, by have := HV.out.next; rw [← HN.out]; exact this, fun d t x e => ?_⟩⟩
    rw [List.drop_eq_nil_of_le (by simp; have := HN.out; omega)] at e
    exact no_rows t x e
  obtain ⟨b, off, hab, hbl, hcl, hlst⟩ := (HR.out.below HB0.out).at2 k (by rw [← hn]; exact hlt)
  have HQM := hid (mem_getD (ts := ts) (k := k) (by rw [← hn]; exact hlt))
  have HD1 := hid (drop_one (ts := ts) (k := k) (by rw [← hn]; exact hlt))
  have HAB := hid hab
  generalize ts.getD k t0 = q at *
  obtain ⟨c0, c1, c2, c3, c4, c5, c6, c7, c8⟩ := hcl.all
  have HRQ := hid (HRW.out q HQM.out).1
  have HKD := hid (HRW.out q HQM.out).2
  subst hab
  clear hlst hcl hn
  have HS : (fun x : World => x.cell? ⟨Bn, 0, none⟩ = some (.int .i64 k) ∧ x.cell? ⟨Bl, 0, none⟩ = some (.slice (some ⟨b, off, none⟩) n c) ∧ x.cell? ⟨b, off + k * 9, none⟩ = some (.string q.rv) ∧ x.cell? ⟨b, off + k * 9 + 1, none⟩ = some (.slice q.ma q.ms.length q.mc) ∧ x.cell? ⟨b, off + k * 9 + 2, none⟩ = some (.slice q.da q.ds.length q.dc) ∧ x.cell? ⟨b, off + k * 9 + 3, none⟩ = some (.int .i64 q.wa) ∧ x.cell? ⟨b, off + k * 9 + 4, none⟩ = some (.int .i64 q.ev) ∧ x.cell? ⟨b, off + k * 9 + 5, none⟩ = some (.int .i64 q.ag) ∧ x.cell? ⟨b, off + k * 9 + 6, none⟩ = some (.slice q.ua q.us.length q.uc) ∧ x.cell? ⟨b, off + k * 9 + 7, none⟩ = some (.bool q.on) ∧ x.cell? ⟨b, off + k * 9 + 8, none⟩ = some (.int .i64 q.kd)) w.drew := ⟨n0, n1, c0, c1, c2, c3, c4, c5, c6, c7, c8⟩
  have i1 : (k : Int) < (n : Int) := by omega
  go_enter Tryz.func126, Tryz.ntmps126
  go_upto_region 3 with fail
  go_region_held3 (fun x => x.cell? ⟨Bn, 0, none⟩ = some (.int .i64 k) ∧ x.cell? ⟨Bl, 0, none⟩ = some (.slice (some ⟨b, off, none⟩) n c) ∧ x.cell? ⟨b, off + k * 9, none⟩ = some (.string q.rv) ∧ x.cell? ⟨b, off + k * 9 + 1, none⟩ = some (.slice q.ma q.ms.length q.mc) ∧ x.cell? ⟨b, off + k * 9 + 2, none⟩ = some (.slice q.da q.ds.length q.dc) ∧ x.cell? ⟨b, off + k * 9 + 3, none⟩ = some (.int .i64 q.wa) ∧ x.cell? ⟨b, off + k * 9 + 4, none⟩ = some (.int .i64 q.ev) ∧ x.cell? ⟨b, off + k * 9 + 5, none⟩ = some (.int .i64 q.ag) ∧ x.cell? ⟨b, off + k * 9 + 6, none⟩ = some (.slice q.ua q.us.length q.uc) ∧ x.cell? ⟨b, off + k * 9 + 7, none⟩ = some (.bool q.on) ∧ x.cell? ⟨b, off + k * 9 + 8, none⟩ = some (.int .i64 q.kd)) (first | exact HS | go_keep) (first | fail)
  rename_i K1 hK1 hS1
  refine hK1 _ _ ?_
  clear hK1 hS1
  obtain ⟨W1, hW1⟩ : ∃ W, W = (w.alloc (.cells (nodeA q k none 0 0) 149)).drew := ⟨_, rfl⟩
  have HX1 : Hid (W1.heap[w.heap.size]? = some (.cells (nodeA q k none 0 0) 149)) := by rw [hW1]; exact heap_alloc_new w _
  have HB1 : Hid (Below w.heap.size w W1) := by rw [hW1]; exact ((Below.refl w.heap.size w).alloc (Nat.le_refl _) _).drew
  have HZ1 : Hid (W1.heap.size = w.heap.size + 1) := by rw [hW1]; unfold Hid; simp
  have hltn := lt_at HV.out.next
  have HV1 : Hid (Vars Bn Bl Bg (some ⟨b, off, none⟩) ts.length c k W1) := HV.out.fb (Fb.of HB1.out) HNl.out HNg.out (kept HV.out.next HB1.out)
  rw [← hW1]
  clear n0 n1 n2 c0 c1 c2 c3 c4 c5 c6 c7 c8 HS hW1
  have n0 : W1.cell? ⟨Bn, 0, none⟩ = some (.int .i64 k) := cell_at HV1.out.next 0
  have n2 := froz_at HV1.out.next 0
  obtain ⟨W2, hW2⟩ : ∃ W, W = W1.setCell ⟨Bn, 0, none⟩ (.int .i64 ((k : Int) + 1)) := ⟨_, rfl⟩
  have hkn : k + 1 ≤ n := by omega
  have HF2 : Hid (Fb Bn w W2) := by
    rw [hW2]
    exact (Fb.of HB1.out).trans (Fb.set Bn 0 _ W1)
  have HX2 : Hid (W2.heap[w.heap.size]? = some (.cells (nodeA q k none 0 0) 149)) := by rw [hW2]; exact set_else HX1.out (by simp only; omega)
  have HV2 : Hid (Vars Bn Bl Bg (some ⟨b, off, none⟩) ts.length c (k + 1) W2) := by
    refine HV.out.fb HF2.out HNl.out HNg.out ?_
    rw [hW2]; exact set_at HV1.out.next
  have HZ2 : Hid (W2.heap.size = w.heap.size + 1) := by rw [hW2]; unfold Hid; simp; exact HZ1.out
  have HW2 := hid hW2
  clear hW2 HB1 HX1 HV1 HZ1
  go_upto_region 5 with fail
  rw [← HW2.out]
  clear HW2 n0 n2
  obtain ⟨B, hB⟩ : ∃ B, B = w.heap.size := ⟨_, rfl⟩
  rw [← hB] at HX2 HZ2 hltn ⊢
  have HBB := hid hB
  clear hB
  obtain ⟨x0, x1, x2, x3, x4, x5, x6, x7, x8, x9, x10⟩ := cellsE HX2.out
  obtain ⟨i0', hi, hz0, hz1, hz2⟩ := info_parts infoN
  have HG0 : Hid (Gs w0 B (k + 1) [] [] none 0 W2) := ⟨World.ownsRow_nil _ _ _ _, by simp [NvL]⟩
  have HT0 : Hid ((ts.map pl).drop k = pl q :: (rowsL [] ++ (ts.map pl).drop (k + 1))) := by unfold Hid; rw [HD1.out]; simp [rowsL]
  rw [HBB.out] at HX2 HZ2 HG0
  rw [← HBB.out] at HX2 HZ2 HG0
  go_wp2
  go_loopw [24] (fun s24 wr => ∃ (ks : List Tr) (bs : List Nat) (ak : Option Addr) (ck : Nat) (k' : Nat), s24 = .int .i64 ks.length ∧ k' ≤ n ∧ k + 1 ≤ k' ∧ Hid (k' = k + 1 + (rowsL ks).length) ∧ Hid ((ts.map pl).drop k = pl q :: (rowsL ks ++ (ts.map pl).drop k')) ∧ Hid (GtL N0 1 ks) ∧ (ks.length : Int) ≤ q.kd ∧ ks.length ≤ n ∧ Hid (Gs w0 B (k + 1) ks bs ak ck wr) ∧ Hid (wr.heap[B]? = some (.cells (nodeA q k ak bs.length ck) 149)) ∧ Hid (Fb Bn w wr) ∧ Hid (Vars Bn Bl Bg (some ⟨b, off, none⟩) ts.length c k' wr)) (fun s24 _ => (q.kd - intOf s24).toNat)
  case atStart => exact ⟨[], [], none, 0, k + 1, rfl, hkn, Nat.le_refl _, by unfold Hid; simp [rowsL], HT0, by unfold Hid; simp [GtL], by simpa using HKD.out, by simp, HG0, HX2, HF2, HV2⟩
  case round =>
    obtain ⟨ks, bs, ak, ck, k', rfl, hk1, hk3, HK2, HT, HG, hj, hj2, HS1, HX, HF, HVr⟩ := hrel
    have HVL := hid (NvL.len _ _ _ HS1.out.nv)
    have hwr : B + 1 ≤ wr.heap.size := by have := lt_at HX.out; omega
    have HB0r : Hid (Below w0.heap.size w0 wr) := Fb.below HB0.out HF.out HNn.out HB0.out.size
    by_cases hlt2 : (ks.length : Int) < q.kd
    · have g0 : wr.cell? ⟨Bg, 0, none⟩ = some (.func (.func 126) #[] #[ptr Bn, ptr Bl, ptr Bg]) := cell_at HVr.out.grow 0
      have hNm : ts.length < k' + m := by have := HN.out; omega
      have hNk : k' ≤ ts.length := by have := HN.out; omega
      have hN4 : ts.length ≤ 40 := by have := HN.out; omega
      have HCALL := hid (HIH.out ts (some ⟨b, off, none⟩) c Bn Bl Bg k' w0 wr hNm hNk hN4 HR.out HRW.out HB0r.out HNn.out HNl.out HNg.out HVr.out)
      clear hNm hNk hN4
      go_wp2_with fail
      refine HCALL.out.mono ?_
      clear HCALL
      rintro e w2 ⟨hf2, hk⟩
      rcases hk with ⟨rfl, hn2, hno⟩ | ⟨t, b2, x, rfl, he2, hgt, hn2, hle, hnv⟩
      · have HNO := hid hno
        have HN2 := hid hn2
        have HF2' := hid (HF.out.trans hf2)
        clear hno hn2 hf2 g0
        go_wp2
        go_ret
        refine ⟨HF2'.out, .inl ⟨rfl, HN2.out, fun d t x e => ?_⟩⟩
        rw [HT.out] at e
        exact no_more (gtL0_any _ _ _ HG.out) hlt2 (fun t' x' e' hg' _ _ _ => HNO.out (d + 1) t' x' e' hg') t x e
      · have HF2' := hid hf2
        have HE2 := hid he2
        have HGT := hid hgt
        have HN2 := hid hn2
        have HNV := hid hnv
        have hle' : k' + (rows t).length ≤ n := by have := HN.out; omega
        have hrp := rows_pos t
        have hsz2 := hf2.size
        have hB2 : w2.heap[B]? = some (.cells (nodeA q k ak bs.length ck) 149) := hf2.kept HX.out (by omega)
        have HB2 := hid hB2
        have y10 : w2.cell? ⟨B, 10, none⟩ = some (.slice ak bs.length ck) := cell_at hB2 10
        have HOW : Hid ((w2.alloc (.cells #[ptr b2] 116)).ownsRow (B + 1) 116 1 (.slice ak bs.length ck) bs.length (vals bs)) := (Fb.own HS1.out.row hf2 (by omega)).alloc _
        have hbn : bs.length ≤ 40 := by have := HVL.out; omega
        clear hf2 he2 hgt hn2 hnv hB2 hle g0
        go_wp2_with (at_builtin; refine wpList_append_own_at _ rfl (.tmp 34) (.tmp 36) 147 rfl (B + 1) 116 i0' (.pointer none) 1 8 Tryz.underlying147 hi hz0 hz1 hz2 rfl (by decide) _ _ _ rfl HOW.out ⟨w2.heap.size, 0, none⟩ 1 1 [ptr b2] rfl rfl ?d1 ?d2 ?d3 ?d4 ?d5 ?_)
        case d1 => exact Pat.one_row _ _ _
        case d2 => intro u hu; simp at hu; subst hu; rfl
        case d3 => unfold maxLen; omega
        case d4 => omega
        case d5 => simp; omega
        intro v3 w4 hown3 hgr3 _ hdd
        obtain ⟨a3, c3, rfl⟩ := Pat.own_form hown3
        have hB4 : w4.heap[B]? = some (.cells (nodeA q k ak bs.length ck) 149) :=
          (hgr3.block B (by simp; omega) (fun e => by have := (HS1.out.row.lt B e.symm).1; omega)).trans ((Below.heap_alloc _ _ _ (by omega)).trans HB2.out)
        have z10 : w4.cell? ⟨B, 10, none⟩ = some (.slice ak bs.length ck) := cell_at hB4 10
        have zf := froz_at hB4 10
        have HS4 := hid (HS1.out.next hwr (by omega) HF2'.out (by have := HNV.out; rw [HK2.out] at this; exact this) rfl hgr3 hown3 (by simpa using hdd) (.slice a3 (bs.length + 1) c3))
        have HX4 : Hid ((w4.setCell ⟨B, 10, none⟩ (.slice a3 (bs.length + 1) c3)).heap[B]? = some (.cells (nodeA q k a3 (bs.length + 1) c3) 149)) := set_at hB4
        have hro : ∀ g, (Value.slice ak bs.length ck).ownBlock = some g → B + 1 ≤ g := fun g e => (HS1.out.row.lt g e).1
        have HF4 : Hid (Fb Bn w (w4.setCell ⟨B, 10, none⟩ (.slice a3 (bs.length + 1) c3))) := Fb.tail (HF.out.trans HF2'.out) HBB.out hgr3 hro
        have HV4 : Hid (Vars Bn Bl Bg (some ⟨b, off, none⟩) ts.length c (k' + (rows t).length) (w4.setCell ⟨B, 10, none⟩ (.slice a3 (bs.length + 1) c3))) := HV.out.fb HF4.out HNl.out HNg.out (at_tail HN2.out hltn hgr3 hro)
        have HT4 : Hid ((ts.map pl).drop k = pl q :: (rowsL (ks ++ [t]) ++ (ts.map pl).drop (k' + (rows t).length))) := by
          unfold Hid
          have e2 : (ts.map pl).drop (k' + (rows t).length) = x := by rw [← List.drop_drop, HE2.out, List.drop_left]
          rw [HT.out, HE2.out, e2, rowsL_append]; simp [rowsL]
        have HG4 : Hid (GtL N0 1 (ks ++ [t])) := by unfold Hid; rw [GtL_append]; exact ⟨HG.out, by simp only [GtL]; exact ⟨gt0_any _ _ _ HGT.out, trivial⟩⟩
        have HK4 : Hid (k' + (rows t).length = k + 1 + (rowsL (ks ++ [t])).length) := by unfold Hid; rw [rowsL_append, HK2.out]; simp [rowsL]; omega
        have hj4 : ks.length + 1 ≤ n := by have := HVL.out; have := HK4.out; rw [rowsL_append] at this; have := rowsL_len ks; simp [rowsL] at *; omega
        clear hown3 hgr3 hdd hB4 hro
        go_wp2
        go_roundw
        case rel => exact ⟨ks ++ [t], bs ++ [b2], a3, c3, k' + (rows t).length, by simp, hle', by omega, HK4, HT4, HG4, by simp; omega, by simpa using hj4, HS4, by unfold Hid; simpa using HX4.out, HF4, HV4⟩
        case measure => simp [intOf]; omega
    · go_wp2
      go_ret
      refine ⟨HF.out, .inr ⟨.nd (pl q) ks, B, (ts.map pl).drop k', rfl, ?_, ?_, ?_, ?_, ?_⟩⟩
      · rw [HT.out]; simp [rows]
      · simp only [Gt]; exact ⟨by show q.kd = _; omega, trivial, gtL0_any _ _ _ HG.out⟩
      · rw [HVr.out.next, HK2.out]; simp [rows]; omega
      · simp [rows]; have := HN.out; have := HK2.out; omega
      · simp only [Nv]
        obtain ⟨g1, g2⟩ := HS1.out.all
        rw [← HBB.out]
        exact ⟨⟨Nat.le_refl _, by omega⟩, by omega, q, bs, ak, ck, rfl, HRQ.out, HX.out, g2, g1⟩
end Go.Proofs.YthcogkoleiejgaaGreatDoor.Rou
/- How deep a tree of routes is: the walk through it. -/
namespace Go.Proofs.YthcogkoleiejgaaGreatDoor.Rou
open Go.RowKit
open Go.Proofs.YthcogkoleiejgaaGreatDoor.Rwc

/-- The variables of a walk that tells how deep it is. -/
structure DVars (Bv Bs Bm : Nat) (m : Nat) (w : World) : Prop where
  visit : w.heap[Bv]? = some (.cells #[.func (.func 128) #[] #[ptr Bm]] 176)
  step : w.heap[Bs]? = some (.cells #[.func (.func 144) #[] #[ptr Bv, ptr Bs]] 176)
  most : w.heap[Bm]? = some (.cells #[.int .i64 m] 3)
theorem DVars.fb {Bv Bs Bm m m' : Nat} {w w' : World} (h : DVars Bv Bs Bm m w) (hb : Fb Bm w w') (hv : Bv ≠ Bm) (hs : Bs ≠ Bm) (hm : w'.heap[Bm]? = some (.cells #[.int .i64 m'] 3)) : DVars Bv Bs Bm m' w' :=
  ⟨hb.kept h.visit hv, hb.kept h.step hs, hm⟩
theorem f128 (b m wi Bm : Nat) (w : World) (_hm : m ≤ 1000) (hw : wi ≤ 1000) (h : w.heap[Bm]? = some (.cells #[.int .i64 m] 3)) :
    Calls Tryz.prog 128 #[ptr b, .int .i64 wi, ptr Bm] w fun e w' => e = .returned (.tuple #[]) ∧ Fb Bm w w' ∧ w'.heap[Bm]? = some (.cells #[.int .i64 ((max m (wi + 1) : Nat) : Int)] 3) := by
  have c0 : w.cell? ⟨Bm, 0, none⟩ = some (.int .i64 m) := cell_at h 0
  have f0 := froz_at h 0
  have HE : Hid (∀ (x : World) (y : Int), x = w.setCell ⟨Bm, 0, none⟩ (.int .i64 y) → y = ((max m (wi + 1) : Nat) : Int) → Fb Bm w x ∧ x.heap[Bm]? = some (.cells #[.int .i64 ((max m (wi + 1) : Nat) : Int)] 3)) := by
    rintro x y rfl rfl
    exact ⟨Fb.set Bm 0 _ w, set_at h⟩
  clear h
  go_enter Tryz.func128, Tryz.ntmps128
  go_wp2
  all_goals
    refine bodyPost_end (results_none rfl _ _ _) rfl ⟨rfl, ?_⟩
    exact HE.out _ _ rfl (by omega)
theorem dpL_mid (pre post : List Tr) (t : Tr) : dp t ≤ dpL (pre ++ t :: post) := by
  rw [dpL_append]; simp only [dpL]; omega
theorem rows_mid (pre post : List Tr) (t : Tr) : (rows t).length + (rowsL pre).length ≤ (rowsL (pre ++ t :: post)).length := by
  rw [rowsL_append]; simp only [rowsL, List.length_append]; omega
theorem take_mid {ks pre post : List Tr} {t : Tr} {k : Nat} (h : ks = pre ++ t :: post) (hk : pre.length = k) : ks.take k = pre ∧ ks.take (k + 1) = pre ++ [t] := by
  subst hk; subst h
  constructor
  · simp
  · rw [show pre ++ t :: post = (pre ++ [t]) ++ post by simp, List.take_left' (by simp)]
set_option maxHeartbeats 4000000 in
theorem walk_deep (Bv Bs Bm : Nat) (hv : Bv ≠ Bm) (hs : Bs ≠ Bm) : ∀ (D : Nat) (t : Tr), dp t ≤ D → ∀ (w0 w : World) (S : Nat → Prop) (i b m wi : Nat), Nv w0 S w i t b → (∀ x, S x → x ≠ Bm) → wi + dp t ≤ 1000 → m ≤ 1000 → (rows t).length ≤ 1000 → DVars Bv Bs Bm m w →
    Calls Tryz.prog 144 #[ptr b, .int .i64 wi, ptr Bv, ptr Bs] w fun e w' => e = .returned (.tuple #[]) ∧ Fb Bm w w' ∧ w'.heap[Bm]? = some (.cells #[.int .i64 ((max m (wi + dp t) : Nat) : Int)] 3) := by
  intro D
  induction D with
  | zero => rintro ⟨r, ks⟩ h; simp [dp] at h
  | succ D ih =>
    rintro ⟨r, ks⟩ hd w0 w S i b m wi hn hS hw hm hz hV
    have HIH := hid ih
    have HN := hid hn
    have HSB := hid hS
    have HV := hid hV
    simp only [Nv] at hn
    obtain ⟨hb1, hb2, q, bs, ak, ck, hp, hrw, hx, hhv, hl⟩ := hn
    have hbm := hS b hb1
    have HX := hid hx
    have HHV := hid hhv
    have HL := hid hl
    have HLN := hid (NvL.len _ _ _ hl)
    have HVB := hid hv
    have HSS := hid hs
    have HD : Hid (dp (.nd r ks) = dpL ks + 1) := rfl
    have hdk : dpL ks ≤ D := by simp only [dp] at hd; omega
    have hzk : (rowsL ks).length ≤ 999 := by simp [rows] at hz; omega
    have hbl : bs.length ≤ 999 := by have := rowsL_len ks; have := HLN.out; omega
    have hdw : wi + (dpL ks + 1) ≤ 1000 := by simp only [dp] at hw; omega
    have c0 : w.cell? ⟨Bv, 0, none⟩ = some (.func (.func 128) #[] #[ptr Bm]) := cell_at hV.visit 0
    have HC := hid (f128 b m wi Bm w hm (by omega) hV.most)
    clear ih hS hV hz hb1 hb2 hp hrw hx hhv hl hd hw hv hs
    go_enter Tryz.func144, Tryz.ntmps144
    go_wp2_with fail
    refine HC.out.mono ?_
    rintro e w1 ⟨rfl, hf1, hm1⟩
    have HF1 := hid hf1
    have HM1 := hid hm1
    have x10 : w1.cell? ⟨b, 10, none⟩ = some (.slice ak bs.length ck) := cell_at (hf1.kept HX.out hbm) 10
    clear hf1 hm1 c0 HC
    go_wp2
    go_loopw [17] (fun s17 wr => ∃ k : Nat, k ≤ bs.length ∧ s17 = .int .i64 k ∧ Hid (wr.heap[Bm]? = some (.cells #[.int .i64 ((max m (wi + 1 + dpL (ks.take k)) : Nat) : Int)] 3)) ∧ Hid (Fb Bm w wr)) (fun s17 _ => bs.length - (intOf s17).toNat)
    case atStart => exact ⟨0, Nat.zero_le _, rfl, by unfold Hid; simpa [dpL] using HM1.out, HF1⟩
    case round =>
      obtain ⟨k, hk, rfl, HM, HF⟩ := hrel
      by_cases hlt : k < bs.length
      · obtain ⟨pre, t, post, b', e1, e2, e3, e4⟩ := NvL.cut ks (i + 1) bs HL.out k (by rw [← HLN.out]; exact hlt)
        rcases HHV.out with hz | ⟨g, off, rfl, hg1, hg2, hg3⟩
        · exact absurd hlt (by have := congrArg List.length hz; rw [vals_len] at this; simp at this; rw [this]; simp)
        have hag : Agr S S w wr := Fb.agr HF.out (fun x hx => ⟨HSB.out x hx, hx⟩)
        have y1 : wr.cell? ⟨g, off + k, none⟩ = some (ptr b') := by
          refine (cell_of (p := ⟨g, off + k, none⟩) (hag.blk g hg1 hg2)).trans ?_
          rw [hg3 k (by rw [vals_len]; exact hlt)]; exact vals_get e3
        obtain ⟨ht1, ht2⟩ := take_mid e1 e2
        have hdt : dp t ≤ dpL ks := by rw [e1]; exact dpL_mid pre post t
        have hrt : (rows t).length ≤ 1000 := by have := rows_mid pre post t; rw [← e1] at this; omega
        have hpre : dpL pre ≤ dpL ks := by rw [e1, dpL_append]; omega
        have HM' : Hid (wr.heap[Bm]? = some (.cells #[.int .i64 ((max m (wi + 1 + dpL pre) : Nat) : Int)] 3)) := by have := HM.out; rw [ht1] at this; exact this
        have HVr : Hid (DVars Bv Bs Bm (max m (wi + 1 + dpL pre)) wr) := HV.out.fb HF.out HVB.out HSS.out HM'.out
        have y2 : wr.cell? ⟨Bs, 0, none⟩ = some (.func (.func 144) #[] #[ptr Bv, ptr Bs]) := cell_at HVr.out.step 0
        have HC := hid (HIH.out t (by omega) w0 wr S _ b' (max m (wi + 1 + dpL pre)) (wi + 1) (e4 |> Nv.agr hag t _ b') HSB.out (by omega) (by omega) hrt HVr.out)
        have HT2 := hid ht2
        clear e1 e2 e3 e4 hag HM ht1 ht2 hrt
        go_wp2_with fail
        refine HC.out.mono ?_
        rintro e w2 ⟨rfl, hf2, hm2⟩
        have HF2 := hid (HF.out.trans hf2)
        have HM2 : Hid (w2.heap[Bm]? = some (.cells #[.int .i64 ((max m (wi + 1 + dpL (ks.take (k + 1))) : Nat) : Int)] 3)) := by
          unfold Hid
          have e : max m (wi + 1 + dpL (ks.take (k + 1))) = max (max m (wi + 1 + dpL pre)) (wi + 1 + dp t) := by
            rw [HT2.out, dpL_append]; simp only [dpL]; omega
          rw [hm2, e]
        clear hf2 hm2 HC
        go_wp2
        go_roundw
        case rel => exact ⟨k + 1, by omega, by go_num, HM2, HF2⟩
        case measure => simp [intOf]; omega
      · obtain rfl : k = bs.length := by omega
        go_wp2
        refine bodyPost_end (results_none rfl _ _ _) rfl ⟨rfl, HF.out, ?_⟩
        have := HM.out
        rw [HLN.out, List.take_length] at this
        have e : max m (wi + dp (.nd r ks)) = max m (wi + 1 + dpL ks) := by rw [HD.out]; omega
        rw [e]; exact this
end Go.Proofs.YthcogkoleiejgaaGreatDoor.Rou
/- The program's tree of routes: routeTree, deep, goodRouteTree, GoodRoutes. -/
namespace Go.Proofs.YthcogkoleiejgaaGreatDoor.Rou
open Go.RowKit
open Go.Proofs.YthcogkoleiejgaaGreatDoor.Rwc

theorem grow_ok : ∀ m, GrowOk m
  | 0 => by intro ts a c Bn Bl Bg k w0 w hm hk; omega
  | m + 1 => grow_step m (grow_ok m)
/-- What routeTree gives of a list. -/
def TreeR (w0 : World) (ts : List T) (w : World) (e : Ending) (w' : World) : Prop :=
  Below w.heap.size w w' ∧ ((e = .returned (.pointer none) ∧ ∀ d t, ts.map pl = rows t → ¬ Gt N0 d t) ∨
    ∃ t b, e = .returned (ptr b) ∧ ts.map pl = rows t ∧ Gt N0 0 t ∧ Nv w0 (fun b => w.heap.size ≤ b ∧ b < w'.heap.size) w' 0 t b)
set_option maxHeartbeats 4000000 in
theorem f98 (ts : List T) (a : Option Addr) (c : Nat) (w0 w : World) (h40 : ts.length ≤ 40) (hr : Has w0 a ts) (hrw : ∀ q ∈ ts, Rw w0 q ∧ 0 ≤ q.kd) (hb0 : Below w0.heap.size w0 w) :
    Calls Tryz.prog 98 #[.slice a ts.length c] w (TreeR w0 ts w) := by
  have HR := hid hr
  have HRW := hid hrw
  have HB00 := hid hb0
  have b1 := fun (W : World) o => (Below.refl W.heap.size W).alloc (Nat.le_refl _) o
  obtain ⟨W0, hW0⟩ : ∃ W, W = (((w.alloc (.cells #[.slice a ts.length c] 30)).alloc (.cells #[.int .i64 0] 3)).alloc (.cells #[.nilFunc] 174)) := ⟨_, rfl⟩
  have HL0 : Hid (W0.heap[w.heap.size]? = some (.cells #[.slice a ts.length c] 30)) := by
    rw [hW0]; exact kept (kept (heap_alloc_new w _) (b1 _ _)) (b1 _ _)
  have HN0 : Hid (W0.heap[w.heap.size + 1]? = some (.cells #[.int .i64 0] 3)) := by
    have := kept (heap_alloc_new (w.alloc (.cells #[.slice a ts.length c] 30)) (.cells #[.int .i64 0] 3)) (b1 _ (.cells #[.nilFunc] 174))
    rw [hW0]; unfold Hid; simpa using this
  have HG0 : Hid (W0.heap[w.heap.size + 1 + 1]? = some (.cells #[.nilFunc] 174)) := by
    have := heap_alloc_new ((w.alloc (.cells #[.slice a ts.length c] 30)).alloc (.cells #[.int .i64 0] 3)) (.cells #[.nilFunc] 174)
    rw [hW0]; unfold Hid; simpa using this
  have HB0 : Hid (Below w.heap.size w W0) := by rw [hW0]; exact ((b1 w _).alloc (by simp) _).alloc (by simp; omega) _
  have g0 : W0.cell? ⟨w.heap.size + 1 + 1, 0, none⟩ = some .nilFunc := cell_at HG0.out 0
  have g1 := froz_at HG0.out 0
  have HW0 := hid hW0
  clear hW0 hr hrw hb0 b1
  go_enter Tryz.func98, Tryz.ntmps98
  go_upto_region 3 with fail
  rw [← HW0.out]
  go_upto_region 4 with fail
  obtain ⟨B, hB⟩ : ∃ B, B = w.heap.size := ⟨_, rfl⟩
  rw [← hB] at HL0 HN0 HG0 g0 g1 ⊢
  have HBB := hid hB
  obtain ⟨W1, hW1⟩ : ∃ W, W = W0.setCell ⟨B + 1 + 1, 0, none⟩ (.func (.func 126) #[] #[ptr (B + 1), ptr B, ptr (B + 1 + 1)]) := ⟨_, rfl⟩
  have HV1 : Hid (Vars (B + 1) B (B + 1 + 1) a ts.length c 0 W1) := by
    rw [hW1]
    exact ⟨set_else HN0.out (by simp only; omega), set_else HL0.out (by simp only; omega), set_at HG0.out⟩
  have HB1 : Hid (Below w.heap.size w W1) := by rw [hW1]; exact HB0.out.setCell (by simp only; omega) _
  rw [← hW1]
  clear hW1 hB HL0 HN0 HG0 HB0 HW0 g0 g1
  have g0 : W1.cell? ⟨B + 1 + 1, 0, none⟩ = some (.func (.func 126) #[] #[ptr (B + 1), ptr B, ptr (B + 1 + 1)]) := cell_at HV1.out.grow 0
  have HC := hid (grow_ok (ts.length + 1) ts a c (B + 1) B (B + 1 + 1) 0 w0 W1 (by omega) (Nat.zero_le _) h40 HR.out HRW.out (HB00.out.trans (HB1.out.mono HB00.out.size)) (by have := HBB.out; have := HB00.out.size; omega) (by omega) (by omega) HV1.out)
  go_wp2_with fail
  refine HC.out.mono ?_
  rintro e w2 ⟨hf2, hk⟩
  have HF2 := hid hf2
  have hsz := HB1.out.size
  have HB2 : Hid (Below w.heap.size w w2) := Fb.below HB1.out hf2 (by have := HBB.out; omega) hsz
  have x1 : w2.cell? ⟨B, 0, none⟩ = some (.slice a ts.length c) := cell_at (hf2.kept HV1.out.list (by omega)) 0
  rcases hk with ⟨rfl, hn2, hno⟩ | ⟨t, b2, x, rfl, he2, hgt, hn2, hle, hnv⟩
  · have HNO := hid hno
    have x2 : w2.cell? ⟨B + 1, 0, none⟩ = some (.int .i64 ts.length) := cell_at hn2 0
    clear hno hn2 hf2 g0
    go_wp2
    go_ret
    exact ⟨HB2.out, .inl ⟨rfl, fun d t e => HNO.out d t [] (by simpa using e)⟩⟩
  · have HE2 := hid he2
    have HGT := hid hgt
    have HNV := hid hnv
    have x2 : w2.cell? ⟨B + 1, 0, none⟩ = some (.int .i64 ((0 + (rows t).length : Nat) : Int)) := cell_at hn2 0
    have HLN : Hid (ts.length = (rows t).length + x.length) := by unfold Hid; have := congrArg List.length he2; simpa using this
    clear he2 hgt hn2 hnv hf2 g0
    rw [Nat.zero_add] at x2 hle
    generalize hR : (rows t).length = R at *
    by_cases hlt : (R : Int) < (ts.length : Int)
    · go_wp2
      go_ret
      refine ⟨HB2.out, .inl ⟨rfl, fun d t' e => fun g => ?_⟩⟩
      have h1 : rows t ++ x = rows t' ++ [] := by rw [← HE2.out, List.append_nil]; simpa using e
      obtain ⟨rfl, rfl⟩ := rows_one N0 N0 t t' 0 d x [] HGT.out g h1
      have := HLN.out; simp at this; omega
    · go_wp2
      go_ret
      have hx : x = [] := List.length_eq_zero_iff.1 (by have := HLN.out; omega)
      refine ⟨HB2.out, .inr ⟨t, b2, rfl, by have := HE2.out; rw [hx] at this; simpa using this, HGT.out, ?_⟩⟩
      exact Nv.agr (S := fun b => W1.heap.size ≤ b ∧ b < w2.heap.size) ⟨Nat.le_refl _, fun _ _ _ => rfl, fun b hb => ⟨by omega, hb.2⟩⟩ t 0 b2 HNV.out
set_option maxHeartbeats 4000000 in
theorem walk_all (t : Tr) (w0 w : World) (S : Nat → Prop) (i b m Bm : Nat) (hn : Nv w0 S w i t b) (hS : ∀ x, S x → x ≠ Bm) (hd : dp t ≤ 1000) (hm : m ≤ 1000) (hz : (rows t).length ≤ 1000) (h : w.heap[Bm]? = some (.cells #[.int .i64 m] 3)) :
    Calls Tryz.prog 127 #[ptr b, .func (.func 128) #[] #[ptr Bm]] w fun e w' => e = .returned (.tuple #[]) ∧ Fb Bm w w' ∧ w'.heap[Bm]? = some (.cells #[.int .i64 ((max m (0 + dp t) : Nat) : Int)] 3) := by
  have b1 := fun (W : World) o => (Below.refl W.heap.size W).alloc (Nat.le_refl _) o
  have hbm := lt_at h
  obtain ⟨W0, hW0⟩ : ∃ W, W = ((w.alloc (.cells #[.func (.func 128) #[] #[ptr Bm]] 176)).alloc (.cells #[.nilFunc] 176)) := ⟨_, rfl⟩
  have HL0 : Hid (W0.heap[w.heap.size]? = some (.cells #[.func (.func 128) #[] #[ptr Bm]] 176)) := by
    rw [hW0]; exact kept (heap_alloc_new w _) (b1 _ _)
  have HG0 : Hid (W0.heap[w.heap.size + 1]? = some (.cells #[.nilFunc] 176)) := by
    have := heap_alloc_new (w.alloc (.cells #[.func (.func 128) #[] #[ptr Bm]] 176)) (.cells #[.nilFunc] 176)
    rw [hW0]; unfold Hid; simpa using this
  have HB0 : Hid (Below w.heap.size w W0) := by rw [hW0]; exact (b1 w _).alloc (by simp) _
  have g0 : W0.cell? ⟨w.heap.size + 1, 0, none⟩ = some .nilFunc := cell_at HG0.out 0
  have g1 := froz_at HG0.out 0
  have HW0 := hid hW0
  have HN := hid hn
  have HS := hid hS
  have HH := hid h
  clear hW0 hn hS h b1
  go_enter Tryz.func127, Tryz.ntmps127
  go_upto_region 2 with fail
  rw [← HW0.out]
  go_upto_region 3 with fail
  obtain ⟨B, hB⟩ : ∃ B, B = w.heap.size := ⟨_, rfl⟩
  rw [← hB] at HL0 HG0 g0 g1 ⊢
  have HBB := hid hB
  obtain ⟨W1, hW1⟩ : ∃ W, W = W0.setCell ⟨B + 1, 0, none⟩ (.func (.func 144) #[] #[ptr B, ptr (B + 1)]) := ⟨_, rfl⟩
  have HB1 : Hid (Below w.heap.size w W1) := by rw [hW1]; exact HB0.out.setCell (by simp only; omega) _
  have HV1 : Hid (DVars B (B + 1) Bm m W1) := by
    rw [hW1]
    exact ⟨set_else HL0.out (by simp only; omega), set_at HG0.out, set_else (kept HH.out HB0.out) (by simp only; omega)⟩
  rw [← hW1]
  clear hW1 HL0 HG0 HB0 HW0 g0 g1
  have g0 : W1.cell? ⟨B + 1, 0, none⟩ = some (.func (.func 144) #[] #[ptr B, ptr (B + 1)]) := cell_at HV1.out.step 0
  have HC := hid (walk_deep B (B + 1) Bm (by omega) (by omega) (dp t) t (Nat.le_refl _) w0 W1 S i b m 0 (Nv.agr (Agr.below HB1.out) t i b HN.out) HS.out (by omega) hm hz HV1.out)
  clear hB hd hm hz
  go_wp2_with fail
  refine HC.out.mono ?_
  rintro e w2 ⟨rfl, hf2, hm2⟩
  have HF2 : Hid (Fb Bm w w2) := (Fb.of HB1.out).trans hf2
  have HM2 := hid hm2
  clear hf2 hm2 g0 HC
  go_wp2
  exact bodyPost_end (results_none rfl _ _ _) rfl ⟨rfl, HF2.out, HM2.out⟩
set_option maxHeartbeats 4000000 in
theorem f99 (t : Tr) (w0 w : World) (S : Nat → Prop) (i b : Nat) (hn : Nv w0 S w i t b) (hS : ∀ x, S x → x < w.heap.size) (hd : dp t ≤ 1000) (hz : (rows t).length ≤ 1000) :
    Calls Tryz.prog 99 #[ptr b] w fun e w' => e = .returned (.int .i64 (dp t)) ∧ Below w.heap.size w w' := by
  have b1 := fun (W : World) o => (Below.refl W.heap.size W).alloc (Nat.le_refl _) o
  obtain ⟨W1, hW1⟩ : ∃ W, W = w.alloc (.cells #[.int .i64 0] 3) := ⟨_, rfl⟩
  have HM1 : Hid (W1.heap[w.heap.size]? = some (.cells #[.int .i64 ((0 : Nat) : Int)] 3)) := by rw [hW1]; exact heap_alloc_new w _
  have HB1 : Hid (Below w.heap.size w W1) := by rw [hW1]; exact b1 w _
  have HW1 := hid hW1
  have HC := hid (walk_all t w0 W1 S i b 0 w.heap.size (Nv.agr (Agr.below HB1.out) t i b hn) (fun x hx => by have := hS x hx; omega) hd (by omega) hz HM1.out)
  clear hW1 hn hS b1 hd hz
  go_enter Tryz.func99, Tryz.ntmps99
  go_upto_region 2 with fail
  rw [← HW1.out]
  go_wp2_with fail
  refine HC.out.mono ?_
  rintro e w2 ⟨rfl, hf2, hm2⟩
  have HB2 : Hid (Below w.heap.size w w2) := Fb.below HB1.out hf2 (Nat.le_refl _) HB1.out.size
  have hm3 : w2.heap[w.heap.size]? = some (.cells #[.int .i64 (dp t)] 3) := by rw [hm2]; simp
  have c0 : w2.cell? ⟨w.heap.size, 0, none⟩ = some (.int .i64 (dp t)) := cell_at hm3 0
  clear hf2 hm2 hm3 HC
  go_wp2
  go_ret
  exact ⟨rfl, HB2.out⟩
end Go.Proofs.YthcogkoleiejgaaGreatDoor.Rou
/- The program's GoodRoutes. -/
namespace Go.Proofs.YthcogkoleiejgaaGreatDoor.Rou
open Go.RowKit
open Go.Proofs.YthcogkoleiejgaaGreatDoor.Rwc
open Go.Proofs.YthcogkoleiejgaaGreatDoor.Nmt (two)

/-- What goodRouteTree gives of a list. -/
def GTR (w0 : World) (ts : List T) (w : World) (e : Ending) (w' : World) : Prop :=
  Below w.heap.size w w' ∧ ((e = .returned (.pointer none) ∧ goodR ts = false) ∨
    ∃ t b, e = .returned (ptr b) ∧ goodR ts = true ∧ ts.length ≤ 40 ∧ Is (ts.map pl) t ∧ Nv w0 (fun b => w.heap.size ≤ b ∧ b < w'.heap.size) w' 0 t b)
theorem all_good {ts : List T} {k : Nat} (hk : ts.length ≤ k) (h : ∀ i, i < k → okR (ts.getD i t0) = true ∧ 0 ≤ (ts.getD i t0).kd) : (∀ q ∈ ts, okR q = true ∧ 0 ≤ q.kd) ∧ ∀ r ∈ ts.map pl, okP r = true ∧ 0 ≤ r.kd := by
  have h1 : ∀ q ∈ ts, okR q = true ∧ 0 ≤ q.kd := by
    intro q hq
    obtain ⟨i, hi, rfl⟩ := List.mem_iff_getElem.1 hq
    have := h i (by omega)
    simpa [List.getD_eq_getElem?_getD, hi] using this
  refine ⟨h1, fun r hr => ?_⟩
  obtain ⟨q, hq, rfl⟩ := List.mem_map.1 hr
  exact h1 q hq
theorem not_good {ts : List T} {k : Nat} (hk : k < ts.length) (h : (okR (ts.getD k t0) && decide (0 ≤ (ts.getD k t0).kd)) = false) : goodR ts = false := by
  refine goodP_false fun g => ?_
  obtain ⟨_, h1, _⟩ := good_iff.1 g
  obtain ⟨a, b⟩ := h1 (pl (ts.getD k t0)) (List.mem_map.2 ⟨_, mem_getD hk, rfl⟩)
  rw [show okR (ts.getD k t0) = true from a, decide_eq_true (show 0 ≤ (ts.getD k t0).kd from b)] at h
  cases h
theorem rw_of {w0 : World} {a : Option Addr} {ts : List T} (hr : Has w0 a ts) (hf : Fit ts) (hz : Sml ts) : ∀ q ∈ ts, Rw w0 q := by
  intro q hq
  obtain ⟨i, hi, rfl⟩ := List.mem_iff_getElem.1 hq
  obtain ⟨_, _, _, _, _, hl⟩ := hr.at2 i hi
  have h1 := hf i
  have h2 := hz i hi
  have e : ts.getD i t0 = ts[i] := by simp [List.getD_eq_getElem?_getD, hi]
  rw [e] at hl h1 h2
  exact ⟨hl, h1, h2⟩
set_option maxHeartbeats 8000000 in
theorem f63 (ts : List T) (a : Option Addr) (c : Nat) (w0 w : World) (hb : ts.length ≤ 1048576) (hr : Has w0 a ts) (hf : Fit ts) (hz : Sml ts) (hb0 : Below w0.heap.size w0 w) :
    Calls Tryz.prog 63 #[.slice a ts.length c] w (GTR w0 ts w) := by
  have HRW := hid (rw_of hr hf hz)
  have HR0 := hid hr
  have HR := hid (hr.below hb0)
  have HF := hid hf
  have HZ := hid hz
  have HB0 := hid hb0
  obtain ⟨n, hn⟩ : ∃ n, n = ts.length := ⟨_, rfl⟩
  have HN := hid hn
  rw [← hn] at hb ⊢
  clear hr hf hz hb0 hn
  by_cases hlen : (n : Int) > 40
  · go_enter Tryz.func63, Tryz.ntmps63
    go_wp2
    go_ret
    exact ⟨Below.refl _ _, .inl ⟨rfl, goodP_false fun g => by have := g.1; simp at this; have := HN.out; omega⟩⟩
  go_enter Tryz.func63, Tryz.ntmps63
  go_wp2
  go_loopw [11] (fun i wr => ∃ k : Nat, k ≤ n ∧ i = .int .i64 k ∧ Hid (∀ i, i < k → okR (ts.getD i t0) = true ∧ 0 ≤ (ts.getD i t0).kd) ∧ Hid (Below w.heap.size w wr)) (fun i _ => n - (intOf i).toNat)
  case atStart => exact ⟨0, Nat.zero_le _, rfl, fun i hi => absurd hi (by omega), Below.refl _ _⟩
  case round =>
    obtain ⟨k, hk, rfl, HA, HB⟩ := hrel
    by_cases hlt : k < n
    · obtain ⟨b, off, rfl, hbl, hc, hl⟩ := (HR.out.below HB.out).at2 k (by rw [← HN.out]; exact hlt)
      obtain ⟨d0, d1, d2, d3, d4, d5, d6, d7, d8⟩ := hc.all
      have HL := hid hl
      have G := hid (HF.out k)
      have Z := hid (HZ.out k (by rw [← HN.out]; exact hlt))
      have HNo : Hid ((okR (ts.getD k t0) && decide (0 ≤ (ts.getD k t0).kd)) = false → goodR ts = false) := fun h => not_good (by rw [← HN.out]; exact hlt) h
      have HNx : Hid ((okR (ts.getD k t0) && decide (0 ≤ (ts.getD k t0).kd)) = true → ∀ i, i < k + 1 → okR (ts.getD i t0) = true ∧ 0 ≤ (ts.getD i t0).kd) := by
        intro h i hi
        by_cases e : i = k
        · subst e; simpa using h
        · exact HA.out i (by omega)
      have i1 : (k : Int) < (n : Int) := by omega
      clear hc hl
      generalize ts.getD k t0 = q at *
      obtain ⟨W1, hW1⟩ : ∃ W, W = wr.alloc (BX q) := ⟨_, rfl⟩
      have HX1 : Hid (W1.heap[wr.heap.size]? = some (BX q)) := by rw [hW1]; exact heap_alloc_new wr _
      have HB1 : Hid (Below w.heap.size w W1) := by rw [hW1]; exact HB.out.alloc HB.out.size _
      have hb1 : Below wr.heap.size wr W1 := by rw [hW1]; exact (Below.refl _ _).alloc (Nat.le_refl _) _
      have HC := hid (f97 q W1 (HL.out.below hb1) G.out Z.out)
      have HW1 := hid hW1
      clear hW1 hb1
      generalize (okR q && decide (0 ≤ q.kd)) = R at *
      go_upto_region 6 with fail
      rw [← HW1.out]
      obtain ⟨x0, x1, x2, x3, x4, x5, x6, x7, x8⟩ := cellsN HX1.out
      cases R
      · have HY := hid (HNo.out rfl)
        go_wp2_with fail
        refine HC.out.mono ?_
        rintro e w2 ⟨rfl, hb2⟩
        have HB2 := hid (HB1.out.trans (hb2.mono HB1.out.size))
        clear hb2
        go_wp2
        go_ret
        exact ⟨HB2.out, .inl ⟨rfl, HY.out⟩⟩
      · have HY := hid (HNx.out rfl)
        go_wp2_with fail
        refine HC.out.mono ?_
        rintro e w2 ⟨rfl, hb2⟩
        have HB2 := hid (HB1.out.trans (hb2.mono HB1.out.size))
        clear hb2
        go_wp2
        go_roundw
        case rel => exact ⟨k + 1, by omega, by go_num, HY, HB2⟩
        case measure => simp [intOf]; omega
    · obtain ⟨A1, A2⟩ := all_good (ts := ts) (k := k) (by have := HN.out; omega) HA.out
      have HA2 := hid A2
      have h40 : ts.length ≤ 40 := by have := HN.out; omega
      have HC := hid (f98 ts a c w0 wr h40 HR0.out (fun q hq => ⟨HRW.out q hq, (A1 q hq).2⟩) (HB0.out.trans (HB.out.mono HB0.out.size)))
      rw [← HN.out] at HC
      clear A1 A2
      go_wp2_with fail
      refine HC.out.mono ?_
      clear HC
      rintro e w2 ⟨hb2, hk⟩
      have HB2 := hid (HB.out.trans (hb2.mono HB.out.size))
      have hsz := HB.out.size
      rcases hk with ⟨rfl, hno⟩ | ⟨t, b, rfl, he, hgt, hnv⟩
      · have HNO := hid hno
        clear hb2 hno
        go_wp2
        go_ret
        exact ⟨HB2.out, .inl ⟨rfl, goodP_false fun g => by obtain ⟨_, _, t, e, g1, _⟩ := good_iff.1 g; exact HNO.out 1 t e g1⟩⟩
      · have HE := hid he
        have HGT := hid hgt
        have HNV := hid hnv
        have hrl : (rows t).length ≤ 40 := by rw [← he]; simpa using h40
        have HDP := hid (f99 t w0 w2 _ 0 b hnv (fun x hx => hx.2) (dp_le t hrl) (by omega))
        obtain ⟨r, ks⟩ := t
        simp only [Nv] at hnv
        obtain ⟨⟨hb1, hb1'⟩, _, q, bs, ak, ck, hp, _, hx, _, _⟩ := hnv
        have HX := hid hx
        have HP := hid hp
        clear hb2 he hgt hx hp
        have HNG : Hid (∀ t', Is (ts.map pl) t' → t' = .nd r ks) := fun t' h => one_tree h.gt HGT.out (h.rows.symm.trans HE.out)
        have ne0 : b ≠ b + 1 := by omega
        go_wp2_with fail
        refine HDP.out.mono ?_
        rintro e w3 ⟨rfl, hb3⟩
        have HB3 := hid (HB2.out.trans (hb3.mono HB2.out.size))
        obtain ⟨x0, x1, x2, x3, x4, x5, x6, x7, x8, x9, x10⟩ := cellsE (kept HX.out hb3)
        have HNV3 := hid (Nv.agr (S' := fun x => w.heap.size ≤ x ∧ x < w3.heap.size) ⟨hb3.size, fun x hx hl => hb3.block x hl, fun x hx => ⟨by have := HB.out.size; omega, by have := hb3.size; omega⟩⟩ _ 0 b HNV.out)
        have HR2 : Hid (pl q = r) := HP.out
        have HM : Hid (r.ms = q.ms) := by unfold Hid; rw [← HP.out]; rfl
        have HO : Hid (r.on = q.on) := by unfold Hid; rw [← HP.out]; rfl
        clear hb3 HDP
        by_cases hdp : (dp (.nd r ks) : Int) > 8
        · have HY : Hid (goodR ts = false) := goodP_false fun g => by
            obtain ⟨_, _, t', e1, e2, e3, _⟩ := good_iff.1 g
            have := one_tree e2 HGT.out (e1.symm.trans HE.out)
            rw [this] at e3
            omega
          generalize dp (.nd r ks) = dd at *
          go_wp2
          go_ret
          exact ⟨HB3.out, .inl ⟨rfl, HY.out⟩⟩
        by_cases hms : 0 < (q.ms.length : Int)
        · have HY : Hid (goodR ts = false) := goodP_false fun g => by
            obtain ⟨_, t', ht⟩ := g
            have e := HNG.out t' ht
            have := ht.ms
            rw [e] at this
            have h2 : q.ms = [] := HM.out.symm.trans this
            rw [h2] at hms
            simp at hms
          generalize dp (.nd r ks) = dd at *
          have hmn : ¬ q.ms = [] := by intro h; rw [h] at hms; simp at hms
          go_wp2
          go_ret
          exact ⟨HB3.out, .inl ⟨rfl, HY.out⟩⟩
        have hm0 : q.ms = [] := List.length_eq_zero_iff.1 (by omega)
        have HM0 := hid hm0
        cases hon : q.on
        · have HY : Hid (GoodRt (ts.map pl)) := good_iff.2 ⟨by simpa using h40, HA2.out, .nd r ks, HE.out, gt0_any _ _ _ HGT.out, by omega, HM.out.trans HM0.out, HO.out.trans hon⟩
          have HI : Hid (Is (ts.map pl) (.nd r ks)) := by
            obtain ⟨_, t', ht⟩ := HY.out
            have e := HNG.out t' ht
            rw [e] at ht; exact ht
          generalize dp (.nd r ks) = dd at *
          rw [hm0] at x1
          rw [hon] at x7
          clear hon hm0 hms
          go_wp2
          go_ret
          exact ⟨HB3.out, .inr ⟨.nd r ks, b, rfl, goodP_true HY.out, h40, HI.out, HNV3.out⟩⟩
        · have HY : Hid (goodR ts = false) := goodP_false fun g => by
            obtain ⟨_, t', ht⟩ := g
            have e := HNG.out t' ht
            have := ht.on
            rw [e] at this
            have h2 : q.on = false := HO.out.symm.trans this
            rw [hon] at h2; cases h2
          generalize dp (.nd r ks) = dd at *
          rw [hm0] at x1
          rw [hon] at x7
          clear hon hm0 hms
          go_wp2
          go_ret
          exact ⟨HB3.out, .inl ⟨rfl, HY.out⟩⟩
theorem f30 (ts : List T) (a : Option Addr) (c : Nat) (w : World) (hb : ts.length ≤ 1048576) (hr : Has w a ts) (hf : Fit ts) (hz : Sml ts) :
    Calls Tryz.prog 30 #[.slice a ts.length c] w fun e w' => e = .returned (.bool (goodR ts)) ∧ Below w.heap.size w w' := by
  have HC := hid (f63 ts a c w w hb hr hf hz (Below.refl _ _))
  clear hr hf hz
  go_enter Tryz.func30, Tryz.ntmps30
  go_wp2_with fail
  refine HC.out.mono ?_
  rintro e w2 ⟨hb2, hk⟩
  have HB2 := hid hb2
  rcases hk with ⟨rfl, hg⟩ | ⟨t, b, rfl, hg, _⟩
  · have HG := hid hg
    clear hg hb2 HC
    go_wp2
    go_ret
    exact ⟨by rw [HG.out]; first | rfl | simp, HB2.out⟩
  · have HG := hid hg
    clear hg hb2 HC
    go_wp2
    go_ret
    exact ⟨by rw [HG.out]; first | rfl | simp, HB2.out⟩
end Go.Proofs.YthcogkoleiejgaaGreatDoor.Rou
