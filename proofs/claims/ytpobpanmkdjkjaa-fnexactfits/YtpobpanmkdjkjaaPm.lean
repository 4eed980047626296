/- Patterns: what items stand for a text; runs found as early as can be find what there is. -/
import Derived.Test.YtpobpanmkdjkjaaPat
namespace Go.Proofs.Ytpobpanmkdjkjaa.Pat

/-- What an item of a pattern (a byte's number, or -2 for any byte) stands for. -/
def fitI (x : Int) (c : UInt8) : Bool := x == -2 || x == (c.toNat : Int)
/-- A text begins with what the items (none of them -1) stand for. -/
def pre : List Int → List UInt8 → Bool
  | [], _ => true
  | _ :: _, [] => false
  | x :: a, c :: r => fitI x c && pre a r
def starR (f : List UInt8 → Bool) : List UInt8 → Bool
  | [] => f []
  | c :: r => f (c :: r) || starR f r
/-- The items stand for the whole text. -/
def rest : List Int → List UInt8 → Bool
  | [], s => s.isEmpty
  | x :: a, s => if x = -1 then starR (rest a) s else match s with
    | [] => false
    | c :: r => fitI x c && rest a r
/-- The first place from which on f says yes (the text's length where none does). -/
def firstF (f : List UInt8 → Bool) : List UInt8 → Nat
  | [] => 0
  | c :: r => if f (c :: r) then 0 else firstF f r + 1
/-- What each -1 stands for, as short as can be. -/
def partsS : List Int → List UInt8 → List (List UInt8)
  | [], _ => []
  | x :: a, s => if x = -1 then s.take (firstF (rest a) s) :: partsS a (s.drop (firstF (rest a) s)) else partsS a (s.drop 1)

def Run (r : List Int) : Prop := ∀ x ∈ r, x ≠ -1
theorem Run.tail {x : Int} {r : List Int} (h : Run (x :: r)) : Run r := fun y hy => h y (by simp [hy])
theorem Run.head {x : Int} {r : List Int} (h : Run (x :: r)) : x ≠ -1 := h x (by simp)

theorem pre_len : ∀ (r : List Int) (s : List UInt8), pre r s = true → r.length ≤ s.length
  | [], _, _ => by simp
  | _ :: _, [], h => by simp [pre] at h
  | x :: a, c :: t, h => by
    simp only [pre, Bool.and_eq_true] at h
    have := pre_len a t h.2
    simp; omega
theorem rest_run : ∀ (r a : List Int) (s : List UInt8), Run r → rest (r ++ a) s = (pre r s && rest a (s.drop r.length))
  | [], a, s, _ => by simp [pre]
  | x :: r, a, [], h => by simp [rest, pre, h.head]
  | x :: r, a, c :: t, h => by
    simp only [List.cons_append, rest, if_neg h.head, pre, List.length_cons, List.drop_succ_cons]
    rw [rest_run r a t h.tail, Bool.and_assoc]
theorem parts_run : ∀ (r a : List Int) (s : List UInt8), Run r → partsS (r ++ a) s = partsS a (s.drop r.length)
  | [], a, s, _ => by simp
  | x :: r, a, s, h => by
    simp only [List.cons_append, partsS, if_neg h.head, List.length_cons]
    rw [parts_run r a _ h.tail, List.drop_drop, Nat.add_comm]
theorem rest_alone (r : List Int) (s : List UInt8) (h : Run r) : rest r s = (pre r s && decide (s.length = r.length)) := by
  have := rest_run r [] s h
  rw [List.append_nil] at this
  rw [this]
  cases hp : pre r s with
  | false => rfl
  | true =>
    have hl := pre_len r s hp
    simp only [rest, Bool.true_and]
    rw [Bool.eq_iff_iff]
    simp
    omega
theorem parts_alone (r : List Int) (s : List UInt8) (h : Run r) : partsS r s = [] := by
  have := parts_run r [] s h
  rw [List.append_nil] at this
  rw [this]; rfl

theorem star_iff (f : List UInt8 → Bool) : ∀ s : List UInt8, starR f s = true ↔ ∃ e, e ≤ s.length ∧ f (s.drop e) = true
  | [] => by
    simp only [starR]
    constructor
    · intro h; exact ⟨0, by simp, by simpa using h⟩
    · rintro ⟨e, he, h⟩; simpa using h
  | c :: r => by
    simp only [starR, Bool.or_eq_true, star_iff f r]
    constructor
    · rintro (h | ⟨e, he, h⟩)
      · exact ⟨0, by simp, by simpa using h⟩
      · exact ⟨e + 1, by simp; omega, by simpa using h⟩
    · rintro ⟨e, he, h⟩
      cases e with
      | zero => left; simpa using h
      | succ e => right; exact ⟨e, by simp at he; omega, by simpa using h⟩
theorem first_spec (f : List UInt8 → Bool) : ∀ (s : List UInt8) (e : Nat), e ≤ s.length → f (s.drop e) = true → (∀ j, j < e → f (s.drop j) = false) → firstF f s = e
  | [], e, he, _, _ => by simp at he; simp [firstF, he]
  | c :: r, 0, _, h, _ => by simp at h; simp [firstF, h]
  | c :: r, e + 1, he, h, hj => by
    have h0 := hj 0 (by omega)
    simp only [List.drop_zero] at h0
    simp only [firstF, h0, Bool.false_eq_true, if_false]
    rw [first_spec f r e (by simp at he; omega) (by simpa using h) (fun j hjl => by have := hj (j + 1) (by omega); simpa using this)]
theorem first_le (f : List UInt8 → Bool) : ∀ s : List UInt8, firstF f s ≤ s.length
  | [] => by simp [firstF]
  | c :: r => by
    simp only [firstF]
    split
    · simp
    · have := first_le f r; simp; omega

/-- The runs of an alternative behind its first one, the last of them apart, as items. -/
def tailOf : List (List Int) → List Int → List Int
  | [], l => -1 :: l
  | r :: ms, l => -1 :: (r ++ tailOf ms l)
/-- The first place from e on at which f says yes. -/
def findE (f : Nat → Bool) : Nat → Nat → Option Nat
  | 0, _ => none
  | n + 1, e => if f e then some e else findE f n (e + 1)
theorem findE_some (f : Nat → Bool) : ∀ (n e k : Nat), findE f n e = some k → e ≤ k ∧ k < e + n ∧ f k = true ∧ ∀ j, e ≤ j → j < k → f j = false
  | 0, _, _, h => by simp [findE] at h
  | n + 1, e, k, h => by
    simp only [findE] at h
    split at h
    · rename_i hf
      simp at h; subst h
      exact ⟨Nat.le_refl _, by omega, hf, fun j h1 h2 => by omega⟩
    · rename_i hf
      obtain ⟨h1, h2, h3, h4⟩ := findE_some f n (e + 1) k h
      refine ⟨by omega, by omega, h3, fun j hj1 hj2 => ?_⟩
      by_cases hje : j = e
      · subst hje; simpa using hf
      · exact h4 j (by omega) hj2
theorem findE_none (f : Nat → Bool) : ∀ (n e : Nat), findE f n e = none → ∀ j, e ≤ j → j < e + n → f j = false
  | 0, _, _, j, h1, h2 => by omega
  | n + 1, e, h, j, h1, h2 => by
    simp only [findE] at h
    split at h
    · cases h
    · rename_i hf
      by_cases hje : j = e
      · subst hje; simpa using hf
      · exact findE_none f n (e + 1) h j (by omega) (by omega)

/-- The places at which a run stands so that the last run has its room behind it. -/
def standsAt (r l : List Int) (s : List UInt8) (e : Nat) : Bool := decide (e + r.length + l.length ≤ s.length) && pre r (s.drop e)
/-- What the runs behind the first one come to, found one behind the other, each as early as can be. -/
def goM : List (List Int) → List Int → List UInt8 → Option (List (List UInt8))
  | [], l, s => some [s.take (s.length - l.length)]
  | r :: ms, l, s => match findE (standsAt r l s) (s.length + 1) 0 with
    | none => none
    | some e => (goM ms l (s.drop (e + r.length))).map fun q => s.take e :: q

theorem tail_anti (ms : List (List Int)) (l : List Int) (s : List UInt8) (j k : Nat) (hjk : j ≤ k) (hk : k ≤ s.length) (h : rest (tailOf ms l) (s.drop k) = true) : rest (tailOf ms l) (s.drop j) = true := by
  cases ms with
  | nil =>
    simp only [tailOf, rest, if_true] at h ⊢
    obtain ⟨e, he, hf⟩ := (star_iff _ _).1 h
    refine (star_iff _ _).2 ⟨(k - j) + e, by simp at he ⊢; omega, ?_⟩
    rw [List.drop_drop] at hf ⊢
    rw [show j + (k - j + e) = k + e from by omega]
    exact hf
  | cons r ms =>
    simp only [tailOf, rest, if_true] at h ⊢
    obtain ⟨e, he, hf⟩ := (star_iff _ _).1 h
    refine (star_iff _ _).2 ⟨(k - j) + e, by simp at he ⊢; omega, ?_⟩
    rw [List.drop_drop] at hf ⊢
    rw [show j + (k - j + e) = k + e from by omega]
    exact hf
/-- What is behind the first run needs room, and the last run at the end. -/
theorem tail_needs : ∀ (ms : List (List Int)) (l : List Int) (s : List UInt8), (∀ r ∈ ms, Run r) → Run l → rest (tailOf ms l) s = true → l.length ≤ s.length ∧ pre l (s.drop (s.length - l.length)) = true
  | [], l, s, _, hl, h => by
    simp only [tailOf, rest, if_true] at h
    obtain ⟨e, he, hf⟩ := (star_iff _ _).1 h
    rw [rest_alone l _ hl] at hf
    simp only [Bool.and_eq_true, decide_eq_true_eq, List.length_drop] at hf
    refine ⟨by omega, ?_⟩
    rw [show s.length - l.length = e from by omega]
    exact hf.1
  | r :: ms, l, s, hm, hl, h => by
    simp only [tailOf, rest, if_true] at h
    obtain ⟨e, he, hf⟩ := (star_iff _ _).1 h
    rw [rest_run r _ _ (hm r (by simp))] at hf
    simp only [Bool.and_eq_true] at hf
    obtain ⟨hp, hr⟩ := hf
    rw [List.drop_drop] at hr
    have h1 := tail_needs ms l _ (fun x hx => hm x (by simp [hx])) hl hr
    have h2 := pre_len _ _ hp
    simp only [List.length_drop, List.drop_drop] at h1 h2
    refine ⟨by omega, ?_⟩
    have e1 : e + r.length + (s.length - (e + r.length) - l.length) = s.length - l.length := by omega
    rw [e1] at h1
    exact h1.2

theorem goM_eq : ∀ (ms : List (List Int)) (l : List Int) (s : List UInt8), (∀ r ∈ ms, Run r) → Run l → l.length ≤ s.length → pre l (s.drop (s.length - l.length)) = true →
    goM ms l s = if rest (tailOf ms l) s = true then some (partsS (tailOf ms l) s) else none
  | [], l, s, _, hl, h1, h2 => by
    have hr : ∀ e, rest l (s.drop e) = (pre l (s.drop e) && decide ((s.drop e).length = l.length)) := fun e => rest_alone l _ hl
    have hs : rest l (s.drop (s.length - l.length)) = true := by rw [hr, h2]; simp; omega
    have hfirst : firstF (rest l) s = s.length - l.length := first_spec _ s _ (by omega) hs (fun j hj => by rw [hr]; simp; intro _; omega)
    have : rest (tailOf [] l) s = true := by
      simp only [tailOf, rest, if_true]
      exact (star_iff _ _).2 ⟨s.length - l.length, by omega, hs⟩
    rw [if_pos this]
    simp only [goM, tailOf, partsS, if_true]
    rw [hfirst, parts_alone l _ hl]
  | r :: ms, l, s, hm, hl, h1, h2 => by
    have hrun := hm r (by simp)
    have hrr : ∀ e, rest (r ++ tailOf ms l) (s.drop e) = (pre r (s.drop e) && rest (tailOf ms l) (s.drop (e + r.length))) := fun e => by rw [rest_run r _ _ hrun, List.drop_drop]
    have hall : rest (tailOf (r :: ms) l) s = true ↔ ∃ e, e ≤ s.length ∧ pre r (s.drop e) = true ∧ rest (tailOf ms l) (s.drop (e + r.length)) = true := by
      simp only [tailOf, rest, if_true]
      rw [star_iff]
      constructor
      · rintro ⟨e, he, h⟩; rw [hrr, Bool.and_eq_true] at h; exact ⟨e, he, h⟩
      · rintro ⟨e, he, h⟩; exact ⟨e, he, by rw [hrr, Bool.and_eq_true]; exact h⟩
    simp only [goM]
    cases hfe : findE (standsAt r l s) (s.length + 1) 0 with
    | none =>
      have hno := findE_none _ _ _ hfe
      rw [if_neg]
      intro h
      obtain ⟨e, he, hp, ht⟩ := hall.1 h
      have hn := tail_needs ms l _ (fun x hx => hm x (by simp [hx])) hl ht
      have hpl := pre_len _ _ hp
      simp only [List.length_drop] at hn hpl
      have := hno e (by omega) (by omega)
      unfold standsAt at this
      rw [hp] at this
      simp at this
      omega
    | some e =>
      obtain ⟨_, hen, hst, hmin⟩ := findE_some _ _ _ _ hfe
      unfold standsAt at hst
      simp only [Bool.and_eq_true, decide_eq_true_eq] at hst
      obtain ⟨hroom, hp⟩ := hst
      have hlen : (s.drop (e + r.length)).length = s.length - (e + r.length) := by simp
      have hrec := goM_eq ms l (s.drop (e + r.length)) (fun x hx => hm x (by simp [hx])) hl (by rw [hlen]; omega) (by
        rw [hlen, List.drop_drop, show e + r.length + (s.length - (e + r.length) - l.length) = s.length - l.length from by omega]
        exact h2)
      simp only [hrec]
      have hkey : rest (tailOf (r :: ms) l) s = true ↔ rest (tailOf ms l) (s.drop (e + r.length)) = true := by
        rw [hall]
        constructor
        · rintro ⟨e', he', hp', ht'⟩
          have hn := tail_needs ms l _ (fun x hx => hm x (by simp [hx])) hl ht'
          have hpl := pre_len _ _ hp'
          simp only [List.length_drop] at hn hpl
          have hle : e ≤ e' := by
            refine Nat.le_of_not_lt fun hlt => ?_
            have := hmin e' (by omega) hlt
            unfold standsAt at this
            rw [hp'] at this
            simp at this
            omega
          exact tail_anti ms l s (e + r.length) (e' + r.length) (by omega) (by omega) ht'
        · intro h; exact ⟨e, by omega, hp, h⟩
      by_cases ht : rest (tailOf ms l) (s.drop (e + r.length)) = true
      · have hfull := hkey.2 ht
        rw [if_pos ht, if_pos hfull]
        have hfirst : firstF (rest (r ++ tailOf ms l)) s = e := by
          refine first_spec _ s e (by omega) (by rw [hrr, hp, ht]; rfl) (fun j hj => ?_)
          rw [hrr]
          cases hpj : pre r (s.drop j) with
          | false => rfl
          | true =>
            have hpl := pre_len _ _ hpj
            simp only [List.length_drop] at hpl
            have := hmin j (by omega) hj
            unfold standsAt at this
            rw [hpj] at this
            simp at this
            omega
        simp only [Option.map_some, tailOf, partsS, if_true]
        rw [hfirst, parts_run r _ _ hrun, List.drop_drop]
      · have hfull : ¬ rest (tailOf (r :: ms) l) s = true := fun h => ht (hkey.1 h)
        rw [if_neg ht, if_neg hfull]
        rfl

/-- The items of an alternative's runs. -/
def itemsOf : List (List Int) → List Int
  | [] => []
  | [r] => r
  | r :: q :: t => r ++ (-1 :: itemsOf (q :: t))
theorem items_tail : ∀ (ms : List (List Int)) (r l : List Int), itemsOf (r :: (ms ++ [l])) = r ++ tailOf ms l
  | [], r, l => by simp [itemsOf, tailOf]
  | q :: ms, r, l => by
    have := items_tail ms q l
    simp only [List.cons_append, itemsOf, tailOf] at this ⊢
    rw [this]
theorem items_add : ∀ (rs : List (List Int)) (r : List Int) (x : Int), itemsOf (rs ++ [r ++ [x]]) = itemsOf (rs ++ [r]) ++ [x]
  | [], r, x => by simp [itemsOf]
  | [q], r, x => by simp [itemsOf]
  | q :: q' :: rs, r, x => by
    have := items_add (q' :: rs) r x
    simp only [List.cons_append, itemsOf, List.append_assoc] at this ⊢
    rw [this]
theorem items_star : ∀ (rs : List (List Int)) (r : List Int), itemsOf ((rs ++ [r]) ++ [[]]) = itemsOf (rs ++ [r]) ++ [-1]
  | [], r => by simp [itemsOf]
  | [q], r => by simp [itemsOf]
  | q :: q' :: rs, r => by
    have := items_star (q' :: rs) r
    simp only [List.cons_append, itemsOf, List.append_assoc] at this ⊢
    rw [this]

/-- What the program's parts comes to. -/
def partsI (a : List (List Int)) (s : List UInt8) : Option (List (List UInt8)) := if rest (itemsOf a) s = true then some (partsS (itemsOf a) s) else none
theorem partsI_one (r : List Int) (s : List UInt8) (h : Run r) : partsI [r] s = if s.length = r.length ∧ pre r s = true then some [] else none := by
  unfold partsI
  have e : itemsOf [r] = r := rfl
  rw [e, rest_alone r s h, parts_alone r s h]
  by_cases h1 : pre r s = true
  · by_cases h2 : s.length = r.length
    · simp [h1, h2]
    · simp [h1, h2]
  · simp [h1]
theorem partsI_no {r l : List Int} {ms : List (List Int)} {s : List UInt8} (hr : Run r) (hm : ∀ x ∈ ms, Run x) (hl : Run l) (h : ¬ (r.length + l.length ≤ s.length ∧ pre r s = true ∧ pre l (s.drop (s.length - l.length)) = true)) : partsI (r :: (ms ++ [l])) s = none := by
  unfold partsI
  rw [if_neg]
  intro h1
  rw [items_tail, rest_run r _ _ hr, Bool.and_eq_true] at h1
  have h2 := tail_needs ms l _ hm hl h1.2
  have h3 := pre_len _ _ h1.1
  simp only [List.length_drop, List.drop_drop] at h2
  refine h ⟨by omega, h1.1, ?_⟩
  rw [show r.length + (s.length - r.length - l.length) = s.length - l.length from by omega] at h2
  exact h2.2
theorem partsI_yes {r l : List Int} {ms : List (List Int)} {s : List UInt8} (hr : Run r) (hm : ∀ x ∈ ms, Run x) (hl : Run l) (h1 : r.length + l.length ≤ s.length) (h2 : pre r s = true) (h3 : pre l (s.drop (s.length - l.length)) = true) : partsI (r :: (ms ++ [l])) s = goM ms l (s.drop r.length) := by
  unfold partsI
  rw [items_tail, rest_run r _ _ hr, parts_run r _ _ hr, h2, Bool.true_and]
  rw [goM_eq ms l _ hm hl (by simp; omega) (by
    rw [List.length_drop, List.drop_drop, show r.length + (s.length - r.length - l.length) = s.length - l.length from by omega]
    exact h3)]

/-- The alternatives of the rest of a pattern, the first of them begun. -/
def altsF : List UInt8 → List Int → List (List Int)
  | [], cur => [cur]
  | [c], cur => if (c.toNat : Int) = 124 then [cur, []] else if (c.toNat : Int) = 42 then [cur ++ [-1]] else if (c.toNat : Int) = 63 then [cur ++ [-2]] else if (c.toNat : Int) = 92 then [cur] else [cur ++ [(c.toNat : Int)]]
  | c :: d :: r, cur => if (c.toNat : Int) = 124 then cur :: altsF (d :: r) [] else if (c.toNat : Int) = 42 then altsF (d :: r) (cur ++ [-1]) else if (c.toNat : Int) = 63 then altsF (d :: r) (cur ++ [-2]) else if (c.toNat : Int) = 92 then altsF r (cur ++ [(d.toNat : Int)]) else altsF (d :: r) (cur ++ [(c.toNat : Int)])
theorem alts_bar (c : UInt8) (r : List UInt8) (cur : List Int) (h : (c.toNat : Int) = 124) : altsF (c :: r) cur = cur :: altsF r [] := by
  cases r with
  | nil => simp [altsF, h]
  | cons d r => rw [altsF, if_pos h]
theorem alts_star (c : UInt8) (r : List UInt8) (cur : List Int) (h : (c.toNat : Int) = 42) : altsF (c :: r) cur = altsF r (cur ++ [-1]) := by
  cases r with
  | nil => simp [altsF, h]
  | cons d r => rw [altsF, if_neg (by omega), if_pos h]
theorem alts_any (c : UInt8) (r : List UInt8) (cur : List Int) (h : (c.toNat : Int) = 63) : altsF (c :: r) cur = altsF r (cur ++ [-2]) := by
  cases r with
  | nil => simp [altsF, h]
  | cons d r => rw [altsF, if_neg (by omega), if_neg (by omega), if_pos h]
theorem alts_esc (c d : UInt8) (r : List UInt8) (cur : List Int) (h : (c.toNat : Int) = 92) : altsF (c :: d :: r) cur = altsF r (cur ++ [(d.toNat : Int)]) := by
  rw [altsF, if_neg (by omega), if_neg (by omega), if_neg (by omega), if_pos h]
theorem alts_plain (c : UInt8) (r : List UInt8) (cur : List Int) (h1 : (c.toNat : Int) ≠ 124) (h2 : (c.toNat : Int) ≠ 42) (h3 : (c.toNat : Int) ≠ 63) (h4 : (c.toNat : Int) ≠ 92) : altsF (c :: r) cur = altsF r (cur ++ [(c.toNat : Int)]) := by
  cases r with
  | nil => simp only [altsF, if_neg h1, if_neg h2, if_neg h3, if_neg h4]
  | cons d r => rw [altsF, if_neg h1, if_neg h2, if_neg h3, if_neg h4]
/-- The alternatives that were read, and those that are still to be read. -/
def At (p : ByteArray) (i : Nat) (fin : List (List Int)) (cur : List Int) : Prop := altsF p.data.toList [] = fin ++ altsF (p.data.toList.drop i) cur
theorem At.zero (p : ByteArray) : At p 0 [] [] := by unfold At; simp
section
variable {p : ByteArray} {i : Nat} {fin : List (List Int)} {cur : List Int}
theorem At.bar (h : At p i fin cur) (hi : i < p.size) (hc : (p[i].toNat : Int) = 124) : At p (i + 1) (fin ++ [cur]) [] := by
  unfold At at *; rw [h, drop_str p i hi, alts_bar _ _ _ hc]; simp
theorem At.star (h : At p i fin cur) (hi : i < p.size) (hc : (p[i].toNat : Int) = 42) : At p (i + 1) fin (cur ++ [-1]) := by
  unfold At at *; rw [h, drop_str p i hi, alts_star _ _ _ hc]
theorem At.any (h : At p i fin cur) (hi : i < p.size) (hc : (p[i].toNat : Int) = 63) : At p (i + 1) fin (cur ++ [-2]) := by
  unfold At at *; rw [h, drop_str p i hi, alts_any _ _ _ hc]
theorem At.esc (h : At p i fin cur) (hi : i < p.size) (hc : (p[i].toNat : Int) = 92) (hi1 : i + 1 < p.size) : At p (i + 1 + 1) fin (cur ++ [(p[i + 1].toNat : Int)]) := by
  unfold At at *; rw [h, drop_str p i hi, drop_str p (i + 1) hi1, alts_esc _ _ _ _ hc]
theorem At.plain (h : At p i fin cur) (hi : i < p.size) (h1 : (p[i].toNat : Int) ≠ 124) (h2 : (p[i].toNat : Int) ≠ 42) (h3 : (p[i].toNat : Int) ≠ 63) (h4 : (p[i].toNat : Int) ≠ 92) : At p (i + 1) fin (cur ++ [(p[i].toNat : Int)]) := by
  unfold At at *; rw [h, drop_str p i hi, alts_plain _ _ _ h1 h2 h3 h4]
theorem At.done (h : At p i fin cur) (hi : p.size ≤ i) : altsF p.data.toList [] = fin ++ [cur] := by
  unfold At at h; rw [h, List.drop_eq_nil_of_le (by simpa using hi)]; rfl
end
/-- What PatternParts comes to. -/
def ppF (p s : ByteArray) : Option (List (List UInt8)) :=
  if patB p = true ∧ s.size ≤ 100 then (altsF p.data.toList []).findSome? fun a => if rest a s.data.toList = true then some (partsS a s.data.toList) else none else none
end Go.Proofs.Ytpobpanmkdjkjaa.Pat
