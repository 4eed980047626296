/- Questions: what is asked of a node, in plain words; the program's and the model's are one. -/
import Derived.Test.YtbdlahhejfamhaaGreatDoorRQta
import Derived.Test.YtbdlahhejfamhaaGreatDoorRC5
import Derived.Test.YtbdlahhejfamhaaGreatDoorRA4
namespace Go.Proofs.YtbdlahhejfamhaaGreatDoor.Qry
open Go.RowKit
open Go.Proofs.YtbdlahhejfamhaaGreatDoor.Pat (Mt m0 nameL printL goodM)

instance memB (s : ByteArray) (l : List ByteArray) : Decidable (s ∈ l) := decidable_of_iff (l.any (fun x => decide (x = s)) = true) (by simp)
/-- A node with nothing but what such nodes have. -/
def zeroP (r : Pl) : Pl where
  kd := r.kd
  nu := if r.kd = 1 ∨ r.kd = 4 ∨ r.kd = 5 then r.nu else 0
  st := if r.kd = 5 then r.st else 0
  tx := if r.kd = 2 ∨ r.kd = 3 ∨ r.kd = 9 then r.tx else ByteArray.empty
  op := if r.kd = 7 ∨ r.kd = 8 then r.op else 0
  ms := if r.kd = 3 then r.ms else []
  off := if r.kd = 3 ∨ r.kd = 5 then r.off else 0
  fx := if r.kd = 3 ∨ r.kd = 5 then r.fx else false
  att := if r.kd = 3 ∨ r.kd = 5 then r.att else 0
  bo := if r.kd = 7 then r.bo else false
  byy := if r.kd = 7 ∨ r.kd = 8 then r.byy else 0
  ns := if r.kd = 7 ∨ r.kd = 8 then r.ns else []
  sd := if r.kd = 7 then r.sd else 0
  es := if r.kd = 7 then r.es else []
  kc := r.kc
def told (r : Pl) : Prop := r = zeroP r
/-- Which kids a node may have. -/
def shape (r : Pl) (ks : List Tr) : Prop :=
  ((r.kd = 1 ∨ r.kd = 2 ∨ r.kd = 3) ∧ ks = []) ∨ (r.kd = 4 ∧ ∃ k, ks = [k] ∧ k.r.kd = 3) ∨ ((r.kd = 5 ∨ r.kd = 6) ∧ ∃ k, ks = [k]) ∨ (r.kd = 7 ∧ ∃ k l, ks = [k, l]) ∨ r.kd = 8 ∨ r.kd = 9
def isT (z : Int) : Bool := decide (0 ≤ z ∧ z ≤ 1000000000000)
def riseS (ss : List ByteArray) : Bool := decide (∀ i, i < ss.length → 0 < i → Lib.compareBytes (ss.getD (i - 1) ByteArray.empty).data.toList (ss.getD i ByteArray.empty).data.toList < 0)
def namesS (ss : List ByteArray) : Bool := decide (∀ i, i < ss.length → nameL (ss.getD i ByteArray.empty).data.toList = true)
def namesL (ss : List ByteArray) : Bool := namesS ss && decide (ss.length ≤ 10) && riseS ss
def choice (way : Int) (ss : List ByteArray) : Bool := if way = 0 then ss.isEmpty else decide (way = 1 ∨ way = 2) && namesL ss
def moment (r : Pl) : Bool := isT r.off && isT r.att && (r.fx || decide (r.att = 0))
def noName (ms : List Mt) : Bool := decide (∀ i, i < ms.length → (ms.getD i m0).1 ≠ ⟨#[95, 110, 97, 109, 101]⟩)
/-- The names of the functions, the aggregates and the other words. -/
def fnN : List ByteArray := [⟨#[97, 98, 115]⟩, ⟨#[97, 98, 115, 101, 110, 116]⟩, ⟨#[97, 118, 103, 95, 111, 118, 101, 114]⟩, ⟨#[99, 104, 97, 110, 103, 101, 115]⟩, ⟨#[99, 108, 97, 109, 112]⟩, ⟨#[99, 111, 117, 110, 116, 95, 111, 118, 101, 114]⟩, ⟨#[100, 101, 108, 116, 97]⟩, ⟨#[104, 105, 115, 116, 95, 113, 117, 97, 110, 116, 105, 108, 101]⟩, ⟨#[108, 97, 98, 101, 108, 95, 106, 111, 105, 110]⟩, ⟨#[108, 97, 98, 101, 108, 95, 115, 101, 116]⟩, ⟨#[108, 97, 115, 116, 95, 111, 118, 101, 114]⟩, ⟨#[109, 97, 120, 95, 111, 118, 101, 114]⟩, ⟨#[109, 105, 110, 95, 111, 118, 101, 114]⟩, ⟨#[112, 114, 101, 100, 105, 99, 116]⟩, ⟨#[113, 117, 97, 110, 116, 105, 108, 101, 95, 111, 118, 101, 114]⟩, ⟨#[114, 97, 116, 101]⟩, ⟨#[114, 101, 115, 101, 116, 115]⟩, ⟨#[114, 105, 115, 101]⟩, ⟨#[115, 99, 97, 108, 97, 114]⟩, ⟨#[115, 117, 109, 95, 111, 118, 101, 114]⟩, ⟨#[116, 105, 109, 101]⟩, ⟨#[116, 105, 109, 101, 115, 116, 97, 109, 112]⟩, ⟨#[118, 101, 99, 116, 111, 114]⟩]
def agN : List ByteArray := [⟨#[115, 117, 109]⟩, ⟨#[109, 105, 110]⟩, ⟨#[109, 97, 120]⟩, ⟨#[97, 118, 103]⟩, ⟨#[99, 111, 117, 110, 116]⟩, ⟨#[116, 111, 112, 107]⟩, ⟨#[98, 111, 116, 116, 111, 109, 107]⟩, ⟨#[113, 117, 97, 110, 116, 105, 108, 101]⟩]
def wdN : List ByteArray := [⟨#[97, 110, 100]⟩, ⟨#[98, 111, 111, 108]⟩, ⟨#[98, 121]⟩, ⟨#[103, 114, 111, 117, 112, 95, 108, 101, 102, 116]⟩, ⟨#[103, 114, 111, 117, 112, 95, 114, 105, 103, 104, 116]⟩, ⟨#[105, 103, 110, 111, 114, 105, 110, 103]⟩, ⟨#[111, 102, 102, 115, 101, 116]⟩, ⟨#[111, 110]⟩, ⟨#[111, 114]⟩, ⟨#[117, 110, 108, 101, 115, 115]⟩, ⟨#[119, 105, 116, 104, 111, 117, 116]⟩]
def sgN : List ByteArray := [⟨#[43]⟩, ⟨#[45]⟩, ⟨#[42]⟩, ⟨#[47]⟩, ⟨#[37]⟩, ⟨#[61, 61]⟩, ⟨#[33, 61]⟩, ⟨#[62]⟩, ⟨#[60]⟩, ⟨#[62, 61]⟩, ⟨#[60, 61]⟩, ⟨#[97, 110, 100]⟩, ⟨#[117, 110, 108, 101, 115, 115]⟩, ⟨#[111, 114]⟩]
def sg3 : List ByteArray := [⟨#[97, 110, 100]⟩, ⟨#[117, 110, 108, 101, 115, 115]⟩, ⟨#[111, 114]⟩]
def wd8 : List ByteArray := [⟨#[98, 111, 111, 108]⟩, ⟨#[98, 121]⟩, ⟨#[103, 114, 111, 117, 112, 95, 108, 101, 102, 116]⟩, ⟨#[103, 114, 111, 117, 112, 95, 114, 105, 103, 104, 116]⟩, ⟨#[105, 103, 110, 111, 114, 105, 110, 103]⟩, ⟨#[111, 102, 102, 115, 101, 116]⟩, ⟨#[111, 110]⟩, ⟨#[119, 105, 116, 104, 111, 117, 116]⟩]
/-- The program's and the model's notion of a word. -/
def wordI (s : ByteArray) : Bool := decide (s ∈ wd8) || (decide (s ∈ fnN) || (decide (s ∈ agN) || decide (s ∈ sgN)))
def wordM (s : ByteArray) : Bool := decide (s ∈ fnN) || (decide (s ∈ agN) || decide (s ∈ wdN))
def rSel (r : Pl) : Bool := (if r.tx.size = 0 then !r.ms.isEmpty else nameL r.tx.data.toList && !wordM r.tx) && noName r.ms && decide (r.ms.length < 10) && goodM r.ms && moment r
def rOp (r : Pl) : Bool := decide (1 ≤ r.op ∧ r.op ≤ 14) && choice r.byy r.ns && choice r.sd r.es && (!r.bo || decide (6 ≤ r.op ∧ r.op ≤ 11)) && (decide (r.sd = 0) || (!decide (r.byy = 0) && decide (r.op ≤ 11)))
def rAgg (r : Pl) : Bool := decide (1 ≤ r.op ∧ r.op ≤ 8) && choice r.byy r.ns && decide (r.kc = if 6 ≤ r.op then 2 else 1)
/-- What a node tells is as it is to be. -/
def right (r : Pl) : Bool :=
  if r.kd = 1 then decide (0 ≤ r.nu)
  else if r.kd = 2 then decide (r.tx.size ≤ 100) && printL r.tx.data.toList
  else if r.kd = 3 then rSel r
  else if r.kd = 4 then decide (1 ≤ r.nu ∧ r.nu ≤ 1000000000000)
  else if r.kd = 5 then decide (r.nu ≤ 1000000000000 ∧ 1 ≤ r.st ∧ r.st ≤ r.nu) && moment r
  else if r.kd = 6 then true
  else if r.kd = 7 then rOp r
  else if r.kd = 8 then rAgg r
  else if r.kd = 9 then decide (r.tx ∈ fnN) && decide (r.kc ≤ 10)
  else false
/-- How many kids the model asks for. -/
def kidsM (r : Pl) : Prop :=
  if r.kd = 1 ∨ r.kd = 2 ∨ r.kd = 3 then r.kc = 0 else if r.kd = 4 ∨ r.kd = 5 ∨ r.kd = 6 then r.kc = 1 else if r.kd = 7 then r.kc = 2 else if r.kd = 8 then True else if r.kd = 9 then 0 ≤ r.kc else False
def N1 : Nd := fun _ r ks => shape r ks ∧ told r
def N2 : Nd := fun d r _ => d < 12 ∧ right r = true
def NM : Nd := fun d r ks => d ≤ 12 ∧ told r ∧ right r = true ∧ kidsM r ∧ (r.kd = 4 → ∀ k ∈ ks, k.r.kd = 3)
theorem len2 {α : Type} {l : List α} : l.length = 2 ↔ ∃ a b, l = [a, b] := by
  constructor
  · intro h
    match l, h with
    | [a, b], _ => exact ⟨a, b, rfl⟩
  · rintro ⟨a, b, rfl⟩
    rfl
theorem shape_iff {r : Pl} {ks : List Tr} (hl : r.kc = ks.length) (hr : right r = true) : shape r ks ↔ (kidsM r ∧ (r.kd = 4 → ∀ k ∈ ks, k.r.kd = 3)) := by
  have hk : r.kd = 1 ∨ r.kd = 2 ∨ r.kd = 3 ∨ r.kd = 4 ∨ r.kd = 5 ∨ r.kd = 6 ∨ r.kd = 7 ∨ r.kd = 8 ∨ r.kd = 9 := by
    unfold right at hr
    by_cases h1 : r.kd = 1; · exact .inl h1
    by_cases h2 : r.kd = 2; · exact .inr (.inl h2)
    by_cases h3 : r.kd = 3; · exact .inr (.inr (.inl h3))
    by_cases h4 : r.kd = 4; · omega
    by_cases h5 : r.kd = 5; · omega
    by_cases h6 : r.kd = 6; · omega
    by_cases h7 : r.kd = 7; · omega
    by_cases h8 : r.kd = 8; · omega
    by_cases h9 : r.kd = 9; · omega
    rw [if_neg h1, if_neg h2, if_neg h3, if_neg h4, if_neg h5, if_neg h6, if_neg h7, if_neg h8, if_neg h9] at hr
    cases hr
  have z0 : (ks.length : Int) = 0 ↔ ks = [] := by rw [← List.length_eq_zero_iff]; omega
  have z1 : (ks.length : Int) = 1 ↔ ∃ k, ks = [k] := by rw [← List.length_eq_one_iff]; omega
  have z2 : (ks.length : Int) = 2 ↔ ∃ k l, ks = [k, l] := by rw [← len2]; omega
  unfold shape kidsM
  rw [hl]
  rcases hk with h | h | h | h | h | h | h | h | h
  · simp [h]
  · simp [h]
  · simp [h]
  · simp only [h, z1]
    simp
    constructor
    · rintro ⟨k, rfl, h3⟩
      exact ⟨⟨k, rfl⟩, fun k' hk' => by simp at hk'; rw [hk']; exact h3⟩
    · rintro ⟨⟨k, rfl⟩, h3⟩
      exact ⟨k, rfl, h3 k (by simp)⟩
  · simp [h, z1]
  · simp [h, z1]
  · simp [h, z2]
  · simp [h]
  · simp [h]
mutual
theorem gt_iff : ∀ (t : Tr) (d : Nat), Gt NM (d + 1) t ↔ Gt N1 d t ∧ Gt N2 d t
  | .nd r ks, d => by
    have ih := gtL_iff ks (d + 1)
    simp only [Gt]
    rw [ih]
    unfold NM N1 N2
    constructor
    · rintro ⟨h1, ⟨h2, h3, h4, h5, h6⟩, h7, h8⟩
      exact ⟨⟨h1, ⟨(shape_iff h1 h4).2 ⟨h5, h6⟩, h3⟩, h7⟩, h1, ⟨by omega, h4⟩, h8⟩
    · rintro ⟨⟨h1, ⟨h2, h3⟩, h4⟩, _, ⟨h5, h6⟩, h7⟩
      have h := (shape_iff h1 h6).1 h2
      exact ⟨h1, ⟨by omega, h3, h6, h.1, h.2⟩, h4, h7⟩
theorem gtL_iff : ∀ (ts : List Tr) (d : Nat), GtL NM (d + 1) ts ↔ GtL N1 d ts ∧ GtL N2 d ts
  | [], _ => by simp [GtL]
  | t :: ts, d => by
    have h1 := gt_iff t d
    have h2 := gtL_iff ts d
    simp only [GtL]
    rw [h1, h2]
    constructor
    · rintro ⟨⟨a, b⟩, c, e⟩; exact ⟨⟨a, c⟩, b, e⟩
    · rintro ⟨⟨a, c⟩, b, e⟩; exact ⟨⟨a, b⟩, c, e⟩
end
/-- A good question: all of its rows are one tree. -/
def GoodQ (ps : List Pl) : Prop := ps.length ≤ 60 ∧ ∃ t, ps = rows t ∧ Gt NM 1 t
theorem name_word {s : ByteArray} (h : nameL s.data.toList = true) : wordI s = wordM s := by
  have hs : decide (s ∈ sgN) = decide (s ∈ sg3) := by
    rw [Bool.eq_iff_iff, decide_eq_true_iff, decide_eq_true_iff]
    constructor
    · intro hm
      simp only [sgN, List.mem_cons, List.not_mem_nil, or_false] at hm
      rcases hm with rfl | rfl | rfl | rfl | rfl | rfl | rfl | rfl | rfl | rfl | rfl | rfl | rfl | rfl
      · exact absurd h (by decide)
      · exact absurd h (by decide)
      · exact absurd h (by decide)
      · exact absurd h (by decide)
      · exact absurd h (by decide)
      · exact absurd h (by decide)
      · exact absurd h (by decide)
      · exact absurd h (by decide)
      · exact absurd h (by decide)
      · exact absurd h (by decide)
      · exact absurd h (by decide)
      · simp [sg3]
      · simp [sg3]
      · simp [sg3]
    · intro hm
      simp only [sg3, sgN, List.mem_cons, List.not_mem_nil, or_false] at hm ⊢
      rcases hm with rfl | rfl | rfl <;> simp
  unfold wordI wordM
  rw [hs]
  have hw : decide (s ∈ wdN) = (decide (s ∈ wd8) || decide (s ∈ sg3)) := by
    rw [Bool.eq_iff_iff, Bool.or_eq_true, decide_eq_true_iff, decide_eq_true_iff, decide_eq_true_iff]
    simp only [wdN, wd8, sg3, List.mem_cons, List.not_mem_nil, or_false]
    constructor
    · intro hm
      rcases hm with rfl | rfl | rfl | rfl | rfl | rfl | rfl | rfl | rfl | rfl | rfl <;> simp
    · intro hm
      rcases hm with (rfl | rfl | rfl | rfl | rfl | rfl | rfl | rfl) | (rfl | rfl | rfl) <;> simp
  rw [hw]
  cases decide (s ∈ wd8) <;> cases decide (s ∈ fnN) <;> cases decide (s ∈ agN) <;> cases decide (s ∈ sg3) <;> rfl
end Go.Proofs.YtbdlahhejfamhaaGreatDoor.Qry
