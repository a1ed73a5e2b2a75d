import Derived.Lib.ReplaceLaws
import Derived.Lib.AtoiAll
import Derived.Lib.Itoa
import Derived.Below
import Derived.IntWalk
import Derived.RowKit
import GoSem.Op.String
import Derived.Lib.Strings
/- Tokens, plainly: bytes, spans, marks, what a token may be. -/
namespace Go.Proofs.YtdeollmeljaaoaaDoor
set_option linter.unusedVariables false
set_option linter.unusedSimpArgs false
/-- A digit; a letter or '_'; what may stand in a word. -/
def dg (b : UInt8) : Bool := decide (48 ≤ b.toNat) && decide (b.toNat ≤ 57)
def wb (b : UInt8) : Bool := (decide (97 ≤ b.toNat) && decide (b.toNat ≤ 122)) || (decide (65 ≤ b.toNat) && decide (b.toNat ≤ 90)) || decide (b.toNat = 95)
def iw (b : UInt8) : Bool := wb b || dg b
/-- How many of them stand ahead. -/
def spn (p : UInt8 → Bool) (l : List UInt8) : Nat := (l.takeWhile p).length
theorem spn_le (p : UInt8 → Bool) : ∀ l, spn p l ≤ l.length
  | [] => by simp [spn]
  | a :: l => by
    have := spn_le p l
    simp only [spn, List.takeWhile_cons] at this ⊢
    split
    · simp at this ⊢; omega
    · simp
theorem spn_at (p : UInt8 → Bool) : ∀ (l : List UInt8) (k : Nat), (∀ j, j < k → p (l.getD j 0) = true) → k < l.length → p (l.getD k 0) = false → spn p l = k
  | [], k, _, hk, _ => by simp at hk
  | a :: l, 0, _, _, h => by
    have : p a = false := by simpa using h
    simp [spn, List.takeWhile_cons, this]
  | a :: l, k + 1, ha, hk, h => by
    have h0 : p a = true := by simpa using ha 0 (by omega)
    have ih := spn_at p l k (fun j hj => by simpa using ha (j + 1) (by omega)) (by simpa using hk) (by simpa using h)
    unfold spn at ih ⊢
    simp [List.takeWhile_cons, h0, ih]
theorem spn_all (p : UInt8 → Bool) : ∀ (l : List UInt8), (∀ j, j < l.length → p (l.getD j 0) = true) → spn p l = l.length
  | [], _ => rfl
  | a :: l, ha => by
    have h0 : p a = true := by simpa using ha 0 (by simp)
    have ih := spn_all p l (fun j hj => by simpa using ha (j + 1) (by simpa using hj))
    unfold spn at ih ⊢
    simp [List.takeWhile_cons, h0, ih]
theorem spn_in (p : UInt8 → Bool) : ∀ (l : List UInt8) (k : Nat), k < spn p l → p (l.getD k 0) = true
  | [], k, h => by simp [spn] at h
  | a :: l, k, h => by
    unfold spn at h
    rw [List.takeWhile_cons] at h
    split at h
    · rename_i h0
      cases k with
      | zero => simpa using h0
      | succ k => simpa using spn_in p l k (by unfold spn; simpa using h)
    · simp at h
theorem spn_len (p : UInt8 → Bool) (l : List UInt8) : spn p l = l.length ↔ l.all p = true := by
  constructor
  · intro h
    rw [List.all_eq_true]
    intro x hx
    obtain ⟨k, hk, rfl⟩ := List.getElem_of_mem hx
    have := spn_in p l k (by omega)
    simpa [List.getD, hk] using this
  · intro h
    rw [List.all_eq_true] at h
    exact spn_all p l fun j hj => h _ (by simp [List.getD, hj])
/-- The marks, as the program has them. -/
def mkL : List (List UInt8) := [[60, 61], [62, 61], [60, 62], [40], [41], [44], [42], [43], [45], [61], [60], [62]]
def mkOf (l : List UInt8) : Nat := ((mkL.find? fun m => m.isPrefixOf l).map List.length).getD 0
/-- .. and as the document has them. -/
def m1 (c : UInt8) : Bool := 40 == c || 41 == c || 44 == c || 42 == c || 43 == c || 45 == c || 61 == c || 60 == c || 62 == c
def m2 (c d : UInt8) : Bool := (60 == c && (61 == d || 62 == d)) || (62 == c && 61 == d)
theorem mkOf_one (c : UInt8) : mkOf [c] = if m1 c then 1 else 0 := by
  unfold mkOf mkL m1
  simp only [List.find?, List.isPrefixOf, Bool.and_true, Bool.and_false]
  repeat' split
  all_goals simp_all
theorem mkOf_two (c d : UInt8) (r : List UInt8) : mkOf (c :: d :: r) = if m2 c d then 2 else if m1 c then 1 else 0 := by
  unfold mkOf mkL m1 m2
  simp only [List.find?, List.isPrefixOf, Bool.and_true, Bool.and_false]
  repeat' split
  all_goals (try simp_all)
  all_goals (rcases ‹_ ∧ (_ ∨ _) ∨ _ ∧ _› with ⟨h1, h2 | h2⟩ | ⟨h1, h2⟩ <;> simp_all)
theorem mkOf_le : ∀ l, mkOf l ≤ l.length
  | [] => by simp [mkOf, mkL, List.find?, List.isPrefixOf]
  | [c] => by rw [mkOf_one]; split <;> simp
  | c :: d :: r => by
    rw [mkOf_two]
    split
    · simp
    · split <;> simp
/-- May a token of its kind have its text? -/
def txt (k : Int) (l : List UInt8) : Bool :=
  if k = 1 then (!l.isEmpty && !dg (l.getD 0 0)) && l.all iw
  else if k = 2 then l.isEmpty
  else if k = 4 then !l.isEmpty && decide (mkOf l = l.length)
  else true
/-- What a token lacks. -/
def tkF (k : Int) (l : List UInt8) (n : Int) : Int :=
  if k < 1 ∨ 4 < k then 2 else if k = 2 ∧ n < 0 then 3 else if (k ≠ 2 ∧ n ≠ 0) ∨ txt k l = false then 6 else 0
end Go.Proofs.YtdeollmeljaaoaaDoor
/- Names, plainly: the words that are kept; what a name lacks. -/
namespace Go.Proofs.YtdeollmeljaaoaaDoor
set_option linter.unusedVariables false
set_option linter.unusedSimpArgs false
/-- The words that are kept, as program and document have them. -/
def kpL : List (List UInt8) := [[67, 82, 69, 65, 84, 69], [84, 65, 66, 76, 69], [68, 82, 79, 80], [73, 78, 83, 69, 82, 84], [73, 78, 84, 79], [86, 65, 76, 85, 69, 83], [83, 69, 76, 69, 67, 84], [67, 79, 85, 78, 84], [70, 82, 79, 77], [87, 72, 69, 82, 69], [79, 82, 68, 69, 82], [66, 89], [68, 69, 83, 67], [76, 73, 77, 73, 84], [85, 80, 68, 65, 84, 69], [83, 69, 84], [68, 69, 76, 69, 84, 69], [66, 69, 71, 73, 78], [67, 79, 77, 77, 73, 84], [82, 79, 76, 76, 66, 65, 67, 75], [65, 78, 68], [79, 82], [78, 79, 84], [73, 83], [78, 85, 76, 76], [84, 82, 85, 69], [70, 65, 76, 83, 69], [73, 78, 84], [84, 69, 88, 84], [66, 79, 79, 76]]
/-- Is a word kept? -/
def kpB (l : List UInt8) : Bool := kpL.contains l
/-- What a name lacks. -/
def nmF (l : List UInt8) : Int := if 8 < l.length then 1 else if tkF 1 l 0 ≠ 0 ∨ kpB l = true then 6 else 0
theorem kp_hit {l : List UInt8} {k : Nat} (hk : k < 30) (h : l = kpL.getD k []) : kpB l = true := by
  unfold kpB
  rw [List.contains_iff_mem, h]
  have : k < kpL.length := hk
  rw [List.getD, List.getElem?_eq_getElem this]
  exact List.getElem_mem this
theorem kp_none {l : List UInt8} (h : ∀ k, k < 30 → l ≠ kpL.getD k []) : kpB l = false := by
  unfold kpB
  rw [Bool.eq_false_iff]
  intro hc
  rw [List.contains_iff_mem] at hc
  obtain ⟨k, hk, hx⟩ := List.getElem_of_mem hc
  refine h k hk ?_
  rw [List.getD, List.getElem?_eq_getElem hk]
  exact hx.symm
end Go.Proofs.YtdeollmeljaaoaaDoor
/- Plain functions on values: what value.Check, Compare, Two and One come to. No program in sight. -/
namespace Go.Proofs.YtdeollmeljaaoaaDoor
open Go.RowKit

/-- A value: its kind, its number, its text. -/
structure V where
  k : Int
  n : Int
  t : ByteArray

/-- May a value of kind k have the number n? -/
def nmb (k n : Int) : Bool := if k = 1 then (n == 0 || n == 1) else if k = 2 then true else n == 0
/-- What is wrong with a value. -/
def chk (k n : Int) (t : ByteArray) : Int :=
  if k < 0 then 2 else if 3 < k then 2
  else if (k ≠ 3 ∧ t.toList ≠ []) ∨ nmb k n = false then 6
  else if 20 < t.size then 1 else 0
def chk2 (a b : V) : Int := if chk a.k a.n a.t = 0 then chk b.k b.n b.t else chk a.k a.n a.t
/-- Which of two numbers is less. -/
def sgn (a b : Int) : Int := if a < b then -1 else if b < a then 1 else 0
/-- Which of two texts is less. -/
def sgs (a b : ByteArray) : Int := if Op.bytesLess a.toList b.toList then -1 else if a.toList = b.toList then 0 else 1
/-- The first of three numbers that is not 0. -/
def or3 (a b c : Int) : Int := if a ≠ 0 then a else if b ≠ 0 then b else c
/-- The order of two values. -/
def ord (a b : V) : Int := or3 (sgn a.k b.k) (sgn a.n b.n) (sgs a.t b.t)
/-- Null, and a truth. -/
def nul : V := ⟨0, 0, ⟨#[]⟩⟩
def tru (b : Bool) : V := ⟨1, if b then 1 else 0, ⟨#[]⟩⟩
def known (a b k : Int) : Bool := (a == k || a == 0) && (b == k || b == 0)
def unk (a b : Int) : Bool := a == 0 || b == 0
def join (a b : V) (d : Int) : V × Int :=
  if known a.k b.k 1 = false then (nul, 4) else if a.k = 1 ∧ a.n = d then (a, 0) else if b.k = 1 ∧ b.n = d then (b, 0) else if unk a.k b.k then (nul, 0) else (tru (d == 0), 0)
def hold (k : Int) (a b : V) : V × Int :=
  if unk a.k b.k then (nul, 0) else if a.k ≠ b.k then (nul, 4) else if k = 7 then (tru (decide (ord a b < 0)), 0) else (tru (ord a b == 0), 0)
def tms (a b : Int) : Int × Bool :=
  if a = 0 then (0, true) else if a = -1 then (wrap64 (-b), b != -9223372036854775808) else (wrap64 (a * b), wrap64 ((wrap64 (a * b)).tdiv a) == b)
def cpt (k a b : Int) : Int × Bool :=
  if k = 8 then (wrap64 (a + b), decide (a < wrap64 (a + b)) == decide (0 < b)) else if k = 9 then (wrap64 (a - b), decide (wrap64 (a - b) < a) == decide (0 < b)) else tms a b
def reck (k : Int) (a b : V) : V × Int :=
  if known a.k b.k 2 = false then (nul, 4) else if unk a.k b.k then (nul, 0) else if (cpt k a.n b.n).2 = false then (nul, 5) else (⟨2, (cpt k a.n b.n).1, ⟨#[]⟩⟩, 0)
/-- What Two answers. -/
def two (k : Int) (a b : V) : V × Int :=
  if chk2 a b ≠ 0 then (nul, chk2 a b) else if k = 3 then join a b 0 else if k = 4 then join a b 1 else if k = 6 then hold 6 a b else if k = 7 then hold 7 a b
  else if k = 8 then reck 8 a b else if k = 9 then reck 9 a b else if k = 10 then reck 10 a b else (nul, 2)
end Go.Proofs.YtdeollmeljaaoaaDoor
/- Plain facts on values: the reference's order is the code's. -/
namespace Go.Proofs.YtdeollmeljaaoaaDoor
set_option linter.unusedVariables false
set_option linter.unusedSimpArgs false
open Go.RowKit

theorem list_of (t : ByteArray) : t.toList = t.data.toList := Lib.toList_data t
theorem empty_of {t : ByteArray} (h : t.toList = []) : t = ⟨#[]⟩ := by
  rw [list_of] at h
  cases t
  simp_all
/-- A value that may be. -/
theorem chk0 {k n : Int} {t : ByteArray} (h : chk k n t = 0) : 0 ≤ k ∧ k ≤ 3 ∧ (k ≠ 3 → t = ⟨#[]⟩) ∧ (k = 0 → n = 0) ∧ (k = 1 → n = 0 ∨ n = 1) ∧ (k = 3 → n = 0) := by
  unfold chk at h
  by_cases h1 : k < 0
  · rw [if_pos h1] at h; omega
  rw [if_neg h1] at h
  by_cases h2 : 3 < k
  · rw [if_pos h2] at h; omega
  rw [if_neg h2] at h
  by_cases h3 : (k ≠ 3 ∧ t.toList ≠ []) ∨ nmb k n = false
  · rw [if_pos h3] at h; omega
  simp only [not_or, not_and, Decidable.not_not] at h3
  obtain ⟨h4, h5⟩ := h3
  refine ⟨by omega, by omega, fun hk => empty_of (h4 hk), ?_, ?_, ?_⟩ <;> (rintro rfl; simp [nmb] at h5; omega)
theorem e_list : (⟨#[]⟩ : ByteArray).toList = [] := by rw [list_of]
end Go.Proofs.YtdeollmeljaaoaaDoor
