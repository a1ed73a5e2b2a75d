/- Tokens, plainly: bytes, spans, marks, what a token may be. -/
import Derived.Lib.ReplaceLaws
import Derived.Lib.AtoiAll
import Derived.Lib.Itoa
namespace Go.Proofs.YtjnfhhmhbeobbaaDoor
set_option linter.unusedVariables false
set_option linter.unusedSimpArgs false
/-- A digit; a letter or '_'; what may stand in a word. -/
def dg (b : UInt8) : Bool := decide (48 ≤ b.toNat) && decide (b.toNat ≤ 57)
def wb (b : UInt8) : Bool := (decide (97 ≤ b.toNat) && decide (b.toNat ≤ 122)) || (decide (65 ≤ b.toNat) && decide (b.toNat ≤ 90)) || decide (b.toNat = 95)
def iw (b : UInt8) : Bool := wb b || dg b
def bk (b : UInt8) : Bool := decide (b.toNat = 32) || decide (b.toNat = 9) || decide (b.toNat = 10) || decide (b.toNat = 13)
theorem wb_dg {b : UInt8} (h : dg b = true) : wb b = false := by
  unfold dg at h
  unfold wb
  simp only [Bool.and_eq_true, decide_eq_true_eq] at h
  simp
  omega
/-- How many of them stand ahead. -/
def spn (p : UInt8 → Bool) (l : List UInt8) : Nat := (l.takeWhile p).length
theorem spn_le (p : UInt8 → Bool) : ∀ l, spn p l ≤ l.length
  | [] => by simp [spn]
  | a :: l => by
    have := spn_le p l
    simp only [spn, List.takeWhile_cons] at this ⊢
    split
    · simp at this ⊢; omega
    · simp
theorem spn_at (p : UInt8 → Bool) : ∀ (l : List UInt8) (k : Nat), (∀ j, j < k → p (l.getD j 0) = true) → k < l.length → p (l.getD k 0) = false → spn p l = k
  | [], k, _, hk, _ => by simp at hk
  | a :: l, 0, _, _, h => by
    have : p a = false := by simpa using h
    simp [spn, List.takeWhile_cons, this]
  | a :: l, k + 1, ha, hk, h => by
    have h0 : p a = true := by simpa using ha 0 (by omega)
    have ih := spn_at p l k (fun j hj => by simpa using ha (j + 1) (by omega)) (by simpa using hk) (by simpa using h)
    unfold spn at ih ⊢
    simp [List.takeWhile_cons, h0, ih]
theorem spn_all (p : UInt8 → Bool) : ∀ (l : List UInt8), (∀ j, j < l.length → p (l.getD j 0) = true) → spn p l = l.length
  | [], _ => rfl
  | a :: l, ha => by
    have h0 : p a = true := by simpa using ha 0 (by simp)
    have ih := spn_all p l (fun j hj => by simpa using ha (j + 1) (by simpa using hj))
    unfold spn at ih ⊢
    simp [List.takeWhile_cons, h0, ih]
theorem spn_in (p : UInt8 → Bool) : ∀ (l : List UInt8) (k : Nat), k < spn p l → p (l.getD k 0) = true
  | [], k, h => by simp [spn] at h
  | a :: l, k, h => by
    unfold spn at h
    rw [List.takeWhile_cons] at h
    split at h
    · rename_i h0
      cases k with
      | zero => simpa using h0
      | succ k => simpa using spn_in p l k (by unfold spn; simpa using h)
    · simp at h
theorem spn_out (p : UInt8 → Bool) : ∀ (l : List UInt8), spn p l < l.length → p (l.getD (spn p l) 0) = false
  | [], h => by simp at h
  | a :: l, h => by
    by_cases h0 : p a = true
    · have e : spn p (a :: l) = spn p l + 1 := by simp [spn, List.takeWhile_cons, h0]
      rw [e] at h ⊢
      simpa using spn_out p l (by simpa using h)
    · have e : spn p (a :: l) = 0 := by simp [spn, List.takeWhile_cons, h0]
      rw [e]
      simpa using h0
theorem spn_len (p : UInt8 → Bool) (l : List UInt8) : spn p l = l.length ↔ l.all p = true := by
  constructor
  · intro h
    rw [List.all_eq_true]
    intro x hx
    obtain ⟨k, hk, rfl⟩ := List.getElem_of_mem hx
    have := spn_in p l k (by omega)
    simpa [List.getD, hk] using this
  · intro h
    rw [List.all_eq_true] at h
    exact spn_all p l fun j hj => h _ (by simp [List.getD, hj])
/-- The marks, as the program has them. -/
def mkL : List (List UInt8) := [[60, 61], [62, 61], [60, 62], [40], [41], [44], [42], [43], [45], [61], [60], [62]]
def mkOf (l : List UInt8) : Nat := ((mkL.find? fun m => m.isPrefixOf l).map List.length).getD 0
/-- .. and as the document has them. -/
def m1 (c : UInt8) : Bool := 40 == c || 41 == c || 44 == c || 42 == c || 43 == c || 45 == c || 61 == c || 60 == c || 62 == c
def m2 (c d : UInt8) : Bool := (60 == c && (61 == d || 62 == d)) || (62 == c && 61 == d)
def mkR : List UInt8 → List UInt8
  | [] => []
  | [c] => if m1 c then [c] else []
  | c :: d :: _ => if m2 c d then [c, d] else if m1 c then [c] else []
theorem m1_of {c d : UInt8} (h : m2 c d = true) : m1 c = true := by
  unfold m2 at h
  unfold m1
  simp at h ⊢
  rcases h with ⟨h, _⟩ | ⟨h, _⟩ <;> simp [← h]
theorem mkOf_one (c : UInt8) : mkOf [c] = if m1 c then 1 else 0 := by
  unfold mkOf mkL m1
  simp only [List.find?, List.isPrefixOf, Bool.and_true, Bool.and_false]
  repeat' split
  all_goals simp_all
theorem mkOf_two (c d : UInt8) (r : List UInt8) : mkOf (c :: d :: r) = if m2 c d then 2 else if m1 c then 1 else 0 := by
  unfold mkOf mkL m1 m2
  simp only [List.find?, List.isPrefixOf, Bool.and_true, Bool.and_false]
  repeat' split
  all_goals (try simp_all)
  all_goals (rcases ‹_ ∧ (_ ∨ _) ∨ _ ∧ _› with ⟨h1, h2 | h2⟩ | ⟨h1, h2⟩ <;> simp_all)
theorem mkR_is : ∀ l, mkR l = l.take (mkOf l)
  | [] => by simp [mkR]
  | [c] => by
    rw [mkOf_one, mkR]
    split <;> simp
  | c :: d :: r => by
    rw [mkOf_two, mkR]
    split
    · simp
    · split <;> simp
theorem mkOf_le : ∀ l, mkOf l ≤ l.length
  | [] => by simp [mkOf, mkL, List.find?, List.isPrefixOf]
  | [c] => by rw [mkOf_one]; split <;> simp
  | c :: d :: r => by
    rw [mkOf_two]
    split
    · simp
    · split <;> simp
theorem mkOf_two_le : ∀ l, mkOf l ≤ 2
  | [] => by simp [mkOf, mkL, List.find?, List.isPrefixOf]
  | [c] => by rw [mkOf_one]; split <;> simp
  | c :: d :: r => by
    rw [mkOf_two]
    split
    · simp
    · split <;> simp
/-- May a token of its kind have its text? -/
def txt (k : Int) (l : List UInt8) : Bool :=
  if k = 1 then (!l.isEmpty && !dg (l.getD 0 0)) && l.all iw
  else if k = 2 then l.isEmpty
  else if k = 4 then !l.isEmpty && decide (mkOf l = l.length)
  else true
/-- What a token lacks. -/
def tkF (k : Int) (l : List UInt8) (n : Int) : Int :=
  if k < 1 ∨ 4 < k then 2 else if k = 2 ∧ n < 0 then 3 else if (k ≠ 2 ∧ n ≠ 0) ∨ txt k l = false then 6 else 0
end Go.Proofs.YtjnfhhmhbeobbaaDoor
