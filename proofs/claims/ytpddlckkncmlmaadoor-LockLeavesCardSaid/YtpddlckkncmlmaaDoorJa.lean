/- Locks in plain words: modes that go together, and what two of them are joined. No program in sight. -/
import Derived.Test.YtpddlckkncmlmaaDoorRows
namespace Go.Proofs.YtpddlckkncmlmaaDoor
set_option linter.unusedVariables false
set_option linter.unusedSimpArgs false
/-- A lock: whose, on what, how. -/
structure Lk where
  t : Int
  th : ByteArray
  m : Int
/-- The program's two tables, row behind row. -/
def togL : List Bool := [false, false, false, false, false, false, false, true, true, true, true, false, false, true, true, false, false, false, false, true, false, true, false, false, false, true, false, false, false, false, false, false, false, false, false, false]
def joiL : List Int := [0, 1, 2, 3, 4, 5, 0, 1, 2, 3, 4, 5, 0, 2, 2, 4, 4, 5, 0, 3, 4, 3, 4, 5, 0, 4, 4, 4, 4, 5, 0, 5, 5, 5, 5, 5]
def tog (a b : Int) : Bool := togL.getD (a.toNat * 6 + b.toNat) false
def joi (a b : Int) : Int := joiL.getD (a.toNat * 6 + b.toNat) 0
def isM (m : Int) : Bool := decide (1 ≤ m) && decide (m ≤ 5)
theorem isM_iff {m : Int} : isM m = true ↔ 1 ≤ m ∧ m ≤ 5 := by simp [isM]
theorem five {m : Int} (h : 1 ≤ m ∧ m ≤ 5) : m = 1 ∨ m = 2 ∨ m = 3 ∨ m = 4 ∨ m = 5 := by omega
/-- What the document's answer knows of a mode: 1 reads some, 2 writes some, 4 reads all, 8 writes all. -/
def doesI (m : Int) : Int := if m = 1 then 1 else if m = 2 then 3 else if m = 3 then 5 else if m = 4 then 7 else 15
def hasI (m w : Int) : Bool := decide (doesI m / w % 2 = 1)
def fitI (a b : Int) : Bool := if (hasI a 8 || hasI b 8) = true then false else !(hasI a 4 && hasI b 2) && !(hasI b 4 && hasI a 2)
def oneI (a b m w : Int) : Bool := !(hasI a w || hasI b w) || hasI m w
def allI (a b m : Int) : Bool := oneI a b m 1 && oneI a b m 2 && oneI a b m 4 && oneI a b m 8
def firI (a b : Int) : Int := if allI a b 1 then 1 else if allI a b 2 then 2 else if allI a b 3 then 3 else if allI a b 4 then 4 else if allI a b 5 then 5 else 0
theorem tog_is {a b : Int} (ha : 1 ≤ a ∧ a ≤ 5) (hb : 1 ≤ b ∧ b ≤ 5) : tog a b = fitI a b := by
  rcases five ha with rfl | rfl | rfl | rfl | rfl <;> rcases five hb with rfl | rfl | rfl | rfl | rfl <;> rfl
theorem joi_is {a b : Int} (ha : 1 ≤ a ∧ a ≤ 5) (hb : 1 ≤ b ∧ b ≤ 5) : joi a b = firI a b := by
  rcases five ha with rfl | rfl | rfl | rfl | rfl <;> rcases five hb with rfl | rfl | rfl | rfl | rfl <;> rfl
theorem joi_in {a b : Int} (ha : 1 ≤ a ∧ a ≤ 5) (hb : 1 ≤ b ∧ b ≤ 5) : 1 ≤ joi a b ∧ joi a b ≤ 5 := by
  rcases five ha with rfl | rfl | rfl | rfl | rfl <;> rcases five hb with rfl | rfl | rfl | rfl | rfl <;> decide
theorem tog_comm {a b : Int} (ha : 1 ≤ a ∧ a ≤ 5) (hb : 1 ≤ b ∧ b ≤ 5) : tog a b = tog b a := by
  rcases five ha with rfl | rfl | rfl | rfl | rfl <;> rcases five hb with rfl | rfl | rfl | rfl | rfl <;> rfl
theorem tog_x {a : Int} (ha : 1 ≤ a ∧ a ≤ 5) : tog a 5 = false := by rcases five ha with rfl | rfl | rfl | rfl | rfl <;> rfl
theorem tog_is1 {a : Int} (ha : 1 ≤ a ∧ a ≤ 5) : tog 1 a = !decide (a = 5) := by rcases five ha with rfl | rfl | rfl | rfl | rfl <;> rfl
theorem joi_comm {a b : Int} (ha : 1 ≤ a ∧ a ≤ 5) (hb : 1 ≤ b ∧ b ≤ 5) : joi a b = joi b a := by
  rcases five ha with rfl | rfl | rfl | rfl | rfl <;> rcases five hb with rfl | rfl | rfl | rfl | rfl <;> rfl
theorem joi_same {a : Int} (ha : 1 ≤ a ∧ a ≤ 5) : joi a a = a := by rcases five ha with rfl | rfl | rfl | rfl | rfl <;> rfl
theorem joi_three {a b c : Int} (ha : 1 ≤ a ∧ a ≤ 5) (hb : 1 ≤ b ∧ b ≤ 5) (hc : 1 ≤ c ∧ c ≤ 5) : joi (joi a b) c = joi a (joi b c) := by
  rcases five ha with rfl | rfl | rfl | rfl | rfl <;> rcases five hb with rfl | rfl | rfl | rfl | rfl <;> rcases five hc with rfl | rfl | rfl | rfl | rfl <;> rfl
theorem tog_joi {a b c : Int} (ha : 1 ≤ a ∧ a ≤ 5) (hb : 1 ≤ b ∧ b ≤ 5) (hc : 1 ≤ c ∧ c ≤ 5) : tog (joi a b) c = (tog a c && tog b c) := by
  rcases five ha with rfl | rfl | rfl | rfl | rfl <;> rcases five hb with rfl | rfl | rfl | rfl | rfl <;> rcases five hc with rfl | rfl | rfl | rfl | rfl <;> rfl
end Go.Proofs.YtpddlckkncmlmaaDoor
