/- Names, plainly: the words that are kept; what a name lacks. -/
import Derived.Test.YtjnfhhmhbeobbaaDoorSa
namespace Go.Proofs.YtjnfhhmhbeobbaaDoor
set_option linter.unusedVariables false
set_option linter.unusedSimpArgs false
/-- The words that are kept, as program and document have them. -/
def kpL : List (List UInt8) := [[67, 82, 69, 65, 84, 69], [84, 65, 66, 76, 69], [68, 82, 79, 80], [73, 78, 83, 69, 82, 84], [73, 78, 84, 79], [86, 65, 76, 85, 69, 83], [83, 69, 76, 69, 67, 84], [67, 79, 85, 78, 84], [70, 82, 79, 77], [87, 72, 69, 82, 69], [79, 82, 68, 69, 82], [66, 89], [68, 69, 83, 67], [76, 73, 77, 73, 84], [85, 80, 68, 65, 84, 69], [83, 69, 84], [68, 69, 76, 69, 84, 69], [66, 69, 71, 73, 78], [67, 79, 77, 77, 73, 84], [82, 79, 76, 76, 66, 65, 67, 75], [65, 78, 68], [79, 82], [78, 79, 84], [73, 83], [78, 85, 76, 76], [84, 82, 85, 69], [70, 65, 76, 83, 69], [73, 78, 84], [84, 69, 88, 84], [66, 79, 79, 76]]
theorem kp_len : kpL.length = 30 := rfl
theorem kp_short : ∀ k, k < 30 → (kpL.getD k []).length ≤ 8 := by decide
/-- Is a word kept? -/
def kpB (l : List UInt8) : Bool := kpL.contains l
/-- What a name lacks. -/
def nmF (l : List UInt8) : Int := if 8 < l.length then 1 else if tkF 1 l 0 ≠ 0 ∨ kpB l = true then 6 else 0
theorem kp_hit {l : List UInt8} {k : Nat} (hk : k < 30) (h : l = kpL.getD k []) : kpB l = true := by
  unfold kpB
  rw [List.contains_iff_mem, h]
  have : k < kpL.length := hk
  rw [List.getD, List.getElem?_eq_getElem this]
  exact List.getElem_mem this
theorem kp_none {l : List UInt8} (h : ∀ k, k < 30 → l ≠ kpL.getD k []) : kpB l = false := by
  unfold kpB
  rw [Bool.eq_false_iff]
  intro hc
  rw [List.contains_iff_mem] at hc
  obtain ⟨k, hk, hx⟩ := List.getElem_of_mem hc
  refine h k hk ?_
  rw [List.getD, List.getElem?_eq_getElem hk]
  exact hx.symm
end Go.Proofs.YtjnfhhmhbeobbaaDoor
