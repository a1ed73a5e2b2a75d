/- Plain facts: what Two makes of two numbers. -/
import Derived.Test.YtconigmpiggihabPm
import Derived.Test.YtconigmpiggihabPn
namespace Go.Proofs.Ytconigmpiggihab
set_option linter.unusedVariables false
set_option linter.unusedSimpArgs false
open Go.RowKit
theorem tms_val (a b : Int) (h : Rng (a * b)) : (tms a b).1 = a * b := by
  have w := wrap_of h
  unfold tms
  by_cases h0 : a = 0
  · subst h0; simp
  by_cases h1 : a = -1
  · subst h1
    have e : (-1 : Int) * b = -b := by omega
    rw [e] at w
    simp [w]
  simp [h0, h1, w]
theorem two_add (a b : Int) (ha : Rng a) (hb : Rng b) : two 8 ⟨2, a, ⟨#[]⟩⟩ ⟨2, b, ⟨#[]⟩⟩ = if Rng (a + b) then (⟨2, a + b, ⟨#[]⟩⟩, 0) else (⟨0, 0, ⟨#[]⟩⟩, 5) := by
  have r := (cpt8 a b ha hb).1
  have v : (cpt 8 a b).1 = wrap64 (a + b) := rfl
  by_cases h : Rng (a + b)
  · simp [two, reck, chk2, chk, nmb, known, unk, nul, e_list, e_size, r, h, v, wrap_of h]
  · simp [two, reck, chk2, chk, nmb, known, unk, nul, e_list, e_size, r, h]
theorem two_sub (a b : Int) (ha : Rng a) (hb : Rng b) : two 9 ⟨2, a, ⟨#[]⟩⟩ ⟨2, b, ⟨#[]⟩⟩ = if Rng (a - b) then (⟨2, a - b, ⟨#[]⟩⟩, 0) else (⟨0, 0, ⟨#[]⟩⟩, 5) := by
  have r := (cpt9 a b ha hb).1
  have v : (cpt 9 a b).1 = wrap64 (a - b) := rfl
  by_cases h : Rng (a - b)
  · simp [two, reck, chk2, chk, nmb, known, unk, nul, e_list, e_size, r, h, v, wrap_of h]
  · simp [two, reck, chk2, chk, nmb, known, unk, nul, e_list, e_size, r, h]
theorem two_mul (a b : Int) (ha : Rng a) (hb : Rng b) : two 10 ⟨2, a, ⟨#[]⟩⟩ ⟨2, b, ⟨#[]⟩⟩ = if Rng (a * b) then (⟨2, a * b, ⟨#[]⟩⟩, 0) else (⟨0, 0, ⟨#[]⟩⟩, 5) := by
  have e : cpt 10 a b = tms a b := by simp [cpt]
  have r := tms_fits a b ha hb
  by_cases h : Rng (a * b)
  · have v := tms_val a b h
    simp [two, reck, chk2, chk, nmb, known, unk, nul, e_list, e_size, e, r, h, v]
  · simp [two, reck, chk2, chk, nmb, known, unk, nul, e_list, e_size, e, r, h]
theorem rng_small {x : Int} (h0 : 0 ≤ x) (h1 : x ≤ 4611686018427387904) : Rng x := by unfold Rng; omega
end Go.Proofs.Ytconigmpiggihab
