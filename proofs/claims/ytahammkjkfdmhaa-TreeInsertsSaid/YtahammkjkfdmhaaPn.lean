/- Plain facts on sums and products: the reference's test of what leaves 64 bits is the code's. -/
import Derived.Test.YtahammkjkfdmhaaPl
namespace Go.Proofs.Ytahammkjkfdmhaa
set_option linter.unusedVariables false
set_option linter.unusedSimpArgs false
open Go.RowKit

/-- The reference's test: leaves a sum, difference or product 64 bits? -/
def lvs (d a b : Int) : Bool :=
  if d = 9 then (if 0 ≤ a then decide (b < 0) && decide (wrap64 (9223372036854775807 + b) < a) else decide (0 < b) && decide (a < wrap64 (-9223372036854775808 + b)))
  else if d = 8 then (if 0 < b then decide (wrap64 (9223372036854775807 - b) < a) else decide (a < wrap64 (-9223372036854775808 - b)))
  else if a = 0 then false else if b = 0 then false else if a = -1 then b == -9223372036854775808 else if b = -1 then a == -9223372036854775808
  else if 0 < a then (if 0 < b then decide ((9223372036854775807 : Int) / b < a) else decide (b < wrap64 ((-9223372036854775808 : Int).tdiv a)))
  else (if 0 < b then decide (a < wrap64 ((-9223372036854775808 : Int).tdiv b)) else decide (a < wrap64 ((9223372036854775807 : Int).tdiv b)))
def Rng (x : Int) : Prop := -9223372036854775808 ≤ x ∧ x ≤ 9223372036854775807
instance (x : Int) : Decidable (Rng x) := by unfold Rng; infer_instance
theorem rng_of {n : Int} (h : (Lit.int .i64 n).wf = true) : Rng n := by
  simp only [Lit.wf, Bool.and_eq_true, decide_eq_true_eq] at h
  exact ⟨by have := h.1; simp [IntKind.min, IntKind.signed, IntKind.bits] at this; omega, by have := h.2; simp [IntKind.max, IntKind.signed, IntKind.bits] at this; omega⟩
theorem wrap_rng (x : Int) : Rng (wrap64 x) := by unfold Rng wrap64; omega
theorem wrap_of {x : Int} (h : Rng x) : wrap64 x = x := by unfold Rng at h; unfold wrap64; omega
theorem wrap_eq (x : Int) : ∃ j : Int, wrap64 x = x + 18446744073709551616 * j ∧ (¬ Rng x → j ≠ 0) := by
  refine ⟨(wrap64 x - x) / 18446744073709551616, ?_, ?_⟩
  · unfold wrap64; omega
  · intro h; unfold Rng at h; unfold wrap64; omega

theorem cpt8 (a b : Int) (ha : Rng a) (hb : Rng b) : (cpt 8 a b).2 = decide (Rng (a + b)) ∧ lvs 8 a b = !decide (Rng (a + b)) := by
  unfold Rng at ha hb
  by_cases hr : Rng (a + b)
  all_goals
    have hr' := hr
    unfold Rng at hr'
    by_cases h : 0 < b
    · have e1 : wrap64 (9223372036854775807 - b) = 9223372036854775807 - b := by unfold wrap64; omega
      constructor
      · first
          | (have : a < wrap64 (a + b) := by (unfold wrap64; omega)
             simp [cpt, h, hr, this])
          | (have : ¬ a < wrap64 (a + b) := by (unfold wrap64; omega)
             simp [cpt, h, hr, this])
      · simp [lvs, h, hr, e1]; omega
    · have e1 : wrap64 (-9223372036854775808 - b) = -9223372036854775808 - b := by unfold wrap64; omega
      constructor
      · first
          | (have : a < wrap64 (a + b) := by (unfold wrap64; omega)
             simp [cpt, h, hr, this])
          | (have : ¬ a < wrap64 (a + b) := by (unfold wrap64; omega)
             simp [cpt, h, hr, this])
      · simp [lvs, h, hr, e1]; omega
theorem cpt9 (a b : Int) (ha : Rng a) (hb : Rng b) : (cpt 9 a b).2 = decide (Rng (a - b)) ∧ lvs 9 a b = !decide (Rng (a - b)) := by
  unfold Rng at ha hb
  by_cases hr : Rng (a - b)
  all_goals
    have hr' := hr
    unfold Rng at hr'
    constructor
    · by_cases h : 0 < b
      all_goals
        first
          | (have : wrap64 (a - b) < a := by (unfold wrap64; omega)
             simp [cpt, h, hr, this]
             done)
          | (have : ¬ wrap64 (a - b) < a := by (unfold wrap64; omega)
             simp [cpt, h, hr, this])
    · by_cases h : 0 ≤ a
      · by_cases g : b < 0
        · have e1 : wrap64 (9223372036854775807 + b) = 9223372036854775807 + b := by unfold wrap64; omega
          simp [lvs, h, g, hr, e1]; omega
        · simp [lvs, h, g, hr] <;> omega
      · by_cases g : 0 < b
        · have e1 : wrap64 (-9223372036854775808 + b) = -9223372036854775808 + b := by unfold wrap64; omega
          simp [lvs, h, g, hr, e1]; omega
        · simp [lvs, h, g, hr] <;> omega
theorem tms_fits (a b : Int) (ha : Rng a) (hb : Rng b) : (tms a b).2 = decide (Rng (a * b)) := by
  have ha' := ha
  have hb' := hb
  unfold Rng at ha' hb'
  unfold tms
  by_cases h0 : a = 0
  · subst h0; simp [Rng]
  by_cases h1 : a = -1
  · subst h1
    simp only [h0, if_false, if_true]
    rw [Bool.eq_iff_iff]
    simp [Rng]
    omega
  simp only [h0, h1, if_false]
  by_cases hr : Rng (a * b)
  · rw [wrap_of hr, Int.mul_tdiv_cancel_left _ h0, wrap_of hb]
    simp [hr]
  · simp only [hr, decide_false]
    rw [beq_eq_false_iff_ne]
    intro he
    obtain ⟨j, hj, hj0⟩ := wrap_eq (a * b)
    have hN := wrap_rng (a * b)
    generalize wrap64 (a * b) = N at *
    have hj1 := hj0 hr
    have e1 := Int.mul_tdiv_add_tmod N a
    have hq : Rng (N.tdiv a) := by
      have := Int.natAbs_tdiv_le_natAbs N a
      unfold Rng at hN ⊢
      by_cases hm : N = -9223372036854775808
      · subst hm
        have h2 : (Int.tdiv (-9223372036854775808) a).natAbs = 9223372036854775808 / a.natAbs := by rw [Int.natAbs_tdiv]; rfl
        have h3 : 1 ≤ a.natAbs := by omega
        by_cases ha1 : a = 1
        · subst ha1; simp
        · have h4 : 2 ≤ a.natAbs := by omega
          have h5 : 9223372036854775808 / a.natAbs ≤ 9223372036854775808 / 2 := Nat.div_le_div_left h4 (by omega)
          omega
      · omega
    rw [wrap_of hq] at he
    rw [he] at e1
    have e2 : (N.tmod a).natAbs < a.natAbs := by
      rw [Int.natAbs_tmod]
      exact Nat.mod_lt _ (by omega)
    generalize a * b = M at *
    generalize N.tmod a = r at *
    omega
theorem tms_lvs (a b : Int) (ha : Rng a) (hb : Rng b) : lvs 10 a b = !decide (Rng (a * b)) := by
  have ha' := ha
  have hb' := hb
  unfold Rng at ha' hb'
  simp only [lvs]
  by_cases h0 : a = 0
  · subst h0; simp [Rng]
  by_cases g0 : b = 0
  · subst g0; simp [Rng]
  by_cases h1 : a = -1
  · subst h1
    rw [Bool.eq_iff_iff]
    simp [Rng, g0]
    omega
  by_cases g1 : b = -1
  · subst g1
    rw [Bool.eq_iff_iff]
    simp [Rng, h0, h1]
    omega
  have hmin : ∀ c : Int, 0 < c → (-9223372036854775808 : Int).tdiv c = -(9223372036854775808 / c) := fun c hc => by
    rw [show (-9223372036854775808 : Int) = -(9223372036854775808) from rfl, Int.neg_tdiv, Int.tdiv_eq_ediv_of_nonneg (by omega)]
  have hw : ∀ c : Int, 0 < c → wrap64 (-(9223372036854775808 / c)) = -(9223372036854775808 / c) := fun c hc => by
    have h2 : (9223372036854775808 : Int) / c ≤ 9223372036854775808 := Int.ediv_le_self _ (by omega)
    have h3 : 0 ≤ (9223372036854775808 : Int) / c := Int.ediv_nonneg (by omega) (by omega)
    unfold wrap64
    omega
  simp only [h0, g0, h1, g1, if_false]
  by_cases p : 0 < a
  · by_cases q : 0 < b
    · have h2 := Int.ediv_lt_iff_lt_mul (a := 9223372036854775807) (b := a) q
      have h3 : 0 < a * b := Int.mul_pos p q
      simp only [p, q, if_true]
      generalize a * b = M at *
      generalize (9223372036854775807 : Int) / b = Q at *
      by_cases hr : Rng M
      all_goals
        have hr' := hr
        unfold Rng at hr'
        simp [hr]
        omega
    · have h2 := Int.ediv_lt_iff_lt_mul (a := 9223372036854775808) (b := -b) p
      have h3 : 0 < a * (-b) := Int.mul_pos p (by omega)
      have h4 : -b * a = -(a * b) := by rw [Int.neg_mul, Int.mul_comm]
      have h5 : a * (-b) = -(a * b) := by rw [Int.mul_neg]
      simp only [p, q, if_true, if_false]
      rw [hmin a p, hw a p]
      rw [h4] at h2
      rw [h5] at h3
      generalize a * b = M at *
      generalize (9223372036854775808 : Int) / a = Q at *
      by_cases hr : Rng M
      all_goals
        have hr' := hr
        unfold Rng at hr'
        simp [hr]
        omega
  · by_cases q : 0 < b
    · have h2 := Int.ediv_lt_iff_lt_mul (a := 9223372036854775808) (b := -a) q
      have h3 : 0 < (-a) * b := Int.mul_pos (by omega) q
      have h5 : (-a) * b = -(a * b) := by rw [Int.neg_mul]
      simp only [p, q, if_true, if_false]
      rw [hmin b q, hw b q]
      rw [h5] at h2 h3
      generalize a * b = M at *
      generalize (9223372036854775808 : Int) / b = Q at *
      by_cases hr : Rng M
      all_goals
        have hr' := hr
        unfold Rng at hr'
        simp [hr]
        omega
    · have qb : 0 < -b := by omega
      have h2 := Int.ediv_lt_iff_lt_mul (a := 9223372036854775807) (b := -a) qb
      have h3 : 0 < (-a) * (-b) := Int.mul_pos (by omega) qb
      have h5 : (-a) * (-b) = a * b := by rw [Int.neg_mul_neg]
      have h6 : (9223372036854775807 : Int).tdiv b = -(9223372036854775807 / (-b)) := by
        rw [← Int.tdiv_eq_ediv_of_nonneg (by omega), Int.tdiv_neg, Int.neg_neg]
      have h7 : wrap64 (-(9223372036854775807 / (-b))) = -(9223372036854775807 / (-b)) := by
        have h2 : (9223372036854775807 : Int) / (-b) ≤ 9223372036854775807 := Int.ediv_le_self _ (by omega)
        have h3 : 0 ≤ (9223372036854775807 : Int) / (-b) := Int.ediv_nonneg (by omega) (by omega)
        unfold wrap64
        omega
      simp only [p, q, if_false]
      rw [h6, h7]
      rw [h5] at h2 h3
      generalize a * b = M at *
      generalize (9223372036854775807 : Int) / (-b) = Q at *
      by_cases hr : Rng M
      all_goals
        have hr' := hr
        unfold Rng at hr'
        simp [hr]
        omega
end Go.Proofs.Ytahammkjkfdmhaa
