/- There is room for so many locks, plainly. -/
import Derived.Test.YtoiaedjglhcidaaDoorMc
import Derived.KernelRfl
namespace Go.Proofs.YtoiaedjglhcidaaDoor
set_option linter.unusedVariables false
set_option linter.unusedSimpArgs false
/-- k transactions that read a thing of all. -/
def manyL (m : Int) (k : Nat) : List Lk := (List.range k).map fun (i : Nat) => (⟨(i : Int) + 1, ⟨#[97]⟩, m⟩ : Lk)
theorem many_len (m : Int) (k : Nat) : (manyL m k).length = k := by simp [manyL]
theorem many_succ (m : Int) (k : Nat) : manyL m (k + 1) = manyL m k ++ [⟨(k : Int) + 1, ⟨#[97]⟩, m⟩] := by simp [manyL, List.range_succ]
theorem many_mem {m : Int} {k : Nat} {x : Lk} (h : x ∈ manyL m k) : ∃ i : Nat, i < k ∧ x = ⟨(i : Int) + 1, ⟨#[97]⟩, m⟩ := by
  obtain ⟨i, hi, rfl⟩ := List.mem_map.1 h
  exact ⟨i, List.mem_range.1 hi, rfl⟩
theorem many_ok {k : Nat} (hk : k ≤ 200) : Okl (manyL 1 k) [] := by
  refine ⟨by simp [many_len]; omega, fun x hx => ?_, by simp, ?_, by simp, by simp, by simp⟩
  · obtain ⟨i, hi, rfl⟩ := many_mem hx
    exact frm_ok.2 ⟨⟨by show 1 ≤ (i : Int) + 1; omega, by show (i : Int) + 1 ≤ 1048576; omega⟩, by show (1 : Nat) ≤ 120; omega, by show (1 : Int) ≤ 1; omega, by show (1 : Int) ≤ 5; omega⟩
  · rw [List.pairwise_iff_getElem]
    intro i j hi hj hij
    simp only [manyL, List.getElem_map, List.getElem_range]
    constructor
    · unfold onB
      have : ((i : Int) + 1 == (j : Int) + 1) = false := by rw [beq_eq_false_iff_ne]; omega
      simp only [this, Bool.false_and]
    · unfold agB
      rw [show tog 1 1 = true by kernel_rfl]
      simp
theorem ne_ab : ((⟨#[97]⟩ : ByteArray).toList == (⟨#[98]⟩ : ByteArray).toList) = false := by kernel_rfl
/-- There is room for so many locks. -/
theorem full_is {k : Nat} (hk : k ≤ 200) : (askL (manyL 1 k) [] ⟨1000, ⟨#[98]⟩, 5⟩).2.2 = if k = 200 then (false, 10) else (true, 0) := by
  have h := many_ok hk
  have hon : ∀ z ∈ manyL 1 k, onB ⟨1000, ⟨#[98]⟩, 5⟩ z = false := fun z hz => by
    obtain ⟨i, hi, rfl⟩ := many_mem hz
    unfold onB
    simp only [ne_ab, Bool.and_false]
  have hag : (manyL 1 k).any (agB ⟨1000, ⟨#[98]⟩, 5⟩) = false := by
    rw [List.any_eq_false]
    intro z hz
    obtain ⟨i, hi, rfl⟩ := many_mem hz
    unfold agB
    simp only [ne_ab, Bool.and_false, Bool.false_and]
    simp
  have h0 : hmd (manyL 1 k) ⟨1000, ⟨#[98]⟩, 5⟩ = 0 := by rw [hmd_find, List.find?_eq_none.2 fun z hz => by simp [hon z hz]]
  have hup : upL (manyL 1 k) ⟨1000, ⟨#[98]⟩, 5⟩ = ⟨1000, ⟨#[98]⟩, 5⟩ := by
    unfold upL
    rw [h0]
    rfl
  have hidx : idx (onB ⟨1000, ⟨#[98]⟩, 5⟩) (manyL 1 k) < 0 := by
    have := idx_none (p := onB ⟨1000, ⟨#[98]⟩, 5⟩) (l := manyL 1 k) fun j hj => by rw [gd hj]; exact hon _ (List.getElem_mem hj)
    omega
  have hr : refL (manyL 1 k) [] ⟨1000, ⟨#[98]⟩, 5⟩ = 0 := by rw [refL_ok h (by rfl)]; rfl
  unfold askL
  rw [if_neg (by simp [hr]), hup, h0, if_neg (by show ¬ (5 : Int) = 0; omega)]
  rw [if_pos (by rw [wts_emp, hag, h0]; rfl)]
  unfold giveL
  rw [if_pos hidx]
  simp only [List.length_append, many_len, List.length_cons, List.length_nil]
  by_cases hk2 : k = 200
  · rw [if_pos (by omega), if_pos hk2]
  · rw [if_neg (by omega), if_neg hk2]
end Go.Proofs.YtoiaedjglhcidaaDoor
