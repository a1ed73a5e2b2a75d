/- Many marks. -/
import Derived.Test.YtfoilmhpoipmpaaDoorVc
import Derived.Test.YtfoilmhpoipmpaaDoorKp
namespace Go.Proofs.YtfoilmhpoipmpaaDoor
open Go.ChangeShapes Go.WideShapes Go.ChangeAt Go.RowKit
set_option linter.unusedVariables false
set_option linter.unusedSimpArgs false
set_option maxHeartbeats 1000000
abbrev cm : Tk := ⟨4, [44], 0⟩
theorem tokT_comma (r : List UInt8) : tokT (44 :: r) = .tok cm 1 := by
  have hk : mkOf (44 :: r) = 1 := by
    cases r with
    | nil => decide
    | cons d r => rw [mkOf_two]; simp [m2, m1]
  unfold tokT
  have e : (44 :: r).getD 0 0 = (44 : UInt8) := rfl
  rw [e, if_neg (by decide), if_neg (by decide), if_neg (by decide), hk]
  rfl
theorem commas_at {k i : Nat} (h : i < k) : (List.replicate k (44 : UInt8)).drop i = 44 :: List.replicate (k - i - 1) 44 ∧ (List.replicate k (44 : UInt8)).getD i 0 = 44 := by
  refine ⟨?_, by simp [List.getD, List.getElem?_replicate, h]⟩
  rw [List.drop_replicate, show k - i = (k - i - 1) + 1 by omega, List.replicate_succ]
  simp
theorem cut_commas (k : Nat) : ∀ (m i : Nat), m + i = min k 100 → cutW (List.replicate k 44) i (List.replicate i cm) = cutW (List.replicate k 44) (min k 100) (List.replicate (min k 100) cm)
  | 0, i, h => by rw [← h, Nat.zero_add]
  | m + 1, i, h => by
    obtain ⟨h1, h2⟩ := commas_at (k := k) (i := i) (by omega)
    rw [cutW_tok (x := cm) (n := 1) (by simp; omega) (by rw [h2]; decide) (by simp; omega) (by rw [h1]; exact tokT_comma _)]
    have := cut_commas k m (i + 1) (by omega)
    rw [List.replicate_succ'] at this
    exact this
theorem cut_many (k : Nat) (hk : k ≤ 400) : cutL (List.replicate k 44) = if 100 < k then ⟨[], 100, 10⟩ else ⟨List.replicate k cm, 0, 0⟩ := by
  unfold cutL
  rw [if_neg (by simp; omega)]
  have h := cut_commas k (min k 100) 0 (by omega)
  rw [List.replicate_zero] at h
  rw [h]
  by_cases h1 : 100 < k
  · rw [if_pos h1, show min k 100 = 100 by omega]
    obtain ⟨_, h2⟩ := commas_at (k := k) (i := 100) (by omega)
    exact cutW_full (by simp; omega) (by rw [h2]; decide) (by simp)
  · rw [if_neg h1, show min k 100 = k by omega, cutW_end (by simp)]
theorem ok_many (k : Nat) : Ok (List.replicate k cm) ∧ Sm (List.replicate k cm) := by
  constructor
  · intro x hx
    obtain ⟨_, rfl⟩ := List.mem_replicate.1 hx
    exact ⟨by decide, by show (0 : Int) ≤ _; omega⟩
  · intro x hx
    obtain ⟨_, rfl⟩ := List.mem_replicate.1 hx
    exact ⟨by decide, by show (-9223372036854775808 : Int) ≤ 0; omega, by show (0 : Int) ≤ _; omega⟩
theorem joined_many : ∀ k : Nat, (joined (List.replicate k cm)).length = 2 * k
  | 0 => rfl
  | k + 1 => by
    have := joined_many k
    have e : spellT cm = [44] := by unfold spellT; simp
    rw [List.replicate_succ, joined, e]
    simp
    omega
theorem joinL_many (k : Nat) : joinL (List.replicate k cm) = if 100 < k then ([], 10) else (joined (List.replicate k cm), 0) := by
  by_cases h : 100 < k
  · rw [if_pos h]
    unfold joinL
    rw [if_pos (by simpa using h)]
  · rw [if_neg h]
    exact joinL_is (ok_many k).1 (by simp; omega) (by rw [joined_many]; omega)
theorem zeros401 (w : World) : Rd (w.alloc (.cells (madeCells #[.int .u8 0] 401) 5)) 1 401 (.slice (some ⟨w.heap.size, 0, none⟩) 401 401) (bc (List.replicate 401 0)) := by
  refine ⟨by rw [bc_length, List.length_replicate], _, 401, rfl, Nat.le_refl _, by unfold maxLen; omega, (fun h => by cases h), fun ad had j u hu => ?_⟩
  obtain rfl := Option.some.inj had
  have e : (madeCells #[.int .u8 0] 401) = (bc (List.replicate 401 0)).toArray := by kernel_rfl
  rw [e]
  exact new_cells w _ _ j u hu
end Go.Proofs.YtfoilmhpoipmpaaDoor
