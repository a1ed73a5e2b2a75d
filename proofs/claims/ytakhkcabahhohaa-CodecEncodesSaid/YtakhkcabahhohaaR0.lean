import Derived.Test.YtakhkcabahhohaaW1
namespace Go.Proofs.Ytakhkcabahhohaa
open Go.ChangeShapes Go.WideShapes Go.ChangeAt Go.RowKit
set_option linter.unusedVariables false
set_option linter.unusedSimpArgs false
set_option maxHeartbeats 400000
theorem in_any (a b c : Int) (w : World) :
    Calls Try.prog 21 #[.int .i64 a, .int .i64 b, .int .i64 c] w fun e w' => e = .returned (.bool (decide (b ≤ a) && decide (a ≤ c))) ∧ w = w' := by
  go_enter Try.func21, Try.ntmps21
  go_wp2
  all_goals (go_ret; refine ⟨rb ?_, rfl⟩; rw [Bool.eq_iff_iff]; simp; try omega)

theorem vf_any (k n : Int) (s : ByteArray) (w : World) :
    Calls Try.prog 14 #[.agg #[.int .i64 k, .int .i64 n, .string s]] w fun e w' => e = .returned (.int .i64 (chk k n s)) ∧ Below w.heap.size w w' := by
  have hk : k < 0 ∨ 3 < k ∨ k = 0 ∨ k = 1 ∨ k = 2 ∨ k = 3 := by omega
  rcases hk with hk | hk | rfl | rfl | rfl | rfl
  · go_enter Try.func14, Try.ntmps14
    go_wp2
    all_goals (go_ret; refine ⟨ri ?_, by go_grown⟩; simp_all [chk])
  · have hk' : 0 ≤ k := by omega
    have hd : decide (k ≤ 3) = false := by simp; omega
    go_enter Try.func14, Try.ntmps14
    go_wp2
    all_goals (go_ret; refine ⟨ri ?_, by go_grown⟩; simp_all [chk]; try omega)
  · by_cases ht : s.toList.isEmpty = true
    · by_cases hn : n = 0
      all_goals (
        go_enter Try.func14, Try.ntmps14
        go_wp2)
      all_goals (go_ret; refine ⟨ri ?_, by go_grown⟩; simp_all [chk, nmb]; try omega)
    · simp only [Bool.not_eq_true] at ht
      go_enter Try.func14, Try.ntmps14
      go_wp2
      all_goals (go_ret; refine ⟨ri ?_, by go_grown⟩; simp_all [chk, nmb]; try omega)
  · by_cases ht : s.toList.isEmpty = true
    · have hn : n < 0 ∨ 1 < n ∨ n = 0 ∨ n = 1 := by omega
      rcases hn with hn | hn | rfl | rfl
      · go_enter Try.func14, Try.ntmps14
        go_wp2
        all_goals (go_ret; refine ⟨ri ?_, by go_grown⟩; simp_all [chk, nmb]; try omega)
      · have hn' : 0 ≤ n := by omega
        have hd : decide (n ≤ 1) = false := by simp; omega
        go_enter Try.func14, Try.ntmps14
        go_wp2
        all_goals (go_ret; refine ⟨ri ?_, by go_grown⟩; simp_all [chk, nmb]; try omega)
      all_goals (
        go_enter Try.func14, Try.ntmps14
        go_wp2)
      all_goals (go_ret; refine ⟨ri ?_, by go_grown⟩; simp_all [chk, nmb]; try omega)
    · simp only [Bool.not_eq_true] at ht
      go_enter Try.func14, Try.ntmps14
      go_wp2
      all_goals (go_ret; refine ⟨ri ?_, by go_grown⟩; simp_all [chk, nmb]; try omega)
  · by_cases ht : s.toList.isEmpty = true
    · go_enter Try.func14, Try.ntmps14
      go_wp2
      all_goals (go_ret; refine ⟨ri ?_, by go_grown⟩; simp_all [chk, nmb]; try omega)
    · simp only [Bool.not_eq_true] at ht
      go_enter Try.func14, Try.ntmps14
      go_wp2
      all_goals (go_ret; refine ⟨ri ?_, by go_grown⟩; simp_all [chk, nmb]; try omega)
  · by_cases hn : n = 0
    all_goals (
        go_enter Try.func14, Try.ntmps14
        go_wp2)
    all_goals (go_ret; refine ⟨ri ?_, by go_grown⟩; simp_all [chk, nmb]; try omega)
end Go.Proofs.Ytakhkcabahhohaa
