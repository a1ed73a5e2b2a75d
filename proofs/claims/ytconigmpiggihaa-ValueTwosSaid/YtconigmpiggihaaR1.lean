import Derived.Test.YtconigmpiggihaaW1
namespace Go.Proofs.Ytconigmpiggihaa
open Go.ChangeShapes Go.WideShapes Go.ChangeAt Go.RowKit
set_option linter.unusedVariables false
set_option linter.unusedSimpArgs false
set_option maxHeartbeats 400000
theorem in_any (a b c : Int) (w : World) :
    Calls Try.prog 27 #[.int .i64 a, .int .i64 b, .int .i64 c] w fun e w' => e = .returned (.bool (decide (b ≤ a) && decide (a ≤ c))) ∧ w = w' := by
  go_enter Try.func27, Try.ntmps27
  go_wp2
  all_goals (go_ret; refine ⟨rb ?_, rfl⟩; rw [Bool.eq_iff_iff]; simp; try omega)

theorem vf_any (k n : Int) (s : ByteArray) (w : World) :
    Calls Try.prog 16 #[.agg #[.int .i64 k, .int .i64 n, .string s]] w fun e w' => e = .returned (.int .i64 (chk k n s)) ∧ Below w.heap.size w w' := by
  have hk : k < 0 ∨ 3 < k ∨ k = 0 ∨ k = 1 ∨ k = 2 ∨ k = 3 := by omega
  rcases hk with hk | hk | rfl | rfl | rfl | rfl
  · go_enter Try.func16, Try.ntmps16
    go_wp2
    all_goals (go_ret; refine ⟨ri ?_, by go_grown⟩; simp_all [chk])
  · have hk' : 0 ≤ k := by omega
    have hd : decide (k ≤ 3) = false := by simp; omega
    go_enter Try.func16, Try.ntmps16
    go_wp2
    all_goals (go_ret; refine ⟨ri ?_, by go_grown⟩; simp_all [chk]; try omega)
  · by_cases ht : s.toList.isEmpty = true
    · by_cases hn : n = 0
      all_goals (
        go_enter Try.func16, Try.ntmps16
        go_wp2)
      all_goals (go_ret; refine ⟨ri ?_, by go_grown⟩; simp_all [chk, nmb]; try omega)
    · simp only [Bool.not_eq_true] at ht
      go_enter Try.func16, Try.ntmps16
      go_wp2
      all_goals (go_ret; refine ⟨ri ?_, by go_grown⟩; simp_all [chk, nmb]; try omega)
  · by_cases ht : s.toList.isEmpty = true
    · have hn : n < 0 ∨ 1 < n ∨ n = 0 ∨ n = 1 := by omega
      rcases hn with hn | hn | rfl | rfl
      · go_enter Try.func16, Try.ntmps16
        go_wp2
        all_goals (go_ret; refine ⟨ri ?_, by go_grown⟩; simp_all [chk, nmb]; try omega)
      · have hn' : 0 ≤ n := by omega
        have hd : decide (n ≤ 1) = false := by simp; omega
        go_enter Try.func16, Try.ntmps16
        go_wp2
        all_goals (go_ret; refine ⟨ri ?_, by go_grown⟩; simp_all [chk, nmb]; try omega)
      all_goals (
        go_enter Try.func16, Try.ntmps16
        go_wp2)
      all_goals (go_ret; refine ⟨ri ?_, by go_grown⟩; simp_all [chk, nmb]; try omega)
    · simp only [Bool.not_eq_true] at ht
      go_enter Try.func16, Try.ntmps16
      go_wp2
      all_goals (go_ret; refine ⟨ri ?_, by go_grown⟩; simp_all [chk, nmb]; try omega)
  · by_cases ht : s.toList.isEmpty = true
    · go_enter Try.func16, Try.ntmps16
      go_wp2
      all_goals (go_ret; refine ⟨ri ?_, by go_grown⟩; simp_all [chk, nmb]; try omega)
    · simp only [Bool.not_eq_true] at ht
      go_enter Try.func16, Try.ntmps16
      go_wp2
      all_goals (go_ret; refine ⟨ri ?_, by go_grown⟩; simp_all [chk, nmb]; try omega)
  · by_cases hn : n = 0
    all_goals (
        go_enter Try.func16, Try.ntmps16
        go_wp2)
    all_goals (go_ret; refine ⟨ri ?_, by go_grown⟩; simp_all [chk, nmb]; try omega)
theorem both_any (k n k' n' : Int) (s s' : ByteArray) (w : World) :
    Calls Try.prog 30 #[.agg #[.int .i64 k, .int .i64 n, .string s], .agg #[.int .i64 k', .int .i64 n', .string s']] w fun e w' => e = .returned (.int .i64 (chk2 ⟨k, n, s⟩ ⟨k', n', s'⟩)) ∧ Below w.heap.size w w' := by
  go_enter Try.func30, Try.ntmps30
  go_wp2_with fail
  refine (vf_any _ _ _ _).mono ?_
  rintro e w1 ⟨rfl, hb⟩
  have hz : w.heap.size + 2 ≤ w1.heap.size := by have := hb.size; simp at this; omega
  have hB : Below w.heap.size w w1 := into (by go_grown) hb
  obtain ⟨hc, hf⟩ := kept hb
  clear hb
  go_wp2_with fail
  · refine (vf_any _ _ _ _).mono ?_
    rintro e w2 ⟨rfl, hb⟩
    have hB2 : Below w.heap.size w w2 := into hB hb
    go_wp2_with fail
    go_ret
    refine ⟨ri ?_, hB2⟩
    simp_all [chk2]
  · go_ret
    refine ⟨ri ?_, hB⟩
    simp_all [chk2]
end Go.Proofs.Ytconigmpiggihaa
