import Derived.Deep.RegionWith
import Derived.Test.YtconigmpiggihaaR4
import Derived.Test.YtconigmpiggihaaPo
import Derived.Test.YtconigmpiggihaaPa
namespace Go.Proofs.Ytconigmpiggihaa
open Go.ChangeShapes Go.WideShapes Go.ChangeAt Go.RowKit
set_option linter.unusedVariables false
set_option linter.unusedSimpArgs false
set_option maxHeartbeats 1000000
set_option maxRecDepth 100000
theorem rt3x (k n k' n' : Int) (s s' : ByteArray) (w : World) (hc : chk2 ⟨k, n, s⟩ ⟨k', n', s'⟩ = 0) (h0 : ¬ k = 0) (h1 : ¬ k = 1) :
    Calls Try.prog 20 #[.int .i64 3, .agg #[.int .i64 k, .int .i64 n, .string s], .agg #[.int .i64 k', .int .i64 n', .string s']] w fun e w' => e = .returned (.tuple #[.agg #[.int .i64 (two 3 ⟨k, n, s⟩ ⟨k', n', s'⟩).1.k, .int .i64 (two 3 ⟨k, n, s⟩ ⟨k', n', s'⟩).1.n, .string (two 3 ⟨k, n, s⟩ ⟨k', n', s'⟩).1.t], .int .i64 (two 3 ⟨k, n, s⟩ ⟨k', n', s'⟩).2]) ∧ Below w.heap.size w w' := by
  go_enter Try.func20, Try.ntmps20
  go_wp2_with fail
  refine (both_any _ _ _ _ _ _ _).mono ?_
  rintro e w1 ⟨rfl, hb⟩
  obtain ⟨hz1, hB1, S_x, S_y, S_r⟩ := behind1c hb
  clear hb
  obtain ⟨u_x, x0, x1, x2, -⟩ := id S_x
  obtain ⟨u_y, y0, y1, y2, -⟩ := id S_y
  obtain ⟨u_r, r0, r1, r2, q0, q1, q2⟩ := id S_r
  clear S_x S_y
  go_wp2_with (go_at_call 27; refine (in_any _ _ _ _).mono ?_; rintro e we ⟨rfl, rfl⟩)
  all_goals (
    refine bodyPost_ret (by simp [results, Try.results20, go_sem, r0, r1, r2]; try rfl) rfl ?_
    refine ⟨rt ?_, by first | (go_grown; done) | (go_grown; exact belowN hB1 _)⟩
    simp_all [two, join, known, nul])
theorem rt3y (k n k' n' : Int) (s s' : ByteArray) (w : World) (hc : chk2 ⟨k, n, s⟩ ⟨k', n', s'⟩ = 0) (h0 : ¬ k' = 0) (h1 : ¬ k' = 1) :
    Calls Try.prog 20 #[.int .i64 3, .agg #[.int .i64 k, .int .i64 n, .string s], .agg #[.int .i64 k', .int .i64 n', .string s']] w fun e w' => e = .returned (.tuple #[.agg #[.int .i64 (two 3 ⟨k, n, s⟩ ⟨k', n', s'⟩).1.k, .int .i64 (two 3 ⟨k, n, s⟩ ⟨k', n', s'⟩).1.n, .string (two 3 ⟨k, n, s⟩ ⟨k', n', s'⟩).1.t], .int .i64 (two 3 ⟨k, n, s⟩ ⟨k', n', s'⟩).2]) ∧ Below w.heap.size w w' := by
  go_enter Try.func20, Try.ntmps20
  go_wp2_with fail
  refine (both_any _ _ _ _ _ _ _).mono ?_
  rintro e w1 ⟨rfl, hb⟩
  obtain ⟨hz1, hB1, S_x, S_y, S_r⟩ := behind1c hb
  clear hb
  obtain ⟨u_x, x0, x1, x2, -⟩ := id S_x
  obtain ⟨u_y, y0, y1, y2, -⟩ := id S_y
  obtain ⟨u_r, r0, r1, r2, q0, q1, q2⟩ := id S_r
  clear S_x S_y
  go_wp2_with (go_at_call 27; refine (in_any _ _ _ _).mono ?_; rintro e we ⟨rfl, rfl⟩)
  all_goals (
    refine bodyPost_ret (by simp [results, Try.results20, go_sem, r0, r1, r2]; try rfl) rfl ?_
    refine ⟨rt ?_, by first | (go_grown; done) | (go_grown; exact belowN hB1 _)⟩
    simp_all [two, join, known, nul])
theorem rt4x (k n k' n' : Int) (s s' : ByteArray) (w : World) (hc : chk2 ⟨k, n, s⟩ ⟨k', n', s'⟩ = 0) (h0 : ¬ k = 0) (h1 : ¬ k = 1) :
    Calls Try.prog 20 #[.int .i64 4, .agg #[.int .i64 k, .int .i64 n, .string s], .agg #[.int .i64 k', .int .i64 n', .string s']] w fun e w' => e = .returned (.tuple #[.agg #[.int .i64 (two 4 ⟨k, n, s⟩ ⟨k', n', s'⟩).1.k, .int .i64 (two 4 ⟨k, n, s⟩ ⟨k', n', s'⟩).1.n, .string (two 4 ⟨k, n, s⟩ ⟨k', n', s'⟩).1.t], .int .i64 (two 4 ⟨k, n, s⟩ ⟨k', n', s'⟩).2]) ∧ Below w.heap.size w w' := by
  go_enter Try.func20, Try.ntmps20
  go_wp2_with fail
  refine (both_any _ _ _ _ _ _ _).mono ?_
  rintro e w1 ⟨rfl, hb⟩
  obtain ⟨hz1, hB1, S_x, S_y, S_r⟩ := behind1c hb
  clear hb
  obtain ⟨u_x, x0, x1, x2, -⟩ := id S_x
  obtain ⟨u_y, y0, y1, y2, -⟩ := id S_y
  obtain ⟨u_r, r0, r1, r2, q0, q1, q2⟩ := id S_r
  clear S_x S_y
  go_wp2_with (go_at_call 27; refine (in_any _ _ _ _).mono ?_; rintro e we ⟨rfl, rfl⟩)
  all_goals (
    refine bodyPost_ret (by simp [results, Try.results20, go_sem, r0, r1, r2]; try rfl) rfl ?_
    refine ⟨rt ?_, by first | (go_grown; done) | (go_grown; exact belowN hB1 _)⟩
    simp_all [two, join, known, nul])
theorem rt4y (k n k' n' : Int) (s s' : ByteArray) (w : World) (hc : chk2 ⟨k, n, s⟩ ⟨k', n', s'⟩ = 0) (h0 : ¬ k' = 0) (h1 : ¬ k' = 1) :
    Calls Try.prog 20 #[.int .i64 4, .agg #[.int .i64 k, .int .i64 n, .string s], .agg #[.int .i64 k', .int .i64 n', .string s']] w fun e w' => e = .returned (.tuple #[.agg #[.int .i64 (two 4 ⟨k, n, s⟩ ⟨k', n', s'⟩).1.k, .int .i64 (two 4 ⟨k, n, s⟩ ⟨k', n', s'⟩).1.n, .string (two 4 ⟨k, n, s⟩ ⟨k', n', s'⟩).1.t], .int .i64 (two 4 ⟨k, n, s⟩ ⟨k', n', s'⟩).2]) ∧ Below w.heap.size w w' := by
  go_enter Try.func20, Try.ntmps20
  go_wp2_with fail
  refine (both_any _ _ _ _ _ _ _).mono ?_
  rintro e w1 ⟨rfl, hb⟩
  obtain ⟨hz1, hB1, S_x, S_y, S_r⟩ := behind1c hb
  clear hb
  obtain ⟨u_x, x0, x1, x2, -⟩ := id S_x
  obtain ⟨u_y, y0, y1, y2, -⟩ := id S_y
  obtain ⟨u_r, r0, r1, r2, q0, q1, q2⟩ := id S_r
  clear S_x S_y
  go_wp2_with (go_at_call 27; refine (in_any _ _ _ _).mono ?_; rintro e we ⟨rfl, rfl⟩)
  all_goals (
    refine bodyPost_ret (by simp [results, Try.results20, go_sem, r0, r1, r2]; try rfl) rfl ?_
    refine ⟨rt ?_, by first | (go_grown; done) | (go_grown; exact belowN hB1 _)⟩
    simp_all [two, join, known, nul])
end Go.Proofs.Ytconigmpiggihaa
